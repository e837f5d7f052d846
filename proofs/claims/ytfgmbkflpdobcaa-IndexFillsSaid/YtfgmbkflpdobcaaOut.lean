/- takeOut: an entry's number becomes a free one. -/
import Derived.Test.YtfgmbkflpdobcaaUnchain
namespace Go.Proofs.Ytfgmbkflpdobcaa
open Go.RowKit
attribute [local go_sem] Oper.semAt_some
set_option linter.unusedVariables false
set_option linter.unusedSimpArgs false
theorem upd_swap {c : Nat → Int} {i j : Nat} {u v : Int} (h : i ≠ j) : upd (upd c i u) j v = upd (upd c j v) i u := by
  funext k
  unfold upd
  by_cases e : k = j
  · subst e
    simp [h.symm]
  · simp [e]
set_option maxRecDepth 100000 in
set_option maxHeartbeats 2000000 in
theorem take_out {w : World} {x : Nat} {c : Nat → Int} {slots : Nat} {L fr pre post : List Nat} {k f g p b d : Nat} (h : IxM w x c) (hr : RepX c slots L fr) (ho : OutAt c L pre post k g p b d) :
    Calls Try.prog 34 #[.pointer (some ⟨x, 0, none⟩), .int .i64 k] w fun e w' => e = .returned (.tuple #[]) ∧ IxM w' x (outC c k p b d) ∧ Kept (· ≠ x) w w' := by
  have hkL : k ∈ L := by rw [ho.eL]; simp
  obtain ⟨hk1, hk2⟩ := hr.memL hkL
  have hgk : c (2 + k) % 1024 = (g : Int) := by simpa [inG] using ho.eg
  obtain ⟨f0, f1⟩ := hr.fin k hkL
  obtain ⟨f, hf⟩ : ∃ f : Nat, c (2 + k) = f := ⟨(c (2 + k)).toNat, by omega⟩
  have hg' : g < 1024 := by omega
  have hch := hr.ch g hg'
  rw [ho.eL, filter_rev_split ho.eg] at hch
  have hnd : (((post.filter (inG c g)).reverse) ++ k :: (pre.filter (inG c g)).reverse).Nodup := by
    have h2 := (List.reverse_perm _).nodup_iff.2 (List.Pairwise.filter (inG c g) hr.ndL)
    rw [ho.eL, filter_rev_split ho.eg] at h2
    exact h2
  have hU := unchain_ix h k f g _ _ hk2 hf (by omega) hch hnd
  rw [← ho.ep] at hU
  have hpr : 4102 < p ∧ p < 6151 ∧ p ≠ 4102 + k := by
    rw [ho.ep]
    rcases endC_mem 4102 (5127 + g) ((post.filter (inG c g)).reverse) with e | ⟨j, hj, e⟩
    · omega
    · have hjp := (List.mem_filter.1 (List.mem_reverse.1 hj)).1
      have hjL : j ∈ L := by rw [ho.eL]; simp [hjp]
      have := hr.memL hjL
      have : j ≠ k := by
        rintro rfl
        have := hr.ndL
        rw [ho.eL, List.nodup_append] at this
        exact (List.nodup_cons.1 this.2.1).1 hjp
      omega
  have hb : b < 1025 := by
    rcases ho.b2 with e | hm
    · omega
    · exact (hr.memL (by rw [ho.eL]; simp [hm])).2
  have hd : d < 1025 := by
    rcases ho.d2 with e | hm
    · omega
    · exact (hr.memL (by rw [ho.eL]; simp [hm])).2
  have HL := Lib.hid (fun (W : World) (hX : IxM W x (upd c p (c (4102 + k)))) => unline_ix hX k b d hk2 hb hd (by rw [upd_far _ _ (by omega)]; exact ho.eb) (by rw [upd_far _ _ (by omega)]; exact ho.ed))
  have HU := Lib.hid hU
  have hn := hr.n
  have hall := hr.all
  have htop := hr.top
  have hc1 : outC c k p b d 1 = c 1 - 1 := by simp (disch := omega) only [outC, upd_same, upd_far]
  have HC1 := Lib.hid (show (upd (upd (upd (upd (upd (upd (upd (upd (upd c p (c (4102 + k))) (6152 + b) d) (7177 + d) b) (2 + k) 0) (1027 + k * 3) 0) (1027 + k * 3 + 1) 0) (1027 + k * 3 + 2) 0) (4102 + k) ((upd (upd (upd (upd (upd (upd (upd c p (c (4102 + k))) (6152 + b) d) (7177 + d) b) (2 + k) 0) (1027 + k * 3) 0) (1027 + k * 3 + 1) 0) (1027 + k * 3 + 2) 0) 6151)) 6151 k) 1 = (L.length : Int) by
    rw [← hn]; simp (disch := omega) only [upd_same, upd_far])
  have hl : L.length ≤ 1024 := by omega
  have hl0 : 0 < L.length := List.length_pos_of_mem hkL
  clear h hr ho hgk f0 f1 hf hch hnd hU hn hall htop hc1
  go_enter Try.func34, Try.ntmps34
  go_wp2_with fail
  refine HU.out.mono ?_
  rintro e w1 ⟨rfl, hx1, hk1'⟩
  have hL := HL.out _ hx1
  have HK1 := Lib.hid hk1'
  clear hx1 hk1'
  go_wp2_with fail
  refine hL.mono ?_
  rintro e w2 ⟨rfl, hx2, hk2'⟩
  have HK2 := Lib.hid (HK1.out.trans hk2' (fun b h => h))
  have HX2 := Lib.hid hx2
  have a0 := hx2.fing hk2
  have a1 := hx2.adr0 hk2
  have a2 := hx2.adr1 hk2
  have a3 := hx2.adr2 hk2
  have b0 := hx2.frozen (2 + k)
  have b1 := hx2.frozen (1027 + k * 3)
  have b2 := hx2.frozen (1027 + k * 3 + 1)
  have b3 := hx2.frozen (1027 + k * 3 + 2)
  clear hL hx2 hk2'
  go_wp2_with fail
  go_region
  go_wp2_with fail
  have hx3 := ((((HX2.out.set (kind_fing hk2) 0).set (kind_adr0 hk2) 0).set (kind_adr1 hk2) 0).set (kind_adr2 hk2) 0).drew
  have HK3 := Lib.hid (show Kept (· ≠ x) w ((((w2.setCell ⟨x, 2 + k, none⟩ (.int .u32 0)).setCell ⟨x, 1027 + k * 3, none⟩ (.int .i64 0)).setCell ⟨x, 1027 + k * 3 + 1, none⟩ (.int .u64 0)).setCell ⟨x, 1027 + k * 3 + 2, none⟩ (.int .i64 0)).drew from
    ((((HK2.out.setCell (by simp) _).setCell (by simp) _).setCell (by simp) _).setCell (by simp) _).drew)
  generalize ((((w2.setCell ⟨x, 2 + k, none⟩ (.int .u32 0)).setCell ⟨x, 1027 + k * 3, none⟩ (.int .i64 0)).setCell ⟨x, 1027 + k * 3 + 1, none⟩ (.int .u64 0)).setCell ⟨x, 1027 + k * 3 + 2, none⟩ (.int .i64 0)).drew = w3 at *
  refine (give_back hx3 k hk2).mono ?_
  rintro e w4 ⟨rfl, hx4, hk4⟩
  clear hx3 a0 a1 a2 a3 b0 b1 b2 b3
  have HK4 := Lib.hid (HK3.out.trans hk4 (fun b h => h))
  have c4 := hx4.lo (i := 1) (by omega)
  rw [HC1.out] at c4
  have f4 := hx4.frozen 1
  have HX4 := Lib.hid hx4
  clear hx4 hk4
  go_wp2_with fail
  (first | go_ret | go_ret2 | go_end0)
  refine ⟨rfl, ?_, HK4.out.setCell (by simp) _⟩
  have hx5 := HX4.out.set (i := 1) (k := .i64) rfl ((L.length : Int) - 1)
  show IxM _ x (upd _ 1 (_ - 1))
  rw [HC1.out]
  exact hx5
end Go.Proofs.Ytfgmbkflpdobcaa
