/- Remove, Find: an index as its entries in order. -/
import Derived.Test.YtfgmbkflpdobcaaAdd
import Derived.Test.YtfgmbkflpdobcaaFind
namespace Go.Proofs.Ytfgmbkflpdobcaa
open Go.RowKit
attribute [local go_sem] Oper.semAt_some
set_option linter.unusedVariables false
set_option linter.unusedSimpArgs false

def remE (es : List Ent) (e : Ent) : List Ent × Int := if e ∈ es then (es.filter (· ≠ e), 0) else (es, 4)
/-- What is left behind taking one number out. -/
theorem out_ents {c : Nat → Int} {slots : Nat} {L fr pre post : List Nat} {k g p b d : Nat} (hr : RepX c slots L fr) (ho : OutAt c L pre post k g p b d) :
    (pre ++ post).map (entC (outC c k p b d)) = (L.map (entC c)).filter (· ≠ entC c k) := by
  have h := (outC_rep hr ho).2
  rw [List.map_congr_left (fun j hj => (h j hj).1)]
  have ho1 := ho.eL
  have hone := hr.one
  rw [ho1] at hone ⊢
  rw [List.map_append, List.map_cons] at hone
  rw [List.map_append, List.map_append, List.map_cons]
  rw [List.nodup_append] at hone
  obtain ⟨n1, n2, n3⟩ := hone
  have n4 := (List.nodup_cons.1 n2).1
  rw [List.filter_append, List.filter_cons_of_neg (by simp)]
  congr 1
  · refine (List.filter_eq_self.2 fun e he => ?_).symm
    have := n3 e he (entC c k) (List.mem_cons_self ..)
    simpa using this
  · refine (List.filter_eq_self.2 fun e he => ?_).symm
    have : e ≠ entC c k := fun h => n4 (h ▸ he)
    simpa using this
theorem outAt_any {c : Nat → Int} {slots : Nat} {L fr : List Nat} {k : Nat} (h : RepX c slots L fr) (hk : k ∈ L) : ∃ pre post g p b d, OutAt c L pre post k g p b d := by
  obtain ⟨h1, h2⟩ := h.fin k hk
  obtain ⟨pre, post, p, b, d, ho⟩ := outAt h hk (g := (c (2 + k) % 1024).toNat) (by simp [inG]; omega)
  exact ⟨pre, post, _, p, b, d, ho⟩
set_option maxRecDepth 100000 in
set_option maxHeartbeats 2000000 in
theorem remove_ix {w : World} {x slots : Nat} {es : List Ent} (h : IxE w x slots es) (f : Nat) (a : Int × Int × Int) :
    Calls Try.prog 20 #[.pointer (some ⟨x, 0, none⟩), .int .u32 f, .agg (adrV a).toArray] w fun e w' =>
      e = .returned (.int .i64 (remE es (f, a)).2) ∧ IxE w' x slots (remE es (f, a)).1 ∧ Kept (fun b => b < w.heap.size ∧ b ≠ x) w w' := by
  obtain ⟨a0, a1, a2⟩ := a
  obtain ⟨c, L, fr, hx, hr, rfl⟩ := h
  have hxl := hx.lt
  have HR := Lib.hid hr
  obtain ⟨w1, hw1⟩ : ∃ w1, w1 = w.alloc (.cells #[.int .i64 a0, .int .u64 a1, .int .i64 a2] 36) := ⟨_, rfl⟩
  have HW1 := Lib.hid hw1
  have HB1 := Lib.hid (show Below w.heap.size w w1 by rw [hw1]; exact (Below.refl _ w).alloc (Nat.le_refl _) _)
  have HS1 := Lib.hid (show w1.heap.size = w.heap.size + 1 by rw [hw1]; simp)
  have HX1 := Lib.hid (hx.below HB1.out hxl)
  have HP := Lib.hid (place_rep HX1.out hr f (a0, a1, a2))
  rw [hw1] at HP
  clear hx hw1 hr
  show Calls Try.prog 20 #[.pointer (some ⟨x, 0, none⟩), .int .u32 f, .agg #[.int .i64 a0, .int .u64 a1, .int .i64 a2]] w _
  go_enter Try.func20, Try.ntmps20
  go_wp2_with fail
  refine HP.out.mono ?_
  rintro e w2 ⟨⟨v, rfl, hv⟩, hb2⟩
  rw [← HW1.out] at hb2
  have HB2 := Lib.hid (HB1.out.trans (hb2.mono (by have := HS1.out; omega)))
  have HX2 := Lib.hid (HX1.out.below hb2 (by have := HS1.out; omega))
  clear hb2
  rcases hv with ⟨hvL, hvE⟩ | ⟨rfl, hvE⟩
  · obtain ⟨hv1, _⟩ := HR.out.memL hvL
    have hq : ((v : Int) == 0) = false := by simp; omega
    obtain ⟨pre, post, g, p, b, d, ho⟩ := outAt_any HR.out hvL
    have HOE := Lib.hid (out_ents HR.out ho)
    have HA := Lib.hid (show remE (L.map (entC c)) (f, a0, a1, a2) = ((L.map (entC c)).filter (· ≠ ((f : Int), a0, a1, a2)), 0) from if_pos (List.mem_map.2 ⟨v, hvL, hvE⟩))
    have HOR := Lib.hid (outC_rep HR.out ho).1
    have HT := Lib.hid (take_out (f := 0) HX2.out HR.out ho)
    have HVE := Lib.hid hvE
    have HKE := Lib.hid (Kept.of_below (S := fun b => b < w.heap.size ∧ b ≠ x) HB2.out (fun b h => h.1))
    clear hvL hvE ho
    go_wp2_with fail
    refine HT.out.mono ?_
    rintro e w3 ⟨rfl, hx3, hk3⟩
    have HX3 := Lib.hid hx3
    have HK3 := Lib.hid (HKE.out.trans hk3 (fun b h => h.2))
    clear hx3 hk3
    go_wp2_with fail
    go_ret
    rw [HA.out]
    exact ⟨rfl, ⟨_, _, _, HX3.out, HOR.out, by rw [HOE.out, HVE.out]⟩, HK3.out⟩
  · have q0 : (((0 : Nat) : Int) == 0) = true := rfl
    have HA := Lib.hid (show remE (L.map (entC c)) (f, a0, a1, a2) = (L.map (entC c), 4) from if_neg hvE)
    have HKE := Lib.hid (Kept.of_below (S := fun b => b < w.heap.size ∧ b ≠ x) HB2.out (fun b h => h.1))
    clear hvE
    go_wp2_with fail
    go_ret
    rw [HA.out]
    exact ⟨rfl, ⟨c, L, fr, HX2.out, HR.out, rfl⟩, HKE.out⟩
/-- What Find tells. -/
def findE (es : List Ent) (f : Int) : List Seg := ((es.filter (fun e => e.1 = f)).reverse).map (·.2)
theorem find_ix {w : World} {x slots : Nat} {es : List Ent} (h : IxE w x slots es) (f : Nat) :
    Calls Try.prog 14 #[.pointer (some ⟨x, 0, none⟩), .int .u32 f] w fun e w' =>
      (∃ v, e = .returned v ∧ w'.ownsRow w.heap.size 36 3 v (findE es f).length (Adr.flatG (findE es f))) ∧ Below w.heap.size w w' := by
  obtain ⟨c, L, fr, hx, hr, rfl⟩ := h
  have hT := chain_fing hr f (f % 1024) rfl
  have he : findE (L.map (entC c)) f = ((L.filter (fun k => c (2 + k) = (f : Int))).reverse).map (segOf c) := by
    unfold findE
    rw [List.filter_map, ← List.map_reverse, List.map_map]
    rfl
  rw [he]
  have hl := List.length_filter_le (fun k => decide (c (2 + k) = (f : Int))) L
  have hall := hr.all
  have htop := hr.top
  have := find_any hx (C := (L.filter (inG c (f % 1024))).reverse) rfl (hr.ch (f % 1024) (by omega)) hT.symm (by rw [List.length_reverse]; omega)
  rw [List.length_map]
  exact this
end Go.Proofs.Ytfgmbkflpdobcaa
