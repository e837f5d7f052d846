/- Add, Remove: an index as its entries in order. -/
import Derived.Test.YtfgmbkflpdobcaaPlace
import Derived.Test.YtfgmbkflpdobcaaOut
namespace Go.Proofs.Ytfgmbkflpdobcaa
open Go.RowKit
attribute [local go_sem] Oper.semAt_some
set_option linter.unusedVariables false
set_option linter.unusedSimpArgs false

/-- An index lies at x that has these entries. -/
def IxE (w : World) (x slots : Nat) (es : List Ent) : Prop := ∃ c L fr, IxM w x c ∧ RepX c slots L fr ∧ L.map (entC c) = es
theorem IxE.kept {w w' : World} {x slots : Nat} {es : List Ent} {S : Nat → Prop} (h : IxE w x slots es) (hk : Kept S w w') (hS : S x) : IxE w' x slots es := by
  obtain ⟨c, L, fr, h1, h2, h3⟩ := h
  exact ⟨c, L, fr, h1.kept hk hS, h2, h3⟩
theorem IxE.below {w w' : World} {x slots B : Nat} {es : List Ent} (h : IxE w x slots es) (hk : Below B w w') (hx : x < B) : IxE w' x slots es := by
  obtain ⟨c, L, fr, h1, h2, h3⟩ := h
  exact ⟨c, L, fr, h1.below hk hx, h2, h3⟩
theorem IxE.lt {w : World} {x slots : Nat} {es : List Ent} (h : IxE w x slots es) : x < w.heap.size := by
  obtain ⟨c, L, fr, h1, h2, h3⟩ := h
  exact h1.lt
theorem IxE.len {w : World} {x slots : Nat} {es : List Ent} (h : IxE w x slots es) : es.length ≤ slots ∧ slots ≤ 1024 := by
  obtain ⟨c, L, fr, h1, h2, rfl⟩ := h
  have := h2.all
  have := h2.top
  simp; omega
def OkE (e : Ent) : Prop := 0 ≤ e.1 ∧ e.1 < 4294967296

/-- The finger's entries' numbers in their chain. -/
theorem chain_fing {c : Nat → Int} {slots : Nat} {L fr : List Nat} (hr : RepX c slots L fr) (f g : Nat) (hg : f % 1024 = g) :
    ((L.filter (inG c g)).reverse).filter (fun k => c (2 + k) = (f : Int)) = (L.filter (fun k => c (2 + k) = (f : Int))).reverse := by
  rw [List.filter_reverse, List.filter_filter]
  congr 1
  refine List.filter_congr fun k hk => ?_
  by_cases e : c (2 + k) = (f : Int)
  · simp [e, inG]; omega
  · simp [e]
theorem place_rep {w : World} {x slots : Nat} {c : Nat → Int} {L fr : List Nat} (h : IxM w x c) (hr : RepX c slots L fr) (f : Nat) (a : Int × Int × Int) :
    Calls Try.prog 28 #[.pointer (some ⟨x, 0, none⟩), .int .u32 f, .agg (adrV a).toArray] w fun e w' =>
      (∃ k : Nat, e = .returned (.int .i64 k) ∧ ((k ∈ L ∧ entC c k = ((f : Int), a)) ∨ (k = 0 ∧ ((f : Int), a) ∉ L.map (entC c)))) ∧ Below w.heap.size w w' := by
  have hT := chain_fing hr f (f % 1024) rfl
  refine (place_any h rfl (hr.ch (f % 1024) (by omega)) hT.symm a).mono ?_
  have hmem : ∀ k, k ∈ (L.filter (fun k => c (2 + k) = (f : Int))).reverse ↔ k ∈ L ∧ c (2 + k) = (f : Int) := fun k => by simp
  have hent : ∀ k, c (2 + k) = (f : Int) → adrC c k = adrV a → entC c k = ((f : Int), a) := fun k h1 h2 => by
    obtain ⟨a0, a1, a2⟩ := a
    simp only [adrC, adrV, List.cons.injEq, Value.int.injEq] at h2
    simp [entC, h1, h2.1.2, h2.2.1.2, h2.2.2.1.2]
  rintro e w' ⟨h1 | ⟨rfl, h1⟩, hb⟩
  · obtain ⟨i, hi, rfl, ha⟩ := h1
    have hm : ((L.filter (fun k => c (2 + k) = (f : Int))).reverse).getD i 0 ∈ (L.filter (fun k => c (2 + k) = (f : Int))).reverse := by
      simp only [List.getD, List.getElem?_eq_getElem hi, Option.getD_some]; exact List.getElem_mem hi
    obtain ⟨m1, m2⟩ := (hmem _).1 hm
    exact ⟨⟨_, rfl, .inl ⟨m1, hent _ m2 ha⟩⟩, hb⟩
  · refine ⟨⟨0, rfl, .inr ⟨rfl, fun hm => ?_⟩⟩, hb⟩
    obtain ⟨k, hk, he⟩ := List.mem_map.1 hm
    have h2 : c (2 + k) = (f : Int) := congrArg (·.1) he
    obtain ⟨i, hi, hki⟩ := List.getElem_of_mem ((hmem k).2 ⟨hk, h2⟩)
    refine h1 i hi ?_
    simp only [List.getD, List.getElem?_eq_getElem hi, Option.getD_some, hki]
    obtain ⟨a0, a1, a2⟩ := a
    simp only [entC, Prod.mk.injEq] at he
    simp [adrC, adrV, he.2.1, he.2.2.1, he.2.2.2]

def addE (slots : Nat) (es : List Ent) (e : Ent) : List Ent × Int := if e ∈ es then (es, 5) else if es.length = slots then (es, 6) else (es ++ [e], 0)

set_option maxRecDepth 100000 in
set_option maxHeartbeats 2000000 in
theorem add_ix {w : World} {x slots : Nat} {es : List Ent} (h : IxE w x slots es) (f : Nat) (hf : f < 4294967296) (a : Int × Int × Int) :
    Calls Try.prog 18 #[.pointer (some ⟨x, 0, none⟩), .int .u32 f, .agg (adrV a).toArray] w fun e w' =>
      e = .returned (.int .i64 (addE slots es (f, a)).2) ∧ IxE w' x slots (addE slots es (f, a)).1 ∧ Kept (fun b => b < w.heap.size ∧ b ≠ x) w w' := by
  obtain ⟨a0, a1, a2⟩ := a
  obtain ⟨c, L, fr, hx, hr, rfl⟩ := h
  have hxl := hx.lt
  have HR := Lib.hid hr
  obtain ⟨w1, hw1⟩ : ∃ w1, w1 = w.alloc (.cells #[.int .i64 a0, .int .u64 a1, .int .i64 a2] 36) := ⟨_, rfl⟩
  have HW1 := Lib.hid hw1
  have HB1 := Lib.hid (show Below w.heap.size w w1 by rw [hw1]; exact (Below.refl _ w).alloc (Nat.le_refl _) _)
  have HK1 := Lib.hid (show Blk w1 w.heap.size 36 #[.int .i64 a0, .int .u64 a1, .int .i64 a2] by rw [hw1]; exact Blk.new w _ _)
  have HS1 := Lib.hid (show w1.heap.size = w.heap.size + 1 by rw [hw1]; simp)
  have HX1 := Lib.hid (hx.below HB1.out hxl)
  have HP := Lib.hid (place_rep HX1.out hr f (a0, a1, a2))
  rw [hw1] at HP
  have hn := hr.n
  have hs0 := hr.s0
  have htop := hr.top
  have hall := hr.all
  clear hx hw1 hr
  show Calls Try.prog 18 #[.pointer (some ⟨x, 0, none⟩), .int .u32 f, .agg #[.int .i64 a0, .int .u64 a1, .int .i64 a2]] w _
  go_enter Try.func18, Try.ntmps18
  go_wp2_with fail
  refine HP.out.mono ?_
  rintro e w2 ⟨⟨v, rfl, hv⟩, hb2⟩
  rw [← HW1.out] at hb2
  have HB2 := Lib.hid (HB1.out.trans (hb2.mono (by have := HS1.out; omega)))
  have hx2 := HX1.out.below hb2 (by have := HS1.out; omega)
  have HK2 := Lib.hid (HK1.out.below hb2 HK1.out.lt)
  clear hb2
  rcases hv with ⟨hvL, hvE⟩ | ⟨rfl, hvE⟩
  · obtain ⟨hv1, _⟩ := HR.out.memL hvL
    have hq : ((v : Int) != 0) = true := by simp; omega
    have HA := Lib.hid (show addE slots (L.map (entC c)) (f, a0, a1, a2) = (L.map (entC c), 5) from if_pos (List.mem_map.2 ⟨v, hvL, hvE⟩))
    have HE2 := Lib.hid (show IxE w2 x slots (L.map (entC c)) from ⟨c, L, fr, hx2, HR.out, rfl⟩)
    have HKE := Lib.hid (Kept.of_below (S := fun b => b < w.heap.size ∧ b ≠ x) HB2.out (fun b h => h.1))
    clear hx2 hvL hvE
    go_wp2
    go_ret
    rw [HA.out]
    exact ⟨rfl, HE2.out, HKE.out⟩
  have z0 := hx2.lo (i := 0) (by omega)
  have z1 := hx2.lo (i := 1) (by omega)
  rw [hs0] at z0
  rw [hn] at z1
  have HX2 := Lib.hid hx2
  have HVE := Lib.hid hvE
  have q0 : (((0 : Nat) : Int) != 0) = false := rfl
  clear hx2 hvE hs0 hn
  by_cases hfull : L.length = slots
  · have q1 : ((L.length : Int) == (slots : Int)) = true := by simp; omega
    have HA := Lib.hid (show addE slots (L.map (entC c)) (f, a0, a1, a2) = (L.map (entC c), 6) by unfold addE; rw [if_neg HVE.out, if_pos (by simpa using hfull)])
    go_wp2_with fail
    go_quiet (fail)
    go_wp2
    go_ret
    rw [HA.out]
    exact ⟨rfl, ⟨c, L, fr, HX2.out.drewN _, HR.out, rfl⟩, (Kept.of_below (S := fun b => b < w.heap.size ∧ b ≠ x) HB2.out (fun b h => h.1)).drewN _⟩
  have q1 : ((L.length : Int) == (slots : Int)) = false := by simp; omega
  have HA := Lib.hid (show addE slots (L.map (entC c)) (f, a0, a1, a2) = (L.map (entC c) ++ [((f : Int), a0, a1, a2)], 0) by unfold addE; rw [if_neg HVE.out, if_neg (by simpa using hfull)])
  obtain ⟨k, fr', rfl⟩ : ∃ k fr', fr = k :: fr' := by
    cases fr with
    | nil => simp at hall; omega
    | cons k fr' => exact ⟨k, fr', rfl⟩
  obtain ⟨hk1, hk2⟩ := HR.out.memF (List.mem_cons_self ..)
  have hc6 : c 6151 = k := HR.out.free.1
  obtain ⟨l, hl, hl2, hl3⟩ := last_of HR.out.ear
  have hl4 : l < 1025 := by
    rcases hl3 with rfl | hl3
    · omega
    · exact (HR.out.memL hl3).2
  obtain ⟨g, hg⟩ : ∃ g, f % 1024 = g := ⟨_, rfl⟩
  have hg' : g < 1024 := by omega
  have HRep := Lib.hid (addC_rep (c := c) (k := k) (l := l) (g := g) (e := ((f : Int), a0, a1, a2)) HR.out hl (by simp only []; omega) (by simp only []; omega) HVE.out)
  have hEnts : (L ++ [k]).map (entC (addC c k g l ((f : Int), a0, a1, a2))) = L.map (entC c) ++ [((f : Int), a0, a1, a2)] := by
    rw [List.map_append, List.map_congr_left (fun j hj => (addC_far (e := ((f : Int), a0, a1, a2)) hk2 hg' hl4 (HR.out.memL hj).2 (fun e => HR.out.apart (e ▸ hj) (List.mem_cons_self ..))).1)]
    rw [List.map_cons, addC_ent hk2 hg' hl4]
    rfl
  have HEN := Lib.hid hEnts
  have HTF := Lib.hid (fun (n : Nat) => take_free (HX2.out.drewN n) k hk2 hc6)
  clear hc6 hl2 hl3 hEnts
  go_wp2_with fail
  go_quiet (fail)
  go_wp2_with fail
  refine (HTF.out _).mono ?_
  rintro e w3 ⟨rfl, hx3, hk3⟩
  have b0 := hx3.fing hk2
  have b1 := hx3.adr0 hk2
  have b2 := hx3.adr1 hk2
  have b3 := hx3.adr2 hk2
  have d0 := hx3.frozen (2 + k)
  have d1 := hx3.frozen (1027 + k * 3)
  have d2 := hx3.frozen (1027 + k * 3 + 1)
  have d3 := hx3.frozen (1027 + k * 3 + 2)
  have hne : w.heap.size ≠ x := by omega
  have e0 : w3.cell? ⟨w.heap.size, 0, none⟩ = some (.int .i64 a0) := (hk3.cell (p := ⟨w.heap.size, 0, none⟩) hne).trans (HK2.out.cell 0)
  have e1 : w3.cell? ⟨w.heap.size, 1, none⟩ = some (.int .u64 a1) := (hk3.cell (p := ⟨w.heap.size, 1, none⟩) hne).trans (HK2.out.cell 1)
  have e2 : w3.cell? ⟨w.heap.size, 2, none⟩ = some (.int .i64 a2) := (hk3.cell (p := ⟨w.heap.size, 2, none⟩) hne).trans (HK2.out.cell 2)
  have HKK3 := Lib.hid ((((Kept.of_below (S := fun b => b < w.heap.size ∧ b ≠ x) HB2.out (fun b h => h.1)).drewN _).trans hk3 (fun b h => h.2)))
  have HX3 := Lib.hid hx3
  clear hx3 hk3 z0 z1
  go_wp2_with fail
  go_region
  go_wp2_with fail
  have hx4 := ((((HX3.out.set (kind_fing hk2) (f : Int)).set (kind_adr0 hk2) a0).set (kind_adr1 hk2) a1).set (kind_adr2 hk2) a2).drew
  have HK4 := Lib.hid (show Kept (fun b => b < w.heap.size ∧ b ≠ x) w (((((w3.setCell ⟨x, 2 + k, none⟩ (.int .u32 f)).setCell ⟨x, 1027 + k * 3, none⟩ (.int .i64 a0)).setCell ⟨x, 1027 + k * 3 + 1, none⟩ (.int .u64 a1)).setCell ⟨x, 1027 + k * 3 + 2, none⟩ (.int .i64 a2)).drew) from
    ((((HKK3.out.setCell (by simp) _).setCell (by simp) _).setCell (by simp) _).setCell (by simp) _).drew)
  generalize ((((w3.setCell ⟨x, 2 + k, none⟩ (.int .u32 f)).setCell ⟨x, 1027 + k * 3, none⟩ (.int .i64 a0)).setCell ⟨x, 1027 + k * 3 + 1, none⟩ (.int .u64 a1)).setCell ⟨x, 1027 + k * 3 + 2, none⟩ (.int .i64 a2)).drew = w4 at *
  have hC4 := chain_ix hx4 k f g hk2 (by simp (disch := omega) only [upd_same, upd_far]) hg
  clear b0 b1 b2 b3 d0 d1 d2 d3 e0 e1 e2 hx4
  refine hC4.mono ?_
  rintro e w5 ⟨rfl, hx5, hk5⟩
  have HK5 := Lib.hid (HK4.out.trans hk5 (fun b h => h.2))
  have hC5 := line_ix hx5 k l hk2 hl4 (by simp (disch := omega) only [upd_same, upd_far]; exact hl)
  clear hC4 hk5 hx5
  go_wp2_with fail
  refine hC5.mono ?_
  rintro e w6 ⟨rfl, hx6, hk6⟩
  have HK6 := Lib.hid (HK5.out.trans hk6 (fun b h => h.2))
  have z1 := hx6.lo (i := 1) (by omega)
  have z2 := hx6.frozen 1
  have hone : addC c k g l ((f : Int), a0, a1, a2) 1 = (L.length : Int) + 1 := by
    have := HR.out.n
    simp (disch := omega) only [addC, upd_same, upd_far]
    omega
  have hLl : L.length ≤ 1024 := by omega
  obtain ⟨c6, hc6⟩ : ∃ c6, c6 = upd (upd (upd (upd (upd (upd (upd (upd (upd (upd (upd c 6151 (c (4102 + k))) (2 + k) (f : Int)) (1027 + k * 3) a0) (1027 + k * 3 + 1) a1) (1027 + k * 3 + 2) a2) (4102 + k) (upd (upd (upd (upd (upd c 6151 (c (4102 + k))) (2 + k) (f : Int)) (1027 + k * 3) a0) (1027 + k * 3 + 1) a1) (1027 + k * 3 + 2) a2 (5127 + g))) (5127 + g) k) (7177 + k) l) (6152 + k) 0) (6152 + l) k) 7177 k := ⟨_, rfl⟩
  have hadd : addC c k g l ((f : Int), a0, a1, a2) = upd c6 1 (c6 1 + 1) := by rw [hc6]; rfl
  have hc61 : c6 1 = (L.length : Int) := by
    rw [hadd, upd_same] at hone
    omega
  rw [← hc6] at hx6 z1
  rw [hc61] at z1
  have HX6 := Lib.hid hx6
  have HADD := Lib.hid hadd
  have HC61 := Lib.hid hc61
  clear hC5 hk6 hx6 hc6 hadd hone hc61
  go_wp2_with fail
  (first | go_ret | go_ret2 | go_end0)
  rw [HA.out]
  refine ⟨rfl, ⟨_, _, fr', ?_, HRep.out, HEN.out⟩, HK6.out.setCell (by simp) _⟩
  rw [HADD.out, HC61.out]
  exact HX6.out.set (i := 1) (k := .i64) rfl ((L.length : Int) + 1)
end Go.Proofs.Ytfgmbkflpdobcaa