/- Texts of StoreApart, packed. -/
import Derived.Test.YtknfblfnfoibkaaGreatPackStoreApart12
import Derived.Deep.DeepCutAuto
import Derived.Great.BuildSlice
import Derived.Laws.CopyRow
import Derived.Laws.CopyOwn
import Derived.OwnWalk
import Derived.Lib.Hide
set_option linter.unusedVariables false
set_option linter.unusedSimpArgs false
set_option maxRecDepth 100000
set_option maxHeartbeats 16000000
namespace Go.Proofs.YtknfblfnfoibkaaGreat
section
open Go.RowKit
attribute [local go_sem] Oper.semAt_some
abbrev pu0 : Oper := ⟨some 21, .load 28 (.tmp 2), 28, "store.go:70", #[], none⟩
abbrev pu1 : Oper := ⟨some 22, .nilCheck (.tmp 21), 0, "store.go:70", #[⟨0, .data⟩], none⟩
abbrev pu2 : Oper := ⟨some 23, .fieldAddr 115 (.tmp 22) 0, 0, "store.go:70", #[⟨1, .data⟩], none⟩
abbrev pu3 : Oper := ⟨some 24, .load 112 (.tmp 23), 112, "store.go:70", #[⟨2, .data⟩], none⟩
abbrev pu4 : Oper := ⟨some 25, .fieldAddr 42 (.tmp 3) 0, 0, "store.go:70", #[], none⟩
abbrev pu5 : Oper := ⟨some 26, .load 40 (.tmp 25), 40, "store.go:70", #[⟨4, .data⟩], none⟩
abbrev pu6 : Oper := ⟨some 27, .call { callee := .value (.func 57), args := #[.tmp 24, .tmp 26], argTypes := #[112, 40] }, 126, "store.go:70", #[⟨3, .data⟩, ⟨5, .data⟩], none⟩
abbrev pu7 : Oper := ⟨some 20, .move (.tmp 27), 126, "store.go:70", #[⟨6, .data⟩], none⟩
abbrev pu8 : Oper := ⟨some 28, .extract (.tmp 20) 0, 125, "store.go:70", #[⟨7, .data⟩], none⟩
abbrev pu9 : Oper := ⟨some 29, .extract (.tmp 20) 1, 29, "store.go:70", #[⟨7, .data⟩, { on := 11, ground := Go.Ground.gcOnly Go.Departure.lateStores }], none⟩
abbrev pu10 : Oper := ⟨some 6, .alloc 125, 0, "store.go:70", #[], none⟩
abbrev pu11 : Oper := ⟨none, .store 125 (.tmp 6) (.tmp 28), 0, "store.go:70", #[⟨10, .data⟩, ⟨8, .data⟩, ⟨6, .chain⟩, ⟨0, .phase⟩, ⟨1, .phase⟩, ⟨2, .phase⟩, ⟨3, .phase⟩, ⟨4, .phase⟩, ⟨5, .phase⟩, ⟨6, .phase⟩, ⟨7, .phase⟩, ⟨8, .phase⟩, { on := 9, ground := Go.Ground.textOnly Go.Departure.lateStores }, ⟨10, .phase⟩], none⟩
abbrev pu12 : Oper := ⟨none, .store 29 (.tmp 4) (.tmp 29), 0, "store.go:70", #[⟨9, .data⟩, ⟨11, .chain⟩, ⟨0, .phase⟩, ⟨1, .phase⟩, ⟨2, .phase⟩, ⟨3, .phase⟩, ⟨4, .phase⟩, ⟨5, .phase⟩, ⟨6, .phase⟩, ⟨7, .phase⟩, ⟨8, .phase⟩, ⟨9, .phase⟩, ⟨10, .phase⟩, ⟨11, .phase⟩], none⟩
abbrev pw0 : Oper := ⟨some 49, .load 28 (.tmp 2), 28, "store.go:84", #[], none⟩
abbrev pw1 : Oper := ⟨some 50, .nilCheck (.tmp 49), 0, "store.go:84", #[⟨0, .data⟩], none⟩
abbrev pw2 : Oper := ⟨some 51, .fieldAddr 115 (.tmp 50) 0, 0, "store.go:84", #[⟨1, .data⟩], none⟩
abbrev pw3 : Oper := ⟨some 52, .fieldAddr 112 (.tmp 51) 0, 0, "store.go:84", #[⟨2, .data⟩], none⟩
abbrev pw4 : Oper := ⟨some 53, .load 25 (.tmp 52), 25, "store.go:84", #[⟨3, .data⟩], none⟩
abbrev pw5 : Oper := ⟨some 54, .load 69 (.tmp 5), 69, "store.go:84", #[], none⟩
abbrev pw6 : Oper := ⟨some 55, .call { callee := .value (.func 62), args := #[.tmp 53, .tmp 54], argTypes := #[25, 69] }, 130, "store.go:84", #[⟨4, .data⟩, ⟨5, .data⟩], none⟩
abbrev pw7 : Oper := ⟨some 48, .move (.tmp 55), 130, "store.go:84", #[⟨6, .data⟩], none⟩
abbrev pw8 : Oper := ⟨some 56, .extract (.tmp 48) 0, 67, "store.go:84", #[⟨7, .data⟩], none⟩
abbrev pw9 : Oper := ⟨some 57, .extract (.tmp 48) 1, 29, "store.go:84", #[⟨7, .data⟩, { on := 10, ground := Go.Ground.gcOnly Go.Departure.lateStores }], none⟩
abbrev pw10 : Oper := ⟨none, .store 67 (.tmp 7) (.tmp 56), 0, "store.go:84", #[⟨8, .data⟩, ⟨6, .chain⟩, ⟨0, .phase⟩, ⟨1, .phase⟩, ⟨2, .phase⟩, ⟨3, .phase⟩, ⟨4, .phase⟩, ⟨5, .phase⟩, ⟨6, .phase⟩, ⟨7, .phase⟩, ⟨8, .phase⟩, { on := 9, ground := Go.Ground.textOnly Go.Departure.lateStores }], none⟩
abbrev pw11 : Oper := ⟨none, .store 29 (.tmp 4) (.tmp 57), 0, "store.go:84", #[⟨9, .data⟩, ⟨10, .chain⟩, ⟨0, .phase⟩, ⟨1, .phase⟩, ⟨2, .phase⟩, ⟨3, .phase⟩, ⟨4, .phase⟩, ⟨5, .phase⟩, ⟨6, .phase⟩, ⟨7, .phase⟩, ⟨8, .phase⟩, ⟨9, .phase⟩, ⟨10, .phase⟩], none⟩
def ElkC (w : World) (Y : Nat → Prop) (be l p d n : Nat) (s : Sup) (t : Int) (k : Dk) (xs : List Seg) (pe : Nat) (st : List EntS) (us : List Int) (v6 : Value) (wx : World) : Prop :=
 ∃ g6 k' ev, v6 = .pointer (some ⟨g6, 0, none⟩) ∧ w.heap.size ≤ g6 ∧ LgM wx (fun b => Y b ∨ b = g6) l p d n s t k' xs pe ∧ k'.held = k.held ∧ Kept (fun b => Y b ∧ b ≠ be) w wx ∧ Blk wx g6 125 ev ∧ Blk wx be 29 #[.int .i64 0] ∧ EntV st us ev
section
variable {w w' : World} {X Y : Nat → Prop} {B : StB} {slots : Nat} {s : Sup} {xs : List Seg} {st : List EntS} {bl : List (List Int)} {u : Bool} {A : Option Addr} {m c : Nat} {us : List Int} {k k' : Dk} {l p d n pe : Nat} {t : Int}
theorem LookT.ent {e : Ending} (h : LookT w Y l p d n s t k xs pe st us e w') : ∃ ev k', e = .returned (.tuple #[.agg ev, .int .i64 0]) ∧ EntV st us ev ∧ LgM w' Y l p d n s t k' xs pe ∧ k'.held = k.held ∧ Kept Y w w' := by
 obtain ⟨⟨k', h1, h2⟩, h3, h4⟩ := h
 rcases h4 with ⟨h5, h6⟩ | ⟨q, b1, b2, h5, h6, _⟩
 ·exact ⟨_, k', h6, .inl ⟨h5, rfl⟩, h1, h2, h3⟩
 ·exact ⟨_, k', h6, .inr ⟨q, b1, b2, h5, rfl⟩, h1, h2, h3⟩
theorem ElkC.fin {w3 : World} {Y2 : Nat → Prop} {g6 be : Nat} {ev cs : Array Value} (hY : ∀ b, Y b → b < w.heap.size) (hbe : Y be) (hg : w.heap.size ≤ g6) (hY2 : ∀ b, Y b → Y2 b) (h6 : Y2 g6) (hl : LgM w3 Y2 l p d n s t k' xs pe) (hk : k'.held = k.held) (hkp : Kept Y w w3) (hB : Blk w3 g6 125 cs) (hE : Blk w3 be 29 #[.int .i64 0]) (hev : EntV st us ev) :
 ElkC w Y be l p d n s t k xs pe st us (.pointer (some ⟨g6, 0, none⟩)) ((w3.setRow g6 ev).setCell ⟨be, 0, none⟩ (.int .i64 0)) := by
 have hne : be ≠ g6 := fun e => by have := hY be hbe; omega
 have k1 : Kept (fun b => b ≠ g6) w3 (w3.setRow g6 ev) := (Kept.refl _ _).setRow (fun h => h rfl) ev
 have k2 : Kept (fun b => b ≠ be) (w3.setRow g6 ev) ((w3.setRow g6 ev).setCell ⟨be, 0, none⟩ (.int .i64 0)) := (Kept.refl _ _).setCell (p := ⟨be, 0, none⟩) (fun h => h rfl) _
 have k3 : Kept (fun b => b ≠ g6 ∧ b ≠ be) w3 ((w3.setRow g6 ev).setCell ⟨be, 0, none⟩ (.int .i64 0)) := (k1.mono (fun b h => h.1)).trans k2 (fun b h => h.2)
 refine ⟨g6, k', ev, rfl, hg, (hl.off k3 (fun b _ hn => ⟨fun e => hn (e ▸ h6), fun e => hn (e ▸ hY2 _ hbe)⟩)).less (fun b hb => hb.elim (hY2 b) (fun e => e ▸ h6)), hk, (hkp.mono (fun b h => h.1)).trans k3 (fun b h => ⟨fun e => by have := hY b h.1; omega, h.2⟩), ?_, ?_, hev⟩
 ·exact Blk.far (setRow_heap _ _ _ ev _ _ hB) (p := ⟨be, 0, none⟩) (Ne.symm hne) _
 ·have h9 := (hE.kept k1 hne).set_ 0 (.int .i64 0)
  exact h9
theorem StoM2.logTo2 {S : Nat → Prop} {s1 : Sup} {xs1 : List Seg} {t1 : Int} {k1 : Dk} {pe1 : Nat} (h : StoM2 w X B slots s xs st bl u) (hk : Kept S w w') (hS : ∀ b, B.own b → S b) (hX : ∀ b, X b → Y b) (hY : ∀ b, B.own b → ¬ Y b) (hYl : ∀ b, Y b → b < w'.heap.size) (hl : LgM w' (fun b => Y b ∨ B.own b) B.l B.p B.d B.n s1 t1 k1 xs1 pe1) (hn : xs1.length = xs.length) (hi : InvS k1 s1 xs1 st) :
 StoM2 w' Y { B with t := t1, k := k1, pe := pe1 } slots s1 xs1 st bl u := by
 obtain ⟨h1, h2, h3⟩ := h.own_kept hk hS
 exact ⟨h1, h2, h.num.trans hn.symm, h3, hl, hi, hY, hYl⟩
theorem left_s14 (h : StoM2 w X B slots s xs st bl u) : Calls Tryz.prog 58 #[.pointer (some ⟨B.x, 0, none⟩)] w fun e w' => e = .returned (.int .i64 ((slots : Int) - (st.length : Nat))) ∧ Kept (fun _ => True) w w' := by
 have hl := h.ix.len
 obtain ⟨c, L, fr, hx, hr, he⟩ := h.ix
 have hn : c 1 = (st.length : Nat) := by
  rw [hr.n]
  have h1 := congrArg List.length he
  unfold esS at h1
  rw [List.length_map, List.length_map] at h1
  rw [h1]
 unfold esS at hl
 rw [List.length_map] at hl
 exact left_ix hx hr.s0 hn (by omega)
theorem AppH.told {bs : List Int} {e : Ending} (h : AppH w Y l p d n s t k xs pe bs e w') : ∃ a er s1 xs1 t1 k1 pe1, e = .returned (.tuple #[.agg #[.int .i64 a.1, .int .u64 a.2.1, .int .i64 a.2.2], .int .i64 er]) ∧ Kept Y w w' ∧ LgM w' Y l p d n s1 t1 k1 xs1 pe1 ∧
 ((appR s xs (cntOf bs.length) = none ∧ er = 6 ∧ s1 = s ∧ xs1 = xs ∧ t1 = t ∧ k1 = k ∧ pe1 = pe) ∨
  (∃ i ys, appR s xs (cntOf bs.length) = some (i, s1, ys) ∧ er = 0 ∧ a = ((i : Int), genG ys i, usedG ys i) ∧ (s1 = s ∨ s1 = genS s) ∧ xs1 = useX ys ((cntOf bs.length : Nat) : Int) ∧ pe1 = pe + 17 ∧ AtR k1 s1 xs1 a bs ∧ ∀ a' bs', AtR k s xs a' bs' → AtR k1 s1 xs1 a' bs' ∧ a' ≠ a)) := by
 obtain ⟨hk, h | ⟨i, s1, ys, t1, k1, h1, h2, h3, h4, h5, h6⟩⟩ := h
 ·exact ⟨(0, 0, 0), 6, s, xs, t, k, pe, h.2.1, hk, h.2.2, .inl ⟨h.1, rfl, rfl, rfl, rfl, rfl, rfl⟩⟩
 ·exact ⟨_, 0, s1, _, t1, k1, _, h2, hk, h3, .inr ⟨i, ys, h1, rfl, rfl, h4, rfl, rfl, h5, h6⟩⟩
def fullS (st : List EntS) (us : List Int) (slots : Nat) : Bool := (hasS st us).isNone && decide (st.length = slots)
theorem full_iff : fullS st us slots = true ↔ (hasS st us = none ∧ st.length = slots) := by
 unfold fullS
 simp
def PutT (w : World) (X : Nat → Prop) (B : StB) (slots : Nat) (s : Sup) (xs : List Seg) (st : List EntS) (bl : List (List Int)) (bs : List Int) (e : Ending) (w' : World) : Prop :=
 Kept X w w' ∧
 ((fullS st (keyOf bs) slots = true ∧ e = .returned (.int .i64 6) ∧ ∃ k', StoM2 w' X { B with t := B.t, k := k', pe := B.pe } slots s xs st bl false ∧ k'.held = B.k.held) ∨
  (fullS st (keyOf bs) slots = false ∧ appR s xs (cntOf bs.length) = none ∧ e = .returned (.int .i64 6) ∧ ∃ k', StoM2 w' X { B with t := B.t, k := k', pe := B.pe } slots s xs st bl false ∧ k'.held = B.k.held) ∨
  (fullS st (keyOf bs) slots = false ∧ ∃ i s1 xs1 t' k', appR s xs (cntOf bs.length) = some (i, s1, xs1) ∧ (s1 = s ∨ s1 = genS s) ∧ e = .returned (.int .i64 0) ∧
    StoM2 w' X { B with t := t', k := k', pe := B.pe + 17 } slots s1 (useX xs1 ((cntOf bs.length : Nat) : Int)) (outS st (keyOf bs) ++ [(((i : Int), genG xs1 i, usedG xs1 i), bs)]) (addB bl i (keyOf bs)) false))
theorem put_s14 (h : StoM2 w X B slots s xs st bl false) {us vs : List Int} {A2 : Option Addr} {n2 c2 : Nat} {f0 x0 q0 : Int} {dy : Bool} (hk : RowI .u8 w X A m us) (hv : RowI .u8 w X A2 n2 vs) (hb : Bytes us) (hbv : Bytes vs) (hnc : A = none → c = 0) (hnc2 : A2 = none → c2 = 0)
 (hmay : May 1 f0 x0 q0 m n2) (hr : Rng f0 x0 q0) (hpe : B.pe ≤ 900000) (hgm : s.g + 1 ≤ 18446744073709551615) :
 Calls Tryz.prog 14 #[.pointer (some ⟨B.q, 0, none⟩), itmV A m c A2 n2 c2 f0 x0 q0 dy] w (PutT w X B slots s xs st bl (recB 1 f0 x0 q0 us vs)) := by
 obtain ⟨w1, hw1⟩ : ∃ w1, w1 = ((w.alloc (.cells #[.pointer (some ⟨B.q, 0, none⟩)] 28)).alloc (.cells #[.slice A m c, .slice A2 n2 c2, .int .u32 f0, .int .u32 x0, .int .u64 q0, .bool dy] 42)).alloc (.cells #[.int .i64 0] 29) := ⟨_, rfl⟩
 have hb1 : Below w.heap.size w w1 := by rw [hw1]; exact (((Below.refl _ w).alloc (nR _) _).alloc (by simp) _).alloc (by simp; omega) _
 have HS1 := hI (show Blk w1 w.heap.size 28 #[.pointer (some ⟨B.q, 0, none⟩)] by rw [hw1]; exact ((Blk.new w _ _).alloc _).alloc _)
 have HI1 := hI (show Blk w1 (w.heap.size + 1) 42 #[.slice A m c, .slice A2 n2 c2, .int .u32 f0, .int .u32 x0, .int .u64 q0, .bool dy] by rw [hw1]; exact (blk_new2 w _ _ _).alloc _)
 have HE1 := hI (show Blk w1 (w.heap.size + 1 + 1) 29 #[.int .i64 0] by rw [hw1]; exact blk_new3 w _ _ _ _)
 have HZ1 := hI (show w1.heap.size = w.heap.size + 3 by rw [hw1]; simp)
 have HM0 := hI h
 have HB1 := hI hb1
 have HK := hI hk
 have HV := hI hv
 have HBY := hI (And.intro hb hbv)
 have HNC := hI (And.intro hnc hnc2)
 have HMAY := hI hmay
 have HRNG := hI hr
 have HPE := hI (And.intro hpe hgm)
 have HM := hI (show m ≤ 250 by unfold May at hmay; omega)
 have HKEY := hI (show keyOf (recB 1 f0 x0 q0 us vs) = us by
  have h9 := rec_key (k := 1) (f := f0) (x := x0) (s := q0) (xs := us) (ys := vs) (zs := []) (by have := hk.1; unfold May at hmay; omega)
  rwa [List.append_nil] at h9)
 have HKIND := hI (show kindOf (recB 1 f0 x0 q0 us vs) = 1 by
  have h9 := rec_kind (k := 1) (f := f0) (x := x0) (s := q0) (xs := us) (ys := vs) (zs := [])
  rwa [List.append_nil] at h9)
 have HW1 := hI hw1
 clear hw1 hb1 h hk hv hb hbv hnc hnc2 hmay hr hpe hgm
 go_enter_defers Tryz.func14, Tryz.ntmps14
 go_upto_region 1 with fail
 rw [← HW1.out]
 have i0 : w1.cell? ⟨w.heap.size + 1, 0, none⟩ = some (.slice A m c) := HI1.out.cell 0
 have i1 : w1.cell? ⟨w.heap.size + 1, 1, none⟩ = some (.slice A2 n2 c2) := HI1.out.cell 1
 have i2 : w1.cell? ⟨w.heap.size + 1, 2, none⟩ = some (.int .u32 f0) := HI1.out.cell 2
 have i3 : w1.cell? ⟨w.heap.size + 1, 3, none⟩ = some (.int .u32 x0) := HI1.out.cell 3
 have i4 : w1.cell? ⟨w.heap.size + 1, 4, none⟩ = some (.int .u64 q0) := HI1.out.cell 4
 have i5 : w1.cell? ⟨w.heap.size + 1, 5, none⟩ = some (.bool dy) := HI1.out.cell 5
 go_wp2_with fail
 refine (recordOf_ok A m c A2 n2 c2 f0 x0 q0 dy w1).mono ?_
 rintro e w2 ⟨rfl, hb2⟩
 clear i0 i1 i2 i3 i4 i5
 obtain ⟨w3, hw3⟩ : ∃ w3, w3 = w2.alloc (.cells #[.int .i64 1, .int .u32 f0, .int .u32 x0, .int .u64 q0, .slice A m c, .slice A2 n2 c2] 69) := ⟨_, rfl⟩
 have hb3 : Below w1.heap.size w1 w3 := by rw [hw3]; exact hb2.alloc hb2.size _
 have HR3 := hI (show Blk w3 w2.heap.size 69 #[.int .i64 1, .int .u32 f0, .int .u32 x0, .int .u64 q0, .slice A m c, .slice A2 n2 c2] by rw [hw3]; exact Blk.new w2 _ _)
 have HB3 := hI hb3
 have HW3 := hI hw3
 have HZ2 := hI hb2.size
 have hs3 : w3.cell? ⟨w.heap.size, 0, none⟩ = some (.pointer (some ⟨B.q, 0, none⟩)) := (HS1.out.below hb3 HS1.out.lt).cell 0
 have r0 : w3.cell? ⟨w2.heap.size, 0, none⟩ = some (.int .i64 1) := HR3.out.cell 0
 have r1 : w3.cell? ⟨w2.heap.size, 1, none⟩ = some (.int .u32 f0) := HR3.out.cell 1
 have r2 : w3.cell? ⟨w2.heap.size, 2, none⟩ = some (.int .u32 x0) := HR3.out.cell 2
 have r3 : w3.cell? ⟨w2.heap.size, 3, none⟩ = some (.int .u64 q0) := HR3.out.cell 3
 have r4 : w3.cell? ⟨w2.heap.size, 4, none⟩ = some (.slice A m c) := HR3.out.cell 4
 have r5 : w3.cell? ⟨w2.heap.size, 5, none⟩ = some (.slice A2 n2 c2) := HR3.out.cell 5
 clear hb2 hw3 hb3
 go_upto_region 2 with fail
 rw [← HW3.out]
 go_wp2_with fail
 refine (check_yes 1 f0 x0 q0 A A2 m c n2 c2 w3 HMAY.out).mono ?_
 rintro e w4 ⟨rfl, hb4⟩
 have HB4 := hI (HB3.out.trans (hb4.mono HB3.out.size))
 have HR4 := hI (HR3.out.below hb4 HR3.out.lt)
 have HZ4 := hI (And.intro HR3.out.lt hb4.size)
 clear hb4 hs3 r0 r1 r2 r3 r4 r5
 have HM4 := hI (HM0.out.grow (HB1.out.trans (HB4.out.mono HB1.out.size)))
 have HS4 := hI (HS1.out.below HB4.out HS1.out.lt)
 have HI4 := hI (HI1.out.below HB4.out HI1.out.lt)
 have HE4 := hI (HE1.out.below HB4.out HE1.out.lt)
 have hs4 : w4.cell? ⟨w.heap.size, 0, none⟩ = some (.pointer (some ⟨B.q, 0, none⟩)) := HS4.out.cell 0
 go_wp2_with fail
 refine (degraded_ok HM4.out).mono ?_
 rintro e w5 ⟨rfl, rfl⟩
 go_upto_region 8 with fail
 clear hs4
 go_cut [6] from 20 to 29 (fun v6 wx => ElkC w5 (fun b => (X b ∨ (w.heap.size ≤ b ∧ b < w5.heap.size)) ∨ B.own b) (w.heap.size + 1 + 1) B.l B.p B.d B.n s B.t B.k xs B.pe st us v6 wx)
 case first J KK hJ hKK =>
  have HQL := hI (show B.q < w.heap.size from HM0.out.own_lt (.inl rfl))
  have HSS := hI (show ∀ W, Kept (fun b => ((X b ∨ (w.heap.size ≤ b ∧ b < w5.heap.size)) ∨ B.own b) ∧ b ≠ w.heap.size + 1 + 1) w5 W → W.cell? ⟨w.heap.size, 0, none⟩ = some (.pointer (some ⟨B.q, 0, none⟩)) ∧ W.cell? ⟨B.q, 0, none⟩ = some (.pointer (some ⟨B.l, 0, none⟩)) ∧ W.cell? ⟨B.q, 1, none⟩ = some (.pointer (some ⟨B.x, 0, none⟩)) ∧ W.cell? ⟨w.heap.size + 1, 0, none⟩ = some (.slice A m c) from fun W hW => by
   obtain ⟨q0, q1, _, _⟩ := HM4.out.cells
   have h1 := HS4.out.lt
   have h2 := HI4.out.lt
   have h3 := HQL.out
   exact ⟨(HS4.out.kept hW ⟨.inl (.inr ⟨by omega, by omega⟩), by omega⟩).cell 0, (hW.cell (p := ⟨B.q, 0, none⟩) ⟨.inr (.inl rfl), (by omega : B.q ≠ _)⟩).trans q0, (hW.cell (p := ⟨B.q, 1, none⟩) ⟨.inr (.inl rfl), (by omega : B.q ≠ _)⟩).trans q1, (HI4.out.kept hW ⟨.inl (.inr ⟨by omega, by omega⟩), by omega⟩).cell 0⟩)
  have hMd := HM4.out.below ((Below.refl w5.heap.size w5).drew)
  have HKd := hI (show RowI .u8 w5.drew (fun b => (X b ∨ (w.heap.size ≤ b ∧ b < w5.heap.size)) ∨ B.own b) A m us from ((HK.out.below (HB1.out.trans (HB4.out.mono HB1.out.size)) HM0.out.lt).below ((Below.refl w5.heap.size w5).drew) (fun b hb => HM4.out.lt b (.inl hb))).more (fun b hb => .inl (.inl hb)))
  have HMD := hI hMd
  have HED := hI (show Blk w5.drew (w.heap.size + 1 + 1) 29 #[.int .i64 0] from HE4.out.below ((Below.refl w5.heap.size w5).drew) HE4.out.lt)
  have HYL := hI (show ∀ b, ((X b ∨ (w.heap.size ≤ b ∧ b < w5.heap.size)) ∨ B.own b) → b < w5.heap.size from HM4.out.ylt)
  have HYE := hI (show (X (w.heap.size + 1 + 1) ∨ (w.heap.size ≤ w.heap.size + 1 + 1 ∧ w.heap.size + 1 + 1 < w5.heap.size)) ∨ B.own (w.heap.size + 1 + 1) from .inl (.inr ⟨by omega, HE4.out.lt⟩))
  clear hMd
  refine wp_region_noPanic ?_
  refine Tillst.region (fun W => Kept (fun b => ((X b ∨ (w.heap.size ≤ b ∧ b < w5.heap.size)) ∨ B.own b) ∧ b ≠ w.heap.size + 1 + 1) w5 W) [] (by kernel_rfl) ((Kept.refl _ _).drew) (fun hė => ?_)
  obtain ⟨vd, hvd⟩ : ∃ vd, vd = w5.drew := ⟨_, rfl⟩
  have HZD := hI (show vd.heap.size = w5.heap.size by rw [hvd]; rfl)
  rw [← hvd] at HKd HMD HED hė ⊢
  have HVD := hI (show Kept (fun b => (X b ∨ (w.heap.size ≤ b ∧ b < w5.heap.size)) ∨ B.own b) w5 vd by rw [hvd]; exact (Kept.refl _ _).drew)
  clear hvd
  refine Tillst.tk 0 pu0 (v := ?_) rfl (by kernel_rfl) (by rfl) ?_ hė ?_
  rotate_left
  ·intro W hSW; have h9 := (HSS.out W hSW).1; clear hSW; unfold pu0; go_simp; with_reducible rfl
  simp only [pu0, Act.put, sA, sZ, sS]
  refine Tillst.tk 1 pu1 (v := ?_) rfl (by kernel_rfl) (by rfl) ?_ hė ?_
  rotate_left
  ·intro W hSW; (try dsimp only at hSW); unfold pu1; go_simp; with_reducible rfl
  simp only [pu1, Act.put, sA, sZ, sS]
  refine Tillst.tk 2 pu2 (v := ?_) rfl (by kernel_rfl) (by rfl) ?_ hė ?_
  rotate_left
  ·intro W hSW; (try dsimp only at hSW); unfold pu2; go_simp; with_reducible rfl
  simp only [pu2, Act.put, sA, sZ, sS]
  refine Tillst.tk 3 pu3 (v := shV B) rfl (by kernel_rfl) (by rfl) ?_ hė ?_
  ·intro W hSW; obtain ⟨_, h8, h9, _⟩ := HSS.out W hSW; clear hSW; unfold pu3; go_simp
  simp only [pu3, Act.put, sA, sZ, sS]
  refine Tillst.tk 4 pu4 (v := ?_) rfl (by kernel_rfl) (by rfl) ?_ hė ?_
  rotate_left
  ·intro W hSW; (try dsimp only at hSW); unfold pu4; go_simp; with_reducible rfl
  simp only [pu4, Act.put, sA, sZ, sS]
  refine Tillst.tk 5 pu5 (v := ?_) rfl (by kernel_rfl) (by rfl) ?_ hė ?_
  rotate_left
  ·intro W hSW; have h9 := (HSS.out W hSW).2.2.2; clear hSW; unfold pu5; go_simp; with_reducible rfl
  simp only [pu5, Act.put, sA, sZ, sS]
  refine Tillst.two (i := 6) (j := 10) (o := pu6) (o' := pu10) (by kernel_rfl) rfl rfl ?_ ?_
  ·intro K hK
   refine step_call 57 #[.tmp 24, .tmp 26] #[112, 40] rfl rfl Tryz.func57 rfl rfl [shV B, .slice A m c] rfl ((look_any (c := c) HMD.out.log HMD.out.ylt HMD.out.ix (.inr (.inr (.inl rfl))) HMD.out.inv HKd.out HBY.out.1 (by have := HM.out; omega)).mono ?_)
   intro e w6 hlk
   obtain ⟨ev, k6, rfl, hev, hl6, hk6, hkp6⟩ := hlk.ent
   refine ⟨_, rfl, ?_⟩
   simp only [pu6, Act.put, sA, sZ, sS]
   have hS6 : Kept (fun b => ((X b ∨ (w.heap.size ≤ b ∧ b < w5.heap.size)) ∨ B.own b) ∧ b ≠ w.heap.size + 1 + 1) w5 w6 := hė.trans hkp6 (fun b h => h.1)
   have HEV := hI hev
   have HL6 := hI hl6
   have HK6 := hI hk6
   have HKP6 := hI (HVD.out.trans hkp6 (fun b h => h))
   have HE6 := hI (HED.out.kept hkp6 HYE.out)
   clear hlk hev hl6 hk6 hkp6 hė
   refine hK.out _ _ (fun _ => hS6) (fun hė => ?_)
   replace hė := hė (by decide)
   clear hK K hS6
   refine Tillst.tk 7 pu7 (v := ?_) rfl (by kernel_rfl) (by rfl) ?_ hė ?_
   rotate_left
   ·intro W hSW; (try dsimp only at hSW); unfold pu7; go_simp; with_reducible rfl
   simp only [pu7, Act.put, sA, sZ, sS]
   refine Tillst.tk 8 pu8 (v := ?_) rfl (by kernel_rfl) (by rfl) ?_ hė ?_
   rotate_left
   ·intro W hSW; (try dsimp only at hSW); unfold pu8; go_simp; with_reducible rfl
   simp only [pu8, Act.put, sA, sZ, sS]
   refine Tillst.tk 9 pu9 (v := ?_) rfl (by kernel_rfl) (by rfl) ?_ hė ?_
   rotate_left
   ·intro W hSW; (try dsimp only at hSW); unfold pu9; go_simp; with_reducible rfl
   simp only [pu9, Act.put, sA, sZ, sS]
   refine Tillst.one (i := 10) (o := pu10) (by kernel_rfl) rfl ?_
   intro K hK
   refine step_alloc14 125 rfl rfl ent0C zero_entry ?_
   simp only [pu10, Act.put, sA, sZ, sS]
   have hal := (Below.refl w6.heap.size w6).alloc (nR _) (.cells ent0C 125)
   have hS7 : Kept (fun b => ((X b ∨ (w.heap.size ≤ b ∧ b < w5.heap.size)) ∨ B.own b) ∧ b ≠ w.heap.size + 1 + 1) w5 (w6.alloc (.cells ent0C 125)) := hė.trans (Kept.of_below (S := fun b => ((X b ∨ (w.heap.size ≤ b ∧ b < w5.heap.size)) ∨ B.own b) ∧ b ≠ w.heap.size + 1 + 1) hal (fun b h => nL (HYL.out b h.1) hė.size)) (fun b h => h)
   have HL7 := hI (HL6.out.grow hal)
   have HKP7 := hI (HKP6.out.trans (Kept.of_below (S := fun b => (X b ∨ (w.heap.size ≤ b ∧ b < w5.heap.size)) ∨ B.own b) hal (fun b h => nL (HYL.out b h) HKP6.out.size)) (fun b h => h))
   have HE7 := hI (HE6.out.below hal HE6.out.lt)
   have HN7 := hI (Blk.new w6 125 ent0C)
   have HZ6 := hI HKP6.out.size
   have HZ7 := hI (show w6.heap.size < (w6.alloc (.cells ent0C 125)).heap.size by simp)
   clear hal
   generalize w6.heap.size = g6 at *
   generalize w6.alloc _ = w7 at *
   refine hK.out _ _ (fun _ => hS7) (fun hė => ?_)
   replace hė := hė (by decide)
   clear hK K hS7
   refine Tillst.one (i := 11) (o := pu11) (by kernel_rfl) rfl ?_
   intro K hK
   refine step_store14 (.tmp 6) (.tmp 28) 125 rfl rfl g6 ev rfl rfl 125 _ HN7.out (by rw [size_entry, HEV.out.size.1]) (by rw [HEV.out.size.1]; rfl) HEV.out.size.2 ?_
   simp only [pu11, Act.put, sA, sZ, sS]
   have hk8 : Kept (fun b => b ≠ g6) w7 (w7.setRow g6 ev) := (Kept.refl _ _).setRow (fun h => h rfl) ev
   have hS8 : Kept (fun b => ((X b ∨ (w.heap.size ≤ b ∧ b < w5.heap.size)) ∨ B.own b) ∧ b ≠ w.heap.size + 1 + 1) w5 (w7.setRow g6 ev) := hė.trans hk8 (fun b h => by have := HYL.out b h.1; have := HZ6.out; omega)
   have HE8 := hI (HE7.out.kept hk8 (by have := HYL.out _ HYE.out; have := HZ6.out; omega))
   refine hK.out _ _ (fun _ => hS8) (fun hė => ?_)
   replace hė := hė (by decide)
   clear hK K hk8 hS8
   refine Tillst.one (i := 12) (o := pu12) (by kernel_rfl) rfl ?_
   intro K hK
   have e8 : (w7.setRow g6 ev).cell? ⟨w.heap.size + 1 + 1, 0, none⟩ = some (.int .i64 0) := HE8.out.cell 0
   have e9 := HE8.out.frozen 0
   go_simp
   clear e8 e9
   have hS9 : Kept (fun b => ((X b ∨ (w.heap.size ≤ b ∧ b < w5.heap.size)) ∨ B.own b) ∧ b ≠ w.heap.size + 1 + 1) w5 ((w7.setRow g6 ev).setCell ⟨w.heap.size + 1 + 1, 0, none⟩ (.int .i64 0)) := hė.setCell (p := ⟨w.heap.size + 1 + 1, 0, none⟩) (fun h => h.2 rfl) _
   refine hK.out _ _ (fun _ => hS9) (fun hė => ?_)
   clear hK K hS9
   refine Tillst.done (by kernel_rfl) ?_ _
   refine hKK _ _ (Met.intro (hJ _ _ ?_))
   (repeat apply Exists.intro)
   exact ⟨ElkC.fin HYL.out HYE.out HZ6.out (fun b h => .inl h) (.inr ⟨nR _, HZ7.out⟩) HL7.out HK6.out HKP7.out HN7.out HE7.out HEV.out, rfl⟩
  ·intro K hK
   refine step_alloc14 125 rfl rfl ent0C zero_entry ?_
   simp only [pu10, Act.put, sA, sZ, sS]
   have hal := (Below.refl vd.heap.size vd).alloc (nR _) (.cells ent0C 125)
   have hS6 : Kept (fun b => ((X b ∨ (w.heap.size ≤ b ∧ b < w5.heap.size)) ∨ B.own b) ∧ b ≠ w.heap.size + 1 + 1) w5 (vd.alloc (.cells ent0C 125)) := hė.trans (Kept.of_below (S := fun b => ((X b ∨ (w.heap.size ≤ b ∧ b < w5.heap.size)) ∨ B.own b) ∧ b ≠ w.heap.size + 1 + 1) hal (fun b h => nL (HYL.out b h.1) hė.size)) (fun b h => h)
   have HL6 := hI (HMD.out.log.grow hal)
   have HX6 := hI (HMD.out.ix.below hal HMD.out.ix.lt)
   have HKP6 := hI (HVD.out.trans (Kept.of_below (S := fun b => (X b ∨ (w.heap.size ≤ b ∧ b < w5.heap.size)) ∨ B.own b) hal (fun b h => nL (HYL.out b h) HVD.out.size)) (fun b h => h))
   have HE6 := hI (HED.out.below hal HED.out.lt)
   have HKR6 := hI (HKd.out.below hal (fun b h => nL (HYL.out b h) HVD.out.size))
   have HN6 := hI (Blk.new vd 125 ent0C)
   have HZ6 := hI HVD.out.size
   have HZ7 := hI (show vd.heap.size < (vd.alloc (.cells ent0C 125)).heap.size by simp)
   have HINV := hI HMD.out.inv
   clear hal HMD HKd HED
   generalize vd.heap.size = g6 at *
   generalize vd.alloc _ = w6 at *
   refine hK.out _ _ (fun _ => hS6) (fun hė => ?_)
   replace hė := hė (by decide)
   clear hK K hS6
   refine Tillst.one (i := 6) (o := pu6) (by kernel_rfl) rfl ?_
   intro K hK
   refine step_call 57 #[.tmp 24, .tmp 26] #[112, 40] rfl rfl Tryz.func57 rfl rfl [shV B, .slice A m c] rfl ((look_any (c := c) HL6.out (fun b h => by
    rcases h with h | h
    ·exact nL (HYL.out b h) HKP6.out.size
    ·exact h.2) HX6.out (.inl (.inr (.inr (.inl rfl)))) HINV.out (HKR6.out.more (fun b h => .inl h)) HBY.out.1 (by have := HM.out; omega)).mono ?_)
   intro e w7 hlk
   obtain ⟨ev, k6, rfl, hev, hl7, hk7, hkp7⟩ := hlk.ent
   refine ⟨_, rfl, ?_⟩
   simp only [pu6, Act.put, sA, sZ, sS]
   have hS7 : Kept (fun b => ((X b ∨ (w.heap.size ≤ b ∧ b < w5.heap.size)) ∨ B.own b) ∧ b ≠ w.heap.size + 1 + 1) w5 w7 := hė.trans hkp7 (fun b h => .inl h.1)
   have HEV := hI hev
   have HL7 := hI hl7
   have HK6 := hI hk7
   have HKP7 := hI (HKP6.out.trans hkp7 (fun b h => .inl h))
   have HE7 := hI (HE6.out.kept hkp7 (.inl HYE.out))
   have HN7 := hI (HN6.out.kept hkp7 (.inr ⟨nR _, HZ7.out⟩))
   clear hlk hev hl7 hk7 hkp7 hė HN6 HE6 HL6
   refine hK.out _ _ (fun _ => hS7) (fun hė => ?_)
   replace hė := hė (by decide)
   clear hK K hS7
   refine Tillst.tk 7 pu7 (v := ?_) rfl (by kernel_rfl) (by rfl) ?_ hė ?_
   rotate_left
   ·intro W hSW; (try dsimp only at hSW); unfold pu7; go_simp; with_reducible rfl
   simp only [pu7, Act.put, sA, sZ, sS]
   refine Tillst.tk 8 pu8 (v := ?_) rfl (by kernel_rfl) (by rfl) ?_ hė ?_
   rotate_left
   ·intro W hSW; (try dsimp only at hSW); unfold pu8; go_simp; with_reducible rfl
   simp only [pu8, Act.put, sA, sZ, sS]
   refine Tillst.tk 9 pu9 (v := ?_) rfl (by kernel_rfl) (by rfl) ?_ hė ?_
   rotate_left
   ·intro W hSW; (try dsimp only at hSW); unfold pu9; go_simp; with_reducible rfl
   simp only [pu9, Act.put, sA, sZ, sS]
   refine Tillst.one (i := 11) (o := pu11) (by kernel_rfl) rfl ?_
   intro K hK
   refine step_store14 (.tmp 6) (.tmp 28) 125 rfl rfl g6 ev rfl rfl 125 _ HN7.out (by rw [size_entry, HEV.out.size.1]) (by rw [HEV.out.size.1]; rfl) HEV.out.size.2 ?_
   simp only [pu11, Act.put, sA, sZ, sS]
   have hk8 : Kept (fun b => b ≠ g6) w7 (w7.setRow g6 ev) := (Kept.refl _ _).setRow (fun h => h rfl) ev
   have hS8 : Kept (fun b => ((X b ∨ (w.heap.size ≤ b ∧ b < w5.heap.size)) ∨ B.own b) ∧ b ≠ w.heap.size + 1 + 1) w5 (w7.setRow g6 ev) := hė.trans hk8 (fun b h => by have := HYL.out b h.1; have := HZ6.out; omega)
   have HE8 := hI (HE7.out.kept hk8 (by have := HYL.out _ HYE.out; have := HZ6.out; omega))
   refine hK.out _ _ (fun _ => hS8) (fun hė => ?_)
   replace hė := hė (by decide)
   clear hK K hk8 hS8
   refine Tillst.one (i := 12) (o := pu12) (by kernel_rfl) rfl ?_
   intro K hK
   have e8 : (w7.setRow g6 ev).cell? ⟨w.heap.size + 1 + 1, 0, none⟩ = some (.int .i64 0) := HE8.out.cell 0
   have e9 := HE8.out.frozen 0
   go_simp
   clear e8 e9
   have hS9 : Kept (fun b => ((X b ∨ (w.heap.size ≤ b ∧ b < w5.heap.size)) ∨ B.own b) ∧ b ≠ w.heap.size + 1 + 1) w5 ((w7.setRow g6 ev).setCell ⟨w.heap.size + 1 + 1, 0, none⟩ (.int .i64 0)) := hė.setCell (p := ⟨w.heap.size + 1 + 1, 0, none⟩) (fun h => h.2 rfl) _
   refine hK.out _ _ (fun _ => hS9) (fun hė => ?_)
   clear hK K hS9
   refine Tillst.done (by kernel_rfl) ?_ _
   refine hKK _ _ (Met.intro (hJ _ _ ?_))
   (repeat apply Exists.intro)
   exact ⟨ElkC.fin HYL.out HYE.out HZ6.out (fun b h => .inl h) (.inr ⟨nR _, HZ7.out⟩) HL7.out HK6.out HKP7.out HN7.out HE7.out HEV.out, rfl⟩
 case rest =>
  obtain ⟨g6, k6, ev, rfl, hg6, hl6, hk6, hkp6, hen6, hbe6, hev⟩ := hcut
  have HOL := hI (show ∀ b, B.own b → b < w.heap.size from fun b hb => HM0.out.own_lt hb)
  have hw45 := HB1.out.size
  have hw55 := HB4.out.size
  have hM6 : StoM2 wc (fun b => (X b ∨ (w.heap.size ≤ b ∧ b < w5.heap.size)) ∨ b = g6) { B with t := B.t, k := k6, pe := B.pe } slots s xs st bl false :=
   HM4.out.logTo2 hkp6 (fun b hb => ⟨.inr hb, by have := HOL.out b hb; omega⟩) (fun b hb => .inl hb) (fun b hb hx => by
    have h1 := HOL.out b hb
    rcases hx with hx | hx
    ·exact HM4.out.off b hb hx
    ·omega) (fun b hb => by
    rcases hb with hb | hb
    ·exact nL (HM4.out.lt b hb) hkp6.size
    ·rw [hb]; exact hen6.lt) (hl6.less (fun b hb => by
    rcases hb with (h | h) | h
    ·exact .inl (.inl h)
    ·exact .inr h
    ·exact .inl (.inr h))) rfl (HM4.out.inv.held hk6)
  have h1 := HS4.out.lt
  have h2 := HI4.out.lt
  have h3 := HE4.out.lt
  have h4 := HR4.out.lt
  have h5 := HZ1.out
  have h6 := HZ2.out
  have HS6 := hI (HS4.out.kept hkp6 ⟨.inl (.inr ⟨by omega, by omega⟩), by omega⟩)
  have HI6 := hI (HI4.out.kept hkp6 ⟨.inl (.inr ⟨by omega, by omega⟩), by omega⟩)
  have HR6 := hI (HR4.out.kept hkp6 ⟨.inl (.inr ⟨by omega, by omega⟩), by omega⟩)
  have HKX6 := hI (show Kept X w wc from (Kept.of_below (HB1.out.trans (HB4.out.mono HB1.out.size)) HM0.out.lt).trans hkp6 (fun b hb => ⟨.inl (.inl hb), by have := HM0.out.lt b hb; omega⟩))
  have HM6 := hI hM6
  have HEN6 := hI hen6
  have HBE6 := hI hbe6
  have HEV := hI hev
  have HH6 := hI hk6
  have HG6 := hI hg6
  have HSZ6 := hI hkp6.size
  have HBL := hI (show w.heap.size + 3 ≤ w2.heap.size ∧ w2.heap.size < w5.heap.size by omega)
  clear hM6 hen6 hbe6 hev hk6 hg6 hkp6 hl6 h1 h2 h3 h4 h5 h6 hw45 hw55 HS4 HI4 HE4 HR4 HS1 HI1 HE1 HR3
  have e0 : wc.cell? ⟨w.heap.size + 1 + 1, 0, none⟩ = some (.int .i64 0) := HBE6.out.cell 0
  go_upto_region 11 with fail
  clear e0
  go_cut [34] from 35 to 46 (fun t wx => t = .bool (fullS st us slots) ∧ Kept (fun _ => True) wc wx)
  case first J KK hJ hKK =>
   by_cases hno : hasS st us = none
   case neg =>
    have hf : fullS st us slots = false := by
     cases h : fullS st us slots with
     | false => rfl
     | true => exact absurd (full_iff.1 h).1 hno
    have n0 : wc.cell? ⟨g6, 0, none⟩ = some (.bool true) := by
     rcases HEV.out with ⟨h, _⟩ | ⟨q, b1, b2, _, h⟩
     ·exact absurd h hno
     ·have h9 := HEN6.out
      rw [h] at h9
      exact h9.cell 0
    go_wp2_with fail
    go_meet
    case rel => exact ⟨by rw [hf], Kept.refl _ _⟩
   case pos =>
    have hev0 : ev = ent0C := by
     rcases HEV.out with ⟨_, h⟩ | ⟨q, b1, b2, h, _⟩
     ·exact h
     ·rw [hno] at h; cases h
    subst hev0
    have s0 : wc.cell? ⟨w.heap.size, 0, none⟩ = some (.pointer (some ⟨B.q, 0, none⟩)) := HS6.out.cell 0
    have n0 : wc.cell? ⟨g6, 0, none⟩ = some (.bool false) := HEN6.out.cell 0
    have q1 : wc.cell? ⟨B.q, 1, none⟩ = some (.pointer (some ⟨B.x, 0, none⟩)) := HM6.out.cells.2.1
    have HLF := hI (left_s14 HM6.out)
    by_cases hfl : st.length = slots
    ·have hd : ((slots : Int) - (st.length : Nat) == 0) = true := by
      rw [hfl]; simp
     have hf : fullS st us slots = true := full_iff.2 ⟨hno, hfl⟩
     have HF := hI hf
     clear hno hfl hf
     go_wp2_with fail
     refine HLF.out.mono ?_
     rintro e w6 ⟨rfl, hk⟩
     have HK9 := hI hk
     clear hk HLF
     go_wp2_with fail
     go_meet
     case rel => exact ⟨by rw [HF.out], HK9.out⟩
    ·have hd : ((slots : Int) - (st.length : Nat) == 0) = false := by
      have : (slots : Int) - (st.length : Nat) ≠ 0 := by omega
      simpa using this
     have hf : fullS st us slots = false := by
      cases h : fullS st us slots with
      | false => rfl
      | true => exact absurd (full_iff.1 h).2 hfl
     have HF := hI hf
     clear hno hfl hf
     go_wp2_with fail
     refine HLF.out.mono ?_
     rintro e w6 ⟨rfl, hk⟩
     have HK9 := hI hk
     clear hk HLF
     go_wp2_with fail
     go_meet
     case rel => exact ⟨by rw [HF.out], HK9.out⟩
  case rest =>
   obtain ⟨rfl, hkw⟩ := hcut
   have HM7 := hI (HM6.out.offX hkw (fun _ _ _ => trivial))
   have HS7 := hI (HS6.out.kept hkw trivial)
   have HI7 := hI (HI6.out.kept hkw trivial)
   have HR7 := hI (HR6.out.kept hkw trivial)
   have HEN7 := hI (HEN6.out.kept hkw trivial)
   have HBE7 := hI (HBE6.out.kept hkw trivial)
   have HKX7 := hI (HKX6.out.trans hkw (fun _ _ => trivial))
   have HSZ7 := hI (nT HSZ6.out hkw.size)
   clear hkw HM6 HS6 HI6 HR6 HEN6 HBE6 HKX6 HSZ6
   have e0 : wc.cell? ⟨w.heap.size + 1 + 1, 0, none⟩ = some (.int .i64 0) := HBE7.out.cell 0
   have e9 := HBE7.out.frozen 0
   cases hf : fullS st us slots with
   | true =>
    have HF := hI hf
    clear hf
    go_wp2_with fail
    clear e0 e9
    have hkb : Kept (fun b => b ≠ w.heap.size + 1 + 1) wc (wc.setCell ⟨w.heap.size + 1 + 1, 0, none⟩ (.int .i64 6)) := (Kept.refl _ _).setCell (p := ⟨w.heap.size + 1 + 1, 0, none⟩) (fun h => h rfl) _
    have hbx := HBL.out
    refine ⟨.int .i64 6, ?_, HKX7.out.trans hkb (fun b hb => by have := HM0.out.lt b hb; omega), .inl ⟨?_, rfl, k6, ?_, HH6.out⟩⟩
    ·have c6 : (wc.setCell ⟨w.heap.size + 1 + 1, 0, none⟩ (.int .i64 6)).cell? ⟨w.heap.size + 1 + 1, 0, none⟩ = some (.int .i64 6) := (HBE7.out.set_ 0 (.int .i64 6)).cell 0
     simp [results, Tryz.f14, go_sem, c6]
    ·rw [HKEY.out]; exact HF.out
    ·exact (HM7.out.offX hkb (fun b hb hn => fun e => hn (.inl (.inr ⟨by omega, by omega⟩)))).less (fun b hb => .inl (.inl hb))
   | false =>
    have HF := hI hf
    have hmf : ∀ (fn : Fn) (first cap : Array Value) (w : World), (Instr.makeFunc fn first cap).run Tryz.prog w = .ok (.func fn first cap) w := fun _ _ _ _ => rfl
    clear hf
    obtain ⟨w8, hw8⟩ : ∃ w8, w8 = wc.alloc (.cells #[.int .i64 0, .int .u64 0, .int .i64 0] 67) := ⟨_, rfl⟩
    have hal : Below wc.heap.size wc w8 := by rw [hw8]; exact (Below.refl _ wc).alloc (nR _) _
    have HA8 := hI (show Blk w8 wc.heap.size 67 #[.int .i64 0, .int .u64 0, .int .i64 0] by rw [hw8]; exact Blk.new wc _ _)
    have HM8 := hI (HM7.out.grow hal)
    have HS8 := hI (HS7.out.below hal HS7.out.lt)
    have HI8 := hI (HI7.out.below hal HI7.out.lt)
    have HR8 := hI (HR7.out.below hal HR7.out.lt)
    have HEN8 := hI (HEN7.out.below hal HEN7.out.lt)
    have HBE8 := hI (HBE7.out.below hal HBE7.out.lt)
    have HKX8 := hI (HKX7.out.trans (Kept.of_below (S := X) hal (fun b hb => nL (HM0.out.lt b hb) HKX7.out.size)) (fun b h => h))
    have HZ8 := hI (show wc.heap.size < w8.heap.size by rw [hw8]; simp)
    have HGG := hI HEN7.out.lt
    have HW8 := hI hw8
    clear hal hw8 HM7 HS7 HI7 HR7 HEN7 HBE7 HKX7
    go_upto_region 15 with fail
    rw [← HW8.out]
    clear e0 e9 HW8
    obtain ⟨X8, hX8⟩ : ∃ X8 : Nat → Prop, (fun b => ((X b ∨ (w.heap.size ≤ b ∧ b < w5.heap.size)) ∨ b = g6) ∨ (wc.heap.size ≤ b ∧ b < w8.heap.size)) = X8 := ⟨_, rfl⟩
    rw [hX8] at HM8
    have hx0 : ∀ b, X b → X8 b := fun b hb => by rw [← hX8]; exact .inl (.inl (.inl hb))
    have hbl := HBL.out
    have hz1 := HZ1.out
    have hz8 := HZ8.out
    have hz7 := HSZ7.out
    have HIN := hI (show X8 w.heap.size ∧ X8 (w.heap.size + 1) ∧ X8 (w.heap.size + 1 + 1) ∧ X8 w2.heap.size ∧ X8 g6 ∧ X8 wc.heap.size by
     rw [← hX8]
     exact ⟨.inl (.inl (.inr ⟨by omega, by omega⟩)), .inl (.inl (.inr ⟨by omega, by omega⟩)), .inl (.inl (.inr ⟨by omega, by omega⟩)), .inl (.inl (.inr ⟨by omega, by omega⟩)), .inl (.inr rfl), .inr ⟨by omega, by omega⟩⟩)
    have HX0 := hI hx0
    have HQL := hI (show B.q < w.heap.size from HOL.out _ (.inl rfl))
    clear hX8 hx0 hbl hz1 hz8 hz7
    have HSS := hI (show ∀ W, Kept (fun b => (X8 b ∨ B.own b) ∧ b ≠ w.heap.size + 1 + 1 ∧ b ≠ wc.heap.size) w8 W → W.cell? ⟨w.heap.size, 0, none⟩ = some (.pointer (some ⟨B.q, 0, none⟩)) ∧ W.cell? ⟨B.q, 0, none⟩ = some (.pointer (some ⟨B.l, 0, none⟩)) ∧ Blk W w2.heap.size 69 #[.int .i64 1, .int .u32 f0, .int .u32 x0, .int .u64 q0, .slice A m c, .slice A2 n2 c2] from fun W hW => by
     obtain ⟨q0, q1, _, _⟩ := HM8.out.cells
     obtain ⟨i1, i2, i3, i4, i5, i6⟩ := HIN.out
     have h3 := HQL.out
     have hbl := HBL.out
     have hz7 := HSZ7.out
     exact ⟨(HS8.out.kept hW ⟨.inl i1, by omega, by omega⟩).cell 0, (hW.cell (p := ⟨B.q, 0, none⟩) ⟨.inr (.inl rfl), (by omega : B.q ≠ _), (by omega : B.q ≠ _)⟩).trans q0, HR8.out.kept hW ⟨.inl i4, by omega, by omega⟩⟩)
    have HRK := hI (HK.out.kept HKX8.out (fun b hb => hb))
    have HRV := hI (HV.out.kept HKX8.out (fun b hb => hb))
    have HYL := hI (HM8.out.ylt)
    refine wp_region_noPanic ?_
    refine Tillst.region (fun W => Kept (fun b => (X8 b ∨ B.own b) ∧ b ≠ w.heap.size + 1 + 1 ∧ b ≠ wc.heap.size) w8 W) [] (by kernel_rfl) ((Kept.refl _ _).drew) (fun hė => ?_)
    have hdr := (Below.refl w8.heap.size w8).drew
    have HAP := hI (append_at (HM8.out.below hdr).log (HM8.out.below hdr).ylt HPE.out.1 HPE.out.2 (c1 := c) (c2 := c2) HMAY.out HRNG.out
     ((HRK.out.below hdr (fun b hb => HM8.out.lt b (HX0.out b hb))).more (fun b hb => HM8.out.lt b (HX0.out b hb))) ((HRV.out.below hdr (fun b hb => HM8.out.lt b (HX0.out b hb))).more (fun b hb => HM8.out.lt b (HX0.out b hb))) HNC.out.1 HNC.out.2 HBY.out.1 HBY.out.2)
    clear hdr
    refine Tillst.tk 0 pw0 (v := ?_) rfl (by kernel_rfl) (by rfl) ?_ hė ?_
    rotate_left
    ·intro W hSW; have h9 := (HSS.out W hSW).1; clear hSW; unfold pw0; go_simp; with_reducible rfl
    simp only [pw0, Act.put, sA, sZ, sS]
    refine Tillst.tk 1 pw1 (v := ?_) rfl (by kernel_rfl) (by rfl) ?_ hė ?_
    rotate_left
    ·intro W hSW; (try dsimp only at hSW); unfold pw1; go_simp; with_reducible rfl
    simp only [pw1, Act.put, sA, sZ, sS]
    refine Tillst.tk 2 pw2 (v := ?_) rfl (by kernel_rfl) (by rfl) ?_ hė ?_
    rotate_left
    ·intro W hSW; (try dsimp only at hSW); unfold pw2; go_simp; with_reducible rfl
    simp only [pw2, Act.put, sA, sZ, sS]
    refine Tillst.tk 3 pw3 (v := ?_) rfl (by kernel_rfl) (by rfl) ?_ hė ?_
    rotate_left
    ·intro W hSW; (try dsimp only at hSW); unfold pw3; go_simp; with_reducible rfl
    simp only [pw3, Act.put, sA, sZ, sS]
    refine Tillst.tk 4 pw4 (v := ?_) rfl (by kernel_rfl) (by rfl) ?_ hė ?_
    rotate_left
    ·intro W hSW; have h9 := (HSS.out W hSW).2.1; clear hSW; unfold pw4; go_simp; with_reducible rfl
    simp only [pw4, Act.put, sA, sZ, sS]
    refine Tillst.tk 5 pw5 (v := .agg #[.int .i64 1, .int .u32 f0, .int .u32 x0, .int .u64 q0, .slice A m c, .slice A2 n2 c2]) rfl (by kernel_rfl) (by rfl) ?_ hė ?_
    ·intro W hSW; exact row_runs (.tmp 5) 69 rfl w2.heap.size rfl 69 [.int .i64 1, .int .u32 f0, .int .u32 x0, .int .u64 q0, .slice A m c, .slice A2 n2 c2] _ Tryz.underlying69 rfl size_rec (HSS.out W hSW).2.2
    simp only [pw5, Act.put, sA, sZ, sS]
    refine Tillst.one (i := 6) (o := pw6) (by kernel_rfl) rfl ?_
    intro K hK
    refine step_call 62 #[.tmp 53, .tmp 54] #[25, 69] rfl rfl Tryz.func62 rfl rfl [.pointer (some ⟨B.l, 0, none⟩), .agg #[.int .i64 1, .int .u32 f0, .int .u32 x0, .int .u64 q0, .slice A m c, .slice A2 n2 c2]] rfl (HAP.out.mono ?_)
    intro e w9 hap
    obtain ⟨a, er, s1, xs1, t1, k1, pe1, rfl, hk9, hl9, hcase⟩ := hap.told
    refine ⟨_, rfl, ?_⟩
    simp only [pw6, Act.put, sA, sZ, sS]
    have hS9 : Kept (fun b => (X8 b ∨ B.own b) ∧ b ≠ w.heap.size + 1 + 1 ∧ b ≠ wc.heap.size) w8 w9 := hė.trans hk9 (fun b h => h.1)
    have HK9 := hI (((Kept.refl (fun b => X8 b ∨ B.own b) w8).drew).trans hk9 (fun b h => h))
    have HL9 := hI hl9
    have HC := hI hcase
    have HA9 := hI (HA8.out.kept HK9.out (.inl HIN.out.2.2.2.2.2))
    have HE9 := hI (HBE8.out.kept HK9.out (.inl HIN.out.2.2.1))
    clear hap hk9 hl9 hcase HAP hė
    refine hK.out _ _ (fun _ => hS9) (fun hė => ?_)
    replace hė := hė (by decide)
    clear hK K hS9
    refine Tillst.tk 7 pw7 (v := ?_) rfl (by kernel_rfl) (by rfl) ?_ hė ?_
    rotate_left
    ·intro W hSW; (try dsimp only at hSW); unfold pw7; go_simp; with_reducible rfl
    simp only [pw7, Act.put, sA, sZ, sS]
    refine Tillst.tk 8 pw8 (v := ?_) rfl (by kernel_rfl) (by rfl) ?_ hė ?_
    rotate_left
    ·intro W hSW; (try dsimp only at hSW); unfold pw8; go_simp; with_reducible rfl
    simp only [pw8, Act.put, sA, sZ, sS]
    refine Tillst.tk 9 pw9 (v := ?_) rfl (by kernel_rfl) (by rfl) ?_ hė ?_
    rotate_left
    ·intro W hSW; (try dsimp only at hSW); unfold pw9; go_simp; with_reducible rfl
    simp only [pw9, Act.put, sA, sZ, sS]
    refine Tillst.one (i := 10) (o := pw10) (by kernel_rfl) rfl ?_
    intro K hK
    refine step_store14 (.tmp 7) (.tmp 56) 67 rfl rfl wc.heap.size #[.int .i64 a.1, .int .u64 a.2.1, .int .i64 a.2.2] rfl rfl 67 _ HA9.out size_addr rfl (by simp [Value.oneCell']) ?_
    simp only [pw10, Act.put, sA, sZ, sS]
    have hk10 : Kept (fun b => b ≠ wc.heap.size) w9 (w9.setRow wc.heap.size #[.int .i64 a.1, .int .u64 a.2.1, .int .i64 a.2.2]) := (Kept.refl _ _).setRow (fun h => h rfl) _
    have hS10 : Kept (fun b => (X8 b ∨ B.own b) ∧ b ≠ w.heap.size + 1 + 1 ∧ b ≠ wc.heap.size) w8 (w9.setRow wc.heap.size #[.int .i64 a.1, .int .u64 a.2.1, .int .i64 a.2.2]) := hė.trans hk10 (fun b h => h.2.2)
    have hcb : wc.heap.size ≠ w.heap.size + 1 + 1 := by have := HBL.out; have := HSZ7.out; omega
    have HE10 := hI (HE9.out.kept hk10 (Ne.symm hcb))
    have HA10 := hI (setRow_heap _ _ _ #[.int .i64 a.1, .int .u64 a.2.1, .int .i64 a.2.2] _ _ HA9.out)
    have HK10 := hI hk10
    obtain ⟨w10, hw10⟩ : ∃ w10, w10 = w9.setRow wc.heap.size #[.int .i64 a.1, .int .u64 a.2.1, .int .i64 a.2.2] := ⟨_, rfl⟩
    rw [← hw10] at HE10 HA10 HK10 hS10 ⊢
    clear hk10 hw10
    refine hK.out _ _ (fun _ => hS10) (fun hė => ?_)
    replace hė := hė (by decide)
    clear hK K hS10
    refine Tillst.one (i := 11) (o := pw11) (by kernel_rfl) rfl ?_
    intro K hK
    have e8 : w10.cell? ⟨w.heap.size + 1 + 1, 0, none⟩ = some (.int .i64 0) := HE10.out.cell 0
    have e9 := HE10.out.frozen 0
    go_simp
    clear e8 e9
    have hS11 : Kept (fun b => (X8 b ∨ B.own b) ∧ b ≠ w.heap.size + 1 + 1 ∧ b ≠ wc.heap.size) w8 (w10.setCell ⟨w.heap.size + 1 + 1, 0, none⟩ (.int .i64 er)) := hė.setCell (p := ⟨w.heap.size + 1 + 1, 0, none⟩) (fun h => h.2.1 rfl) _
    refine hK.out _ _ (fun _ => hS11) (fun hė => ?_)
    clear hK K hS11
    refine Tillst.done (by kernel_rfl) ?_ _
    refine NoPanic.normal ?_
    obtain ⟨w11, hw11⟩ : ∃ w11, w11 = w10.setCell ⟨w.heap.size + 1 + 1, 0, none⟩ (.int .i64 er) := ⟨_, rfl⟩
    have HE11 := hI (show Blk w11 (w.heap.size + 1 + 1) 29 #[.int .i64 er] by rw [hw11]; exact HE10.out.set_ 0 (.int .i64 er))
    have HA11 := hI (show Blk w11 wc.heap.size 67 #[.int .i64 a.1, .int .u64 a.2.1, .int .i64 a.2.2] by rw [hw11]; exact Blk.far HA10.out (p := ⟨w.heap.size + 1 + 1, 0, none⟩) hcb _)
    have HK11 := hI (show Kept (fun b => b ≠ wc.heap.size ∧ b ≠ w.heap.size + 1 + 1) w9 w11 by rw [hw11]; exact (HK10.out.mono (fun b h => h.1)).setCell (p := ⟨w.heap.size + 1 + 1, 0, none⟩) (fun h => h.2 rfl) _)
    rw [← hw11]
    clear hw11 HE10 HA10 HK10 HE9 HA9
    have e8 : w11.cell? ⟨w.heap.size + 1 + 1, 0, none⟩ = some (.int .i64 er) := HE11.out.cell 0
    have e9 := HE11.out.frozen 0
    go_wp2_with fail
    clear e8 e9
    obtain ⟨w12, hw12⟩ : ∃ w12, w12 = w11.setCell ⟨w.heap.size + 1 + 1, 0, none⟩ (.int .i64 er) := ⟨_, rfl⟩
    have HE12 := hI (show Blk w12 (w.heap.size + 1 + 1) 29 #[.int .i64 er] by rw [hw12]; exact HE11.out.set_ 0 (.int .i64 er))
    have hcb : wc.heap.size ≠ w.heap.size + 1 + 1 := by have := HBL.out; have := HSZ7.out; omega
    have HA12 := hI (show Blk w12 wc.heap.size 67 #[.int .i64 a.1, .int .u64 a.2.1, .int .i64 a.2.2] by rw [hw12]; exact Blk.far HA11.out (p := ⟨w.heap.size + 1 + 1, 0, none⟩) hcb _)
    have HK12 := hI (show Kept (fun b => b ≠ wc.heap.size ∧ b ≠ w.heap.size + 1 + 1) w9 w12 by rw [hw12]; exact HK11.out.setCell (p := ⟨w.heap.size + 1 + 1, 0, none⟩) (fun h => h.2 rfl) _)
    rw [← hw12]
    clear hw12 HE11 HA11 HK11
    have hbl := HBL.out
    have hz7 := HSZ7.out
    have hgg := HGG.out
    have hg6 := HG6.out
    obtain ⟨i1, i2, i3, i4, i5, i6⟩ := HIN.out
    have hk812 : Kept (fun b => (X8 b ∨ B.own b) ∧ b ≠ wc.heap.size ∧ b ≠ w.heap.size + 1 + 1) w8 w12 := (HK9.out.mono (fun b h => h.1)).trans HK12.out (fun b h => h.2)
    have HS12 := hI (HS8.out.kept hk812 ⟨.inl i1, by omega, by omega⟩)
    have HI12 := hI (HI8.out.kept hk812 ⟨.inl i2, by omega, by omega⟩)
    have HEN12 := hI (HEN8.out.kept hk812 ⟨.inl i5, by omega, by omega⟩)
    have hkx : Kept X w w12 := HKX8.out.trans hk812 (fun b hb => ⟨.inl (HX0.out b hb), by have := HM0.out.lt b hb; omega, by have := HM0.out.lt b hb; omega⟩)
    have hl12 := HL9.out.off HK12.out (fun b _ hn => ⟨fun e => hn (.inl (e ▸ i6)), fun e => hn (.inl (e ▸ i3))⟩)
    have hdim : xs1.length = xs.length := by
     have h1 := hl12.dims
     have h2 := HM8.out.log.dims
     rcases HC.out with ⟨_, _, e, _⟩ | ⟨_, _, _, _, _, e | e, _⟩
     ·rw [e] at h1; omega
     ·rw [e] at h1; omega
     ·rw [e] at h1
      have h3 : (genS s).a = s.a := rfl
      omega
    refine leaves_cons (f := 59) (args := #[.pointer (some ⟨w.heap.size + 1 + 1, 0, none⟩), .pointer (some ⟨w.heap.size, 0, none⟩), .pointer (some ⟨w.heap.size + 1, 0, none⟩), .pointer (some ⟨g6, 0, none⟩), .pointer (some ⟨wc.heap.size, 0, none⟩)]) (by simp) (by simp [go_sem]) ?_
    rcases HC.out with ⟨hno, rfl, rfl, rfl, rfl, rfl, rfl⟩ | ⟨i, ys, hsome, rfl, ha, hs1, hxs, hpe1, hat, hall⟩
    ·refine (putD_no _ _ _ _ HE12.out (by decide)).mono ?_
     rintro e u' w13 ⟨rfl, rfl, rfl⟩
     have hm := HM8.out.logTo2 hk812 (fun b hb => ⟨.inr hb, by have := HOL.out b hb; omega, by have := HOL.out b hb; omega⟩) (fun b hb => hb) HM8.out.off (fun b hb => nL (HM8.out.lt b hb) hk812.size) hl12 rfl HM8.out.inv
     refine ⟨.int .i64 6, ?_, hkx, .inr (.inl ⟨?_, hno, rfl, _, hm.less HX0.out, HH6.out⟩)⟩
     ·have c6 : w13.cell? ⟨w.heap.size + 1 + 1, 0, none⟩ = some (.int .i64 6) := HE12.out.cell 0
      simp [results, Tryz.f14, go_sem, c6]
     ·rw [HKEY.out]; exact HF.out
    ·have hm := HM8.out.logTo2 hk812 (fun b hb => ⟨.inr hb, by have := HOL.out b hb; omega, by have := HOL.out b hb; omega⟩) (fun b hb => hb) HM8.out.off (fun b hb => nL (HM8.out.lt b hb) hk812.size) hl12 hdim (HM8.out.inv.go (fun a' bs' h => (hall a' bs' h).1))
     have hil : i < bl.length := by
      obtain ⟨_, j, cc, e, h2, _⟩ := hat
      rw [ha] at e
      injection e with e1 _
      have := HM8.out.num
      omega
     have hfr : ∀ p, p ∈ st → p.1 ≠ a := fun p hp => (hall _ _ (HM8.out.inv.here p hp)).2
     have hsl : (outS st us).length ≠ slots := by
      have h9 := HM8.out.ix.len
      unfold esS at h9
      rw [List.length_map] at h9
      by_cases hh : hasS st us = none
      ·rw [out_none hh]
       intro e
       have := full_iff.2 ⟨hh, e⟩
       rw [HF.out] at this
       cases this
      ·have := out_lt hh
       omega
     rw [ha] at hat hfr
     have hA12 : Blk w12 wc.heap.size 67 #[.int .i64 (i : Int), .int .u64 (genG ys i), .int .i64 (usedG ys i)] := by
      have h9 := HA12.out
      rw [ha] at h9
      exact h9
     have hrow : RowI .u8 w12 X8 A m (keyOf (recB 1 f0 x0 q0 us vs)) := by
      rw [HKEY.out]
      exact (HK.out.kept hkx (fun b hb => hb)).more HX0.out
     refine (putD_ok (c := c) hm (by rw [HKEY.out]; exact HEV.out) HE12.out HS12.out HI12.out HEN12.out hA12 ⟨i1, i2, i6⟩ hil hrow (by rw [HKEY.out]; exact HBY.out.1) (by have := HM.out; omega) hat hfr HKIND.out (by rw [HKEY.out]; exact hsl)).mono ?_
     rintro e u' w13 ⟨rfl, rfl, hm13, hk13⟩
     subst hxs hpe1
     have hown : ∀ b, X8 b → b < w12.heap.size ∧ ¬ B.own b := fun b hb => ⟨nL (HM8.out.lt b hb) hk812.size, fun e => HM8.out.off b e hb⟩
     refine ⟨.int .i64 0, ?_, hkx.trans hk13 (fun b hb => hown b (HX0.out b hb)), .inr (.inr ⟨?_, i, s1, ys, t1, k1, hsome, hs1, rfl, hm13.less HX0.out⟩)⟩
     ·have c6 : w13.cell? ⟨w.heap.size + 1 + 1, 0, none⟩ = some (.int .i64 0) := (HE12.out.kept hk13 (hown _ i3)).cell 0
      simp [results, Tryz.f14, go_sem, c6]
     ·rw [HKEY.out]; exact HF.out
end
end
section
open Go.RowKit
attribute [local go_sem] Oper.semAt_some
def zeroIx (n : Int) : List Value := [.int .i64 n, .int .i64 0] ++ (List.replicate 1025 (.int .u32 0) ++ ((List.replicate 1025 [Value.int .i64 0, Value.int .u64 0, Value.int .i64 0]).flatten ++ List.replicate 4100 (.int .i64 0)))
theorem zero_info : (Tryz.prog.info? 208).bind (·.zero) = some (.agg (zeroIx 0).toArray) := by kernel_rfl
theorem flat3 (a b d : Value) : ∀ (m j : Nat), j < m * 3 → ((List.replicate m [a, b, d]).flatten)[j]? = [a, b, d][j % 3]?
 | 0, j, h => by omega
 | m + 1, j, h => by
  rw [List.replicate_succ, List.flatten_cons]
  by_cases h3 : j < 3
  ·rw [List.getElem?_append_left (by simpa using h3), Nat.mod_eq_of_lt h3]
  ·rw [List.getElem?_append_right (by simp; omega), show j - [a, b, d].length = j - 3 from rfl, flat3 a b d m (j - 3) (by omega)]
   rw [show (j - 3) % 3 = j % 3 by omega]
theorem zero_cells (n : Int) : (zeroIx n).toArray = cellsX (upd (fun _ => 0) 0 n) := by
 apply Array.ext'
 apply List.ext_getElem?
 intro i
 have hflat : ((List.replicate 1025 [Value.int .i64 0, Value.int .u64 0, Value.int .i64 0]).flatten).length = 3075 := by
  rw [List.length_flatten, List.map_replicate, List.sum_replicate_nat]; rfl
 by_cases hi : i < 8202
 ·have hr : (cellsX (upd (fun _ => 0) 0 n)).toList[i]? = some (.int (kindX i) (upd (fun _ => 0) 0 n i)) := by rw [Array.getElem?_toList]; exact cellsX_get _ hi
  rw [hr]
  show (zeroIx n)[i]? = _
  unfold zeroIx
  by_cases h0 : i < 2
  ·rw [List.getElem?_append_left (by simpa using h0), kind_lo h0]
   obtain rfl | rfl : i = 0 ∨ i = 1 := by omega
   ·rw [upd_same]; rfl
   ·rw [upd_far _ _ (by omega)]; rfl
  ·rw [upd_far _ _ (by omega), List.getElem?_append_right (by simp; omega)]
   rw [show i - [Value.int .i64 n, Value.int .i64 0].length = i - 2 from rfl]
   by_cases h1 : i < 1027
   ·rw [List.getElem?_append_left (by rw [List.length_replicate]; omega), List.getElem?_replicate, if_pos (by omega)]
    obtain ⟨j, rfl⟩ : ∃ j, i = 2 + j := ⟨i - 2, by omega⟩
    rw [kind_fing (by omega)]
   ·rw [List.getElem?_append_right (by rw [List.length_replicate]; omega), List.length_replicate]
    by_cases h2 : i < 4102
    ·rw [List.getElem?_append_left (by rw [hflat]; omega), flat3 _ _ _ _ _ (by omega)]
     obtain ⟨j, t, ht, rfl⟩ : ∃ j t, t < 3 ∧ i = 1027 + j * 3 + t := ⟨(i - 1027) / 3, (i - 1027) % 3, by omega, by omega⟩
     rw [show (1027 + j * 3 + t - 2 - 1025) % 3 = t by omega]
     obtain rfl | rfl | rfl : t = 0 ∨ t = 1 ∨ t = 2 := by omega
     ·rw [Nat.add_zero, kind_adr0 (by omega)]; rfl
     ·rw [kind_adr1 (by omega)]; rfl
     ·rw [kind_adr2 (by omega)]; rfl
    ·rw [List.getElem?_append_right (by rw [hflat]; omega), hflat, List.getElem?_replicate, if_pos (by omega), kind_hi (by omega)]
 ·rw [List.getElem?_eq_none, List.getElem?_eq_none]
  ·rw [Array.length_toList, cellsX_size]; omega
  ·show (zeroIx n).length ≤ i
   unfold zeroIx
   rw [List.length_append, List.length_append, List.length_append, hflat, List.length_replicate, List.length_replicate]
   simp; omega
theorem zero_run (w : World) : (zeroValue 208).run Tryz.prog w = .ok (.agg (cellsX (fun _ => 0))) w := by
 have h := zero_info
 rw [zero_cells, show upd (fun _ => (0 : Int)) 0 0 = (fun _ => 0) by funext j; unfold upd; split <;> rfl] at h
 cases hi : Tryz.prog.info? 208 with
 | none => rw [hi] at h; cases h
 | some i =>
  rw [hi] at h
  have h2 : i.zero = some (.agg (cellsX (fun _ => 0))) := h
  simp [zeroValue, typeInfo, hi, h2]
structure NewI (c : Nat → Int) (n i : Nat) : Prop where
 lk : Lk 4102 c (c 6151) (List.range' (n - i + 1) i)
 rest : ∀ j, (j < 4102 ∨ 5127 ≤ j) → j ≠ 6151 → c j = upd (fun _ => 0) 0 n j
theorem NewI.start (n : Nat) : NewI (upd (fun _ => 0) 0 n) n 0 := ⟨by rw [upd_far _ _ (by omega)]; exact rfl, fun _ _ _ => rfl⟩
theorem NewI.next {c : Nat → Int} {n i : Nat} (h : NewI c n i) (hn : n ≤ 1024) (hi : i < n) : NewI (upd (upd c (4102 + (n - i)) (c 6151)) 6151 ((n - i : Nat) : Int)) n (i + 1) := by
 have hp := Lk.push (b := 4102) (c := c) (k := n - i) (p := 6151) h.lk (by rw [List.mem_range']; rintro ⟨j, hj, e⟩; omega) (by omega) (by omega)
  (fun j hj => by obtain ⟨t, ht, e⟩ := List.mem_range'.1 hj; omega) (by omega)
 refine ⟨?_, fun j h1 h2 => ?_⟩
 ·rw [show n - (i + 1) + 1 = n - i by omega, show List.range' (n - i) (i + 1) = (n - i) :: List.range' (n - i + 1) i from rfl]
  exact hp
 ·rw [upd_far _ _ h2, upd_far _ _ (by omega)]
  exact h.rest j h1 h2
theorem NewI.done {c : Nat → Int} {n : Nat} (h : NewI c n n) (hn : n ≤ 1024) : RepX c n [] (List.range' 1 n) := by
 have hl := h.lk
 rw [show n - n + 1 = 1 by omega] at hl
 have hz : ∀ j, (j < 4102 ∨ 5127 ≤ j) → j ≠ 6151 → j ≠ 0 → c j = 0 := fun j h1 h2 h3 => by rw [h.rest j h1 h2, upd_far _ _ h3]
 constructor
 ·rw [h.rest 0 (by omega) (by omega), upd_same]
 ·rw [hz 1 (by omega) (by omega) (by omega)]; rfl
 ·exact hn
 ·rw [List.nil_append]; exact List.nodup_range'
 ·intro k hk
  rw [List.nil_append] at hk
  obtain ⟨j, hj, e⟩ := List.mem_range'.1 hk
  omega
 ·simp
 ·exact hl
 ·intro g hg
  exact hz _ (by omega) (by omega) (by omega)
 ·exact hz _ (by omega) (by omega) (by omega)
 ·exact hz _ (by omega) (by omega) (by omega)
 ·intro k hk; cases hk
 ·exact List.nodup_nil
theorem new_ok_x (n : Nat) (h1 : 1 ≤ n) (h2 : n ≤ 1024) (w : World) : Calls Tryz.prog 51 #[.int .i64 n] w fun e w' => ∃ x, e = .returned (.tuple #[.pointer (some ⟨x, 0, none⟩), .int .i64 0]) ∧ IxE w' x n [] ∧ Below w.heap.size w w' ∧ w.heap.size ≤ x := by
 have hb := zero_run
 have hst : (cellsX (fun _ => 0)).setIfInBounds 0 (.int .i64 n) = cellsX (upd (fun _ => 0) 0 n) := cellsX_set (i := 0) (fun _ => 0) (n : Int)
 obtain ⟨cz, hcz⟩ : ∃ cz, cz = cellsX (fun _ => 0) := ⟨_, rfl⟩
 have hne : (cz = #[]) = False := by rw [hcz]; exact eq_false (fun e => by have := congrArg Array.size e; rw [cellsX_size] at this; exact absurd this (by decide))
 rw [← hcz] at hb hst
 clear hcz
 have HI := hI (NewI.start n)
 obtain ⟨c0, hc0⟩ : ∃ c0 : Nat → Int, c0 = upd (fun _ => 0) 0 n := ⟨_, rfl⟩
 rw [← hc0] at hst HI
 clear hc0
 have q1 : ((n : Int) < 1) = False := by simp; omega
 have HX := hI (show IxM (w.alloc (.cells (cellsX c0) 208)) w.heap.size c0 from Blk.new w _ _)
 have HB := hI (show Below w.heap.size w (w.alloc (.cells (cellsX c0) 208)) from (Below.refl _ w).alloc (nR _) _)
 obtain ⟨cs, hcs⟩ : ∃ cs, cs = cellsX c0 := ⟨_, rfl⟩
 rw [← hcs] at hst HX HB
 clear hcs
 go_enter Tryz.func51, Tryz.ntmps51
 go_wp2_with fail
 generalize w.alloc (.cells cs 208) = w1 at *
 have hbs := HB.out.size
 go_loopw [16] (fun i wr => ∃ (k : Nat) (c : Nat → Int), i = .int .i64 k ∧ k ≤ n ∧ IxM wr w.heap.size c ∧ NewI c n k ∧ Below w.heap.size w wr)
  (fun i _ => n - (intOf i).toNat)
 case atStart => exact ⟨0, c0, rfl, Nat.zero_le _, HX.out, HI.out, HB.out⟩
 case round =>
  obtain ⟨k, c, rfl, hk, hX, hN, hB⟩ := hrel
  have HXR := hI hX
  have HNR := hI hN
  have HBR := hI hB
  clear hX hN hB
  by_cases hkn : k < n
  ·have e1 : ((n : Int) - k) = ((n - k : Nat) : Int) := by omega
   have HG := hI (give_back HXR.out (n - k) (by omega))
   have hnk : n - k ≤ 1024 := by omega
   obtain ⟨nk, hnk2⟩ : ∃ nk, nk = n - k := ⟨_, rfl⟩
   have HN2 := hI (HNR.out.next h2 hkn)
   rw [← hnk2] at e1 HG HN2 hnk
   have q2 : (k : Int) < n := by omega
   clear hnk2
   go_wp2_with fail
   refine HG.out.mono ?_
   rintro e w2 ⟨rfl, hx2, hk2⟩
   have HX2 := hI hx2
   have HB2 := hI (HBR.out.trans (hk2.to_below (fun b hb => by show b ≠ w.heap.size; omega)))
   clear hx2 hk2
   go_wp2_with fail
   go_roundw
   case rel => exact ⟨k + 1, _, by simp, by omega, HX2.out, HN2.out, HB2.out⟩
   case measure => show n - (Int.toNat ((k : Int) + 1)) < n - (Int.toNat (k : Int)); omega
  ·obtain rfl : n = k := by omega
   go_wp2_with fail
   (first | go_ret | go_ret2)
   exact ⟨_, rfl, ⟨c, [], _, HXR.out, HNR.out.done h2, rfl⟩, HBR.out, nR _⟩
end
section
open Go.RowKit
section
variable {w : World} {X : Nat → Prop} {l p d n m c : Nat} {s : Sup} {t : Int} {k : Dk} {sec : Int} {A : Option Addr} {xs : List Seg} {br : Bool}
theorem log_ring (h : LogM w X l p d n s t k sec A m c xs br) (hnil : A = none → c = 0) (hmc : m ≤ c) (hm : m ≤ 1000) :
 Calls Tryz.prog 52 #[.pointer (some ⟨l, 0, none⟩)] w fun e w' => (∃ A' c', e = .returned (ringV sec A' m c') ∧ OwnZ w' w.heap.size A' m c' xs) ∧ Below w.heap.size w w' := by
 have HB := hI ((Below.refl w.heap.size w).alloc (nR _) (.cells #[.int .i64 0, .slice none 0 0] 103))
 have HL := hI (h.below HB.out)
 have HK := hI (Blk.new w 103 #[.int .i64 0, .slice none 0 0])
 obtain ⟨_, c1, c2, _⟩ := log_cells HL.out
 have HC := hI (copied_ring HL.out.now hnil hmc hm sec)
 clear h
 go_enter Tryz.func52, Tryz.ntmps52
 go_wp2_with fail
 refine HC.out.mono ?_
 rintro e w3 ⟨⟨A', c', rfl, hown⟩, hb⟩
 have HK3 := hI (HK.out.below hb HK.out.lt)
 have HB3 := hI (HB.out.trans (hb.mono HB.out.size))
 have HO := hI (hown.base (m := w.heap.size + 1) (by simp))
 obtain ⟨f0, f1⟩ := And.intro (HK3.out.frozen 0) (HK3.out.frozen 1)
 obtain ⟨k0, k1⟩ := ring_cells HK3.out
 clear hb hown c1 c2
 go_wp2_with (with_reducible refine halt_end ?_)
 have hst := (HK3.out.set_ 0 (.int .i64 sec)).set_ 1 (.slice A' m c')
 have hown := (HO.out.far (p := ⟨w.heap.size, 0, none⟩) (by show w.heap.size < _; omega) (.int .i64 sec)).far (p := ⟨w.heap.size, 1, none⟩) (by show w.heap.size < _; omega) (.slice A' m c')
 have hbel := (HB3.out.setCell (p := ⟨w.heap.size, 0, none⟩) (nR _) (.int .i64 sec)).setCell (p := ⟨w.heap.size, 1, none⟩) (nR _) (.slice A' m c')
 exact Halt.ret (results_row1 (p := 2) rfl _ _ w.heap.size 103 #[.int .i64 sec, .slice A' m c'] _ rfl hst Tryz.underlying103 rfl size_ring) rfl ⟨⟨A', c', rfl, hown.base (by omega)⟩, hbel⟩
end
end
end Go.Proofs.YtknfblfnfoibkaaGreat
namespace Go.Proofs.YtknfblfnfoibkaaGreat.EntM
open Go.Proofs.YtknfblfnfoibkaaGreat
open Go.RowKit
abbrev ent0 : Ent := (0, 0, 0, 0)
abbrev entV (e : Ent) : List Value := [.int .u32 e.1, .int .i64 e.2.1, .int .u64 e.2.2.1, .int .i64 e.2.2.2]
theorem ones_ent (s : Ent) : ∀ v ∈ entV s, v.oneCell' = true := by
 intro v hv
 simp [entV] at hv
 rcases hv with rfl | rfl | rfl | rfl <;> rfl
abbrev RowE := RowQ entV 4 ent0
def flatG_x (L : List Ent) : List Value := L.flatMap entV
theorem flatG_length_x (L : List Ent) : (flatG_x L).length = L.length * 4 := by
 induction L with
 | nil => rfl
 | cons x r ih =>
  simp only [flatG_x, List.flatMap_cons, List.length_append, List.length_cons] at *
  rw [ih]
  simp only [entV, List.length_cons, List.length_nil]
  omega
theorem flatG_get_x : ∀ (L : List Ent) (t : Nat), t < L.length * 4 → (flatG_x L)[t]? = (entV (L.getD (t / 4) ent0))[t % 4]?
 | [], t, h => by simp at h
 | y :: L, t, h => by
  unfold flatG_x
  rw [List.flatMap_cons]
  by_cases h4 : t < 4
  ·rw [List.getElem?_append_left (by simpa using h4)]
   rw [show t / 4 = 0 by omega, show t % 4 = t by omega]
   rfl
  ·have e : t - (entV y).length = t - 4 := by simp
   rw [List.getElem?_append_right (by simp; omega), e]
   have ih := flatG_get_x L (t - 4) (by simp at h; omega)
   unfold flatG_x at ih
   rw [ih, show t / 4 = (t - 4) / 4 + 1 by omega, show t % 4 = (t - 4) % 4 by omega]
   rfl
theorem RowE_src {w : World} {S : Nat → Prop} {A : Option Addr} {n : Nat} {xs : List Ent} (h : RowE w S A n xs) (hn : 0 < n) :
 ∃ ad, A = some ad ∧ ∀ j v, (flatG_x xs)[j]? = some v → w.cell? (ad.add j) = some v := by
 obtain ⟨b, off, e, _, hc⟩ := h.2 hn
 refine ⟨_, e, fun j v hv => ?_⟩
 have hj : j < xs.length * 4 := by have := (List.getElem?_eq_some_iff.1 hv).1; rwa [flatG_length_x] at this
 rw [flatG_get_x xs j hj] at hv
 have h1 := hc (j / 4) (by have := h.1; omega) (j % 4) v hv
 rw [add_plain, show off + j = off + j / 4 * 4 + j % 4 by omega]
 exact h1
section
variable {w : World} {ops : Array Oper} {rest : List Oper} {o : Oper} {a : Act} {Q : Exit → Act → World → Prop}
end
section
variable {w : World} {ops : Array Oper} {rest : List Oper} {o : Oper} {a : Act} {Q : Exit → Act → World → Prop}
end
end Go.Proofs.YtknfblfnfoibkaaGreat.EntM

namespace Go.Proofs.YtknfblfnfoibkaaGreat
section
open Go.RowKit
attribute [local go_sem] Oper.semAt_some
abbrev mkP (f : Nat × Nat) : Value := .pointer (some ⟨f.1, 0, none⟩)
theorem info_parts14 {P : Program} {e : TypeId} {z : Value} {n b : Nat} (h : (P.info? e).map (fun i => (i.zero, i.size, i.bytes)) = some (some z, n, b)) : ∃ i, P.info? e = some i ∧ i.zero = some z ∧ i.size = n ∧ i.bytes = b := by
 cases hi : P.info? e with
 | none => rw [hi] at h; cases h
 | some i =>
  rw [hi] at h
  simp only [Option.map_some, Option.some.injEq, Prod.mk.injEq] at h
  exact ⟨i, rfl, h.1, h.2.1, h.2.2⟩
theorem info_fp : (Tryz.prog.info? 117).map (fun i => (i.zero, i.size, i.bytes)) = some (some (.pointer none), 1, 8) := by kernel_rfl
theorem takeIn_nil (q : Nat) (w : World) : Calls Tryz.prog 54 #[.pointer (some ⟨q, 0, none⟩), .slice none 0 0] w fun e w' => e = .returned (.int .i64 0) ∧ w' = w := by
 go_enter Tryz.func54, Tryz.ntmps54
 go_wp2_with fail
 go_loopw [12] (fun i wr => i = .int .i64 0 ∧ wr = w) (fun i _ => 0)
 case atStart => exact ⟨rfl, rfl⟩
 case round =>
  obtain ⟨rfl, rfl⟩ := hrel
  go_wp2_with fail
  go_ret
  exact ⟨rfl, rfl⟩
theorem inv_nil (k : Dk) (s : Sup) (xs : List Seg) : InvS k s xs [] := ⟨by simp, by simp, by simp, by simp⟩
def NwF (w : World) (b : Nat) (fs : List (Nat × Nat)) : Prop :=
 (∀ (i : Nat) f, fs[i]? = some f → Filt w f.1 f.2 (List.replicate 128 0) ∧ b ≤ f.1 ∧ b ≤ f.2) ∧ ∀ (i j : Nat) f g, fs[i]? = some f → fs[j]? = some g → i ≠ j → f.1 ≠ g.1 ∧ f.2 ≠ g.2
theorem NwF.add {w w' : World} {b : Nat} {fs : List (Nat × Nat)} (h : NwF w b fs) (hk : ∀ (i : Nat) f, fs[i]? = some f → Filt w' f.1 f.2 (List.replicate 128 0)) {g : Nat × Nat} (hg : Filt w' g.1 g.2 (List.replicate 128 0)) (hb : b ≤ g.1 ∧ b ≤ g.2) (hne : ∀ f, f ∈ fs → f.1 ≠ g.1 ∧ f.2 ≠ g.2) : NwF w' b (fs ++ [g]) := by
 have key : ∀ (i : Nat) f, (fs ++ [g])[i]? = some f → (fs[i]? = some f) ∨ (i = fs.length ∧ f = g) := fun i f hi => by
  rcases Nat.lt_or_ge i fs.length with h1 | h1
  ·rw [List.getElem?_append_left h1] at hi; exact .inl hi
  ·rw [List.getElem?_append_right h1] at hi
   rcases Nat.eq_zero_or_pos (i - fs.length) with h2 | h2
   ·rw [h2] at hi
    injection hi with hi
    exact .inr ⟨by omega, hi.symm⟩
   ·rw [List.getElem?_eq_none (by simp; omega)] at hi; cases hi
 refine ⟨fun i f hi => ?_, fun i j f f' hi hj hij => ?_⟩
 ·rcases key i f hi with h1 | ⟨_, rfl⟩
  ·exact ⟨hk i f h1, (h.1 i f h1).2⟩
  ·exact ⟨hg, hb⟩
 ·rcases key i f hi with h1 | ⟨h1, rfl⟩ <;> rcases key j f' hj with h2 | ⟨h2, rfl⟩
  ·exact h.2 i j f f' h1 h2 hij
  ·exact hne f (List.mem_of_getElem? h1)
  ·have := hne f' (List.mem_of_getElem? h2)
   exact ⟨Ne.symm this.1, Ne.symm this.2⟩
  ·omega
section
variable {w w' : World} {X Y : Nat → Prop} {l p d n pe : Nat} {slots : Nat} {s : Sup} {t : Int} {k : Dk} {xs : List Seg}
theorem new_s14 (h : LgM w X l p d n s t k xs pe) (hX : ∀ b, X b → b < w.heap.size) (h1 : 1 ≤ slots) (h2 : slots ≤ 1024) :
 Calls Tryz.prog 11 #[.pointer (some ⟨l, 0, none⟩), .int .i64 slots, .slice none 0 0] w fun e w' => ∃ q x F c fs, e = .returned (.tuple #[.pointer (some ⟨q, 0, none⟩), .int .i64 0]) ∧
  StoM2 w' X ⟨l, p, d, n, q, x, F, c, t, k, pe, fs⟩ slots s xs [] (List.replicate xs.length (List.replicate 128 0)) false ∧ Below w.heap.size w w' := by
 have HL := hI h
 have HX := hI hX
 have HSL := hI (And.intro h1 h2)
 have hxl := h.ok.1
 unfold SizedR at hxl
 have HXL := hI (show 4 ≤ xs.length ∧ xs.length ≤ 16 by omega)
 clear h hX hxl
 go_enter Tryz.func11, Tryz.ntmps11
 go_wp2_with fail
 refine (new_ok_x slots HSL.out.1 HSL.out.2 w).mono ?_
 rintro e w1 ⟨x, rfl, hx1, hb1, hxw⟩
 have HX1 := hI hx1
 have HB1 := hI hb1
 have HXW := hI hxw
 clear hx1 hb1 hxw
 obtain ⟨w2, hw2⟩ : ∃ w2, w2 = w1.alloc (.cells #[.pointer (some ⟨l, 0, none⟩), .pointer (some ⟨x, 0, none⟩), .slice none 0 0, .bool false] 115) := ⟨_, rfl⟩
 have hb2 : Below w1.heap.size w1 w2 := by rw [hw2]; exact (Below.refl _ _).alloc (nR _) _
 have HQ2 := hI (show Blk w2 w1.heap.size 115 #[.pointer (some ⟨l, 0, none⟩), .pointer (some ⟨x, 0, none⟩), .slice none 0 0, .bool false] by rw [hw2]; exact Blk.new w1 _ _)
 have HB2 := hI (HB1.out.trans (hb2.mono HB1.out.size))
 have HX2 := hI (HX1.out.below hb2 HX1.out.lt)
 have HW2 := hI hw2
 have HQW := hI HB1.out.size
 clear hb2 hw2
 go_upto_region 7 with fail
 rw [← HW2.out]
 obtain ⟨Ar, cr, hlr, hcr, hnr⟩ := HL.out.log
 have HRG := hI (log_ring (hlr.below HB2.out) hnr hcr (by have := HXL.out; omega))
 clear hlr hcr hnr
 go_wp2_with fail
 refine HRG.out.mono ?_
 rintro e w3 ⟨⟨A3, c3, rfl, hown3⟩, hb3⟩
 clear hown3
 have HQ3 := hI (HQ2.out.below hb3 HQ2.out.lt)
 have HX3 := hI (HX2.out.below hb3 HX2.out.lt)
 have HB3 := hI (HB2.out.trans (hb3.mono HB2.out.size))
 clear hb3 HRG
 have hfld : (Instr.field 103 (ringV s.b A3 xs.length c3) 1).run Tryz.prog w3 = .ok (.slice A3 xs.length c3) w3 := by
  unfold Instr.field
  simp [Sem.run_bind, run_underlying (Tryz.underlying103), asAgg, part, isAgg, run_underlying (Tryz.underlying101)]
 go_wp2_with fail
 clear hfld
 obtain ⟨q, hq⟩ : ∃ q, w1.heap.size = q := ⟨_, rfl⟩
 rw [hq] at HQ3 HQW
 rw [hq]
 obtain ⟨N, hN⟩ : ∃ N, xs.length = N := ⟨_, rfl⟩
 rw [hN] at HXL
 rw [hN]
 have HN := hI hN
 clear hq hN HQ2 HX2 HB2 HW2
 obtain ⟨i0, hi0, hz0, hz1, hz2⟩ := info_parts14 info_fp
 have HI0 := hI (And.intro hi0 (And.intro hz0 (And.intro hz1 hz2)))
 clear hi0 hz0 hz1 hz2
 go_loopw [33] (fun i wr => ∃ (j : Nat) (v : Value) (fs : List (Nat × Nat)), i = .int .i64 j ∧ j ≤ N ∧ fs.length = j ∧ wr.ownsRow w.heap.size 117 1 v j (fs.map mkP) ∧ Blk wr q 115 #[.pointer (some ⟨l, 0, none⟩), .pointer (some ⟨x, 0, none⟩), v, .bool false] ∧ IxE wr x slots [] ∧ Below w.heap.size w wr ∧ NwF wr w.heap.size fs) (fun i _ => N - (intOf i).toNat)
 case atStart => exact ⟨0, .slice none 0 0, [], rfl, Nat.zero_le _, rfl, ⟨rfl, .inl ⟨rfl, rfl⟩⟩, HQ3.out, HX3.out, HB3.out, fun i f h => by simp at h, fun i j f g h => by simp at h⟩
 case round =>
  obtain ⟨j, v, fs, rfl, hj, hfl, hown, hq, hx, hb, hnf⟩ := hrel
  have HFL := hI hfl
  have HOW := hI hown
  have HQ := hI hq
  have HIX := hI hx
  have HB := hI hb
  have HNF := hI hnf
  clear hfl hown hq hx hb hnf
  by_cases hlt : j < N
  ·go_wp2_with fail
   refine (new_ok_b 1024 128 _ (by decide) (by omega) (by omega)).mono ?_
   rintro e w4 ⟨rfl, hf4, hb4⟩
   obtain ⟨r, hr⟩ : ∃ r, wr.heap.size = r := ⟨_, rfl⟩
   rw [hr] at hf4
   rw [hr]
   have HR := hI hr
   have HF4 := hI hf4
   have HO4 := hI (own_below HOW.out hb4)
   have HQ4 := hI (HQ.out.below hb4 HQ.out.lt)
   have HX4 := hI (HIX.out.below hb4 HIX.out.lt)
   have HB4 := hI (HB.out.trans (hb4.mono HB.out.size))
   have HFS4 := hI (fun (i : Nat) f (h : fs[i]? = some f) => (HNF.out.1 i f h).1.belowAll hb4)
   have HFL4 := hI (fun f (h : f ∈ fs) => show f.1 < r ∧ f.2 < r by
    obtain ⟨i, hi⟩ := List.mem_iff_getElem?.1 h
    have h9 := (HNF.out.1 i f hi).1
    rw [← hr]
    exact ⟨h9.ltf, h9.lth⟩)
   clear hf4 hb4 hr
   go_upto_region 12 with fail
   have q2 : w4.cell? ⟨q, 2, none⟩ = some v := HQ4.out.cell 2
   obtain ⟨w5, hw5⟩ : ∃ w5, w5 = w4.alloc (.cells #[.pointer (some ⟨r + 1, 0, none⟩)] 117) := ⟨_, rfl⟩
   have hb5 : Below w4.heap.size w4 w5 := by rw [hw5]; exact (Below.refl _ _).alloc (nR _) _
   have HO5 := hI (own_below HO4.out hb5)
   have HQ5 := hI (HQ4.out.below hb5 HQ4.out.lt)
   have HX5 := hI (HX4.out.below hb5 HX4.out.lt)
   have HB5 := hI (HB4.out.trans (hb5.mono HB4.out.size))
   have HF5 := hI (HF4.out.belowAll hb5)
   have HFS5 := hI (fun (i : Nat) f (h : fs[i]? = some f) => (HFS4.out i f h).belowAll hb5)
   have HLIT := hI (show RowG mkP (0, 0) w5 (· = w4.heap.size) (some ⟨w4.heap.size, 0, none⟩) 1 [(r + 1, r)] by rw [hw5]; exact row_new1 mkP (0, 0) w4 117 (r + 1, r))
   have HW5 := hI hw5
   have HJ := hI (show j ≤ 16 by have := HXL.out; omega)
   clear hb5 hw5
   go_wp2_with (first | (rw [← HW5.out]; refine wpList_append_rowG (mk := mkP) (d := (0, 0)) rfl (.tmp 46) (.tmp 48) 113 rfl w.heap.size 117 i0 _ 8 Tryz.underlying113 HI0.out.1 HI0.out.2.1 HI0.out.2.2.1 HI0.out.2.2.2 (by simp [Value.cells]) (fun _ => rfl) v j _ rfl HO5.out _ _ 1 1 [(r + 1, r)] rfl HLIT.out (fun h => by cases h) (by unfold maxLen; have := HJ.out; omega) (by have := HJ.out; omega) HB5.out.size ?_; intro v8 W8 hown hgrow hv8; obtain ⟨A8, c8, rfl⟩ := ownsRow_slice hown; have hq8 := blk_past HQ5.out HO5.out (by decide) hgrow; have q8 : W8.cell? ⟨q, 2, none⟩ = some v := hq8.cell 2; have f8 := hq8.frozen 2))
   clear q8 f8 q2
   have HX8 := hI (show IxE W8 x slots [] from by
    obtain ⟨cx, L, fr, hx, hr, he⟩ := HX5.out
    exact ⟨cx, L, fr, blk_past hx HO5.out (by decide) hgrow, hr, he⟩)
   have HB8 := hI (below_append HB5.out HO5.out (nR _) HB5.out.size hgrow)
   have hf8 : ∀ f h, Filt w5 f h (List.replicate 128 0) → Filt W8 f h (List.replicate 128 0) := fun f h hh => ⟨blk_past hh.1 HO5.out (by decide) hgrow, blk_past hh.2.1 HO5.out (by decide) hgrow, hh.2.2⟩
   have HO9 := hI (own_past hown hq8 (by decide) 2 (.slice A8 (j + 1) c8))
   have HQ9 := hI (hq8.set_ 2 (.slice A8 (j + 1) c8))
   have hk9 : Kept (fun b => b ≠ q) W8 (W8.setCell ⟨q, 2, none⟩ (.slice A8 (j + 1) c8)) := (Kept.refl _ _).setCell (p := ⟨q, 2, none⟩) (fun h => h rfl) _
   have HX9 := hI (HX8.out.kept hk9 (fun e => by
    obtain ⟨cx, L, fr, hx, hr, he⟩ := HX8.out
    have hx2 : Blk W8 x 208 (cellsX cx) := hx
    exact hx2.ne_ hq8 (by decide) e))
   have HB9 := hI (HB8.out.setCell (p := ⟨q, 2, none⟩) HQW.out (.slice A8 (j + 1) c8))
   have hf9 : ∀ f h, Filt w5 f h (List.replicate 128 0) → Filt (W8.setCell ⟨q, 2, none⟩ (.slice A8 (j + 1) c8)) f h (List.replicate 128 0) := fun f h hh => (hf8 f h hh).kept hk9 (fun e => (hf8 f h hh).1.ne_ hq8 (by decide) e) (fun e => (hf8 f h hh).2.1.ne_ hq8 (by decide) e)
   have hrw : w.heap.size ≤ r := by rw [← HR.out]; exact HB.out.size
   have HNF9 := hI (HNF.out.add (g := (r + 1, r)) (fun i f h => hf9 _ _ (HFS5.out i f h)) (hf9 _ _ HF5.out) ⟨by omega, by omega⟩ (fun f h => by
    have h9 := HFL4.out f h
    exact ⟨by show f.1 ≠ r + 1; omega, by show f.2 ≠ r; omega⟩))
   clear hown hgrow hq8 hf8 hf9 hk9 hv8
   have hjj := HJ.out
   go_wp2_with fail
   go_roundw
   case rel =>
    refine ⟨j + 1, .slice A8 (j + 1) c8, fs ++ [(r + 1, r)], by rw [IntWalk.wrap64_in _ (by omega)]; rfl, by omega, by rw [List.length_append, HFL.out]; rfl, ?_, HQ9.out, HX9.out, HB9.out, HNF9.out⟩
    have h9 := HO9.out
    rw [show (fs.map mkP) ++ [(r + 1, r)].map mkP = (fs ++ [(r + 1, r)]).map mkP by rw [List.map_append]] at h9
    exact h9
   case measure =>
    rw [IntWalk.wrap64_in _ (by omega)]
    simp only [intOf]
    omega
  ·obtain rfl : j = N := by omega
   go_wp2_with fail
   refine (takeIn_nil q wr).mono ?_
   rintro e w9 ⟨rfl, rfl⟩
   go_wp2_with fail
   go_ret2
   have hN := HXL.out
   rcases HOW.out.2 with ⟨_, h0⟩ | ⟨F, cap, cur, rfl, hF, hh, hnc, _, hsz, htk⟩
   ·omega
   have hb := HB.out
   have hget : ∀ (i : Nat) f, fs[i]? = some f → cur[i]? = some (.pointer (some ⟨f.1, 0, none⟩)) := fun i f hi => by
    have hil : i < fs.length := (List.getElem?_eq_some_iff.1 hi).1
    have h1 : (cur.toList.take (j * 1))[i]? = some (mkP f) := by rw [htk, List.getElem?_map, hi]; rfl
    rw [List.getElem?_take, if_pos (by rw [HFL.out] at hil; omega), Array.getElem?_toList] at h1
    exact h1
   have hqn : w.heap.size ≤ q := HQW.out
   have hxn : w.heap.size ≤ x := HXW.out
   have hnn : xs.length = j := HN.out
   have hfn := HFL.out
   have hown : ∀ b, (⟨l, p, d, n, q, x, F, cap, t, k, pe, fs⟩ : StB).own b → w.heap.size ≤ b ∧ b < w9.heap.size := fun b ho => by
    have hbF : Blk w9 F 117 cur := hh
    rcases ho with h | h | h | ⟨f, hf, h | h⟩
    ·rw [h]; exact ⟨hqn, HQ.out.lt⟩
    ·rw [h]; exact ⟨hxn, HIX.out.lt⟩
    ·rw [h]; exact ⟨hF, hbF.lt⟩
    ·rw [h]
     obtain ⟨i, hi⟩ := List.mem_iff_getElem?.1 hf
     exact ⟨(HNF.out.1 i f hi).2.1, (HNF.out.1 i f hi).1.ltf⟩
    ·rw [h]
     obtain ⟨i, hi⟩ := List.mem_iff_getElem?.1 hf
     exact ⟨(HNF.out.1 i f hi).2.2, (HNF.out.1 i f hi).1.lth⟩
   have hrep : ∀ i, i < xs.length → (List.replicate xs.length (List.replicate 128 (0 : Int))).getD i [] = List.replicate 128 0 := fun i hi => by
    simp [List.getD, List.getElem?_replicate, hi]
   refine ⟨q, x, F, cap, fs, rfl, ⟨?_, ⟨⟨cur, hh, hget⟩, fun i f hi => ?_, ?_, fun i hi => ?_, HNF.out.2⟩, List.length_replicate, HIX.out, (HL.out.grow hb).less (fun b hb2 => ?_), inv_nil _ _ _, fun b ho hx => ?_, fun b hx => nL (HX.out b hx) hb.size⟩, hb⟩
   ·show Blk w9 q _ #[_, _, .slice _ fs.length _, _]
    rw [hfn]
    exact HQ.out
   ·have hi2 : fs[i]? = some f := hi
    rw [hrep i (by have := (List.getElem?_eq_some_iff.1 hi2).1; omega)]
    exact (HNF.out.1 i f hi).1
   ·rw [List.length_replicate]; show fs.length = _; omega
   ·rw [List.length_replicate] at hi
    rw [hrep i hi, List.length_replicate]
   ·rcases hb2 with h | h
    ·exact .inl h
    ·exact .inr (hown b h)
   ·have := hown b ho
    have := HX.out b hx
    omega
end
end
section
open Go.RowKit
abbrev wkS : Sup := ⟨4, 24, 0, 0, 0, 0⟩
abbrev wkX : List Seg := List.replicate 4 seg0
theorem wk_left : leftR 24 wkX < 1 := by decide +kernel
theorem wk_next : nxtR wkX = 0 := by decide +kernel
theorem wk_open : opnR wkX = -1 := by decide +kernel
end
section
open Go.RowKit
attribute [local go_sem] Oper.semAt_some
def logK : Dk := (((Dk.fresh 98).wr (Dk.put 0 (supL 4 24 0 0 0 0 0))).wr (Dk.put 1 (noughts 64))).wr Dk.sync
theorem logK_good : Good logK := ((((Good.fresh 98).put _ _).put _ _).sync)
theorem logK_pend : logK.pend.length ≤ 0 := by rw [show logK.pend = [] from (((Good.fresh 98).put _ _).put _ _).pend_sync]; exact nR _
theorem wk_top14 : topG wkX ≤ 0 := by decide +kernel
theorem logs_lg {w : World} {X : Nat → Prop} {l p d : Nat} {A : Option Addr} {c : Nat} (h : LogM w X l p d 98 wkS 0 logK 24 A 4 c wkX false) (hc : 4 ≤ c) (hn : A = none → c = 0) : LgM w X l p d 98 wkS 0 logK wkX 0 where
 log := ⟨A, c, h, hc, hn⟩
 good := logK_good
 ok := ok_new ⟨by decide, by decide, by decide, by decide⟩
 top := wk_top14
 may := by decide
 sin := ⟨by decide, by decide, by decide, by decide, by decide, by decide, by decide, by decide, by decide, by decide, by decide, by decide⟩
 dims := rfl
 n2 := by decide
 room := by decide
 pend := logK_pend
theorem logs_any (w : World) : Calls Tryz.prog 10 #[] w fun e w' => ∃ l p d, e = .returned (.tuple #[.pointer (some ⟨d, 0, none⟩), .pointer (some ⟨l, 0, none⟩)]) ∧ LgM w' (fun x => x < w.heap.size) l p d 98 wkS 0 logK wkX 0 ∧ Below w.heap.size w w' := by
 have hm : MayS 4 24 0 0 := ⟨by omega, by omega, by omega, by omega, by omega⟩
 have hz : SizedR (4 : Nat) 24 := ⟨by omega, by omega, by omega, by omega⟩
 have hok := ok_new hz
 have hop : opnR (List.replicate 4 seg0) < 0 := by decide +kernel
 have HM := hI hm
 have HZ := hI hz
 have HOK := hI hok
 have HOP := hI hop
 clear hm hz hok hop
 go_enter Tryz.func10, Tryz.ntmps10
 go_wp2_with fail
 refine (new_i w 98 98 rfl (by omega) (by omega)).mono ?_
 rintro e w1 ⟨d, rfl, hd, hb1⟩
 have HD1 := hI hd
 have HB1 := hI hb1
 clear hd hb1
 go_wp2_with fail
 refine (format_fresh HD1.out (fun c h => nL h HB1.out.size) 4 24 HM.out (by omega)).mono ?_
 rintro e w2 ⟨p, rfl, hst, hk⟩
 have HS2 := hI (show StoS w2 (fun x => x < w.heap.size) p d 98 wkS 0 logK from hst)
 have HB2 := hI (show Below w.heap.size w w2 from HB1.out.trans (hk.to_below (fun b h => h)))
 clear hst hk
 go_wp2_with fail
 refine (new_ok 4 24 HZ.out).mono ?_
 rintro e w3 ⟨⟨A0, rfl, hr⟩, hb3⟩
 have hal := (Below.refl w3.heap.size w3).alloc (nR _) (.cells #[.int .i64 24, .slice A0 4 4] 103)
 have HS3 := hI (StoreM.below HS2.out (hb3.trans (hal.mono hb3.size)))
 have HB3 := hI (HB2.out.trans ((hb3.trans (hal.mono hb3.size)).mono HB2.out.size))
 have HR3 := hI (row_now (hr.more (fun b h => h.2)) hal)
 have HK3 := hI (Blk.new w3 103 #[.int .i64 24, .slice A0 4 4])
 have HA0 := hI (show A0 = none → (4 : Nat) = 0 from fun e => by
  obtain ⟨_, _, h2, _⟩ := hr.2 (by omega)
  rw [e] at h2; cases h2)
 obtain ⟨k0, k1⟩ := ring_cells HK3.out
 clear hr hb3 hal
 go_wp2_with fail
 refine (open_log_ok (s := wkS) HS3.out (fun b h => nL h HB3.out.size) HR3.out HA0.out (nR _) 24 HOK.out rfl rfl HOP.out).mono ?_
 rintro e w4 ⟨l, A, c, rfl, hl, hac, hnil, hsz, hb4⟩
 have HL := hI (logs_lg hl hac hnil)
 have HB4 := hI (HB3.out.trans (hb4.mono HB3.out.size))
 clear hl hb4 hac hnil k0 k1
 go_wp2_with fail
 go_ret2
 exact ⟨l, p, d, rfl, HL.out, HB4.out⟩
def keyL (i : Int) : List Int := [107, 97 + i % 8]
theorem key_any (i : Int) (w : World) : Calls Tryz.prog 17 #[.int .i64 i] w fun e w' => ∃ g, e = .returned (.slice (some ⟨g, 0, none⟩) 2 2) ∧ w.heap.size ≤ g ∧ ArrU w' g (keyL i) ∧ Below w.heap.size w w' := by
 have hw : IntKind.u64.wrap i = i % 18446744073709551616 := IntKind.wrap_u64 i
 go_enter Tryz.func17, Tryz.ntmps17
 go_wp2_with fail
 go_ret
 exact ⟨w.heap.size, rfl, nR _, Blk.new w _ _, (Below.refl _ _).alloc (nR _) _⟩
theorem keyL_bytes (i : Int) : Bytes (keyL i) := by
 intro j
 rcases j with _ | _ | j
 ·show (0 : Int) ≤ 107 ∧ (107 : Int) ≤ 255; omega
 ·show 0 ≤ 97 + i % 8 ∧ 97 + i % 8 ≤ 255; omega
 ·simp [keyL]
end
section
open Go.RowKit
section
variable {st su : List EntS} {us kw bs : List Int} {a : Int × Int × Int}
theorem has_out_ne (h : kw ≠ us) : hasS (outS st us) kw = hasS st kw := by
 unfold hasS outS
 rw [List.find?_filter]
 congr 1
 funext p
 by_cases e : keyOf p.2 = kw
 ·have e2 : ¬ keyOf p.2 = us := fun e3 => h (e.symm.trans e3)
  simp [e, h]
 ·simp [e]
theorem has_out_eq : hasS (outS st us) us = none := by
 unfold hasS outS
 rw [List.find?_eq_none]
 intro p hp
 have := (List.mem_filter.1 hp).2
 simpa using this
theorem has_put_eq (hk : keyOf bs = us) : hasS (outS st us ++ [(a, bs)]) us = some (a, bs) := by
 unfold hasS
 rw [List.find?_append, show (outS st us).find? (fun p => decide (keyOf p.2 = us)) = none from has_out_eq]
 simp [hk]
theorem has_put_ne (hk : keyOf bs = us) (h : kw ≠ us) : hasS (outS st us ++ [(a, bs)]) kw = hasS st kw := by
 have h9 := has_out_ne (st := st) h
 unfold hasS at *
 rw [List.find?_append, h9]
 have e : [(a, bs)].find? (fun p => decide (keyOf p.2 = kw)) = none := by
  simp [hk, fun e => h (Eq.symm e)]
  exact fun e => h e.symm
 rw [e]
 cases st.find? (fun p => decide (keyOf p.2 = kw)) <;> rfl
def OnceS (st : List EntS) : Prop := (st.map fun p => keyOf p.2).Nodup
theorem OnceS.out (h : OnceS st) : OnceS (outS st us) := by
 unfold OnceS outS at *
 exact List.Nodup.sublist (List.Sublist.map _ List.filter_sublist) h
theorem OnceS.put (h : OnceS st) (hk : keyOf bs = us) : OnceS (outS st us ++ [(a, bs)]) := by
 have h2 := OnceS.out (us := us) h
 unfold OnceS at *
 rw [List.map_append, List.nodup_append]
 refine ⟨h2, by simp, fun x hx y hy => ?_⟩
 obtain ⟨p, hp, rfl⟩ := List.mem_map.1 hx
 simp only [List.map_cons, List.map_nil, List.mem_singleton] at hy
 subst hy
 rw [hk]
 exact (mem_out.1 hp).2
theorem OnceS.one (h : OnceS st) (hk : ∀ p, p ∈ st → keyOf p.2 = us) : st.length ≤ 1 := by
 match st, h, hk with
 | [], _, _ => simp
 | [_], _, _ => simp
 | p :: q :: r, h, hk =>
  exfalso
  unfold OnceS at h
  simp only [List.map_cons, List.nodup_cons, List.mem_cons] at h
  exact h.1 (.inl ((hk p (by simp)).trans (hk q (by simp)).symm))
end
def SameK (st su : List EntS) (kw : List Int) : Prop := (hasS st kw).map (·.2) = (hasS su kw).map (·.2)
theorem SameK.get {st su : List EntS} {kw : List Int} (h : SameK st su kw) (fl now : Int) : getS st fl now kw = getS su fl now kw := by
 unfold SameK at h
 unfold getS
 cases h1 : hasS st kw with
 | none =>
  rw [h1] at h
  cases h2 : hasS su kw with
  | none => rfl
  | some q => rw [h2] at h; simp at h
 | some p =>
  rw [h1] at h
  cases h2 : hasS su kw with
  | none => rw [h2] at h; simp at h
  | some q =>
   rw [h2] at h
   simp only [Option.map_some, Option.some.injEq] at h
   simp only [h]
theorem keyL_mod (i : Int) : keyL (i % 18446744073709551616 % 8) = keyL i := by
 unfold keyL
 rw [show i % 18446744073709551616 % 8 % 8 = i % 8 by omega]
theorem keyL_inj {i j : Int} (hi : 0 ≤ i ∧ i < 8) (hj : 0 ≤ j ∧ j < 8) : keyL i = keyL j ↔ i = j := by
 unfold keyL
 simp only [List.cons.injEq, and_true, true_and]
 omega
structure ApR (kw : List Int) (s : Sup) (xs : List Seg) (st : List EntS) (s' : Sup) (xs' : List Seg) (su : List EntS) : Prop where
 same : SameK st su kw
 flush : s'.f = s.f
 room : moreR s.b xs' xs
 once : OnceS su
 only : ∀ p, p ∈ su → keyOf p.2 = kw
section
variable {kw us bs : List Int} {s s1 s' : Sup} {xs xs1 xs' : List Seg} {st su : List EntS} {a : Int × Int × Int}
theorem ApR.left (h : ApR kw s xs st s' xs' su) {slots : Nat} (hs : 2 ≤ slots) : fullS su us slots = false := by
 have h1 := h.once.one h.only
 unfold fullS
 rw [decide_eq_false (show ¬ su.length = slots by omega)]
 simp
theorem ApR.put1 (h : ApR kw s xs st s' xs' su) (hk : keyOf bs = us) (hne : kw ≠ us) (hs : s1 = s ∨ s1 = genS s) (hr : moreR s.b xs' xs1) : ApR kw s1 xs1 (outS st us ++ [(a, bs)]) s' xs' su := by
 have hf : s1.f = s.f ∧ s1.b = s.b := by rcases hs with rfl | rfl <;> exact ⟨rfl, rfl⟩
 refine ⟨?_, h.flush.trans hf.1.symm, by rw [hf.2]; exact hr, h.once, h.only⟩
 unfold SameK
 rw [has_put_ne hk hne]
 exact h.same
theorem ApR.kill1 (h : ApR kw s xs st s' xs' su) (hne : kw ≠ us) (hs : s1 = s ∨ s1 = genS s) (hr : moreR s.b xs' xs1) : ApR kw s1 xs1 (outS st us) s' xs' su := by
 have hf : s1.f = s.f ∧ s1.b = s.b := by rcases hs with rfl | rfl <;> exact ⟨rfl, rfl⟩
 refine ⟨?_, h.flush.trans hf.1.symm, by rw [hf.2]; exact hr, h.once, h.only⟩
 unfold SameK
 rw [has_out_ne hne]
 exact h.same
theorem ApR.put2 {s2 : Sup} {xs2 : List Seg} {a2 : Int × Int × Int} (h : ApR kw s xs st s' xs' su) (hk : keyOf bs = kw) (hs : s1 = s ∨ s1 = genS s) (hs2 : s2 = s' ∨ s2 = genS s') (hr : moreR s.b xs2 xs1) :
 ApR kw s1 xs1 (outS st kw ++ [(a, bs)]) s2 xs2 (outS su kw ++ [(a2, bs)]) := by
 have hf : s1.f = s.f ∧ s1.b = s.b := by rcases hs with rfl | rfl <;> exact ⟨rfl, rfl⟩
 have hf2 : s2.f = s'.f := by rcases hs2 with rfl | rfl <;> rfl
 refine ⟨?_, hf2.trans (h.flush.trans hf.1.symm), by rw [hf.2]; exact hr, h.once.put hk, fun p hp => ?_⟩
 ·unfold SameK
  rw [has_put_eq hk, has_put_eq hk]
  rfl
 ·rcases List.mem_append.1 hp with h2 | h2
  ·exact h.only p (mem_out.1 h2).1
  ·rw [List.mem_singleton.1 h2]; exact hk
theorem ApR.kill2 {s2 : Sup} {xs2 : List Seg} (h : ApR kw s xs st s' xs' su) (hs : s1 = s ∨ s1 = genS s) (hs2 : s2 = s' ∨ s2 = genS s') (hr : moreR s.b xs2 xs1) :
 ApR kw s1 xs1 (outS st kw) s2 xs2 (outS su kw) := by
 have hf : s1.f = s.f ∧ s1.b = s.b := by rcases hs with rfl | rfl <;> exact ⟨rfl, rfl⟩
 have hf2 : s2.f = s'.f := by rcases hs2 with rfl | rfl <;> rfl
 refine ⟨?_, hf2.trans (h.flush.trans hf.1.symm), by rw [hf.2]; exact hr, h.once.out, fun p hp => h.only p (mem_out.1 hp).1⟩
 unfold SameK
 rw [has_out_eq, has_out_eq]
end
end
section
open Go.RowKit
def newer (X : Nat → Prop) (w w' : World) (b : Nat) : Prop := X b ∨ (w.heap.size ≤ b ∧ b < w'.heap.size)
section
variable {w w' : World} {X Y S : Nat → Prop} {l p d n m c pe : Nat} {s : Sup} {t : Int} {k : Dk} {sec : Int} {A : Option Addr} {xs : List Seg} {br : Bool}
theorem LogM.beside (h : LogM w X l p d n s t k sec A m c xs br) (hk : Kept S w w') (hS : ∀ b, b < w.heap.size → ¬ X b → S b) : LogM w' (newer X w w') l p d n s t k sec A m c xs br := by
 obtain ⟨h1, h2, R, h3, h4, h5⟩ := h
 have hl := h1.lt
 refine ⟨h1.kept hk (hS _ h1.lt h2), fun e => e.elim h2 (fun e => by omega), R, StoreM.kept h3 hk (fun b hb hx => hS b hb (fun e => hx (.inl e))) (fun b hb h => ?_), h4.kept hk (fun b h => hS b (h5 b h).1 (h5 b h).2.2), fun b h => ⟨nL (h5 b h).1 hk.size, (h5 b h).2.1, fun e => e.elim (h5 b h).2.2 (fun e => by have := (h5 b h).1; omega)⟩⟩
 rcases h with (h | h) | h
 ·exact .inl h
 ·omega
 ·exact .inr h
theorem LgM.beside (h : LgM w X l p d n s t k xs pe) (hk : Kept S w w') (hS : ∀ b, b < w.heap.size → ¬ X b → S b) : LgM w' (newer X w w') l p d n s t k xs pe := by
 obtain ⟨A, c, h1, h2, h3⟩ := h.log
 exact ⟨⟨A, c, h1.beside hk hS, h2, h3⟩, h.good, h.ok, h.top, h.may, h.sin, h.dims, h.n2, h.room, h.pend⟩
end
section
variable {w w' : World} {X Y S : Nat → Prop} {B C : StB} {slots slots' : Nat} {s s' : Sup} {xs xs' : List Seg} {st st' : List EntS} {bl bl' : List (List Int)} {u u' : Bool}
theorem StoM2.beside (h : StoM2 w X B slots s xs st bl u) (hk : Kept S w w') (hS : ∀ b, b < w.heap.size → ¬ X b → S b) : StoM2 w' (newer X w w') B slots s xs st bl u := by
 obtain ⟨h1, h2, h3⟩ := h.own_kept hk (fun b hb => hS b (h.own_lt hb) (h.off b hb))
 refine ⟨h1, h2, h.num, h3, (h.log.beside hk (fun b hb hn => hS b hb (fun e => hn (.inl e)))).less (fun b hb => ?_), h.inv, fun b hb hx => ?_, fun b hb => ?_⟩
 ·rcases hb with (hb | hb) | hb
  ·exact .inl (.inl hb)
  ·exact .inr hb
  ·exact .inl (.inr hb)
 ·have := h.own_lt hb
  rcases hx with hx | hx
  ·exact h.off b hb hx
  ·omega
 ·rcases hb with hb | hb
  ·exact nL (h.lt b hb) hk.size
  ·exact hb.2
structure TwoS (w : World) (Z : Nat → Prop) (X Y : Nat → Prop) (B : StB) (slots : Nat) (s : Sup) (xs : List Seg) (st : List EntS) (bl : List (List Int)) (C : StB) (slots' : Nat) (s' : Sup) (xs' : List Seg) (st' : List EntS) (bl' : List (List Int)) : Prop where
 one : StoM2 w X B slots s xs st bl false
 two : StoM2 w Y C slots' s' xs' st' bl' false
 all : ∀ b, b < w.heap.size → X b ∨ Y b
 offX : ∀ b, Z b → X b
 offY : ∀ b, Z b → Y b
theorem TwoS.swap {Z : Nat → Prop} (h : TwoS w Z X Y B slots s xs st bl C slots' s' xs' st' bl') : TwoS w Z Y X C slots' s' xs' st' bl' B slots s xs st bl :=
 ⟨h.two, h.one, fun b hb => (h.all b hb).symm, h.offY, h.offX⟩
theorem TwoS.left {Z : Nat → Prop} {B2 : StB} {s2 : Sup} {xs2 : List Seg} {st2 : List EntS} {bl2 : List (List Int)} (h : TwoS w Z X Y B slots s xs st bl C slots' s' xs' st' bl') (hk : Kept X w w') (h2 : StoM2 w' X B2 slots s2 xs2 st2 bl2 false) :
 TwoS w' Z X (newer Y w w') B2 slots s2 xs2 st2 bl2 C slots' s' xs' st' bl' ∧ Kept Z w w' :=
 ⟨⟨h2, h.two.beside hk (fun b hb hn => (h.all b hb).resolve_right hn), fun b hb => by
  rcases Nat.lt_or_ge b w.heap.size with h1 | h1
  ·exact (h.all b h1).imp id .inl
  ·exact .inr (.inr ⟨h1, hb⟩), h.offX, fun b hb => .inl (h.offY b hb)⟩, hk.mono h.offX⟩
theorem TwoS.grow {Z : Nat → Prop} (h : TwoS w Z X Y B slots s xs st bl C slots' s' xs' st' bl') (hb : Below w.heap.size w w') :
 TwoS w' (newer Z w w') (newer X w w') (newer Y w w') B slots s xs st bl C slots' s' xs' st' bl' :=
 ⟨h.one.grow hb, h.two.grow hb, fun b hlt => by
  rcases Nat.lt_or_ge b w.heap.size with h1 | h1
  ·exact (h.all b h1).imp .inl .inl
  ·exact .inl (.inr ⟨h1, hlt⟩), fun b hz => hz.imp (h.offX b) id, fun b hz => hz.imp (h.offY b) id⟩
theorem TwoS.less {Z Z2 : Nat → Prop} (h : TwoS w Z X Y B slots s xs st bl C slots' s' xs' st' bl') (hz : ∀ b, Z2 b → Z b) : TwoS w Z2 X Y B slots s xs st bl C slots' s' xs' st' bl' :=
 ⟨h.one, h.two, h.all, fun b hb => h.offX b (hz b hb), fun b hb => h.offY b (hz b hb)⟩
theorem TwoS.born {w0 w1 w2 w3 w4 : World} (h1 : StoM2 w3 (fun b => b < w0.heap.size ∨ (w1.heap.size ≤ b ∧ b < w2.heap.size)) B slots s xs st bl false) (h2 : StoM2 w4 (fun b => b < w1.heap.size ∨ (w2.heap.size ≤ b ∧ b < w3.heap.size)) C slots' s' xs' st' bl' false)
 (hb : Below w3.heap.size w3 w4) (h01 : w0.heap.size ≤ w1.heap.size) :
 TwoS w4 (fun b => b < w0.heap.size) (newer (fun b => b < w0.heap.size ∨ (w1.heap.size ≤ b ∧ b < w2.heap.size)) w3 w4) (fun b => b < w1.heap.size ∨ (w2.heap.size ≤ b ∧ b < w3.heap.size)) B slots s xs st bl C slots' s' xs' st' bl' :=
 ⟨h1.grow hb, h2, fun b hlt => by
  rcases Nat.lt_or_ge b w1.heap.size with g1 | g1
  ·exact .inr (.inl g1)
  ·rcases Nat.lt_or_ge b w2.heap.size with g2 | g2
   ·exact .inl (.inl (.inr ⟨g1, g2⟩))
   ·rcases Nat.lt_or_ge b w3.heap.size with g3 | g3
    ·exact .inr (.inr ⟨g2, g3⟩)
    ·exact .inl (.inr ⟨g3, hlt⟩), fun b hz => .inl (.inl hz), fun b hz => .inl (nL hz h01)⟩
end
end
section
open Go.RowKit
attribute [local go_sem] Oper.semAt_some
theorem put_bad14 (q : Nat) (A : Option Addr) (m c : Nat) (A2 : Option Addr) (n2 c2 : Nat) (f0 x0 q0 : Int) (dy : Bool) (w : World) (hno : ¬ May 1 f0 x0 q0 m n2) : Calls Tryz.prog 14 #[.pointer (some ⟨q, 0, none⟩), itmV A m c A2 n2 c2 f0 x0 q0 dy] w fun e w' => e = .returned (.int .i64 230) ∧ Below w.heap.size w w' := by
 obtain ⟨w1, hw1⟩ : ∃ w1, w1 = ((w.alloc (.cells #[.pointer (some ⟨q, 0, none⟩)] 28)).alloc (.cells #[.slice A m c, .slice A2 n2 c2, .int .u32 f0, .int .u32 x0, .int .u64 q0, .bool dy] 42)).alloc (.cells #[.int .i64 0] 29) := ⟨_, rfl⟩
 have hb1 : Below w.heap.size w w1 := by rw [hw1]; exact (((Below.refl _ w).alloc (nR _) _).alloc (by simp) _).alloc (by simp; omega) _
 have HS1 := hI (show Blk w1 w.heap.size 28 #[.pointer (some ⟨q, 0, none⟩)] by rw [hw1]; exact ((Blk.new w _ _).alloc _).alloc _)
 have HI1 := hI (show Blk w1 (w.heap.size + 1) 42 #[.slice A m c, .slice A2 n2 c2, .int .u32 f0, .int .u32 x0, .int .u64 q0, .bool dy] by rw [hw1]; exact (blk_new2 w _ _ _).alloc _)
 have HE1 := hI (show Blk w1 (w.heap.size + 1 + 1) 29 #[.int .i64 0] by rw [hw1]; exact blk_new3 w _ _ _ _)
 have HB1 := hI hb1
 have HW1 := hI hw1
 clear hb1 hw1
 go_enter_defers Tryz.func14, Tryz.ntmps14
 go_upto_region 1 with fail
 rw [← HW1.out]
 have i0 : w1.cell? ⟨w.heap.size + 1, 0, none⟩ = some (.slice A m c) := HI1.out.cell 0
 have i1 : w1.cell? ⟨w.heap.size + 1, 1, none⟩ = some (.slice A2 n2 c2) := HI1.out.cell 1
 have i2 : w1.cell? ⟨w.heap.size + 1, 2, none⟩ = some (.int .u32 f0) := HI1.out.cell 2
 have i3 : w1.cell? ⟨w.heap.size + 1, 3, none⟩ = some (.int .u32 x0) := HI1.out.cell 3
 have i4 : w1.cell? ⟨w.heap.size + 1, 4, none⟩ = some (.int .u64 q0) := HI1.out.cell 4
 have i5 : w1.cell? ⟨w.heap.size + 1, 5, none⟩ = some (.bool dy) := HI1.out.cell 5
 go_wp2_with fail
 refine (recordOf_ok A m c A2 n2 c2 f0 x0 q0 dy w1).mono ?_
 rintro e w2 ⟨rfl, hb2⟩
 clear i0 i1 i2 i3 i4 i5
 obtain ⟨w3, hw3⟩ : ∃ w3, w3 = w2.alloc (.cells #[.int .i64 1, .int .u32 f0, .int .u32 x0, .int .u64 q0, .slice A m c, .slice A2 n2 c2] 69) := ⟨_, rfl⟩
 have hb3 : Below w1.heap.size w1 w3 := by rw [hw3]; exact hb2.alloc hb2.size _
 have HS3 := hI (HS1.out.below hb3 HS1.out.lt)
 have HE3 := hI (HE1.out.below hb3 HE1.out.lt)
 have HB3 := hI (HB1.out.trans (hb3.mono HB1.out.size))
 have HW3 := hI hw3
 have HR3 := hI (show Blk w3 w2.heap.size 69 #[.int .i64 1, .int .u32 f0, .int .u32 x0, .int .u64 q0, .slice A m c, .slice A2 n2 c2] by rw [hw3]; exact Blk.new w2 _ _)
 clear hb2 hb3 hw3
 have s0 : w3.cell? ⟨w.heap.size, 0, none⟩ = some (.pointer (some ⟨q, 0, none⟩)) := HS3.out.cell 0
 have r0 : w3.cell? ⟨w2.heap.size, 0, none⟩ = some (.int .i64 1) := HR3.out.cell 0
 have r1 : w3.cell? ⟨w2.heap.size, 1, none⟩ = some (.int .u32 f0) := HR3.out.cell 1
 have r2 : w3.cell? ⟨w2.heap.size, 2, none⟩ = some (.int .u32 x0) := HR3.out.cell 2
 have r3 : w3.cell? ⟨w2.heap.size, 3, none⟩ = some (.int .u64 q0) := HR3.out.cell 3
 have r4 : w3.cell? ⟨w2.heap.size, 4, none⟩ = some (.slice A m c) := HR3.out.cell 4
 have r5 : w3.cell? ⟨w2.heap.size, 5, none⟩ = some (.slice A2 n2 c2) := HR3.out.cell 5
 have HCK := hI (check_no 1 f0 x0 q0 A A2 m c n2 c2 w3 hno)
 clear hno
 go_upto_region 2 with fail
 rw [← HW3.out]
 go_wp2_with fail
 refine HCK.out.mono ?_
 rintro e w4 ⟨rfl, hb4⟩
 have HE4 := hI (HE3.out.below hb4 HE3.out.lt)
 have HB4 := hI (HB3.out.trans (hb4.mono HB3.out.size))
 have e0 : w4.cell? ⟨w.heap.size + 1 + 1, 0, none⟩ = some (.int .i64 0) := HE4.out.cell 0
 have e9 := HE4.out.frozen 0
 clear hb4
 go_wp2_with fail
 have c6 : (w4.setCell ⟨w.heap.size + 1 + 1, 0, none⟩ (.int .i64 230)).cell? ⟨w.heap.size + 1 + 1, 0, none⟩ = some (.int .i64 230) := (HE4.out.set_ 0 (.int .i64 230)).cell 0
 refine ⟨.int .i64 230, ?_, rfl, HB4.out.setCell (p := ⟨w.heap.size + 1 + 1, 0, none⟩) (by show w.heap.size ≤ w.heap.size + 1 + 1; omega) _⟩
 simp [results, Tryz.f14, go_sem, c6]
theorem kill_bad14 (g : Nat) (A : Option Addr) (n c : Nat) (q : Int) (w : World) (hno : ¬ May 2 0 0 q n 0) : Calls Tryz.prog 16 #[.pointer (some ⟨g, 0, none⟩), .slice A n c, .int .u64 q] w fun e w' => e = .returned (.int .i64 160) ∧ Below w.heap.size w w' := by
 obtain ⟨w1, hw1⟩ : ∃ w1, w1 = ((w.alloc (.cells #[.pointer (some ⟨g, 0, none⟩)] 28)).alloc (.cells #[.slice A n c] 40)).alloc (.cells #[.int .i64 0] 29) := ⟨_, rfl⟩
 have hb1 : Below w.heap.size w w1 := by rw [hw1]; exact (((Below.refl _ w).alloc (nR _) _).alloc (by simp) _).alloc (by simp; omega) _
 have HS1 := hI (show Blk w1 w.heap.size 28 #[.pointer (some ⟨g, 0, none⟩)] by rw [hw1]; exact ((Blk.new w _ _).alloc _).alloc _)
 have HE1 := hI (show Blk w1 (w.heap.size + 1 + 1) 29 #[.int .i64 0] by rw [hw1]; exact blk_new3 w _ _ _ _)
 have HI1 := hI (show Blk w1 (w.heap.size + 1) 40 #[.slice A n c] by rw [hw1]; exact (blk_new2 w _ _ _).alloc _)
 have HTB := hI (tomb_no A n c q w1 hno)
 have HB1 := hI hb1
 have HW1 := hI hw1
 clear hb1 hw1 hno
 go_enter_defers Tryz.func16, Tryz.ntmps16
 go_upto_region 1 with fail
 rw [← HW1.out]
 have s1 : w1.cell? ⟨w.heap.size, 0, none⟩ = some (.pointer (some ⟨g, 0, none⟩)) := HS1.out.cell 0
 have i1 : w1.cell? ⟨w.heap.size + 1, 0, none⟩ = some (.slice A n c) := HI1.out.cell 0
 go_wp2_with fail
 refine HTB.out.mono ?_
 rintro e w2 ⟨rfl, hb2⟩
 have HE2 := hI (HE1.out.below hb2 HE1.out.lt)
 have HB2 := hI (HB1.out.trans (hb2.mono HB1.out.size))
 clear s1 i1 hb2 HTB
 obtain ⟨w3, hw3⟩ : ∃ w3, w3 = w2.alloc (.cells #[.int .i64 0, .int .u32 0, .int .u32 0, .int .u64 0, .slice none 0 0, .slice none 0 0] 69) := ⟨_, rfl⟩
 have hb3 : Below w2.heap.size w2 w3 := by rw [hw3]; exact (Below.refl _ _).alloc (nR _) _
 have HE3 := hI (HE2.out.below hb3 HE2.out.lt)
 have HB3 := hI (HB2.out.trans (hb3.mono HB2.out.size))
 have e0 : w3.cell? ⟨w.heap.size + 1 + 1, 0, none⟩ = some (.int .i64 0) := HE3.out.cell 0
 have e9 := HE3.out.frozen 0
 rw [hw3] at e0 e9
 have HW3 := hI hw3
 clear hb3 hw3 HE2
 go_upto_region 4 with fail
 rw [← HW3.out]
 obtain ⟨w4, hw4⟩ : ∃ w4, w4 = w3.setCell ⟨w.heap.size + 1 + 1, 0, none⟩ (.int .i64 160) := ⟨_, rfl⟩
 have HE4 := hI (show Blk w4 (w.heap.size + 1 + 1) 29 #[.int .i64 160] by rw [hw4]; exact HE3.out.set_ 0 (.int .i64 160))
 have HB4 := hI (show Below w.heap.size w w4 by rw [hw4]; exact HB3.out.setCell (p := ⟨w.heap.size + 1 + 1, 0, none⟩) (by show w.heap.size ≤ w.heap.size + 1 + 1; omega) _)
 clear e0 e9
 have HW4 := hI hw4
 clear hw4
 rw [← HW4.out]
 have e0 : w4.cell? ⟨w.heap.size + 1 + 1, 0, none⟩ = some (.int .i64 160) := HE4.out.cell 0
 have e9 := HE4.out.frozen 0
 go_wp2_with fail
 have c6 : (w4.setCell ⟨w.heap.size + 1 + 1, 0, none⟩ (.int .i64 160)).cell? ⟨w.heap.size + 1 + 1, 0, none⟩ = some (.int .i64 160) := (HE4.out.set_ 0 (.int .i64 160)).cell 0
 refine ⟨.int .i64 160, ?_, rfl, HB4.out.setCell (p := ⟨w.heap.size + 1 + 1, 0, none⟩) (by show w.heap.size ≤ w.heap.size + 1 + 1; omega) _⟩
 simp [results, Tryz.f16, go_sem, c6]
end
end Go.Proofs.YtknfblfnfoibkaaGreat
