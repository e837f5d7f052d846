/- Texts of StoreNone, packed. -/
import Derived.Test.YthmimemenegokaaGreatPackStoreNone12
import Derived.Deep.DeepCutAuto
set_option linter.unusedVariables false
set_option linter.unusedSimpArgs false
set_option maxRecDepth 100000
set_option maxHeartbeats 16000000
namespace Go.Proofs.YthmimemenegokaaGreat
section
open Go.RowKit
attribute [local go_sem] Oper.semAt_some
abbrev pu0 : Oper := ⟨some 21, .load 105 (.tmp 2), 105, "store.go:70", #[], none⟩
abbrev pu1 : Oper := ⟨some 22, .nilCheck (.tmp 21), 0, "store.go:70", #[⟨0, .data⟩], none⟩
abbrev pu2 : Oper := ⟨some 23, .fieldAddr 215 (.tmp 22) 0, 0, "store.go:70", #[⟨1, .data⟩], none⟩
abbrev pu3 : Oper := ⟨some 24, .load 212 (.tmp 23), 212, "store.go:70", #[⟨2, .data⟩], none⟩
abbrev pu4 : Oper := ⟨some 25, .fieldAddr 117 (.tmp 3) 0, 0, "store.go:70", #[], none⟩
abbrev pu5 : Oper := ⟨some 26, .load 42 (.tmp 25), 42, "store.go:70", #[⟨4, .data⟩], none⟩
abbrev pu6 : Oper := ⟨some 27, .call { callee := .value (.func 134), args := #[.tmp 24, .tmp 26], argTypes := #[212, 42] }, 229, "store.go:70", #[⟨3, .data⟩, ⟨5, .data⟩], none⟩
abbrev pu7 : Oper := ⟨some 20, .move (.tmp 27), 229, "store.go:70", #[⟨6, .data⟩], none⟩
abbrev pu8 : Oper := ⟨some 28, .extract (.tmp 20) 0, 228, "store.go:70", #[⟨7, .data⟩], none⟩
abbrev pu9 : Oper := ⟨some 29, .extract (.tmp 20) 1, 49, "store.go:70", #[⟨7, .data⟩, { on := 11, ground := Go.Ground.gcOnly Go.Departure.lateStores }], none⟩
abbrev pu10 : Oper := ⟨some 6, .alloc 228, 0, "store.go:70", #[], none⟩
abbrev pu11 : Oper := ⟨none, .store 228 (.tmp 6) (.tmp 28), 0, "store.go:70", #[⟨10, .data⟩, ⟨8, .data⟩, ⟨6, .chain⟩, ⟨0, .phase⟩, ⟨1, .phase⟩, ⟨2, .phase⟩, ⟨3, .phase⟩, ⟨4, .phase⟩, ⟨5, .phase⟩, ⟨6, .phase⟩, ⟨7, .phase⟩, ⟨8, .phase⟩, { on := 9, ground := Go.Ground.textOnly Go.Departure.lateStores }, ⟨10, .phase⟩], none⟩
abbrev pu12 : Oper := ⟨none, .store 49 (.tmp 4) (.tmp 29), 0, "store.go:70", #[⟨9, .data⟩, ⟨11, .chain⟩, ⟨0, .phase⟩, ⟨1, .phase⟩, ⟨2, .phase⟩, ⟨3, .phase⟩, ⟨4, .phase⟩, ⟨5, .phase⟩, ⟨6, .phase⟩, ⟨7, .phase⟩, ⟨8, .phase⟩, ⟨9, .phase⟩, ⟨10, .phase⟩, ⟨11, .phase⟩], none⟩
abbrev pw0 : Oper := ⟨some 49, .load 105 (.tmp 2), 105, "store.go:84", #[], none⟩
abbrev pw1 : Oper := ⟨some 50, .nilCheck (.tmp 49), 0, "store.go:84", #[⟨0, .data⟩], none⟩
abbrev pw2 : Oper := ⟨some 51, .fieldAddr 215 (.tmp 50) 0, 0, "store.go:84", #[⟨1, .data⟩], none⟩
abbrev pw3 : Oper := ⟨some 52, .fieldAddr 212 (.tmp 51) 0, 0, "store.go:84", #[⟨2, .data⟩], none⟩
abbrev pw4 : Oper := ⟨some 53, .load 26 (.tmp 52), 26, "store.go:84", #[⟨3, .data⟩], none⟩
abbrev pw5 : Oper := ⟨some 54, .load 44 (.tmp 5), 44, "store.go:84", #[], none⟩
abbrev pw6 : Oper := ⟨some 55, .call { callee := .value (.func 17), args := #[.tmp 53, .tmp 54], argTypes := #[26, 44] }, 50, "store.go:84", #[⟨4, .data⟩, ⟨5, .data⟩], none⟩
abbrev pw7 : Oper := ⟨some 48, .move (.tmp 55), 50, "store.go:84", #[⟨6, .data⟩], none⟩
abbrev pw8 : Oper := ⟨some 56, .extract (.tmp 48) 0, 46, "store.go:84", #[⟨7, .data⟩], none⟩
abbrev pw9 : Oper := ⟨some 57, .extract (.tmp 48) 1, 49, "store.go:84", #[⟨7, .data⟩, { on := 10, ground := Go.Ground.gcOnly Go.Departure.lateStores }], none⟩
abbrev pw10 : Oper := ⟨none, .store 46 (.tmp 7) (.tmp 56), 0, "store.go:84", #[⟨8, .data⟩, ⟨6, .chain⟩, ⟨0, .phase⟩, ⟨1, .phase⟩, ⟨2, .phase⟩, ⟨3, .phase⟩, ⟨4, .phase⟩, ⟨5, .phase⟩, ⟨6, .phase⟩, ⟨7, .phase⟩, ⟨8, .phase⟩, { on := 9, ground := Go.Ground.textOnly Go.Departure.lateStores }], none⟩
abbrev pw11 : Oper := ⟨none, .store 49 (.tmp 4) (.tmp 57), 0, "store.go:84", #[⟨9, .data⟩, ⟨10, .chain⟩, ⟨0, .phase⟩, ⟨1, .phase⟩, ⟨2, .phase⟩, ⟨3, .phase⟩, ⟨4, .phase⟩, ⟨5, .phase⟩, ⟨6, .phase⟩, ⟨7, .phase⟩, ⟨8, .phase⟩, ⟨9, .phase⟩, ⟨10, .phase⟩], none⟩
def ElkC (w : World) (Y : Nat → Prop) (be l p d n : Nat) (s : Sup) (t : Int) (k : Dk) (xs : List Seg) (pe : Nat) (st : List EntS) (us : List Int) (v6 : Value) (wx : World) : Prop :=
  ∃ g6 k' ev, v6 = .pointer (some ⟨g6, 0, none⟩) ∧ w.heap.size ≤ g6 ∧ LgM wx (fun b => Y b ∨ b = g6) l p d n s t k' xs pe ∧ k'.held = k.held ∧ Kept (fun b => Y b ∧ b ≠ be) w wx ∧ Blk wx g6 228 ev ∧ Blk wx be 49 #[.int .i64 0] ∧ EntV st us ev
section
variable {w w' : World} {X Y : Nat → Prop} {B : StB} {slots : Nat} {s : Sup} {xs : List Seg} {st : List EntS} {bl : List (List Int)} {u : Bool} {A : Option Addr} {m c : Nat} {us : List Int} {k k' : Dk} {l p d n pe : Nat} {t : Int}
theorem LookT.ent {e : Ending} (h : LookT w Y l p d n s t k xs pe st us e w') : ∃ ev k', e = .returned (.tuple #[.agg ev, .int .i64 0]) ∧ EntV st us ev ∧ LgM w' Y l p d n s t k' xs pe ∧ k'.held = k.held ∧ Kept Y w w' := by
  obtain ⟨⟨k', h1, h2⟩, h3, h4⟩ := h
  rcases h4 with ⟨h5, h6⟩ | ⟨q, b1, b2, h5, h6, _⟩
  · exact ⟨_, k', h6, .inl ⟨h5, rfl⟩, h1, h2, h3⟩
  · exact ⟨_, k', h6, .inr ⟨q, b1, b2, h5, rfl⟩, h1, h2, h3⟩
theorem ElkC.fin {w3 : World} {Y2 : Nat → Prop} {g6 be : Nat} {ev cs : Array Value} (hY : ∀ b, Y b → b < w.heap.size) (hbe : Y be) (hg : w.heap.size ≤ g6) (hY2 : ∀ b, Y b → Y2 b) (h6 : Y2 g6) (hl : LgM w3 Y2 l p d n s t k' xs pe) (hk : k'.held = k.held) (hkp : Kept Y w w3) (hB : Blk w3 g6 228 cs) (hE : Blk w3 be 49 #[.int .i64 0]) (hev : EntV st us ev) :
    ElkC w Y be l p d n s t k xs pe st us (.pointer (some ⟨g6, 0, none⟩)) ((w3.setRow g6 ev).setCell ⟨be, 0, none⟩ (.int .i64 0)) := by
  have hne : be ≠ g6 := fun e => by have := hY be hbe; omega
  have k1 : Kept (fun b => b ≠ g6) w3 (w3.setRow g6 ev) := (Kept.refl _ _).setRow (fun h => h rfl) ev
  have k2 : Kept (fun b => b ≠ be) (w3.setRow g6 ev) ((w3.setRow g6 ev).setCell ⟨be, 0, none⟩ (.int .i64 0)) := (Kept.refl _ _).setCell (p := ⟨be, 0, none⟩) (fun h => h rfl) _
  have k3 : Kept (fun b => b ≠ g6 ∧ b ≠ be) w3 ((w3.setRow g6 ev).setCell ⟨be, 0, none⟩ (.int .i64 0)) := (k1.mono (fun b h => h.1)).trans k2 (fun b h => h.2)
  refine ⟨g6, k', ev, rfl, hg, (hl.off k3 (fun b _ hn => ⟨fun e => hn (e ▸ h6), fun e => hn (e ▸ hY2 _ hbe)⟩)).less (fun b hb => hb.elim (hY2 b) (fun e => e ▸ h6)), hk, (hkp.mono (fun b h => h.1)).trans k3 (fun b h => ⟨fun e => by have := hY b h.1; omega, h.2⟩), ?_, ?_, hev⟩
  · exact Blk.far (setRow_heap _ _ _ ev _ _ hB) (p := ⟨be, 0, none⟩) (Ne.symm hne) _
  · have h9 := (hE.kept k1 hne).set_ 0 (.int .i64 0)
    exact h9
theorem StoM2.logTo2 {S : Nat → Prop} {s1 : Sup} {xs1 : List Seg} {t1 : Int} {k1 : Dk} {pe1 : Nat} (h : StoM2 w X B slots s xs st bl u) (hk : Kept S w w') (hS : ∀ b, B.own b → S b) (hX : ∀ b, X b → Y b) (hY : ∀ b, B.own b → ¬ Y b) (hYl : ∀ b, Y b → b < w'.heap.size) (hl : LgM w' (fun b => Y b ∨ B.own b) B.l B.p B.d B.n s1 t1 k1 xs1 pe1) (hn : xs1.length = xs.length) (hi : InvS k1 s1 xs1 st) :
    StoM2 w' Y { B with t := t1, k := k1, pe := pe1 } slots s1 xs1 st bl u := by
  obtain ⟨h1, h2, h3⟩ := h.own_kept hk hS
  exact ⟨h1, h2, h.num.trans hn.symm, h3, hl, hi, hY, hYl⟩
theorem left_s14 (h : StoM2 w X B slots s xs st bl u) : Calls Tryz.prog 142 #[.pointer (some ⟨B.x, 0, none⟩)] w fun e w' => e = .returned (.int .i64 ((slots : Int) - (st.length : Nat))) ∧ Kept (fun _ => True) w w' := by
  have hl := h.ix.len
  obtain ⟨c, L, fr, hx, hr, he⟩ := h.ix
  have hn : c 1 = (st.length : Nat) := by
    rw [hr.n]
    have h1 := congrArg List.length he
    unfold esS at h1
    rw [List.length_map, List.length_map] at h1
    rw [h1]
  unfold esS at hl
  rw [List.length_map] at hl
  exact left_ix hx hr.s0 hn (by omega)
theorem AppH.told {bs : List Int} {e : Ending} (h : AppH w Y l p d n s t k xs pe bs e w') : ∃ a er s1 xs1 t1 k1 pe1, e = .returned (.tuple #[.agg #[.int .i64 a.1, .int .u64 a.2.1, .int .i64 a.2.2], .int .i64 er]) ∧ Kept Y w w' ∧ LgM w' Y l p d n s1 t1 k1 xs1 pe1 ∧
    ((appR s xs (cntOf bs.length) = none ∧ er = 6 ∧ s1 = s ∧ xs1 = xs ∧ t1 = t ∧ k1 = k ∧ pe1 = pe) ∨
     (∃ i ys, appR s xs (cntOf bs.length) = some (i, s1, ys) ∧ er = 0 ∧ a = ((i : Int), genG ys i, usedG ys i) ∧ (s1 = s ∨ s1 = genS s) ∧ xs1 = useX ys ((cntOf bs.length : Nat) : Int) ∧ pe1 = pe + 17 ∧ AtR k1 s1 xs1 a bs ∧ ∀ a' bs', AtR k s xs a' bs' → AtR k1 s1 xs1 a' bs' ∧ a' ≠ a)) := by
  obtain ⟨hk, h | ⟨i, s1, ys, t1, k1, h1, h2, h3, h4, h5, h6⟩⟩ := h
  · exact ⟨(0, 0, 0), 6, s, xs, t, k, pe, h.2.1, hk, h.2.2, .inl ⟨h.1, rfl, rfl, rfl, rfl, rfl, rfl⟩⟩
  · exact ⟨_, 0, s1, _, t1, k1, _, h2, hk, h3, .inr ⟨i, ys, h1, rfl, rfl, h4, rfl, rfl, h5, h6⟩⟩
def fullS (st : List EntS) (us : List Int) (slots : Nat) : Bool := (hasS st us).isNone && decide (st.length = slots)
theorem full_iff : fullS st us slots = true ↔ (hasS st us = none ∧ st.length = slots) := by
  unfold fullS
  simp
def PutT (w : World) (X : Nat → Prop) (B : StB) (slots : Nat) (s : Sup) (xs : List Seg) (st : List EntS) (bl : List (List Int)) (bs : List Int) (e : Ending) (w' : World) : Prop :=
  Kept X w w' ∧
  ((fullS st (keyOf bs) slots = true ∧ e = .returned (.int .i64 6) ∧ ∃ k', StoM2 w' X { B with t := B.t, k := k', pe := B.pe } slots s xs st bl false ∧ k'.held = B.k.held) ∨
   (fullS st (keyOf bs) slots = false ∧ appR s xs (cntOf bs.length) = none ∧ e = .returned (.int .i64 6) ∧ ∃ k', StoM2 w' X { B with t := B.t, k := k', pe := B.pe } slots s xs st bl false ∧ k'.held = B.k.held) ∨
   (fullS st (keyOf bs) slots = false ∧ ∃ i s1 xs1 t' k', appR s xs (cntOf bs.length) = some (i, s1, xs1) ∧ (s1 = s ∨ s1 = genS s) ∧ e = .returned (.int .i64 0) ∧
     StoM2 w' X { B with t := t', k := k', pe := B.pe + 17 } slots s1 (useX xs1 ((cntOf bs.length : Nat) : Int)) (outS st (keyOf bs) ++ [(((i : Int), genG xs1 i, usedG xs1 i), bs)]) (addB bl i (keyOf bs)) false))
theorem put_s14 (h : StoM2 w X B slots s xs st bl false) {us vs : List Int} {A2 : Option Addr} {n2 c2 : Nat} {f0 x0 q0 : Int} {dy : Bool} (hk : RowI .u8 w X A m us) (hv : RowI .u8 w X A2 n2 vs) (hb : Bytes us) (hbv : Bytes vs) (hnc : A = none → c = 0) (hnc2 : A2 = none → c2 = 0)
    (hmay : May 1 f0 x0 q0 m n2) (hr : Rng f0 x0 q0) (hpe : B.pe ≤ 900000) (hgm : s.g + 1 ≤ 18446744073709551615) :
    Calls Tryz.prog 56 #[.pointer (some ⟨B.q, 0, none⟩), itmV A m c A2 n2 c2 f0 x0 q0 dy] w (PutT w X B slots s xs st bl (recB 1 f0 x0 q0 us vs)) := by
  obtain ⟨w1, hw1⟩ : ∃ w1, w1 = ((w.alloc (.cells #[.pointer (some ⟨B.q, 0, none⟩)] 105)).alloc (.cells #[.slice A m c, .slice A2 n2 c2, .int .u32 f0, .int .u32 x0, .int .u64 q0, .bool dy] 117)).alloc (.cells #[.int .i64 0] 49) := ⟨_, rfl⟩
  have hb1 : Below w.heap.size w w1 := by rw [hw1]; exact (((Below.refl _ w).alloc (Nat.le_refl _) _).alloc (by simp) _).alloc (by simp; omega) _
  have HS1 := hI (show Blk w1 w.heap.size 105 #[.pointer (some ⟨B.q, 0, none⟩)] by rw [hw1]; exact ((Blk.new w _ _).alloc _).alloc _)
  have HI1 := hI (show Blk w1 (w.heap.size + 1) 117 #[.slice A m c, .slice A2 n2 c2, .int .u32 f0, .int .u32 x0, .int .u64 q0, .bool dy] by rw [hw1]; exact (blk_new2 w _ _ _).alloc _)
  have HE1 := hI (show Blk w1 (w.heap.size + 1 + 1) 49 #[.int .i64 0] by rw [hw1]; exact blk_new3 w _ _ _ _)
  have HZ1 := hI (show w1.heap.size = w.heap.size + 3 by rw [hw1]; simp)
  have HM0 := hI h
  have HB1 := hI hb1
  have HK := hI hk
  have HV := hI hv
  have HBY := hI (And.intro hb hbv)
  have HNC := hI (And.intro hnc hnc2)
  have HMAY := hI hmay
  have HRNG := hI hr
  have HPE := hI (And.intro hpe hgm)
  have HM := hI (show m ≤ 250 by unfold May at hmay; omega)
  have HKEY := hI (show keyOf (recB 1 f0 x0 q0 us vs) = us by
    have h9 := rec_key (k := 1) (f := f0) (x := x0) (s := q0) (xs := us) (ys := vs) (zs := []) (by have := hk.1; unfold May at hmay; omega)
    rwa [List.append_nil] at h9)
  have HKIND := hI (show kindOf (recB 1 f0 x0 q0 us vs) = 1 by
    have h9 := rec_kind (k := 1) (f := f0) (x := x0) (s := q0) (xs := us) (ys := vs) (zs := [])
    rwa [List.append_nil] at h9)
  have HW1 := hI hw1
  clear hw1 hb1 h hk hv hb hbv hnc hnc2 hmay hr hpe hgm
  go_enter_defers Tryz.func56, Tryz.ntmps56
  go_upto_region 1 with fail
  rw [← HW1.out]
  have i0 : w1.cell? ⟨w.heap.size + 1, 0, none⟩ = some (.slice A m c) := HI1.out.cell 0
  have i1 : w1.cell? ⟨w.heap.size + 1, 1, none⟩ = some (.slice A2 n2 c2) := HI1.out.cell 1
  have i2 : w1.cell? ⟨w.heap.size + 1, 2, none⟩ = some (.int .u32 f0) := HI1.out.cell 2
  have i3 : w1.cell? ⟨w.heap.size + 1, 3, none⟩ = some (.int .u32 x0) := HI1.out.cell 3
  have i4 : w1.cell? ⟨w.heap.size + 1, 4, none⟩ = some (.int .u64 q0) := HI1.out.cell 4
  have i5 : w1.cell? ⟨w.heap.size + 1, 5, none⟩ = some (.bool dy) := HI1.out.cell 5
  go_wp2_with fail
  refine (recordOf_ok A m c A2 n2 c2 f0 x0 q0 dy w1).mono ?_
  rintro e w2 ⟨rfl, hb2⟩
  clear i0 i1 i2 i3 i4 i5
  obtain ⟨w3, hw3⟩ : ∃ w3, w3 = w2.alloc (.cells #[.int .i64 1, .int .u32 f0, .int .u32 x0, .int .u64 q0, .slice A m c, .slice A2 n2 c2] 44) := ⟨_, rfl⟩
  have hb3 : Below w1.heap.size w1 w3 := by rw [hw3]; exact hb2.alloc hb2.size _
  have HR3 := hI (show Blk w3 w2.heap.size 44 #[.int .i64 1, .int .u32 f0, .int .u32 x0, .int .u64 q0, .slice A m c, .slice A2 n2 c2] by rw [hw3]; exact Blk.new w2 _ _)
  have HB3 := hI hb3
  have HW3 := hI hw3
  have HZ2 := hI hb2.size
  have hs3 : w3.cell? ⟨w.heap.size, 0, none⟩ = some (.pointer (some ⟨B.q, 0, none⟩)) := (HS1.out.below hb3 HS1.out.lt).cell 0
  have r0 : w3.cell? ⟨w2.heap.size, 0, none⟩ = some (.int .i64 1) := HR3.out.cell 0
  have r1 : w3.cell? ⟨w2.heap.size, 1, none⟩ = some (.int .u32 f0) := HR3.out.cell 1
  have r2 : w3.cell? ⟨w2.heap.size, 2, none⟩ = some (.int .u32 x0) := HR3.out.cell 2
  have r3 : w3.cell? ⟨w2.heap.size, 3, none⟩ = some (.int .u64 q0) := HR3.out.cell 3
  have r4 : w3.cell? ⟨w2.heap.size, 4, none⟩ = some (.slice A m c) := HR3.out.cell 4
  have r5 : w3.cell? ⟨w2.heap.size, 5, none⟩ = some (.slice A2 n2 c2) := HR3.out.cell 5
  clear hb2 hw3 hb3
  go_upto_region 2 with fail
  rw [← HW3.out]
  go_wp2_with fail
  refine (check_yes 1 f0 x0 q0 A A2 m c n2 c2 w3 HMAY.out).mono ?_
  rintro e w4 ⟨rfl, hb4⟩
  have HB4 := hI (HB3.out.trans (hb4.mono HB3.out.size))
  have HR4 := hI (HR3.out.below hb4 HR3.out.lt)
  have HZ4 := hI (And.intro HR3.out.lt hb4.size)
  clear hb4 hs3 r0 r1 r2 r3 r4 r5
  have HM4 := hI (HM0.out.grow (HB1.out.trans (HB4.out.mono HB1.out.size)))
  have HS4 := hI (HS1.out.below HB4.out HS1.out.lt)
  have HI4 := hI (HI1.out.below HB4.out HI1.out.lt)
  have HE4 := hI (HE1.out.below HB4.out HE1.out.lt)
  have hs4 : w4.cell? ⟨w.heap.size, 0, none⟩ = some (.pointer (some ⟨B.q, 0, none⟩)) := HS4.out.cell 0
  go_wp2_with fail
  refine (degraded_ok HM4.out).mono ?_
  rintro e w5 ⟨rfl, rfl⟩
  go_upto_region 8 with fail
  clear hs4
  go_cut [6] from 20 to 29 (fun v6 wx => ElkC w5 (fun b => (X b ∨ (w.heap.size ≤ b ∧ b < w5.heap.size)) ∨ B.own b) (w.heap.size + 1 + 1) B.l B.p B.d B.n s B.t B.k xs B.pe st us v6 wx)
  case first J KK hJ hKK =>
    have HQL := hI (show B.q < w.heap.size from HM0.out.own_lt (.inl rfl))
    have HSS := hI (show ∀ W, Kept (fun b => ((X b ∨ (w.heap.size ≤ b ∧ b < w5.heap.size)) ∨ B.own b) ∧ b ≠ w.heap.size + 1 + 1) w5 W → W.cell? ⟨w.heap.size, 0, none⟩ = some (.pointer (some ⟨B.q, 0, none⟩)) ∧ W.cell? ⟨B.q, 0, none⟩ = some (.pointer (some ⟨B.l, 0, none⟩)) ∧ W.cell? ⟨B.q, 1, none⟩ = some (.pointer (some ⟨B.x, 0, none⟩)) ∧ W.cell? ⟨w.heap.size + 1, 0, none⟩ = some (.slice A m c) from fun W hW => by
      obtain ⟨q0, q1, _, _⟩ := HM4.out.cells
      have h1 := HS4.out.lt
      have h2 := HI4.out.lt
      have h3 := HQL.out
      exact ⟨(HS4.out.kept hW ⟨.inl (.inr ⟨by omega, by omega⟩), by omega⟩).cell 0, (hW.cell (p := ⟨B.q, 0, none⟩) ⟨.inr (.inl rfl), (by omega : B.q ≠ _)⟩).trans q0, (hW.cell (p := ⟨B.q, 1, none⟩) ⟨.inr (.inl rfl), (by omega : B.q ≠ _)⟩).trans q1, (HI4.out.kept hW ⟨.inl (.inr ⟨by omega, by omega⟩), by omega⟩).cell 0⟩)
    have hMd := HM4.out.below ((Below.refl w5.heap.size w5).drew)
    have HKd := hI (show RowI .u8 w5.drew (fun b => (X b ∨ (w.heap.size ≤ b ∧ b < w5.heap.size)) ∨ B.own b) A m us from ((HK.out.below (HB1.out.trans (HB4.out.mono HB1.out.size)) HM0.out.lt).below ((Below.refl w5.heap.size w5).drew) (fun b hb => HM4.out.lt b (.inl hb))).more (fun b hb => .inl (.inl hb)))
    have HMD := hI hMd
    have HED := hI (show Blk w5.drew (w.heap.size + 1 + 1) 49 #[.int .i64 0] from HE4.out.below ((Below.refl w5.heap.size w5).drew) HE4.out.lt)
    have HYL := hI (show ∀ b, ((X b ∨ (w.heap.size ≤ b ∧ b < w5.heap.size)) ∨ B.own b) → b < w5.heap.size from HM4.out.ylt)
    have HYE := hI (show (X (w.heap.size + 1 + 1) ∨ (w.heap.size ≤ w.heap.size + 1 + 1 ∧ w.heap.size + 1 + 1 < w5.heap.size)) ∨ B.own (w.heap.size + 1 + 1) from .inl (.inr ⟨by omega, HE4.out.lt⟩))
    clear hMd
    refine wp_region_noPanic ?_
    refine Tillst.region (fun W => Kept (fun b => ((X b ∨ (w.heap.size ≤ b ∧ b < w5.heap.size)) ∨ B.own b) ∧ b ≠ w.heap.size + 1 + 1) w5 W) [] (by kernel_rfl) ((Kept.refl _ _).drew) (fun hHeld => ?_)
    obtain ⟨vd, hvd⟩ : ∃ vd, vd = w5.drew := ⟨_, rfl⟩
    have HZD := hI (show vd.heap.size = w5.heap.size by rw [hvd]; rfl)
    rw [← hvd] at HKd HMD HED hHeld ⊢
    have HVD := hI (show Kept (fun b => (X b ∨ (w.heap.size ≤ b ∧ b < w5.heap.size)) ∨ B.own b) w5 vd by rw [hvd]; exact (Kept.refl _ _).drew)
    clear hvd
    refine Tillst.tk (i := 0) (oi := pu0) (v := ?_) rfl (by kernel_rfl) (by rfl) ?_ hHeld ?_
    rotate_left
    · intro W hSW; have h9 := (HSS.out W hSW).1; clear hSW; unfold pu0; go_simp; with_reducible rfl
    simp only [pu0, Act.put, sA, sZ, sS]
    refine Tillst.tk (i := 1) (oi := pu1) (v := ?_) rfl (by kernel_rfl) (by rfl) ?_ hHeld ?_
    rotate_left
    · intro W hSW; (try dsimp only at hSW); unfold pu1; go_simp; with_reducible rfl
    simp only [pu1, Act.put, sA, sZ, sS]
    refine Tillst.tk (i := 2) (oi := pu2) (v := ?_) rfl (by kernel_rfl) (by rfl) ?_ hHeld ?_
    rotate_left
    · intro W hSW; (try dsimp only at hSW); unfold pu2; go_simp; with_reducible rfl
    simp only [pu2, Act.put, sA, sZ, sS]
    refine Tillst.tk (i := 3) (oi := pu3) (v := shV B) rfl (by kernel_rfl) (by rfl) ?_ hHeld ?_
    · intro W hSW; obtain ⟨_, h8, h9, _⟩ := HSS.out W hSW; clear hSW; unfold pu3; go_simp
    simp only [pu3, Act.put, sA, sZ, sS]
    refine Tillst.tk (i := 4) (oi := pu4) (v := ?_) rfl (by kernel_rfl) (by rfl) ?_ hHeld ?_
    rotate_left
    · intro W hSW; (try dsimp only at hSW); unfold pu4; go_simp; with_reducible rfl
    simp only [pu4, Act.put, sA, sZ, sS]
    refine Tillst.tk (i := 5) (oi := pu5) (v := ?_) rfl (by kernel_rfl) (by rfl) ?_ hHeld ?_
    rotate_left
    · intro W hSW; have h9 := (HSS.out W hSW).2.2.2; clear hSW; unfold pu5; go_simp; with_reducible rfl
    simp only [pu5, Act.put, sA, sZ, sS]
    refine Tillst.two (i := 6) (j := 10) (o := pu6) (o' := pu10) (by kernel_rfl) rfl rfl ?_ ?_
    · intro K hK
      refine step_call 134 #[.tmp 24, .tmp 26] #[212, 42] rfl rfl Tryz.func134 rfl rfl [shV B, .slice A m c] rfl ((look_any (c := c) HMD.out.log HMD.out.ylt HMD.out.ix (.inr (.inr (.inl rfl))) HMD.out.inv HKd.out HBY.out.1 (by have := HM.out; omega)).mono ?_)
      intro e w6 hlk
      obtain ⟨ev, k6, rfl, hev, hl6, hk6, hkp6⟩ := hlk.ent
      refine ⟨_, rfl, ?_⟩
      simp only [pu6, Act.put, sA, sZ, sS]
      have hS6 : Kept (fun b => ((X b ∨ (w.heap.size ≤ b ∧ b < w5.heap.size)) ∨ B.own b) ∧ b ≠ w.heap.size + 1 + 1) w5 w6 := hHeld.trans hkp6 (fun b h => h.1)
      have HEV := hI hev
      have HL6 := hI hl6
      have HK6 := hI hk6
      have HKP6 := hI (HVD.out.trans hkp6 (fun b h => h))
      have HE6 := hI (HED.out.kept hkp6 HYE.out)
      clear hlk hev hl6 hk6 hkp6 hHeld
      refine hK.out _ _ (fun _ => hS6) (fun hHeld => ?_)
      replace hHeld := hHeld (by decide)
      clear hK K hS6
      refine Tillst.tk (i := 7) (oi := pu7) (v := ?_) rfl (by kernel_rfl) (by rfl) ?_ hHeld ?_
      rotate_left
      · intro W hSW; (try dsimp only at hSW); unfold pu7; go_simp; with_reducible rfl
      simp only [pu7, Act.put, sA, sZ, sS]
      refine Tillst.tk (i := 8) (oi := pu8) (v := ?_) rfl (by kernel_rfl) (by rfl) ?_ hHeld ?_
      rotate_left
      · intro W hSW; (try dsimp only at hSW); unfold pu8; go_simp; with_reducible rfl
      simp only [pu8, Act.put, sA, sZ, sS]
      refine Tillst.tk (i := 9) (oi := pu9) (v := ?_) rfl (by kernel_rfl) (by rfl) ?_ hHeld ?_
      rotate_left
      · intro W hSW; (try dsimp only at hSW); unfold pu9; go_simp; with_reducible rfl
      simp only [pu9, Act.put, sA, sZ, sS]
      refine Tillst.one (i := 10) (o := pu10) (by kernel_rfl) rfl ?_
      intro K hK
      refine step_alloc14 228 rfl rfl ent0C zero_entry ?_
      simp only [pu10, Act.put, sA, sZ, sS]
      have hal := (Below.refl w6.heap.size w6).alloc (Nat.le_refl _) (.cells ent0C 228)
      have hS7 : Kept (fun b => ((X b ∨ (w.heap.size ≤ b ∧ b < w5.heap.size)) ∨ B.own b) ∧ b ≠ w.heap.size + 1 + 1) w5 (w6.alloc (.cells ent0C 228)) := hHeld.trans (Kept.of_below (S := fun b => ((X b ∨ (w.heap.size ≤ b ∧ b < w5.heap.size)) ∨ B.own b) ∧ b ≠ w.heap.size + 1 + 1) hal (fun b h => Nat.lt_of_lt_of_le (HYL.out b h.1) hHeld.size)) (fun b h => h)
      have HL7 := hI (HL6.out.grow hal)
      have HKP7 := hI (HKP6.out.trans (Kept.of_below (S := fun b => (X b ∨ (w.heap.size ≤ b ∧ b < w5.heap.size)) ∨ B.own b) hal (fun b h => Nat.lt_of_lt_of_le (HYL.out b h) HKP6.out.size)) (fun b h => h))
      have HE7 := hI (HE6.out.below hal HE6.out.lt)
      have HN7 := hI (Blk.new w6 228 ent0C)
      have HZ6 := hI HKP6.out.size
      have HZ7 := hI (show w6.heap.size < (w6.alloc (.cells ent0C 228)).heap.size by simp)
      clear hal
      generalize w6.heap.size = g6 at *
      generalize w6.alloc _ = w7 at *
      refine hK.out _ _ (fun _ => hS7) (fun hHeld => ?_)
      replace hHeld := hHeld (by decide)
      clear hK K hS7
      refine Tillst.one (i := 11) (o := pu11) (by kernel_rfl) rfl ?_
      intro K hK
      refine step_store14 (.tmp 6) (.tmp 28) 228 rfl rfl g6 ev rfl rfl 228 _ HN7.out (by rw [size_entry, HEV.out.size.1]) (by rw [HEV.out.size.1]; rfl) HEV.out.size.2 ?_
      simp only [pu11, Act.put, sA, sZ, sS]
      have hk8 : Kept (fun b => b ≠ g6) w7 (w7.setRow g6 ev) := (Kept.refl _ _).setRow (fun h => h rfl) ev
      have hS8 : Kept (fun b => ((X b ∨ (w.heap.size ≤ b ∧ b < w5.heap.size)) ∨ B.own b) ∧ b ≠ w.heap.size + 1 + 1) w5 (w7.setRow g6 ev) := hHeld.trans hk8 (fun b h => by have := HYL.out b h.1; have := HZ6.out; omega)
      have HE8 := hI (HE7.out.kept hk8 (by have := HYL.out _ HYE.out; have := HZ6.out; omega))
      refine hK.out _ _ (fun _ => hS8) (fun hHeld => ?_)
      replace hHeld := hHeld (by decide)
      clear hK K hk8 hS8
      refine Tillst.one (i := 12) (o := pu12) (by kernel_rfl) rfl ?_
      intro K hK
      have e8 : (w7.setRow g6 ev).cell? ⟨w.heap.size + 1 + 1, 0, none⟩ = some (.int .i64 0) := HE8.out.cell 0
      have e9 := HE8.out.frozen 0
      go_simp
      clear e8 e9
      have hS9 : Kept (fun b => ((X b ∨ (w.heap.size ≤ b ∧ b < w5.heap.size)) ∨ B.own b) ∧ b ≠ w.heap.size + 1 + 1) w5 ((w7.setRow g6 ev).setCell ⟨w.heap.size + 1 + 1, 0, none⟩ (.int .i64 0)) := hHeld.setCell (p := ⟨w.heap.size + 1 + 1, 0, none⟩) (fun h => h.2 rfl) _
      refine hK.out _ _ (fun _ => hS9) (fun hHeld => ?_)
      clear hK K hS9
      refine Tillst.done (by kernel_rfl) ?_ _
      refine hKK _ _ (Met.intro (hJ _ _ ?_))
      (repeat apply Exists.intro)
      exact ⟨ElkC.fin HYL.out HYE.out HZ6.out (fun b h => .inl h) (.inr ⟨Nat.le_refl _, HZ7.out⟩) HL7.out HK6.out HKP7.out HN7.out HE7.out HEV.out, rfl⟩
    · intro K hK
      refine step_alloc14 228 rfl rfl ent0C zero_entry ?_
      simp only [pu10, Act.put, sA, sZ, sS]
      have hal := (Below.refl vd.heap.size vd).alloc (Nat.le_refl _) (.cells ent0C 228)
      have hS6 : Kept (fun b => ((X b ∨ (w.heap.size ≤ b ∧ b < w5.heap.size)) ∨ B.own b) ∧ b ≠ w.heap.size + 1 + 1) w5 (vd.alloc (.cells ent0C 228)) := hHeld.trans (Kept.of_below (S := fun b => ((X b ∨ (w.heap.size ≤ b ∧ b < w5.heap.size)) ∨ B.own b) ∧ b ≠ w.heap.size + 1 + 1) hal (fun b h => Nat.lt_of_lt_of_le (HYL.out b h.1) hHeld.size)) (fun b h => h)
      have HL6 := hI (HMD.out.log.grow hal)
      have HX6 := hI (HMD.out.ix.below hal HMD.out.ix.lt)
      have HKP6 := hI (HVD.out.trans (Kept.of_below (S := fun b => (X b ∨ (w.heap.size ≤ b ∧ b < w5.heap.size)) ∨ B.own b) hal (fun b h => Nat.lt_of_lt_of_le (HYL.out b h) HVD.out.size)) (fun b h => h))
      have HE6 := hI (HED.out.below hal HED.out.lt)
      have HKR6 := hI (HKd.out.below hal (fun b h => Nat.lt_of_lt_of_le (HYL.out b h) HVD.out.size))
      have HN6 := hI (Blk.new vd 228 ent0C)
      have HZ6 := hI HVD.out.size
      have HZ7 := hI (show vd.heap.size < (vd.alloc (.cells ent0C 228)).heap.size by simp)
      have HINV := hI HMD.out.inv
      clear hal HMD HKd HED
      generalize vd.heap.size = g6 at *
      generalize vd.alloc _ = w6 at *
      refine hK.out _ _ (fun _ => hS6) (fun hHeld => ?_)
      replace hHeld := hHeld (by decide)
      clear hK K hS6
      refine Tillst.one (i := 6) (o := pu6) (by kernel_rfl) rfl ?_
      intro K hK
      refine step_call 134 #[.tmp 24, .tmp 26] #[212, 42] rfl rfl Tryz.func134 rfl rfl [shV B, .slice A m c] rfl ((look_any (c := c) HL6.out (fun b h => by
        rcases h with h | h
        · exact Nat.lt_of_lt_of_le (HYL.out b h) HKP6.out.size
        · exact h.2) HX6.out (.inl (.inr (.inr (.inl rfl)))) HINV.out (HKR6.out.more (fun b h => .inl h)) HBY.out.1 (by have := HM.out; omega)).mono ?_)
      intro e w7 hlk
      obtain ⟨ev, k6, rfl, hev, hl7, hk7, hkp7⟩ := hlk.ent
      refine ⟨_, rfl, ?_⟩
      simp only [pu6, Act.put, sA, sZ, sS]
      have hS7 : Kept (fun b => ((X b ∨ (w.heap.size ≤ b ∧ b < w5.heap.size)) ∨ B.own b) ∧ b ≠ w.heap.size + 1 + 1) w5 w7 := hHeld.trans hkp7 (fun b h => .inl h.1)
      have HEV := hI hev
      have HL7 := hI hl7
      have HK6 := hI hk7
      have HKP7 := hI (HKP6.out.trans hkp7 (fun b h => .inl h))
      have HE7 := hI (HE6.out.kept hkp7 (.inl HYE.out))
      have HN7 := hI (HN6.out.kept hkp7 (.inr ⟨Nat.le_refl _, HZ7.out⟩))
      clear hlk hev hl7 hk7 hkp7 hHeld HN6 HE6 HL6
      refine hK.out _ _ (fun _ => hS7) (fun hHeld => ?_)
      replace hHeld := hHeld (by decide)
      clear hK K hS7
      refine Tillst.tk (i := 7) (oi := pu7) (v := ?_) rfl (by kernel_rfl) (by rfl) ?_ hHeld ?_
      rotate_left
      · intro W hSW; (try dsimp only at hSW); unfold pu7; go_simp; with_reducible rfl
      simp only [pu7, Act.put, sA, sZ, sS]
      refine Tillst.tk (i := 8) (oi := pu8) (v := ?_) rfl (by kernel_rfl) (by rfl) ?_ hHeld ?_
      rotate_left
      · intro W hSW; (try dsimp only at hSW); unfold pu8; go_simp; with_reducible rfl
      simp only [pu8, Act.put, sA, sZ, sS]
      refine Tillst.tk (i := 9) (oi := pu9) (v := ?_) rfl (by kernel_rfl) (by rfl) ?_ hHeld ?_
      rotate_left
      · intro W hSW; (try dsimp only at hSW); unfold pu9; go_simp; with_reducible rfl
      simp only [pu9, Act.put, sA, sZ, sS]
      refine Tillst.one (i := 11) (o := pu11) (by kernel_rfl) rfl ?_
      intro K hK
      refine step_store14 (.tmp 6) (.tmp 28) 228 rfl rfl g6 ev rfl rfl 228 _ HN7.out (by rw [size_entry, HEV.out.size.1]) (by rw [HEV.out.size.1]; rfl) HEV.out.size.2 ?_
      simp only [pu11, Act.put, sA, sZ, sS]
      have hk8 : Kept (fun b => b ≠ g6) w7 (w7.setRow g6 ev) := (Kept.refl _ _).setRow (fun h => h rfl) ev
      have hS8 : Kept (fun b => ((X b ∨ (w.heap.size ≤ b ∧ b < w5.heap.size)) ∨ B.own b) ∧ b ≠ w.heap.size + 1 + 1) w5 (w7.setRow g6 ev) := hHeld.trans hk8 (fun b h => by have := HYL.out b h.1; have := HZ6.out; omega)
      have HE8 := hI (HE7.out.kept hk8 (by have := HYL.out _ HYE.out; have := HZ6.out; omega))
      refine hK.out _ _ (fun _ => hS8) (fun hHeld => ?_)
      replace hHeld := hHeld (by decide)
      clear hK K hk8 hS8
      refine Tillst.one (i := 12) (o := pu12) (by kernel_rfl) rfl ?_
      intro K hK
      have e8 : (w7.setRow g6 ev).cell? ⟨w.heap.size + 1 + 1, 0, none⟩ = some (.int .i64 0) := HE8.out.cell 0
      have e9 := HE8.out.frozen 0
      go_simp
      clear e8 e9
      have hS9 : Kept (fun b => ((X b ∨ (w.heap.size ≤ b ∧ b < w5.heap.size)) ∨ B.own b) ∧ b ≠ w.heap.size + 1 + 1) w5 ((w7.setRow g6 ev).setCell ⟨w.heap.size + 1 + 1, 0, none⟩ (.int .i64 0)) := hHeld.setCell (p := ⟨w.heap.size + 1 + 1, 0, none⟩) (fun h => h.2 rfl) _
      refine hK.out _ _ (fun _ => hS9) (fun hHeld => ?_)
      clear hK K hS9
      refine Tillst.done (by kernel_rfl) ?_ _
      refine hKK _ _ (Met.intro (hJ _ _ ?_))
      (repeat apply Exists.intro)
      exact ⟨ElkC.fin HYL.out HYE.out HZ6.out (fun b h => .inl h) (.inr ⟨Nat.le_refl _, HZ7.out⟩) HL7.out HK6.out HKP7.out HN7.out HE7.out HEV.out, rfl⟩
  case rest =>
    obtain ⟨g6, k6, ev, rfl, hg6, hl6, hk6, hkp6, hen6, hbe6, hev⟩ := hcut
    have HOL := hI (show ∀ b, B.own b → b < w.heap.size from fun b hb => HM0.out.own_lt hb)
    have hw45 := HB1.out.size
    have hw55 := HB4.out.size
    have hM6 : StoM2 wc (fun b => (X b ∨ (w.heap.size ≤ b ∧ b < w5.heap.size)) ∨ b = g6) { B with t := B.t, k := k6, pe := B.pe } slots s xs st bl false :=
      HM4.out.logTo2 hkp6 (fun b hb => ⟨.inr hb, by have := HOL.out b hb; omega⟩) (fun b hb => .inl hb) (fun b hb hx => by
        have h1 := HOL.out b hb
        rcases hx with hx | hx
        · exact HM4.out.off b hb hx
        · omega) (fun b hb => by
        rcases hb with hb | hb
        · exact Nat.lt_of_lt_of_le (HM4.out.lt b hb) hkp6.size
        · rw [hb]; exact hen6.lt) (hl6.less (fun b hb => by
        rcases hb with (h | h) | h
        · exact .inl (.inl h)
        · exact .inr h
        · exact .inl (.inr h))) rfl (HM4.out.inv.held hk6)
    have h1 := HS4.out.lt
    have h2 := HI4.out.lt
    have h3 := HE4.out.lt
    have h4 := HR4.out.lt
    have h5 := HZ1.out
    have h6 := HZ2.out
    have HS6 := hI (HS4.out.kept hkp6 ⟨.inl (.inr ⟨by omega, by omega⟩), by omega⟩)
    have HI6 := hI (HI4.out.kept hkp6 ⟨.inl (.inr ⟨by omega, by omega⟩), by omega⟩)
    have HR6 := hI (HR4.out.kept hkp6 ⟨.inl (.inr ⟨by omega, by omega⟩), by omega⟩)
    have HKX6 := hI (show Kept X w wc from (Kept.of_below (HB1.out.trans (HB4.out.mono HB1.out.size)) HM0.out.lt).trans hkp6 (fun b hb => ⟨.inl (.inl hb), by have := HM0.out.lt b hb; omega⟩))
    have HM6 := hI hM6
    have HEN6 := hI hen6
    have HBE6 := hI hbe6
    have HEV := hI hev
    have HH6 := hI hk6
    have HG6 := hI hg6
    have HSZ6 := hI hkp6.size
    have HBL := hI (show w.heap.size + 3 ≤ w2.heap.size ∧ w2.heap.size < w5.heap.size by omega)
    clear hM6 hen6 hbe6 hev hk6 hg6 hkp6 hl6 h1 h2 h3 h4 h5 h6 hw45 hw55 HS4 HI4 HE4 HR4 HS1 HI1 HE1 HR3
    have e0 : wc.cell? ⟨w.heap.size + 1 + 1, 0, none⟩ = some (.int .i64 0) := HBE6.out.cell 0
    go_upto_region 11 with fail
    clear e0
    go_cut [34] from 35 to 46 (fun t wx => t = .bool (fullS st us slots) ∧ Kept (fun _ => True) wc wx)
    case first J KK hJ hKK =>
      by_cases hno : hasS st us = none
      case neg =>
        have hf : fullS st us slots = false := by
          cases h : fullS st us slots with
          | false => rfl
          | true => exact absurd (full_iff.1 h).1 hno
        have n0 : wc.cell? ⟨g6, 0, none⟩ = some (.bool true) := by
          rcases HEV.out with ⟨h, _⟩ | ⟨q, b1, b2, _, h⟩
          · exact absurd h hno
          · have h9 := HEN6.out
            rw [h] at h9
            exact h9.cell 0
        go_wp2_with fail
        go_meet
        case rel => exact ⟨by rw [hf], Kept.refl _ _⟩
      case pos =>
        have hev0 : ev = ent0C := by
          rcases HEV.out with ⟨_, h⟩ | ⟨q, b1, b2, h, _⟩
          · exact h
          · rw [hno] at h; cases h
        subst hev0
        have s0 : wc.cell? ⟨w.heap.size, 0, none⟩ = some (.pointer (some ⟨B.q, 0, none⟩)) := HS6.out.cell 0
        have n0 : wc.cell? ⟨g6, 0, none⟩ = some (.bool false) := HEN6.out.cell 0
        have q1 : wc.cell? ⟨B.q, 1, none⟩ = some (.pointer (some ⟨B.x, 0, none⟩)) := HM6.out.cells.2.1
        have HLF := hI (left_s14 HM6.out)
        by_cases hfl : st.length = slots
        · have hd : ((slots : Int) - (st.length : Nat) == 0) = true := by
            rw [hfl]; simp
          have hf : fullS st us slots = true := full_iff.2 ⟨hno, hfl⟩
          have HF := hI hf
          clear hno hfl hf
          go_wp2_with fail
          refine HLF.out.mono ?_
          rintro e w6 ⟨rfl, hk⟩
          have HK9 := hI hk
          clear hk HLF
          go_wp2_with fail
          go_meet
          case rel => exact ⟨by rw [HF.out], HK9.out⟩
        · have hd : ((slots : Int) - (st.length : Nat) == 0) = false := by
            have : (slots : Int) - (st.length : Nat) ≠ 0 := by omega
            simpa using this
          have hf : fullS st us slots = false := by
            cases h : fullS st us slots with
            | false => rfl
            | true => exact absurd (full_iff.1 h).2 hfl
          have HF := hI hf
          clear hno hfl hf
          go_wp2_with fail
          refine HLF.out.mono ?_
          rintro e w6 ⟨rfl, hk⟩
          have HK9 := hI hk
          clear hk HLF
          go_wp2_with fail
          go_meet
          case rel => exact ⟨by rw [HF.out], HK9.out⟩
    case rest =>
      obtain ⟨rfl, hkw⟩ := hcut
      have HM7 := hI (HM6.out.offX hkw (fun _ _ _ => trivial))
      have HS7 := hI (HS6.out.kept hkw trivial)
      have HI7 := hI (HI6.out.kept hkw trivial)
      have HR7 := hI (HR6.out.kept hkw trivial)
      have HEN7 := hI (HEN6.out.kept hkw trivial)
      have HBE7 := hI (HBE6.out.kept hkw trivial)
      have HKX7 := hI (HKX6.out.trans hkw (fun _ _ => trivial))
      have HSZ7 := hI (Nat.le_trans HSZ6.out hkw.size)
      clear hkw HM6 HS6 HI6 HR6 HEN6 HBE6 HKX6 HSZ6
      have e0 : wc.cell? ⟨w.heap.size + 1 + 1, 0, none⟩ = some (.int .i64 0) := HBE7.out.cell 0
      have e9 := HBE7.out.frozen 0
      cases hf : fullS st us slots with
      | true =>
        have HF := hI hf
        clear hf
        go_wp2_with fail
        clear e0 e9
        have hkb : Kept (fun b => b ≠ w.heap.size + 1 + 1) wc (wc.setCell ⟨w.heap.size + 1 + 1, 0, none⟩ (.int .i64 6)) := (Kept.refl _ _).setCell (p := ⟨w.heap.size + 1 + 1, 0, none⟩) (fun h => h rfl) _
        have hbx := HBL.out
        refine ⟨.int .i64 6, ?_, HKX7.out.trans hkb (fun b hb => by have := HM0.out.lt b hb; omega), .inl ⟨?_, rfl, k6, ?_, HH6.out⟩⟩
        · have c6 : (wc.setCell ⟨w.heap.size + 1 + 1, 0, none⟩ (.int .i64 6)).cell? ⟨w.heap.size + 1 + 1, 0, none⟩ = some (.int .i64 6) := (HBE7.out.set_ 0 (.int .i64 6)).cell 0
          simp [results, Tryz.f56, go_sem, c6]
        · rw [HKEY.out]; exact HF.out
        · exact (HM7.out.offX hkb (fun b hb hn => fun e => hn (.inl (.inr ⟨by omega, by omega⟩)))).less (fun b hb => .inl (.inl hb))
      | false =>
        have HF := hI hf
        have hmf : ∀ (fn : Fn) (first cap : Array Value) (w : World), (Instr.makeFunc fn first cap).run Tryz.prog w = .ok (.func fn first cap) w := fun _ _ _ _ => rfl
        clear hf
        obtain ⟨w8, hw8⟩ : ∃ w8, w8 = wc.alloc (.cells #[.int .i64 0, .int .u64 0, .int .i64 0] 46) := ⟨_, rfl⟩
        have hal : Below wc.heap.size wc w8 := by rw [hw8]; exact (Below.refl _ wc).alloc (Nat.le_refl _) _
        have HA8 := hI (show Blk w8 wc.heap.size 46 #[.int .i64 0, .int .u64 0, .int .i64 0] by rw [hw8]; exact Blk.new wc _ _)
        have HM8 := hI (HM7.out.grow hal)
        have HS8 := hI (HS7.out.below hal HS7.out.lt)
        have HI8 := hI (HI7.out.below hal HI7.out.lt)
        have HR8 := hI (HR7.out.below hal HR7.out.lt)
        have HEN8 := hI (HEN7.out.below hal HEN7.out.lt)
        have HBE8 := hI (HBE7.out.below hal HBE7.out.lt)
        have HKX8 := hI (HKX7.out.trans (Kept.of_below (S := X) hal (fun b hb => Nat.lt_of_lt_of_le (HM0.out.lt b hb) HKX7.out.size)) (fun b h => h))
        have HZ8 := hI (show wc.heap.size < w8.heap.size by rw [hw8]; simp)
        have HGG := hI HEN7.out.lt
        have HW8 := hI hw8
        clear hal hw8 HM7 HS7 HI7 HR7 HEN7 HBE7 HKX7
        go_upto_region 15 with fail
        rw [← HW8.out]
        clear e0 e9 HW8
        obtain ⟨X8, hX8⟩ : ∃ X8 : Nat → Prop, (fun b => ((X b ∨ (w.heap.size ≤ b ∧ b < w5.heap.size)) ∨ b = g6) ∨ (wc.heap.size ≤ b ∧ b < w8.heap.size)) = X8 := ⟨_, rfl⟩
        rw [hX8] at HM8
        have hx0 : ∀ b, X b → X8 b := fun b hb => by rw [← hX8]; exact .inl (.inl (.inl hb))
        have hbl := HBL.out
        have hz1 := HZ1.out
        have hz8 := HZ8.out
        have hz7 := HSZ7.out
        have HIN := hI (show X8 w.heap.size ∧ X8 (w.heap.size + 1) ∧ X8 (w.heap.size + 1 + 1) ∧ X8 w2.heap.size ∧ X8 g6 ∧ X8 wc.heap.size by
          rw [← hX8]
          exact ⟨.inl (.inl (.inr ⟨by omega, by omega⟩)), .inl (.inl (.inr ⟨by omega, by omega⟩)), .inl (.inl (.inr ⟨by omega, by omega⟩)), .inl (.inl (.inr ⟨by omega, by omega⟩)), .inl (.inr rfl), .inr ⟨by omega, by omega⟩⟩)
        have HX0 := hI hx0
        have HQL := hI (show B.q < w.heap.size from HOL.out _ (.inl rfl))
        clear hX8 hx0 hbl hz1 hz8 hz7
        have HSS := hI (show ∀ W, Kept (fun b => (X8 b ∨ B.own b) ∧ b ≠ w.heap.size + 1 + 1 ∧ b ≠ wc.heap.size) w8 W → W.cell? ⟨w.heap.size, 0, none⟩ = some (.pointer (some ⟨B.q, 0, none⟩)) ∧ W.cell? ⟨B.q, 0, none⟩ = some (.pointer (some ⟨B.l, 0, none⟩)) ∧ Blk W w2.heap.size 44 #[.int .i64 1, .int .u32 f0, .int .u32 x0, .int .u64 q0, .slice A m c, .slice A2 n2 c2] from fun W hW => by
          obtain ⟨q0, q1, _, _⟩ := HM8.out.cells
          obtain ⟨i1, i2, i3, i4, i5, i6⟩ := HIN.out
          have h3 := HQL.out
          have hbl := HBL.out
          have hz7 := HSZ7.out
          exact ⟨(HS8.out.kept hW ⟨.inl i1, by omega, by omega⟩).cell 0, (hW.cell (p := ⟨B.q, 0, none⟩) ⟨.inr (.inl rfl), (by omega : B.q ≠ _), (by omega : B.q ≠ _)⟩).trans q0, HR8.out.kept hW ⟨.inl i4, by omega, by omega⟩⟩)
        have HRK := hI (HK.out.kept HKX8.out (fun b hb => hb))
        have HRV := hI (HV.out.kept HKX8.out (fun b hb => hb))
        have HYL := hI (HM8.out.ylt)
        refine wp_region_noPanic ?_
        refine Tillst.region (fun W => Kept (fun b => (X8 b ∨ B.own b) ∧ b ≠ w.heap.size + 1 + 1 ∧ b ≠ wc.heap.size) w8 W) [] (by kernel_rfl) ((Kept.refl _ _).drew) (fun hHeld => ?_)
        have hdr := (Below.refl w8.heap.size w8).drew
        have HAP := hI (append_at (HM8.out.below hdr).log (HM8.out.below hdr).ylt HPE.out.1 HPE.out.2 (c1 := c) (c2 := c2) HMAY.out HRNG.out
          ((HRK.out.below hdr (fun b hb => HM8.out.lt b (HX0.out b hb))).more (fun b hb => HM8.out.lt b (HX0.out b hb))) ((HRV.out.below hdr (fun b hb => HM8.out.lt b (HX0.out b hb))).more (fun b hb => HM8.out.lt b (HX0.out b hb))) HNC.out.1 HNC.out.2 HBY.out.1 HBY.out.2)
        clear hdr
        refine Tillst.tk (i := 0) (oi := pw0) (v := ?_) rfl (by kernel_rfl) (by rfl) ?_ hHeld ?_
        rotate_left
        · intro W hSW; have h9 := (HSS.out W hSW).1; clear hSW; unfold pw0; go_simp; with_reducible rfl
        simp only [pw0, Act.put, sA, sZ, sS]
        refine Tillst.tk (i := 1) (oi := pw1) (v := ?_) rfl (by kernel_rfl) (by rfl) ?_ hHeld ?_
        rotate_left
        · intro W hSW; (try dsimp only at hSW); unfold pw1; go_simp; with_reducible rfl
        simp only [pw1, Act.put, sA, sZ, sS]
        refine Tillst.tk (i := 2) (oi := pw2) (v := ?_) rfl (by kernel_rfl) (by rfl) ?_ hHeld ?_
        rotate_left
        · intro W hSW; (try dsimp only at hSW); unfold pw2; go_simp; with_reducible rfl
        simp only [pw2, Act.put, sA, sZ, sS]
        refine Tillst.tk (i := 3) (oi := pw3) (v := ?_) rfl (by kernel_rfl) (by rfl) ?_ hHeld ?_
        rotate_left
        · intro W hSW; (try dsimp only at hSW); unfold pw3; go_simp; with_reducible rfl
        simp only [pw3, Act.put, sA, sZ, sS]
        refine Tillst.tk (i := 4) (oi := pw4) (v := ?_) rfl (by kernel_rfl) (by rfl) ?_ hHeld ?_
        rotate_left
        · intro W hSW; have h9 := (HSS.out W hSW).2.1; clear hSW; unfold pw4; go_simp; with_reducible rfl
        simp only [pw4, Act.put, sA, sZ, sS]
        refine Tillst.tk (i := 5) (oi := pw5) (v := .agg #[.int .i64 1, .int .u32 f0, .int .u32 x0, .int .u64 q0, .slice A m c, .slice A2 n2 c2]) rfl (by kernel_rfl) (by rfl) ?_ hHeld ?_
        · intro W hSW; exact row_runs (.tmp 5) 44 rfl w2.heap.size rfl 44 [.int .i64 1, .int .u32 f0, .int .u32 x0, .int .u64 q0, .slice A m c, .slice A2 n2 c2] _ Tryz.underlying44 rfl size_rec (HSS.out W hSW).2.2
        simp only [pw5, Act.put, sA, sZ, sS]
        refine Tillst.one (i := 6) (o := pw6) (by kernel_rfl) rfl ?_
        intro K hK
        refine step_call 17 #[.tmp 53, .tmp 54] #[26, 44] rfl rfl Tryz.func17 rfl rfl [.pointer (some ⟨B.l, 0, none⟩), .agg #[.int .i64 1, .int .u32 f0, .int .u32 x0, .int .u64 q0, .slice A m c, .slice A2 n2 c2]] rfl (HAP.out.mono ?_)
        intro e w9 hap
        obtain ⟨a, er, s1, xs1, t1, k1, pe1, rfl, hk9, hl9, hcase⟩ := hap.told
        refine ⟨_, rfl, ?_⟩
        simp only [pw6, Act.put, sA, sZ, sS]
        have hS9 : Kept (fun b => (X8 b ∨ B.own b) ∧ b ≠ w.heap.size + 1 + 1 ∧ b ≠ wc.heap.size) w8 w9 := hHeld.trans hk9 (fun b h => h.1)
        have HK9 := hI (((Kept.refl (fun b => X8 b ∨ B.own b) w8).drew).trans hk9 (fun b h => h))
        have HL9 := hI hl9
        have HC := hI hcase
        have HA9 := hI (HA8.out.kept HK9.out (.inl HIN.out.2.2.2.2.2))
        have HE9 := hI (HBE8.out.kept HK9.out (.inl HIN.out.2.2.1))
        clear hap hk9 hl9 hcase HAP hHeld
        refine hK.out _ _ (fun _ => hS9) (fun hHeld => ?_)
        replace hHeld := hHeld (by decide)
        clear hK K hS9
        refine Tillst.tk (i := 7) (oi := pw7) (v := ?_) rfl (by kernel_rfl) (by rfl) ?_ hHeld ?_
        rotate_left
        · intro W hSW; (try dsimp only at hSW); unfold pw7; go_simp; with_reducible rfl
        simp only [pw7, Act.put, sA, sZ, sS]
        refine Tillst.tk (i := 8) (oi := pw8) (v := ?_) rfl (by kernel_rfl) (by rfl) ?_ hHeld ?_
        rotate_left
        · intro W hSW; (try dsimp only at hSW); unfold pw8; go_simp; with_reducible rfl
        simp only [pw8, Act.put, sA, sZ, sS]
        refine Tillst.tk (i := 9) (oi := pw9) (v := ?_) rfl (by kernel_rfl) (by rfl) ?_ hHeld ?_
        rotate_left
        · intro W hSW; (try dsimp only at hSW); unfold pw9; go_simp; with_reducible rfl
        simp only [pw9, Act.put, sA, sZ, sS]
        refine Tillst.one (i := 10) (o := pw10) (by kernel_rfl) rfl ?_
        intro K hK
        refine step_store14 (.tmp 7) (.tmp 56) 46 rfl rfl wc.heap.size #[.int .i64 a.1, .int .u64 a.2.1, .int .i64 a.2.2] rfl rfl 46 _ HA9.out size_addr rfl (by simp [Value.oneCell']) ?_
        simp only [pw10, Act.put, sA, sZ, sS]
        have hk10 : Kept (fun b => b ≠ wc.heap.size) w9 (w9.setRow wc.heap.size #[.int .i64 a.1, .int .u64 a.2.1, .int .i64 a.2.2]) := (Kept.refl _ _).setRow (fun h => h rfl) _
        have hS10 : Kept (fun b => (X8 b ∨ B.own b) ∧ b ≠ w.heap.size + 1 + 1 ∧ b ≠ wc.heap.size) w8 (w9.setRow wc.heap.size #[.int .i64 a.1, .int .u64 a.2.1, .int .i64 a.2.2]) := hHeld.trans hk10 (fun b h => h.2.2)
        have hcb : wc.heap.size ≠ w.heap.size + 1 + 1 := by have := HBL.out; have := HSZ7.out; omega
        have HE10 := hI (HE9.out.kept hk10 (Ne.symm hcb))
        have HA10 := hI (setRow_heap _ _ _ #[.int .i64 a.1, .int .u64 a.2.1, .int .i64 a.2.2] _ _ HA9.out)
        have HK10 := hI hk10
        obtain ⟨w10, hw10⟩ : ∃ w10, w10 = w9.setRow wc.heap.size #[.int .i64 a.1, .int .u64 a.2.1, .int .i64 a.2.2] := ⟨_, rfl⟩
        rw [← hw10] at HE10 HA10 HK10 hS10 ⊢
        clear hk10 hw10
        refine hK.out _ _ (fun _ => hS10) (fun hHeld => ?_)
        replace hHeld := hHeld (by decide)
        clear hK K hS10
        refine Tillst.one (i := 11) (o := pw11) (by kernel_rfl) rfl ?_
        intro K hK
        have e8 : w10.cell? ⟨w.heap.size + 1 + 1, 0, none⟩ = some (.int .i64 0) := HE10.out.cell 0
        have e9 := HE10.out.frozen 0
        go_simp
        clear e8 e9
        have hS11 : Kept (fun b => (X8 b ∨ B.own b) ∧ b ≠ w.heap.size + 1 + 1 ∧ b ≠ wc.heap.size) w8 (w10.setCell ⟨w.heap.size + 1 + 1, 0, none⟩ (.int .i64 er)) := hHeld.setCell (p := ⟨w.heap.size + 1 + 1, 0, none⟩) (fun h => h.2.1 rfl) _
        refine hK.out _ _ (fun _ => hS11) (fun hHeld => ?_)
        clear hK K hS11
        refine Tillst.done (by kernel_rfl) ?_ _
        refine NoPanic.normal ?_
        obtain ⟨w11, hw11⟩ : ∃ w11, w11 = w10.setCell ⟨w.heap.size + 1 + 1, 0, none⟩ (.int .i64 er) := ⟨_, rfl⟩
        have HE11 := hI (show Blk w11 (w.heap.size + 1 + 1) 49 #[.int .i64 er] by rw [hw11]; exact HE10.out.set_ 0 (.int .i64 er))
        have HA11 := hI (show Blk w11 wc.heap.size 46 #[.int .i64 a.1, .int .u64 a.2.1, .int .i64 a.2.2] by rw [hw11]; exact Blk.far HA10.out (p := ⟨w.heap.size + 1 + 1, 0, none⟩) hcb _)
        have HK11 := hI (show Kept (fun b => b ≠ wc.heap.size ∧ b ≠ w.heap.size + 1 + 1) w9 w11 by rw [hw11]; exact (HK10.out.mono (fun b h => h.1)).setCell (p := ⟨w.heap.size + 1 + 1, 0, none⟩) (fun h => h.2 rfl) _)
        rw [← hw11]
        clear hw11 HE10 HA10 HK10 HE9 HA9
        have e8 : w11.cell? ⟨w.heap.size + 1 + 1, 0, none⟩ = some (.int .i64 er) := HE11.out.cell 0
        have e9 := HE11.out.frozen 0
        go_wp2_with fail
        clear e8 e9
        obtain ⟨w12, hw12⟩ : ∃ w12, w12 = w11.setCell ⟨w.heap.size + 1 + 1, 0, none⟩ (.int .i64 er) := ⟨_, rfl⟩
        have HE12 := hI (show Blk w12 (w.heap.size + 1 + 1) 49 #[.int .i64 er] by rw [hw12]; exact HE11.out.set_ 0 (.int .i64 er))
        have hcb : wc.heap.size ≠ w.heap.size + 1 + 1 := by have := HBL.out; have := HSZ7.out; omega
        have HA12 := hI (show Blk w12 wc.heap.size 46 #[.int .i64 a.1, .int .u64 a.2.1, .int .i64 a.2.2] by rw [hw12]; exact Blk.far HA11.out (p := ⟨w.heap.size + 1 + 1, 0, none⟩) hcb _)
        have HK12 := hI (show Kept (fun b => b ≠ wc.heap.size ∧ b ≠ w.heap.size + 1 + 1) w9 w12 by rw [hw12]; exact HK11.out.setCell (p := ⟨w.heap.size + 1 + 1, 0, none⟩) (fun h => h.2 rfl) _)
        rw [← hw12]
        clear hw12 HE11 HA11 HK11
        have hbl := HBL.out
        have hz7 := HSZ7.out
        have hgg := HGG.out
        have hg6 := HG6.out
        obtain ⟨i1, i2, i3, i4, i5, i6⟩ := HIN.out
        have hk812 : Kept (fun b => (X8 b ∨ B.own b) ∧ b ≠ wc.heap.size ∧ b ≠ w.heap.size + 1 + 1) w8 w12 := (HK9.out.mono (fun b h => h.1)).trans HK12.out (fun b h => h.2)
        have HS12 := hI (HS8.out.kept hk812 ⟨.inl i1, by omega, by omega⟩)
        have HI12 := hI (HI8.out.kept hk812 ⟨.inl i2, by omega, by omega⟩)
        have HEN12 := hI (HEN8.out.kept hk812 ⟨.inl i5, by omega, by omega⟩)
        have hkx : Kept X w w12 := HKX8.out.trans hk812 (fun b hb => ⟨.inl (HX0.out b hb), by have := HM0.out.lt b hb; omega, by have := HM0.out.lt b hb; omega⟩)
        have hl12 := HL9.out.off HK12.out (fun b _ hn => ⟨fun e => hn (.inl (e ▸ i6)), fun e => hn (.inl (e ▸ i3))⟩)
        have hdim : xs1.length = xs.length := by
          have h1 := hl12.dims
          have h2 := HM8.out.log.dims
          rcases HC.out with ⟨_, _, e, _⟩ | ⟨_, _, _, _, _, e | e, _⟩
          · rw [e] at h1; omega
          · rw [e] at h1; omega
          · rw [e] at h1
            have h3 : (genS s).a = s.a := rfl
            omega
        refine leaves_cons (f := 143) (args := #[.pointer (some ⟨w.heap.size + 1 + 1, 0, none⟩), .pointer (some ⟨w.heap.size, 0, none⟩), .pointer (some ⟨w.heap.size + 1, 0, none⟩), .pointer (some ⟨g6, 0, none⟩), .pointer (some ⟨wc.heap.size, 0, none⟩)]) (by simp) (by simp [go_sem]) ?_
        rcases HC.out with ⟨hno, rfl, rfl, rfl, rfl, rfl, rfl⟩ | ⟨i, ys, hsome, rfl, ha, hs1, hxs, hpe1, hat, hall⟩
        · refine (putD_no _ _ _ _ HE12.out (by decide)).mono ?_
          rintro e u' w13 ⟨rfl, rfl, rfl⟩
          have hm := HM8.out.logTo2 hk812 (fun b hb => ⟨.inr hb, by have := HOL.out b hb; omega, by have := HOL.out b hb; omega⟩) (fun b hb => hb) HM8.out.off (fun b hb => Nat.lt_of_lt_of_le (HM8.out.lt b hb) hk812.size) hl12 rfl HM8.out.inv
          refine ⟨.int .i64 6, ?_, hkx, .inr (.inl ⟨?_, hno, rfl, _, hm.less HX0.out, HH6.out⟩)⟩
          · have c6 : w13.cell? ⟨w.heap.size + 1 + 1, 0, none⟩ = some (.int .i64 6) := HE12.out.cell 0
            simp [results, Tryz.f56, go_sem, c6]
          · rw [HKEY.out]; exact HF.out
        · have hm := HM8.out.logTo2 hk812 (fun b hb => ⟨.inr hb, by have := HOL.out b hb; omega, by have := HOL.out b hb; omega⟩) (fun b hb => hb) HM8.out.off (fun b hb => Nat.lt_of_lt_of_le (HM8.out.lt b hb) hk812.size) hl12 hdim (HM8.out.inv.go (fun a' bs' h => (hall a' bs' h).1))
          have hil : i < bl.length := by
            obtain ⟨_, j, cc, e, h2, _⟩ := hat
            rw [ha] at e
            injection e with e1 _
            have := HM8.out.num
            omega
          have hfr : ∀ p, p ∈ st → p.1 ≠ a := fun p hp => (hall _ _ (HM8.out.inv.here p hp)).2
          have hsl : (outS st us).length ≠ slots := by
            have h9 := HM8.out.ix.len
            unfold esS at h9
            rw [List.length_map] at h9
            by_cases hh : hasS st us = none
            · rw [out_none hh]
              intro e
              have := full_iff.2 ⟨hh, e⟩
              rw [HF.out] at this
              cases this
            · have := out_lt hh
              omega
          rw [ha] at hat hfr
          have hA12 : Blk w12 wc.heap.size 46 #[.int .i64 (i : Int), .int .u64 (genG ys i), .int .i64 (usedG ys i)] := by
            have h9 := HA12.out
            rw [ha] at h9
            exact h9
          have hrow : RowI .u8 w12 X8 A m (keyOf (recB 1 f0 x0 q0 us vs)) := by
            rw [HKEY.out]
            exact (HK.out.kept hkx (fun b hb => hb)).more HX0.out
          refine (putD_ok (c := c) hm (by rw [HKEY.out]; exact HEV.out) HE12.out HS12.out HI12.out HEN12.out hA12 ⟨i1, i2, i6⟩ hil hrow (by rw [HKEY.out]; exact HBY.out.1) (by have := HM.out; omega) hat hfr HKIND.out (by rw [HKEY.out]; exact hsl)).mono ?_
          rintro e u' w13 ⟨rfl, rfl, hm13, hk13⟩
          subst hxs hpe1
          have hown : ∀ b, X8 b → b < w12.heap.size ∧ ¬ B.own b := fun b hb => ⟨Nat.lt_of_lt_of_le (HM8.out.lt b hb) hk812.size, fun e => HM8.out.off b e hb⟩
          refine ⟨.int .i64 0, ?_, hkx.trans hk13 (fun b hb => hown b (HX0.out b hb)), .inr (.inr ⟨?_, i, s1, ys, t1, k1, hsome, hs1, rfl, hm13.less HX0.out⟩)⟩
          · have c6 : w13.cell? ⟨w.heap.size + 1 + 1, 0, none⟩ = some (.int .i64 0) := (HE12.out.kept hk13 (hown _ i3)).cell 0
            simp [results, Tryz.f56, go_sem, c6]
          · rw [HKEY.out]; exact HF.out
end
end
section
open Go.RowKit
attribute [local go_sem] Oper.semAt_some
abbrev ku0 : Oper := ⟨some 27, .load 105 (.tmp 3), 105, "store.go:127", #[], none⟩
abbrev ku1 : Oper := ⟨some 28, .nilCheck (.tmp 27), 0, "store.go:127", #[⟨0, .data⟩], none⟩
abbrev ku2 : Oper := ⟨some 29, .fieldAddr 215 (.tmp 28) 0, 0, "store.go:127", #[⟨1, .data⟩], none⟩
abbrev ku3 : Oper := ⟨some 30, .load 212 (.tmp 29), 212, "store.go:127", #[⟨2, .data⟩], none⟩
abbrev ku4 : Oper := ⟨some 31, .load 42 (.tmp 4), 42, "store.go:127", #[], none⟩
abbrev ku5 : Oper := ⟨some 32, .call { callee := .value (.func 134), args := #[.tmp 30, .tmp 31], argTypes := #[212, 42] }, 229, "store.go:127", #[⟨3, .data⟩, ⟨4, .data⟩], none⟩
abbrev ku6 : Oper := ⟨some 26, .move (.tmp 32), 229, "store.go:127", #[⟨5, .data⟩], none⟩
abbrev ku7 : Oper := ⟨some 33, .extract (.tmp 26) 0, 228, "store.go:127", #[⟨6, .data⟩], none⟩
abbrev ku8 : Oper := ⟨some 34, .extract (.tmp 26) 1, 49, "store.go:127", #[⟨6, .data⟩, { on := 10, ground := Go.Ground.gcOnly Go.Departure.lateStores }], none⟩
abbrev ku9 : Oper := ⟨some 8, .alloc 228, 0, "store.go:127", #[], none⟩
abbrev ku10 : Oper := ⟨none, .store 228 (.tmp 8) (.tmp 33), 0, "store.go:127", #[⟨9, .data⟩, ⟨7, .data⟩, ⟨5, .chain⟩, ⟨0, .phase⟩, ⟨1, .phase⟩, ⟨2, .phase⟩, ⟨3, .phase⟩, ⟨4, .phase⟩, ⟨5, .phase⟩, ⟨6, .phase⟩, ⟨7, .phase⟩, { on := 8, ground := Go.Ground.textOnly Go.Departure.lateStores }, ⟨9, .phase⟩], none⟩
abbrev ku11 : Oper := ⟨none, .store 49 (.tmp 6) (.tmp 34), 0, "store.go:127", #[⟨8, .data⟩, ⟨10, .chain⟩, ⟨0, .phase⟩, ⟨1, .phase⟩, ⟨2, .phase⟩, ⟨3, .phase⟩, ⟨4, .phase⟩, ⟨5, .phase⟩, ⟨6, .phase⟩, ⟨7, .phase⟩, ⟨8, .phase⟩, ⟨9, .phase⟩, ⟨10, .phase⟩], none⟩
abbrev kw0 : Oper := ⟨some 40, .load 105 (.tmp 3), 105, "store.go:136", #[], none⟩
abbrev kw1 : Oper := ⟨some 41, .nilCheck (.tmp 40), 0, "store.go:136", #[⟨0, .data⟩], none⟩
abbrev kw2 : Oper := ⟨some 42, .fieldAddr 215 (.tmp 41) 0, 0, "store.go:136", #[⟨1, .data⟩], none⟩
abbrev kw3 : Oper := ⟨some 43, .fieldAddr 212 (.tmp 42) 0, 0, "store.go:136", #[⟨2, .data⟩], none⟩
abbrev kw4 : Oper := ⟨some 44, .load 26 (.tmp 43), 26, "store.go:136", #[⟨3, .data⟩], none⟩
abbrev kw5 : Oper := ⟨some 45, .load 44 (.tmp 7), 44, "store.go:136", #[], none⟩
abbrev kw6 : Oper := ⟨some 46, .call { callee := .value (.func 17), args := #[.tmp 44, .tmp 45], argTypes := #[26, 44] }, 50, "store.go:136", #[⟨4, .data⟩, ⟨5, .data⟩], none⟩
abbrev kw7 : Oper := ⟨some 39, .move (.tmp 46), 50, "store.go:136", #[⟨6, .data⟩], none⟩
abbrev kw8 : Oper := ⟨some 47, .extract (.tmp 39) 0, 46, "store.go:136", #[⟨7, .data⟩], none⟩
abbrev kw9 : Oper := ⟨some 48, .extract (.tmp 39) 1, 49, "store.go:136", #[⟨7, .data⟩, { on := 11, ground := Go.Ground.gcOnly Go.Departure.lateStores }], none⟩
abbrev kw10 : Oper := ⟨some 9, .alloc 46, 0, "store.go:136", #[], none⟩
abbrev kw11 : Oper := ⟨none, .store 46 (.tmp 9) (.tmp 47), 0, "store.go:136", #[⟨10, .data⟩, ⟨8, .data⟩, ⟨6, .chain⟩, ⟨0, .phase⟩, ⟨1, .phase⟩, ⟨2, .phase⟩, ⟨3, .phase⟩, ⟨4, .phase⟩, ⟨5, .phase⟩, ⟨6, .phase⟩, ⟨7, .phase⟩, ⟨8, .phase⟩, { on := 9, ground := Go.Ground.textOnly Go.Departure.lateStores }, ⟨10, .phase⟩], none⟩
abbrev kw12 : Oper := ⟨some 10, .assign (.tmp 48), 49, "store.go:136", #[⟨9, .data⟩, ⟨11, .chain⟩, ⟨0, .phase⟩, ⟨1, .phase⟩, ⟨2, .phase⟩, ⟨3, .phase⟩, ⟨4, .phase⟩, ⟨5, .phase⟩, ⟨6, .phase⟩, ⟨7, .phase⟩, ⟨8, .phase⟩, ⟨9, .phase⟩, ⟨10, .phase⟩, ⟨11, .phase⟩], none⟩
section
variable {w w' : World} {X Y : Nat → Prop} {B : StB} {slots : Nat} {s : Sup} {xs : List Seg} {st : List EntS} {bl : List (List Int)} {u : Bool} {A : Option Addr} {m c : Nat} {us : List Int} {k k' : Dk} {l p d n pe : Nat} {t : Int}
theorem sync_lg (h : LgM w X l p d n s t k xs pe) (hX : ∀ b, X b → b < w.heap.size) :
    Calls Tryz.prog 21 #[.pointer (some ⟨l, 0, none⟩)] w fun e w' => e = .returned (.int .i64 0) ∧ LgM w' X l p d n s t (k.wr Dk.sync) xs pe ∧ Kept X w w' := by
  obtain ⟨A, c, hl, hc, hn⟩ := h.log
  refine (sync_good hl hX h.good).mono ?_
  rintro e w' ⟨rfl, hl', hk⟩
  exact ⟨rfl, ⟨⟨A, c, hl', hc, hn⟩, h.good.sync, h.ok, h.top, h.may, h.sin, h.dims, h.n2, h.room, by rw [h.good.pend_sync]; exact Nat.zero_le _⟩, hk⟩
def AppC (w : World) (Y : Nat → Prop) (l p d n : Nat) (s : Sup) (t : Int) (k : Dk) (xs : List Seg) (pe : Nat) (bs : List Int) (v : Value) (wx : World) : Prop :=
  ∃ a er s1 xs1 t1 k1 pe1, v = .int .i64 er ∧ LgM wx Y l p d n s1 t1 k1 xs1 pe1 ∧ Kept Y w wx ∧
    ((appR s xs (cntOf bs.length) = none ∧ er = 6 ∧ s1 = s ∧ xs1 = xs ∧ t1 = t ∧ k1 = k ∧ pe1 = pe) ∨
     (∃ i ys, appR s xs (cntOf bs.length) = some (i, s1, ys) ∧ er = 0 ∧ a = ((i : Int), genG ys i, usedG ys i) ∧ (s1 = s ∨ s1 = genS s) ∧ xs1 = useX ys ((cntOf bs.length : Nat) : Int) ∧ pe1 = pe + 17 ∧ AtR k1 s1 xs1 a bs ∧ ∀ a' bs', AtR k s xs a' bs' → AtR k1 s1 xs1 a' bs' ∧ a' ≠ a))
def KillT (w : World) (X : Nat → Prop) (B : StB) (slots : Nat) (s : Sup) (xs : List Seg) (st : List EntS) (bl : List (List Int)) (us bs : List Int) (e : Ending) (w' : World) : Prop :=
  Kept X w w' ∧
  ((appR s xs (cntOf bs.length) = none ∧ e = .returned (.int .i64 6) ∧ ∃ k', StoM2 w' X { B with t := B.t, k := k', pe := B.pe } slots s xs st bl false ∧ k'.held = B.k.held) ∨
   (∃ i s1 xs1 t' k', appR s xs (cntOf bs.length) = some (i, s1, xs1) ∧ (s1 = s ∨ s1 = genS s) ∧ e = .returned (.int .i64 0) ∧
     StoM2 w' X { B with t := t', k := k', pe := B.pe + 17 } slots s1 (useX xs1 ((cntOf bs.length : Nat) : Int)) (outS st us) bl false))
theorem kill_s14 (h : StoM2 w X B slots s xs st bl false) {q0 : Int} (hk : RowI .u8 w X A m us) (hb : Bytes us) (hmay : May 2 0 0 q0 m 0) (hr : Rng 0 0 q0) (hpe : B.pe ≤ 900000) (hgm : s.g + 1 ≤ 18446744073709551615) :
    Calls Tryz.prog 58 #[.pointer (some ⟨B.q, 0, none⟩), .slice A m c, .int .u64 q0] w (KillT w X B slots s xs st bl us (recB 2 0 0 q0 us [])) := by
  obtain ⟨w1, hw1⟩ : ∃ w1, w1 = ((w.alloc (.cells #[.pointer (some ⟨B.q, 0, none⟩)] 105)).alloc (.cells #[.slice A m c] 42)).alloc (.cells #[.int .i64 0] 49) := ⟨_, rfl⟩
  have hb1 : Below w.heap.size w w1 := by rw [hw1]; exact (((Below.refl _ w).alloc (Nat.le_refl _) _).alloc (by simp) _).alloc (by simp; omega) _
  have HS1 := hI (show Blk w1 w.heap.size 105 #[.pointer (some ⟨B.q, 0, none⟩)] by rw [hw1]; exact ((Blk.new w _ _).alloc _).alloc _)
  have HI1 := hI (show Blk w1 (w.heap.size + 1) 42 #[.slice A m c] by rw [hw1]; exact (blk_new2 w _ _ _).alloc _)
  have HE1 := hI (show Blk w1 (w.heap.size + 1 + 1) 49 #[.int .i64 0] by rw [hw1]; exact blk_new3 w _ _ _ _)
  have HZ1 := hI (show w1.heap.size = w.heap.size + 3 by rw [hw1]; simp)
  have HM0 := hI h
  have HB1 := hI hb1
  have HK := hI hk
  have HBY := hI hb
  have HMAY := hI hmay
  have HRNG := hI hr
  have HPE := hI (And.intro hpe hgm)
  have HM := hI (show m ≤ 250 by unfold May at hmay; omega)
  have HLEN := hI hk.1
  have HW1 := hI hw1
  have HTB := hI (tomb_yes A m c us q0 (fun b => b < w1.heap.size) w1 ((hk.below hb1 h.lt).more (fun b hb => Nat.lt_of_lt_of_le (h.lt b hb) hb1.size)) (fun b h => h) hmay)
  clear hw1 hb1 h hk hb hmay hr hpe hgm
  go_enter_defers Tryz.func58, Tryz.ntmps58
  go_upto_region 1 with fail
  rw [← HW1.out]
  have s1 : w1.cell? ⟨w.heap.size, 0, none⟩ = some (.pointer (some ⟨B.q, 0, none⟩)) := HS1.out.cell 0
  have i1 : w1.cell? ⟨w.heap.size + 1, 0, none⟩ = some (.slice A m c) := HI1.out.cell 0
  go_wp2_with fail
  refine HTB.out.mono ?_
  rintro e w2 ⟨gt, rfl, hgt, hgr, hb2⟩
  have HT2 := hI hgr
  have HGT := hI hgt
  have HB2 := hI hb2
  have HE2 := hI (HE1.out.below hb2 HE1.out.lt)
  clear s1 i1 hgr hb2 hgt HTB
  obtain ⟨w3, hw3⟩ : ∃ w3, w3 = w2.alloc (.cells #[.int .i64 2, .int .u32 0, .int .u32 0, .int .u64 q0, .slice (some ⟨gt, 0, none⟩) us.length us.length, .slice none 0 0] 44) := ⟨_, rfl⟩
  have hb3 : Below w2.heap.size w2 w3 := by rw [hw3]; exact (Below.refl _ _).alloc (Nat.le_refl _) _
  have HE3 := hI (HE2.out.below hb3 HE2.out.lt)
  have HR3 := hI (show Blk w3 w2.heap.size 44 #[.int .i64 2, .int .u32 0, .int .u32 0, .int .u64 q0, .slice (some ⟨gt, 0, none⟩) us.length us.length, .slice none 0 0] by rw [hw3]; exact Blk.new w2 _ _)
  have HT3 := hI (Blk.below HT2.out hb3 (Blk.lt HT2.out))
  have HB3 := hI (HB2.out.trans (hb3.mono HB2.out.size))
  have HGL := hI (show gt < w2.heap.size from Blk.lt HT2.out)
  have e0 : w3.cell? ⟨w.heap.size + 1 + 1, 0, none⟩ = some (.int .i64 0) := HE3.out.cell 0
  have e9 := HE3.out.frozen 0
  rw [hw3] at e0 e9
  have HW3 := hI hw3
  clear hb3 hw3 HE2 HT2
  go_upto_region 4 with fail
  rw [← HW3.out]
  obtain ⟨w4, hw5⟩ : ∃ w4, w4 = w3.setCell ⟨w.heap.size + 1 + 1, 0, none⟩ (.int .i64 0) := ⟨_, rfl⟩
  have hk5 : Kept (fun b => b ≠ w.heap.size + 1 + 1) w3 w4 := by rw [hw5]; exact (Kept.refl _ _).setCell (p := ⟨w.heap.size + 1 + 1, 0, none⟩) (fun h => h rfl) _
  have hz1 := HZ1.out
  have hz2 := HB2.out.size
  have hgt := HGT.out
  have HE4 := hI (show Blk w4 (w.heap.size + 1 + 1) 49 #[.int .i64 0] by rw [hw5]; exact HE3.out.set_ 0 (.int .i64 0))
  have HB35 := hI (show Below w.heap.size w w4 from (HB1.out.trans (HB3.out.mono HB1.out.size)).trans (hk5.to_below (fun b hb => by omega)))
  have HB4 := hI (show Below w.heap.size w1 w4 from (HB3.out.mono HB1.out.size).trans (hk5.to_below (fun b hb => by omega)))
  have HR4 := hI (HR3.out.kept hk5 (by omega))
  have HT4 := hI (Blk.kept HT3.out hk5 (by omega))
  have HS4 := hI ((HS1.out.below HB3.out HS1.out.lt).kept hk5 (by omega))
  have HI4 := hI ((HI1.out.below HB3.out HI1.out.lt).kept hk5 (by omega))
  have HM4 := hI (HM0.out.grow HB35.out)
  have HZ2 := hI hz2
  have HZ4 := hI (show gt < w2.heap.size ∧ w2.heap.size < w4.heap.size from ⟨HGL.out, HR4.out.lt⟩)
  rw [← hw5]
  clear hk5 hz1 hz2 hgt hw5 e0 e9 HE3 HR3 HT3
  have hs4 : w4.cell? ⟨w.heap.size, 0, none⟩ = some (.pointer (some ⟨B.q, 0, none⟩)) := HS4.out.cell 0
  have he4 : w4.cell? ⟨w.heap.size + 1 + 1, 0, none⟩ = some (.int .i64 0) := HE4.out.cell 0
  go_wp2_with fail
  refine (degraded_ok HM4.out).mono ?_
  rintro e w5 ⟨rfl, rfl⟩
  go_upto_region 8 with fail
  clear hs4 he4
  go_cut [8] from 26 to 34 (fun v6 wx => ElkC w5 (fun b => (X b ∨ (w.heap.size ≤ b ∧ b < w5.heap.size)) ∨ B.own b) (w.heap.size + 1 + 1) B.l B.p B.d B.n s B.t B.k xs B.pe st us v6 wx)
  case first J KK hJ hKK =>
    have HQL := hI (show B.q < w.heap.size from HM0.out.own_lt (.inl rfl))
    have HSS := hI (show ∀ W, Kept (fun b => ((X b ∨ (w.heap.size ≤ b ∧ b < w5.heap.size)) ∨ B.own b) ∧ b ≠ w.heap.size + 1 + 1) w5 W → W.cell? ⟨w.heap.size, 0, none⟩ = some (.pointer (some ⟨B.q, 0, none⟩)) ∧ W.cell? ⟨B.q, 0, none⟩ = some (.pointer (some ⟨B.l, 0, none⟩)) ∧ W.cell? ⟨B.q, 1, none⟩ = some (.pointer (some ⟨B.x, 0, none⟩)) ∧ W.cell? ⟨w.heap.size + 1, 0, none⟩ = some (.slice A m c) from fun W hW => by
      obtain ⟨q0, q1, _, _⟩ := HM4.out.cells
      have h1 := HS4.out.lt
      have h2 := HI4.out.lt
      have h3 := HQL.out
      exact ⟨(HS4.out.kept hW ⟨.inl (.inr ⟨by omega, by omega⟩), by omega⟩).cell 0, (hW.cell (p := ⟨B.q, 0, none⟩) ⟨.inr (.inl rfl), (by omega : B.q ≠ _)⟩).trans q0, (hW.cell (p := ⟨B.q, 1, none⟩) ⟨.inr (.inl rfl), (by omega : B.q ≠ _)⟩).trans q1, (HI4.out.kept hW ⟨.inl (.inr ⟨by omega, by omega⟩), by omega⟩).cell 0⟩)
    have hMd := HM4.out.below ((Below.refl w5.heap.size w5).drew)
    have HKd := hI (show RowI .u8 w5.drew (fun b => (X b ∨ (w.heap.size ≤ b ∧ b < w5.heap.size)) ∨ B.own b) A m us from ((HK.out.below (HB35.out) HM0.out.lt).below ((Below.refl w5.heap.size w5).drew) (fun b hb => HM4.out.lt b (.inl hb))).more (fun b hb => .inl (.inl hb)))
    have HMD := hI hMd
    have HED := hI (show Blk w5.drew (w.heap.size + 1 + 1) 49 #[.int .i64 0] from HE4.out.below ((Below.refl w5.heap.size w5).drew) HE4.out.lt)
    have HYL := hI (show ∀ b, ((X b ∨ (w.heap.size ≤ b ∧ b < w5.heap.size)) ∨ B.own b) → b < w5.heap.size from HM4.out.ylt)
    have HYE := hI (show (X (w.heap.size + 1 + 1) ∨ (w.heap.size ≤ w.heap.size + 1 + 1 ∧ w.heap.size + 1 + 1 < w5.heap.size)) ∨ B.own (w.heap.size + 1 + 1) from .inl (.inr ⟨by omega, HE4.out.lt⟩))
    clear hMd
    refine wp_region_noPanic ?_
    refine Tillst.region (fun W => Kept (fun b => ((X b ∨ (w.heap.size ≤ b ∧ b < w5.heap.size)) ∨ B.own b) ∧ b ≠ w.heap.size + 1 + 1) w5 W) [] (by kernel_rfl) ((Kept.refl _ _).drew) (fun hHeld => ?_)
    obtain ⟨vd, hvd⟩ : ∃ vd, vd = w5.drew := ⟨_, rfl⟩
    have HZD := hI (show vd.heap.size = w5.heap.size by rw [hvd]; rfl)
    rw [← hvd] at HKd HMD HED hHeld ⊢
    have HVD := hI (show Kept (fun b => (X b ∨ (w.heap.size ≤ b ∧ b < w5.heap.size)) ∨ B.own b) w5 vd by rw [hvd]; exact (Kept.refl _ _).drew)
    clear hvd
    refine Tillst.tk (i := 0) (oi := ku0) (v := ?_) rfl (by kernel_rfl) (by rfl) ?_ hHeld ?_
    rotate_left
    · intro W hSW; have h9 := (HSS.out W hSW).1; clear hSW; unfold ku0; go_simp; with_reducible rfl
    simp only [ku0, Act.put, sA, sZ, sS]
    refine Tillst.tk (i := 1) (oi := ku1) (v := ?_) rfl (by kernel_rfl) (by rfl) ?_ hHeld ?_
    rotate_left
    · intro W hSW; (try dsimp only at hSW); unfold ku1; go_simp; with_reducible rfl
    simp only [ku1, Act.put, sA, sZ, sS]
    refine Tillst.tk (i := 2) (oi := ku2) (v := ?_) rfl (by kernel_rfl) (by rfl) ?_ hHeld ?_
    rotate_left
    · intro W hSW; (try dsimp only at hSW); unfold ku2; go_simp; with_reducible rfl
    simp only [ku2, Act.put, sA, sZ, sS]
    refine Tillst.tk (i := 3) (oi := ku3) (v := shV B) rfl (by kernel_rfl) (by rfl) ?_ hHeld ?_
    · intro W hSW; obtain ⟨_, h8, h9, _⟩ := HSS.out W hSW; clear hSW; unfold ku3; go_simp
    simp only [ku3, Act.put, sA, sZ, sS]
    refine Tillst.tk (i := 4) (oi := ku4) (v := ?_) rfl (by kernel_rfl) (by rfl) ?_ hHeld ?_
    rotate_left
    · intro W hSW; have h9 := (HSS.out W hSW).2.2.2; clear hSW; unfold ku4; go_simp; with_reducible rfl
    simp only [ku4, Act.put, sA, sZ, sS]
    refine Tillst.two (i := 5) (j := 9) (o := ku5) (o' := ku9) (by kernel_rfl) rfl rfl ?_ ?_
    · intro K hK
      refine step_call 134 #[.tmp 30, .tmp 31] #[212, 42] rfl rfl Tryz.func134 rfl rfl [shV B, .slice A m c] rfl ((look_any (c := c) HMD.out.log HMD.out.ylt HMD.out.ix (.inr (.inr (.inl rfl))) HMD.out.inv HKd.out HBY.out (by have := HM.out; omega)).mono ?_)
      intro e w6 hlk
      obtain ⟨ev, k6, rfl, hev, hl6, hk6, hkp6⟩ := hlk.ent
      refine ⟨_, rfl, ?_⟩
      simp only [ku5, Act.put, sA, sZ, sS]
      have hS6 : Kept (fun b => ((X b ∨ (w.heap.size ≤ b ∧ b < w5.heap.size)) ∨ B.own b) ∧ b ≠ w.heap.size + 1 + 1) w5 w6 := hHeld.trans hkp6 (fun b h => h.1)
      have HEV := hI hev
      have HL6 := hI hl6
      have HK6 := hI hk6
      have HKP6 := hI (HVD.out.trans hkp6 (fun b h => h))
      have HE6 := hI (HED.out.kept hkp6 HYE.out)
      clear hlk hev hl6 hk6 hkp6 hHeld
      refine hK.out _ _ (fun _ => hS6) (fun hHeld => ?_)
      replace hHeld := hHeld (by decide)
      clear hK K hS6
      refine Tillst.tk (i := 6) (oi := ku6) (v := ?_) rfl (by kernel_rfl) (by rfl) ?_ hHeld ?_
      rotate_left
      · intro W hSW; (try dsimp only at hSW); unfold ku6; go_simp; with_reducible rfl
      simp only [ku6, Act.put, sA, sZ, sS]
      refine Tillst.tk (i := 7) (oi := ku7) (v := ?_) rfl (by kernel_rfl) (by rfl) ?_ hHeld ?_
      rotate_left
      · intro W hSW; (try dsimp only at hSW); unfold ku7; go_simp; with_reducible rfl
      simp only [ku7, Act.put, sA, sZ, sS]
      refine Tillst.tk (i := 8) (oi := ku8) (v := ?_) rfl (by kernel_rfl) (by rfl) ?_ hHeld ?_
      rotate_left
      · intro W hSW; (try dsimp only at hSW); unfold ku8; go_simp; with_reducible rfl
      simp only [ku8, Act.put, sA, sZ, sS]
      refine Tillst.one (i := 9) (o := ku9) (by kernel_rfl) rfl ?_
      intro K hK
      refine step_alloc14 228 rfl rfl ent0C zero_entry ?_
      simp only [ku9, Act.put, sA, sZ, sS]
      have hal := (Below.refl w6.heap.size w6).alloc (Nat.le_refl _) (.cells ent0C 228)
      have hS7 : Kept (fun b => ((X b ∨ (w.heap.size ≤ b ∧ b < w5.heap.size)) ∨ B.own b) ∧ b ≠ w.heap.size + 1 + 1) w5 (w6.alloc (.cells ent0C 228)) := hHeld.trans (Kept.of_below (S := fun b => ((X b ∨ (w.heap.size ≤ b ∧ b < w5.heap.size)) ∨ B.own b) ∧ b ≠ w.heap.size + 1 + 1) hal (fun b h => Nat.lt_of_lt_of_le (HYL.out b h.1) hHeld.size)) (fun b h => h)
      have HL7 := hI (HL6.out.grow hal)
      have HKP7 := hI (HKP6.out.trans (Kept.of_below (S := fun b => (X b ∨ (w.heap.size ≤ b ∧ b < w5.heap.size)) ∨ B.own b) hal (fun b h => Nat.lt_of_lt_of_le (HYL.out b h) HKP6.out.size)) (fun b h => h))
      have HE7 := hI (HE6.out.below hal HE6.out.lt)
      have HN7 := hI (Blk.new w6 228 ent0C)
      have HZ6 := hI HKP6.out.size
      have HZ7 := hI (show w6.heap.size < (w6.alloc (.cells ent0C 228)).heap.size by simp)
      clear hal
      generalize w6.heap.size = g6 at *
      generalize w6.alloc _ = w7 at *
      refine hK.out _ _ (fun _ => hS7) (fun hHeld => ?_)
      replace hHeld := hHeld (by decide)
      clear hK K hS7
      refine Tillst.one (i := 10) (o := ku10) (by kernel_rfl) rfl ?_
      intro K hK
      refine step_store14 (.tmp 8) (.tmp 33) 228 rfl rfl g6 ev rfl rfl 228 _ HN7.out (by rw [size_entry, HEV.out.size.1]) (by rw [HEV.out.size.1]; rfl) HEV.out.size.2 ?_
      simp only [ku10, Act.put, sA, sZ, sS]
      have hk8 : Kept (fun b => b ≠ g6) w7 (w7.setRow g6 ev) := (Kept.refl _ _).setRow (fun h => h rfl) ev
      have hS8 : Kept (fun b => ((X b ∨ (w.heap.size ≤ b ∧ b < w5.heap.size)) ∨ B.own b) ∧ b ≠ w.heap.size + 1 + 1) w5 (w7.setRow g6 ev) := hHeld.trans hk8 (fun b h => by have := HYL.out b h.1; have := HZ6.out; omega)
      have HE8 := hI (HE7.out.kept hk8 (by have := HYL.out _ HYE.out; have := HZ6.out; omega))
      refine hK.out _ _ (fun _ => hS8) (fun hHeld => ?_)
      replace hHeld := hHeld (by decide)
      clear hK K hk8 hS8
      refine Tillst.one (i := 11) (o := ku11) (by kernel_rfl) rfl ?_
      intro K hK
      have e8 : (w7.setRow g6 ev).cell? ⟨w.heap.size + 1 + 1, 0, none⟩ = some (.int .i64 0) := HE8.out.cell 0
      have e9 := HE8.out.frozen 0
      go_simp
      clear e8 e9
      have hS9 : Kept (fun b => ((X b ∨ (w.heap.size ≤ b ∧ b < w5.heap.size)) ∨ B.own b) ∧ b ≠ w.heap.size + 1 + 1) w5 ((w7.setRow g6 ev).setCell ⟨w.heap.size + 1 + 1, 0, none⟩ (.int .i64 0)) := hHeld.setCell (p := ⟨w.heap.size + 1 + 1, 0, none⟩) (fun h => h.2 rfl) _
      refine hK.out _ _ (fun _ => hS9) (fun hHeld => ?_)
      clear hK K hS9
      refine Tillst.done (by kernel_rfl) ?_ _
      refine hKK _ _ (Met.intro (hJ _ _ ?_))
      (repeat apply Exists.intro)
      exact ⟨ElkC.fin HYL.out HYE.out HZ6.out (fun b h => .inl h) (.inr ⟨Nat.le_refl _, HZ7.out⟩) HL7.out HK6.out HKP7.out HN7.out HE7.out HEV.out, rfl⟩
    · intro K hK
      refine step_alloc14 228 rfl rfl ent0C zero_entry ?_
      simp only [ku9, Act.put, sA, sZ, sS]
      have hal := (Below.refl vd.heap.size vd).alloc (Nat.le_refl _) (.cells ent0C 228)
      have hS6 : Kept (fun b => ((X b ∨ (w.heap.size ≤ b ∧ b < w5.heap.size)) ∨ B.own b) ∧ b ≠ w.heap.size + 1 + 1) w5 (vd.alloc (.cells ent0C 228)) := hHeld.trans (Kept.of_below (S := fun b => ((X b ∨ (w.heap.size ≤ b ∧ b < w5.heap.size)) ∨ B.own b) ∧ b ≠ w.heap.size + 1 + 1) hal (fun b h => Nat.lt_of_lt_of_le (HYL.out b h.1) hHeld.size)) (fun b h => h)
      have HL6 := hI (HMD.out.log.grow hal)
      have HX6 := hI (HMD.out.ix.below hal HMD.out.ix.lt)
      have HKP6 := hI (HVD.out.trans (Kept.of_below (S := fun b => (X b ∨ (w.heap.size ≤ b ∧ b < w5.heap.size)) ∨ B.own b) hal (fun b h => Nat.lt_of_lt_of_le (HYL.out b h) HVD.out.size)) (fun b h => h))
      have HE6 := hI (HED.out.below hal HED.out.lt)
      have HKR6 := hI (HKd.out.below hal (fun b h => Nat.lt_of_lt_of_le (HYL.out b h) HVD.out.size))
      have HN6 := hI (Blk.new vd 228 ent0C)
      have HZ6 := hI HVD.out.size
      have HZ7 := hI (show vd.heap.size < (vd.alloc (.cells ent0C 228)).heap.size by simp)
      have HINV := hI HMD.out.inv
      clear hal HMD HKd HED
      generalize vd.heap.size = g6 at *
      generalize vd.alloc _ = w6 at *
      refine hK.out _ _ (fun _ => hS6) (fun hHeld => ?_)
      replace hHeld := hHeld (by decide)
      clear hK K hS6
      refine Tillst.one (i := 5) (o := ku5) (by kernel_rfl) rfl ?_
      intro K hK
      refine step_call 134 #[.tmp 30, .tmp 31] #[212, 42] rfl rfl Tryz.func134 rfl rfl [shV B, .slice A m c] rfl ((look_any (c := c) HL6.out (fun b h => by
        rcases h with h | h
        · exact Nat.lt_of_lt_of_le (HYL.out b h) HKP6.out.size
        · exact h.2) HX6.out (.inl (.inr (.inr (.inl rfl)))) HINV.out (HKR6.out.more (fun b h => .inl h)) HBY.out (by have := HM.out; omega)).mono ?_)
      intro e w7 hlk
      obtain ⟨ev, k6, rfl, hev, hl7, hk7, hkp7⟩ := hlk.ent
      refine ⟨_, rfl, ?_⟩
      simp only [ku5, Act.put, sA, sZ, sS]
      have hS7 : Kept (fun b => ((X b ∨ (w.heap.size ≤ b ∧ b < w5.heap.size)) ∨ B.own b) ∧ b ≠ w.heap.size + 1 + 1) w5 w7 := hHeld.trans hkp7 (fun b h => .inl h.1)
      have HEV := hI hev
      have HL7 := hI hl7
      have HK6 := hI hk7
      have HKP7 := hI (HKP6.out.trans hkp7 (fun b h => .inl h))
      have HE7 := hI (HE6.out.kept hkp7 (.inl HYE.out))
      have HN7 := hI (HN6.out.kept hkp7 (.inr ⟨Nat.le_refl _, HZ7.out⟩))
      clear hlk hev hl7 hk7 hkp7 hHeld HN6 HE6 HL6
      refine hK.out _ _ (fun _ => hS7) (fun hHeld => ?_)
      replace hHeld := hHeld (by decide)
      clear hK K hS7
      refine Tillst.tk (i := 6) (oi := ku6) (v := ?_) rfl (by kernel_rfl) (by rfl) ?_ hHeld ?_
      rotate_left
      · intro W hSW; (try dsimp only at hSW); unfold ku6; go_simp; with_reducible rfl
      simp only [ku6, Act.put, sA, sZ, sS]
      refine Tillst.tk (i := 7) (oi := ku7) (v := ?_) rfl (by kernel_rfl) (by rfl) ?_ hHeld ?_
      rotate_left
      · intro W hSW; (try dsimp only at hSW); unfold ku7; go_simp; with_reducible rfl
      simp only [ku7, Act.put, sA, sZ, sS]
      refine Tillst.tk (i := 8) (oi := ku8) (v := ?_) rfl (by kernel_rfl) (by rfl) ?_ hHeld ?_
      rotate_left
      · intro W hSW; (try dsimp only at hSW); unfold ku8; go_simp; with_reducible rfl
      simp only [ku8, Act.put, sA, sZ, sS]
      refine Tillst.one (i := 10) (o := ku10) (by kernel_rfl) rfl ?_
      intro K hK
      refine step_store14 (.tmp 8) (.tmp 33) 228 rfl rfl g6 ev rfl rfl 228 _ HN7.out (by rw [size_entry, HEV.out.size.1]) (by rw [HEV.out.size.1]; rfl) HEV.out.size.2 ?_
      simp only [ku10, Act.put, sA, sZ, sS]
      have hk8 : Kept (fun b => b ≠ g6) w7 (w7.setRow g6 ev) := (Kept.refl _ _).setRow (fun h => h rfl) ev
      have hS8 : Kept (fun b => ((X b ∨ (w.heap.size ≤ b ∧ b < w5.heap.size)) ∨ B.own b) ∧ b ≠ w.heap.size + 1 + 1) w5 (w7.setRow g6 ev) := hHeld.trans hk8 (fun b h => by have := HYL.out b h.1; have := HZ6.out; omega)
      have HE8 := hI (HE7.out.kept hk8 (by have := HYL.out _ HYE.out; have := HZ6.out; omega))
      refine hK.out _ _ (fun _ => hS8) (fun hHeld => ?_)
      replace hHeld := hHeld (by decide)
      clear hK K hk8 hS8
      refine Tillst.one (i := 11) (o := ku11) (by kernel_rfl) rfl ?_
      intro K hK
      have e8 : (w7.setRow g6 ev).cell? ⟨w.heap.size + 1 + 1, 0, none⟩ = some (.int .i64 0) := HE8.out.cell 0
      have e9 := HE8.out.frozen 0
      go_simp
      clear e8 e9
      have hS9 : Kept (fun b => ((X b ∨ (w.heap.size ≤ b ∧ b < w5.heap.size)) ∨ B.own b) ∧ b ≠ w.heap.size + 1 + 1) w5 ((w7.setRow g6 ev).setCell ⟨w.heap.size + 1 + 1, 0, none⟩ (.int .i64 0)) := hHeld.setCell (p := ⟨w.heap.size + 1 + 1, 0, none⟩) (fun h => h.2 rfl) _
      refine hK.out _ _ (fun _ => hS9) (fun hHeld => ?_)
      clear hK K hS9
      refine Tillst.done (by kernel_rfl) ?_ _
      refine hKK _ _ (Met.intro (hJ _ _ ?_))
      (repeat apply Exists.intro)
      exact ⟨ElkC.fin HYL.out HYE.out HZ6.out (fun b h => .inl h) (.inr ⟨Nat.le_refl _, HZ7.out⟩) HL7.out HK6.out HKP7.out HN7.out HE7.out HEV.out, rfl⟩
  case rest =>
    obtain ⟨g6, k6, ev, rfl, hg6, hl6, hk6, hkp6, hen6, hbe6, hev⟩ := hcut
    have HOL := hI (show ∀ b, B.own b → b < w.heap.size from fun b hb => HM0.out.own_lt hb)
    have hw45 := HB1.out.size
    have hw55 := HB4.out.size
    have hM6 : StoM2 wc (fun b => (X b ∨ (w.heap.size ≤ b ∧ b < w5.heap.size)) ∨ b = g6) { B with t := B.t, k := k6, pe := B.pe } slots s xs st bl false :=
      HM4.out.logTo2 hkp6 (fun b hb => ⟨.inr hb, by have := HOL.out b hb; omega⟩) (fun b hb => .inl hb) (fun b hb hx => by
        have h1 := HOL.out b hb
        rcases hx with hx | hx
        · exact HM4.out.off b hb hx
        · omega) (fun b hb => by
        rcases hb with hb | hb
        · exact Nat.lt_of_lt_of_le (HM4.out.lt b hb) hkp6.size
        · rw [hb]; exact hen6.lt) (hl6.less (fun b hb => by
        rcases hb with (h | h) | h
        · exact .inl (.inl h)
        · exact .inr h
        · exact .inl (.inr h))) rfl (HM4.out.inv.held hk6)
    have h1 := HS4.out.lt
    have h2 := HI4.out.lt
    have h3 := HE4.out.lt
    have h4 := HR4.out.lt
    have h5 := HZ1.out
    have h6 := HZ2.out
    have HS6 := hI (HS4.out.kept hkp6 ⟨.inl (.inr ⟨by omega, by omega⟩), by omega⟩)
    have HI6 := hI (HI4.out.kept hkp6 ⟨.inl (.inr ⟨by omega, by omega⟩), by omega⟩)
    have HR6 := hI (HR4.out.kept hkp6 ⟨.inl (.inr ⟨by omega, by omega⟩), by omega⟩)
    have HKX6 := hI (show Kept X w wc from (Kept.of_below (HB35.out) HM0.out.lt).trans hkp6 (fun b hb => ⟨.inl (.inl hb), by have := HM0.out.lt b hb; omega⟩))
    have HM6 := hI hM6
    have HEN6 := hI hen6
    have HBE6 := hI hbe6
    have HEV := hI hev
    have HH6 := hI hk6
    have HG6 := hI hg6
    have HSZ6 := hI hkp6.size
    have HBL := hI (show w.heap.size + 3 ≤ w2.heap.size ∧ w2.heap.size < w5.heap.size by omega)
    have HT6 := hI (Blk.kept HT4.out hkp6 ⟨.inl (.inr ⟨by have := HGT.out; omega, by have := HZ4.out; omega⟩), by have := HGT.out; omega⟩)
    clear hM6 hen6 hbe6 hev hk6 hg6 hkp6 hl6 h1 h2 h3 h4 h5 h6 hw45 hw55 HS4 HI4 HE4 HR4 HS1 HI1 HE1
    have e0 : wc.cell? ⟨w.heap.size + 1 + 1, 0, none⟩ = some (.int .i64 0) := HBE6.out.cell 0
    have hmf : ∀ (fn : Fn) (first cap : Array Value) (w : World), (Instr.makeFunc fn first cap).run Tryz.prog w = .ok (.func fn first cap) w := fun _ _ _ _ => rfl
    go_upto_region 12 with fail
    clear e0
    obtain ⟨X6, hX6⟩ : ∃ X6 : Nat → Prop, (fun b => (X b ∨ (w.heap.size ≤ b ∧ b < w5.heap.size)) ∨ b = g6) = X6 := ⟨_, rfl⟩
    rw [hX6] at HM6
    have hx0 : ∀ b, X b → X6 b := fun b hb => by rw [← hX6]; exact .inl (.inl hb)
    have hbl := HBL.out
    have hgt := HGT.out
    have hz4 := HZ4.out
    have hz1 := HZ1.out
    have HIN := hI (show X6 w.heap.size ∧ X6 (w.heap.size + 1) ∧ X6 (w.heap.size + 1 + 1) ∧ X6 w2.heap.size ∧ X6 g6 ∧ X6 gt by
      rw [← hX6]
      exact ⟨.inl (.inr ⟨by omega, by omega⟩), .inl (.inr ⟨by omega, by omega⟩), .inl (.inr ⟨by omega, by omega⟩), .inl (.inr ⟨by omega, by omega⟩), .inr rfl, .inl (.inr ⟨by omega, by omega⟩)⟩)
    have HX0 := hI hx0
    clear hX6 hx0 hbl hgt hz4 hz1
    have HYL := hI (HM6.out.ylt)
    have hrb := HMAY.out
    have HRT := hI (show RowI .u8 wc (fun b => b = gt) (some ⟨gt, 0, none⟩) us.length us from Arr.rowN (S := fun b => b = gt) HT6.out 0 rfl rfl)
    clear hrb
    have HNIL := hI (show ∀ W : World, RowI .u8 W (· < W.heap.size) none 0 [] from fun W => ⟨rfl, fun h => absurd h (by omega)⟩)
    go_cut [9, 10] from 39 to 48 (fun v9 v10 wx => AppC wc (fun b => X6 b ∨ B.own b) B.l B.p B.d B.n s B.t k6 xs B.pe (recB 2 0 0 q0 us []) v10 wx)
    case first J KK hJ hKK =>
      have HSS := hI (show ∀ W, Kept (fun b => X6 b ∨ B.own b) wc W → W.cell? ⟨w.heap.size, 0, none⟩ = some (.pointer (some ⟨B.q, 0, none⟩)) ∧ W.cell? ⟨B.q, 0, none⟩ = some (.pointer (some ⟨B.l, 0, none⟩)) ∧ Blk W w2.heap.size 44 #[.int .i64 2, .int .u32 0, .int .u32 0, .int .u64 q0, .slice (some ⟨gt, 0, none⟩) us.length us.length, .slice none 0 0] from fun W hW => by
        obtain ⟨q0, q1, _, _⟩ := HM6.out.cells
        obtain ⟨i1, i2, i3, i4, i5, i6⟩ := HIN.out
        exact ⟨(HS6.out.kept hW (.inl i1)).cell 0, (hW.cell (p := ⟨B.q, 0, none⟩) (.inr (.inl rfl))).trans q0, HR6.out.kept hW (.inl i4)⟩)
      refine wp_region_noPanic ?_
      refine Tillst.region (fun W => Kept (fun b => X6 b ∨ B.own b) wc W) [] (by kernel_rfl) ((Kept.refl _ _).drew) (fun hHeld => ?_)
      have hdr := (Below.refl wc.heap.size wc).drew
      have HMD := hI (HM6.out.below hdr)
      have HRD := hI (HRT.out.below hdr (fun b h => by rw [h]; exact Blk.lt HT6.out))
      obtain ⟨vd, hvd⟩ : ∃ vd, vd = wc.drew := ⟨_, rfl⟩
      have HZD := hI (show vd.heap.size = wc.heap.size by rw [hvd]; rfl)
      rw [← hvd] at HMD HRD hHeld ⊢
      clear hdr hvd
      have HGV := hI (show gt < vd.heap.size by rw [HZD.out]; exact Blk.lt HT6.out)
      have HMAYL := hI (show May 2 0 0 q0 us.length 0 by rw [HLEN.out]; exact HMAY.out)
      refine Tillst.tk (i := 0) (oi := kw0) (v := ?_) rfl (by kernel_rfl) (by rfl) ?_ hHeld ?_
      rotate_left
      · intro W hSW; have h9 := (HSS.out W hSW).1; clear hSW; unfold kw0; go_simp; with_reducible rfl
      simp only [kw0, Act.put, sA, sZ, sS]
      refine Tillst.tk (i := 1) (oi := kw1) (v := ?_) rfl (by kernel_rfl) (by rfl) ?_ hHeld ?_
      rotate_left
      · intro W hSW; (try dsimp only at hSW); unfold kw1; go_simp; with_reducible rfl
      simp only [kw1, Act.put, sA, sZ, sS]
      refine Tillst.tk (i := 2) (oi := kw2) (v := ?_) rfl (by kernel_rfl) (by rfl) ?_ hHeld ?_
      rotate_left
      · intro W hSW; (try dsimp only at hSW); unfold kw2; go_simp; with_reducible rfl
      simp only [kw2, Act.put, sA, sZ, sS]
      refine Tillst.tk (i := 3) (oi := kw3) (v := ?_) rfl (by kernel_rfl) (by rfl) ?_ hHeld ?_
      rotate_left
      · intro W hSW; (try dsimp only at hSW); unfold kw3; go_simp; with_reducible rfl
      simp only [kw3, Act.put, sA, sZ, sS]
      refine Tillst.tk (i := 4) (oi := kw4) (v := ?_) rfl (by kernel_rfl) (by rfl) ?_ hHeld ?_
      rotate_left
      · intro W hSW; have h9 := (HSS.out W hSW).2.1; clear hSW; unfold kw4; go_simp; with_reducible rfl
      simp only [kw4, Act.put, sA, sZ, sS]
      refine Tillst.tk (i := 5) (oi := kw5) (v := .agg #[.int .i64 2, .int .u32 0, .int .u32 0, .int .u64 q0, .slice (some ⟨gt, 0, none⟩) us.length us.length, .slice none 0 0]) rfl (by kernel_rfl) (by rfl) ?_ hHeld ?_
      · intro W hSW; exact row_runs (.tmp 7) 44 rfl w2.heap.size rfl 44 [.int .i64 2, .int .u32 0, .int .u32 0, .int .u64 q0, .slice (some ⟨gt, 0, none⟩) us.length us.length, .slice none 0 0] _ Tryz.underlying44 rfl size_rec (HSS.out W hSW).2.2
      simp only [kw5, Act.put, sA, sZ, sS]
      refine Tillst.two (i := 6) (j := 10) (o := kw6) (o' := kw10) (by kernel_rfl) rfl rfl ?_ ?_
      · intro K hK
        refine step_call 17 #[.tmp 44, .tmp 45] #[26, 44] rfl rfl Tryz.func17 rfl rfl [.pointer (some ⟨B.l, 0, none⟩), .agg #[.int .i64 2, .int .u32 0, .int .u32 0, .int .u64 q0, .slice (some ⟨gt, 0, none⟩) us.length us.length, .slice none 0 0]] rfl ((append_at HMD.out.log HMD.out.ylt HPE.out.1 HPE.out.2 HMAYL.out HRNG.out (HRD.out.more (fun b h => by rw [h]; exact HGV.out)) (HNIL.out vd) (fun h => by cases h) (fun _ => rfl) HBY.out bytes_none).mono ?_)
        intro e w9 hap
        obtain ⟨a, er, s1, xs1, t1, k1, pe1, rfl, hk9, hl9, hcase⟩ := hap.told
        refine ⟨_, rfl, ?_⟩
        simp only [kw6, Act.put, sA, sZ, sS]
        have hS9 := hHeld.trans hk9 (fun b h => h)
        have HL9 := hI hl9
        have HC := hI hcase
        have HK9 := hI hS9
        clear hap hk9 hl9 hcase hHeld
        refine hK.out _ _ (fun _ => hS9) (fun hHeld => ?_)
        replace hHeld := hHeld (by decide)
        clear hK K hS9
        refine Tillst.tk (i := 7) (oi := kw7) (v := ?_) rfl (by kernel_rfl) (by rfl) ?_ hHeld ?_
        rotate_left
        · intro W hSW; (try dsimp only at hSW); unfold kw7; go_simp; with_reducible rfl
        simp only [kw7, Act.put, sA, sZ, sS]
        refine Tillst.tk (i := 8) (oi := kw8) (v := ?_) rfl (by kernel_rfl) (by rfl) ?_ hHeld ?_
        rotate_left
        · intro W hSW; (try dsimp only at hSW); unfold kw8; go_simp; with_reducible rfl
        simp only [kw8, Act.put, sA, sZ, sS]
        refine Tillst.tk (i := 9) (oi := kw9) (v := ?_) rfl (by kernel_rfl) (by rfl) ?_ hHeld ?_
        rotate_left
        · intro W hSW; (try dsimp only at hSW); unfold kw9; go_simp; with_reducible rfl
        simp only [kw9, Act.put, sA, sZ, sS]
        refine Tillst.one (i := 10) (o := kw10) (by kernel_rfl) rfl ?_
        intro K hK
        refine step_alloc14 46 rfl rfl #[.int .i64 0, .int .u64 0, .int .i64 0] zero_addr ?_
        simp only [kw10, Act.put, sA, sZ, sS]
        have hal := (Below.refl w9.heap.size w9).alloc (Nat.le_refl _) (.cells #[.int .i64 0, .int .u64 0, .int .i64 0] 46)
        have hS10 : Kept (fun b => X6 b ∨ B.own b) wc (w9.alloc (.cells #[.int .i64 0, .int .u64 0, .int .i64 0] 46)) := hHeld.trans (Kept.of_below (S := fun b => X6 b ∨ B.own b) hal (fun b h => Nat.lt_of_lt_of_le (HYL.out b h) hHeld.size)) (fun b h => h)
        have HL10 := hI (HL9.out.grow hal)
        have HN10 := hI (Blk.new w9 46 #[.int .i64 0, .int .u64 0, .int .i64 0])
        have HZ9 := hI hHeld.size
        have HZ10 := hI (show w9.heap.size < (w9.alloc (.cells #[.int .i64 0, .int .u64 0, .int .i64 0] 46)).heap.size by simp)
        clear hal
        generalize w9.heap.size = g9 at *
        generalize w9.alloc _ = w10 at *
        refine hK.out _ _ (fun _ => hS10) (fun hHeld => ?_)
        replace hHeld := hHeld (by decide)
        clear hK K hS10
        refine Tillst.one (i := 11) (o := kw11) (by kernel_rfl) rfl ?_
        intro K hK
        refine step_store14 (.tmp 9) (.tmp 47) 46 rfl rfl g9 #[.int .i64 a.1, .int .u64 a.2.1, .int .i64 a.2.2] rfl rfl 46 _ HN10.out size_addr rfl (by simp [Value.oneCell']) ?_
        simp only [kw11, Act.put, sA, sZ, sS]
        have hk11 : Kept (fun b => b ≠ g9) w10 (w10.setRow g9 #[.int .i64 a.1, .int .u64 a.2.1, .int .i64 a.2.2]) := (Kept.refl _ _).setRow (fun h => h rfl) _
        have hS11 : Kept (fun b => X6 b ∨ B.own b) wc (w10.setRow g9 #[.int .i64 a.1, .int .u64 a.2.1, .int .i64 a.2.2]) := hHeld.trans hk11 (fun b h => by have := HYL.out b h; have := HZ9.out; omega)
        have HL11 := hI ((HL10.out.off hk11 (fun b _ hn => fun e => hn (.inr (by rw [e]; exact ⟨Nat.le_refl _, HZ10.out⟩)))).less (X := fun b => X6 b ∨ B.own b) (fun b h => .inl h))
        refine hK.out _ _ (fun _ => hS11) (fun hHeld => ?_)
        replace hHeld := hHeld (by decide)
        clear hK K hk11
        refine Tillst.one (i := 12) (o := kw12) (by kernel_rfl) rfl ?_
        intro K hK
        go_simp
        refine hK.out _ _ (fun _ => hHeld) (fun _ => ?_)
        clear hK K
        refine Tillst.done (by kernel_rfl) ?_ _
        refine hKK _ _ (Met.intro (hJ _ _ ?_))
        (repeat apply Exists.intro)
        exact ⟨⟨a, er, s1, xs1, t1, k1, pe1, rfl, HL11.out, hHeld, HC.out⟩, rfl⟩
      · intro K hK
        refine step_alloc14 46 rfl rfl #[.int .i64 0, .int .u64 0, .int .i64 0] zero_addr ?_
        simp only [kw10, Act.put, sA, sZ, sS]
        have hal := (Below.refl vd.heap.size vd).alloc (Nat.le_refl _) (.cells #[.int .i64 0, .int .u64 0, .int .i64 0] 46)
        have hS10 : Kept (fun b => X6 b ∨ B.own b) wc (vd.alloc (.cells #[.int .i64 0, .int .u64 0, .int .i64 0] 46)) := hHeld.trans (Kept.of_below (S := fun b => X6 b ∨ B.own b) hal (fun b h => Nat.lt_of_lt_of_le (HYL.out b h) hHeld.size)) (fun b h => h)
        have HL10 := hI (HMD.out.log.grow hal)
        have HN10 := hI (Blk.new vd 46 #[.int .i64 0, .int .u64 0, .int .i64 0])
        have HZ9 := hI hHeld.size
        have HZ10 := hI (show vd.heap.size < (vd.alloc (.cells #[.int .i64 0, .int .u64 0, .int .i64 0] 46)).heap.size by simp)
        have HRA := hI (HRD.out.below hal (fun b h => by rw [h]; exact HGV.out))
        clear hal HMD HRD
        generalize vd.heap.size = g9 at *
        generalize vd.alloc _ = w10 at *
        refine hK.out _ _ (fun _ => hS10) (fun hHeld => ?_)
        replace hHeld := hHeld (by decide)
        clear hK K hS10
        refine Tillst.one (i := 6) (o := kw6) (by kernel_rfl) rfl ?_
        intro K hK
        refine step_call 17 #[.tmp 44, .tmp 45] #[26, 44] rfl rfl Tryz.func17 rfl rfl [.pointer (some ⟨B.l, 0, none⟩), .agg #[.int .i64 2, .int .u32 0, .int .u32 0, .int .u64 q0, .slice (some ⟨gt, 0, none⟩) us.length us.length, .slice none 0 0]] rfl ((append_at HL10.out (fun b h => by
          rcases h with h | h
          · exact Nat.lt_of_lt_of_le (HYL.out b h) hHeld.size
          · exact h.2) HPE.out.1 HPE.out.2 HMAYL.out HRNG.out (HRA.out.more (fun b h => by rw [h]; exact Nat.lt_trans HGV.out HZ10.out)) (HNIL.out w10) (fun h => by cases h) (fun _ => rfl) HBY.out bytes_none).mono ?_)
        intro e w11 hap
        obtain ⟨a, er, s1, xs1, t1, k1, pe1, rfl, hk9, hl9, hcase⟩ := hap.told
        refine ⟨_, rfl, ?_⟩
        simp only [kw6, Act.put, sA, sZ, sS]
        have hS9 := hHeld.trans hk9 (fun b h => .inl h)
        have HL9 := hI hl9
        have HC := hI hcase
        have HN11 := hI (HN10.out.kept hk9 (.inr ⟨Nat.le_refl _, HZ10.out⟩))
        clear hap hk9 hl9 hcase hHeld HN10 HL10
        refine hK.out _ _ (fun _ => hS9) (fun hHeld => ?_)
        replace hHeld := hHeld (by decide)
        clear hK K hS9
        refine Tillst.tk (i := 7) (oi := kw7) (v := ?_) rfl (by kernel_rfl) (by rfl) ?_ hHeld ?_
        rotate_left
        · intro W hSW; (try dsimp only at hSW); unfold kw7; go_simp; with_reducible rfl
        simp only [kw7, Act.put, sA, sZ, sS]
        refine Tillst.tk (i := 8) (oi := kw8) (v := ?_) rfl (by kernel_rfl) (by rfl) ?_ hHeld ?_
        rotate_left
        · intro W hSW; (try dsimp only at hSW); unfold kw8; go_simp; with_reducible rfl
        simp only [kw8, Act.put, sA, sZ, sS]
        refine Tillst.tk (i := 9) (oi := kw9) (v := ?_) rfl (by kernel_rfl) (by rfl) ?_ hHeld ?_
        rotate_left
        · intro W hSW; (try dsimp only at hSW); unfold kw9; go_simp; with_reducible rfl
        simp only [kw9, Act.put, sA, sZ, sS]
        refine Tillst.one (i := 11) (o := kw11) (by kernel_rfl) rfl ?_
        intro K hK
        refine step_store14 (.tmp 9) (.tmp 47) 46 rfl rfl g9 #[.int .i64 a.1, .int .u64 a.2.1, .int .i64 a.2.2] rfl rfl 46 _ HN11.out size_addr rfl (by simp [Value.oneCell']) ?_
        simp only [kw11, Act.put, sA, sZ, sS]
        have hk11 : Kept (fun b => b ≠ g9) w11 (w11.setRow g9 #[.int .i64 a.1, .int .u64 a.2.1, .int .i64 a.2.2]) := (Kept.refl _ _).setRow (fun h => h rfl) _
        have hS11 : Kept (fun b => X6 b ∨ B.own b) wc (w11.setRow g9 #[.int .i64 a.1, .int .u64 a.2.1, .int .i64 a.2.2]) := hHeld.trans hk11 (fun b h => by have := HYL.out b h; have := HZ9.out; omega)
        have HL11 := hI ((HL9.out.off hk11 (fun b _ hn => fun e => hn (.inr (by rw [e]; exact ⟨Nat.le_refl _, HZ10.out⟩)))).less (X := fun b => X6 b ∨ B.own b) (fun b h => .inl h))
        refine hK.out _ _ (fun _ => hS11) (fun hHeld => ?_)
        replace hHeld := hHeld (by decide)
        clear hK K hk11
        refine Tillst.one (i := 12) (o := kw12) (by kernel_rfl) rfl ?_
        intro K hK
        go_simp
        refine hK.out _ _ (fun _ => hHeld) (fun _ => ?_)
        clear hK K
        refine Tillst.done (by kernel_rfl) ?_ _
        refine hKK _ _ (Met.intro (hJ _ _ ?_))
        (repeat apply Exists.intro)
        exact ⟨⟨a, er, s1, xs1, t1, k1, pe1, rfl, HL11.out, hHeld, HC.out⟩, rfl⟩
    case rest =>
      obtain ⟨a, er, s1, xs1, t1, k1, pe1, rfl, hl9, hk9, hcase⟩ := hcut
      rename World => wa
      obtain ⟨i1, i2, i3, i4, i5, i6⟩ := HIN.out
      have HS9 := hI (HS6.out.kept hk9 (.inl i1))
      have HI9 := hI (HI6.out.kept hk9 (.inl i2))
      have HE9 := hI (HBE6.out.kept hk9 (.inl i3))
      have HEN9 := hI (HEN6.out.kept hk9 (.inl i5))
      have HKX9 := hI (HKX6.out.trans hk9 (fun b hb => .inl (HX0.out b hb)))
      have hdim : xs1.length = xs.length := by
        have h1 := hl9.dims
        have h2 := HM6.out.log.dims
        rcases hcase with ⟨_, _, e, _⟩ | ⟨_, _, _, _, _, e | e, _⟩
        · rw [e] at h1; omega
        · rw [e] at h1; omega
        · rw [e] at h1
          have h3 : (genS s).a = s.a := rfl
          omega
      have HXW := hI (show ∀ b, X6 b → b < wa.heap.size from fun b hb => Nat.lt_of_lt_of_le (HM6.out.lt b hb) hk9.size)
      have HLE := hI (show ∀ b, X b → b ≠ w.heap.size + 1 + 1 from fun b hb => by have := HM0.out.lt b hb; omega)
      rcases hcase with ⟨hno, rfl, rfl, rfl, rfl, rfl, rfl⟩ | ⟨i, ys, hsome, rfl, ha, hs1, hxs, hpe1, hat, hall⟩
      · have HM9 := hI (HM6.out.logTo2 hk9 (fun b hb => .inr hb) (fun b hb => hb) HM6.out.off HXW.out hl9 rfl HM6.out.inv)
        have HNO := hI hno
        clear hl9 hk9 hno hdim i1 i2 i4 i5 i6
        have e8 : wa.cell? ⟨w.heap.size + 1 + 1, 0, none⟩ = some (.int .i64 0) := HE9.out.cell 0
        have e9 := HE9.out.frozen 0
        go_wp2_with fail
        clear e8 e9
        refine leaves_cons (f := 148) (args := #[.pointer (some ⟨w.heap.size + 1 + 1, 0, none⟩), .pointer (some ⟨w.heap.size, 0, none⟩), .pointer (some ⟨w.heap.size + 1, 0, none⟩), .pointer (some ⟨g6, 0, none⟩)]) (by simp) (by simp [go_sem]) ?_
        have HE12 := HE9.out.set_ 0 (.int .i64 6)
        refine (killD_no _ _ _ HE12 (by decide)).mono ?_
        rintro e u' w13 ⟨rfl, rfl, rfl⟩
        have hkb : Kept (fun b => b ≠ w.heap.size + 1 + 1) wa (wa.setCell ⟨w.heap.size + 1 + 1, 0, none⟩ (.int .i64 6)) := (Kept.refl _ _).setCell (p := ⟨w.heap.size + 1 + 1, 0, none⟩) (fun h => h rfl) _
        refine ⟨.int .i64 6, ?_, HKX9.out.trans hkb HLE.out, .inl ⟨HNO.out, rfl, _, (HM9.out.offX hkb (fun b _ hn => fun e => hn (e ▸ i3))).less HX0.out, HH6.out⟩⟩
        have c6 : (wa.setCell ⟨w.heap.size + 1 + 1, 0, none⟩ (.int .i64 6)).cell? ⟨w.heap.size + 1 + 1, 0, none⟩ = some (.int .i64 6) := HE12.cell 0
        simp [results, Tryz.f58, go_sem, c6]
      · have HM9 := hI (HM6.out.logTo2 hk9 (fun b hb => .inr hb) (fun b hb => hb) HM6.out.off HXW.out hl9 hdim (HM6.out.inv.go (fun a' bs' h => (hall a' bs' h).1)))
        have HSO := hI (And.intro hsome (And.intro hs1 (And.intro hxs hpe1)))
        clear hl9 hk9 hdim i1 i2 i4 i5 i6 hsome hs1 hxs hpe1 hat hall ha
        have s8 : wa.cell? ⟨w.heap.size, 0, none⟩ = some (.pointer (some ⟨B.q, 0, none⟩)) := HS9.out.cell 0
        have q8 : wa.cell? ⟨B.q, 0, none⟩ = some (.pointer (some ⟨B.l, 0, none⟩)) := HM9.out.cells.1
        have HSY := hI (sync_lg HM9.out.log HM9.out.ylt)
        go_wp2_with fail
        refine HSY.out.mono ?_
        rintro e wb ⟨rfl, hlb, hkb⟩
        have HMB := hI (HM9.out.logTo hkb hlb rfl (HM9.out.inv.held (HM9.out.log.good.held_sync)))
        have HSB := hI (HS9.out.kept hkb (.inl HIN.out.1))
        have HIB := hI (HI9.out.kept hkb (.inl HIN.out.2.1))
        have HEB := hI (HE9.out.kept hkb (.inl HIN.out.2.2.1))
        have HENB := hI (HEN9.out.kept hkb (.inl HIN.out.2.2.2.2.1))
        have HKXB := hI (HKX9.out.trans hkb (fun b hb => .inl (HX0.out b hb)))
        clear hlb hkb s8 q8 HSY
        have e8 : wb.cell? ⟨w.heap.size + 1 + 1, 0, none⟩ = some (.int .i64 0) := HEB.out.cell 0
        have e9 := HEB.out.frozen 0
        go_wp2_with fail
        clear e8 e9
        obtain ⟨wd, hwd⟩ : ∃ wd, wd = wb.setCell ⟨w.heap.size + 1 + 1, 0, none⟩ (.int .i64 0) := ⟨_, rfl⟩
        have hkb : Kept (fun b => b ≠ w.heap.size + 1 + 1) wb wd := by rw [hwd]; exact (Kept.refl _ _).setCell (p := ⟨w.heap.size + 1 + 1, 0, none⟩) (fun h => h rfl) _
        have HED := hI (show Blk wd (w.heap.size + 1 + 1) 49 #[.int .i64 0] by rw [hwd]; exact HEB.out.set_ 0 (.int .i64 0))
        rw [← hwd]
        clear hwd
        have HMW := hI (HMB.out.offX hkb (fun b _ hn => fun e => hn (e ▸ HIN.out.2.2.1)))
        have hsz := HZ1.out
        have hg6 := HG6.out
        have hbl := HBL.out
        have HSD := hI (HSB.out.kept hkb (by omega))
        have HID := hI (HIB.out.kept hkb (by omega))
        have HEND := hI (HENB.out.kept hkb (by omega))
        have HKXD := hI (HKXB.out.trans hkb HLE.out)
        refine leaves_cons (f := 148) (args := #[.pointer (some ⟨w.heap.size + 1 + 1, 0, none⟩), .pointer (some ⟨w.heap.size, 0, none⟩), .pointer (some ⟨w.heap.size + 1, 0, none⟩), .pointer (some ⟨g6, 0, none⟩)]) (by simp) (by simp [go_sem]) ?_
        have hrow : RowI .u8 wd X6 A m us := (HK.out.kept HKXD.out (fun b hb => hb)).more HX0.out
        refine (killD_ok (c := c) HMW.out HEV.out HED.out HSD.out HID.out HEND.out hrow HBY.out (by have := HM.out; omega)).mono ?_
        rintro e u' we ⟨rfl, rfl, hm, hk⟩
        obtain ⟨hsome, hs1, hxs, hpe1⟩ := HSO.out
        subst hxs hpe1
        have hown : ∀ b, X6 b → b < wd.heap.size ∧ ¬ B.own b := fun b hb => ⟨HMW.out.lt b hb, fun e => HMW.out.off b e hb⟩
        refine ⟨.int .i64 0, ?_, HKXD.out.trans hk (fun b hb => hown b (HX0.out b hb)), .inr ⟨i, s1, ys, t1, _, hsome, hs1, rfl, hm.less HX0.out⟩⟩
        have c6 : we.cell? ⟨w.heap.size + 1 + 1, 0, none⟩ = some (.int .i64 0) := (HED.out.kept hk (hown _ i3)).cell 0
        simp [results, Tryz.f58, go_sem, c6]
end
end
section
open Go.RowKit
attribute [local go_sem] Oper.semAt_some
section
variable {w w' : World} {X Y : Nat → Prop} {B : StB} {slots : Nat} {s : Sup} {xs : List Seg} {st : List EntS} {bl : List (List Int)} {u : Bool} {A : Option Addr} {m c : Nat} {us : List Int}
def getS (st : List EntS) (fl now : Int) (us : List Int) : Option (List Int) :=
  match hasS st us with
  | none => none
  | some p => if seqOf p.2 ≤ fl ∨ (0 < expOf p.2 ∧ expOf p.2 ≤ now) then none else some p.2
def GetT (w : World) (X : Nat → Prop) (B : StB) (slots : Nat) (s : Sup) (xs : List Seg) (st : List EntS) (bl : List (List Int)) (now : Int) (us : List Int) (e : Ending) (w' : World) : Prop :=
  (∃ k', StoM2 w' X { B with t := B.t, k := k', pe := B.pe } slots s xs st bl false ∧ k'.held = B.k.held) ∧ Kept X w w' ∧
  ((getS st s.f now us = none ∧ e = .returned (.tuple #[.agg itm0C, .int .i64 4])) ∨
   ∃ bs b1 b2, getS st s.f now us = some bs ∧ e = .returned (.tuple #[.agg (itmC bs b1 b2), .int .i64 0]) ∧ w.heap.size ≤ b1 ∧ w.heap.size ≤ b2 ∧ b1 ≠ b2 ∧ ArrU w' b1 (keyOf bs) ∧ ArrU w' b2 (valOf bs))
theorem get_fin {w2 w3 w4 : World} (hX : ∀ b, X b → b < w.heap.size) (h : StoM2 w3 (fun b => X b ∨ (w.heap.size ≤ b ∧ b < w2.heap.size)) B slots s xs st bl u) (hs : w.heap.size < w2.heap.size ∧ w2.heap.size ≤ w3.heap.size) (hk : Kept X w w3) (hb : Below w3.heap.size w3 w4) (cs : Array Value) :
    StoM2 (w4.setRow w.heap.size cs) X B slots s xs st bl u ∧ Kept X w (w4.setRow w.heap.size cs) ∧ Kept (fun b => b < w3.heap.size ∧ b ≠ w.heap.size) w3 (w4.setRow w.heap.size cs) := by
  have hkr : Kept (fun b => b ≠ w.heap.size) w4 (w4.setRow w.heap.size cs) := (Kept.refl _ w4).setRow (fun h => h rfl) cs
  refine ⟨((h.below hb).offX hkr (fun b hb hn e => hn (.inr ⟨by omega, by omega⟩))).less (fun b hb => .inl hb), (hk.trans (Kept.of_below (S := X) hb (fun b h => by have := hX b h; omega)) (fun b h => h)).trans hkr (fun b h => by have := hX b h; omega), (Kept.of_below (S := fun b => b < w3.heap.size ∧ b ≠ w.heap.size) hb (fun b h => h.1)).trans hkr (fun b h => h.2)⟩
theorem get_s (h : StoM2 w X B slots s xs st bl false) (hk : RowI .u8 w X A m us) (hb : Bytes us) (hm : m ≤ 1000000) (now : Int) :
    Calls Tryz.prog 51 #[.pointer (some ⟨B.q, 0, none⟩), .slice A m c, .int .u32 now] w (GetT w X B slots s xs st bl now us) := by
  obtain ⟨w1, hw1⟩ : ∃ w1, w1 = w.alloc (.cells itm0C 117) := ⟨_, rfl⟩
  have hb1 : Below w.heap.size w w1 := by rw [hw1]; exact (Below.refl _ w).alloc (Nat.le_refl _) _
  have HR1 := hI (show Blk w1 w.heap.size 117 itm0C by rw [hw1]; exact Blk.new w _ _)
  have hM1 := h.grow hb1
  have HM1 := hI hM1
  have HB1 := hI hb1
  have HXL := hI h.lt
  have HK1 := hI (hk.below hb1 h.lt)
  have HBY := hI hb
  have HM := hI hm
  have HW1 := hI hw1
  have HLK := hI (look_any (c := c) hM1.log hM1.ylt hM1.ix (.inr (.inr (.inl rfl))) hM1.inv ((hk.below hb1 h.lt).more (fun b h => .inl (.inl h))) hb hm)
  obtain ⟨c0, c1, _, _⟩ := hM1.cells
  have HDG := hI (degraded_ok hM1)
  clear h hk hb hm hb1 hw1 hM1
  go_enter Tryz.func51, Tryz.ntmps51
  go_upto_region 3 with fail
  rw [← HW1.out]
  go_wp2_with fail
  refine HDG.out.mono ?_
  rintro e w2 ⟨rfl, rfl⟩
  go_wp2_with fail
  refine HLK.out.mono ?_
  rintro e w3 ⟨⟨k3, hl3, hk3⟩, hkp3, hres⟩
  have hM3 := HM1.out.logTo hkp3 hl3 rfl (HM1.out.inv.held hk3)
  have HM3 := hI hM3
  have HH3 := hI hk3
  have HKX3 := hI ((Kept.of_below HB1.out HXL.out).trans hkp3 (fun b hb => .inl (.inl hb)))
  have HR3 := hI (HR1.out.kept hkp3 (.inl (.inr ⟨Nat.le_refl _, HR1.out.lt⟩)))
  have HSZ := hI (show w.heap.size < w2.heap.size ∧ w2.heap.size ≤ w3.heap.size from ⟨HR1.out.lt, hkp3.size⟩)
  clear hl3 hk3 hkp3 hM3 HLK
  rcases hres with ⟨hno, rfl⟩ | ⟨q, b1, b2, hq, rfl, hq1, hq2, hq12, hr1, hr2⟩
  · have HNO := hI (show getS st s.f now us = none by unfold getS; rw [hno])
    clear hno c0 c1
    have HB4 := hI ((Below.refl w3.heap.size w3).alloc (Nat.le_refl _) (.cells ent0C 228))
    have HR4 := hI (HR3.out.alloc (.cells ent0C 228))
    go_wp2_with (first
      | (refine wpList_store_rowB (.tmp 6) (.tmp 48) 117 rfl rfl w.heap.size itm0C rfl rfl 117 _ HR4.out size_itm rfl one_itm0 ?_)
      | (with_reducible refine halt_end ?_))
    have hfin := get_fin HXL.out HM3.out HSZ.out HKX3.out HB4.out itm0C
    exact Halt.ret (results_row2 (p := 6) (u := 7) rfl _ _ w.heap.size 117 itm0C _ rfl (setRow_heap _ _ _ _ _ _ HR4.out) Tryz.underlying117 rfl size_itm) rfl ⟨⟨k3, hfin.1, HH3.out⟩, hfin.2.1, .inl ⟨HNO.out, rfl⟩⟩
  · have HQ := hI hq
    have HA31 := hI hr1
    have HA32 := hI hr2
    have HBB := hI (And.intro hq1 (And.intro hq2 hq12))
    clear hq hr1 hr2 hq1 hq2 hq12 c0 c1
    obtain ⟨w4, hw4⟩ : ∃ w4, w4 = (w3.alloc (.cells ent0C 228)).setRow w3.heap.size (entC' q b1 b2) := ⟨_, rfl⟩
    have HBN := hI (Blk.new w3 228 ent0C)
    have hb4 : Below w3.heap.size w3 w4 := by rw [hw4]; exact Kept.to_below (((Kept.refl (fun b => b < w3.heap.size) w3).alloc (fun b h => h) _).setRow (fun h => by omega) _) (fun b h => h)
    have HE4 := hI (show Blk w4 w3.heap.size 228 (entC' q b1 b2) by rw [hw4]; exact setRow_heap _ _ _ _ _ _ HBN.out)
    have HW4 := hI hw4.symm
    have HB4 := hI hb4
    have HVD := hI (void_ok (HM3.out.below hb4) (kindOf q.2) (flagsOf q.2) (expOf q.2) (seqOf q.2) (some ⟨b1, 0, none⟩) (some ⟨b2, 0, none⟩) (klenOf q.2) (klenOf q.2) (vlenOf q.2) (vlenOf q.2))
    clear hw4 hb4
    have e0 : w4.cell? ⟨w3.heap.size, 0, none⟩ = some (.bool true) := HE4.out.cell 0
    have e4 : w4.cell? ⟨w3.heap.size, 4, none⟩ = some (.int .i64 (kindOf q.2)) := HE4.out.cell 4
    have e5 : w4.cell? ⟨w3.heap.size, 5, none⟩ = some (.int .u32 (flagsOf q.2)) := HE4.out.cell 5
    have e6 : w4.cell? ⟨w3.heap.size, 6, none⟩ = some (.int .u32 (expOf q.2)) := HE4.out.cell 6
    have e7 : w4.cell? ⟨w3.heap.size, 7, none⟩ = some (.int .u64 (seqOf q.2)) := HE4.out.cell 7
    have e8 : w4.cell? ⟨w3.heap.size, 8, none⟩ = some (.slice (some ⟨b1, 0, none⟩) (klenOf q.2) (klenOf q.2)) := HE4.out.cell 8
    have e9 : w4.cell? ⟨w3.heap.size, 9, none⟩ = some (.slice (some ⟨b2, 0, none⟩) (vlenOf q.2) (vlenOf q.2)) := HE4.out.cell 9
    go_wp2_with (refine wpList_store_rowB (.tmp 8) (.tmp 25) 228 rfl rfl w3.heap.size (entC' q b1 b2) rfl rfl 228 _ HBN.out size_entry rfl (one_ent _ _ _) ?_; rw [HW4.out])
    refine HVD.out.mono ?_
    rintro e w5 ⟨rfl, hb5⟩
    have HB5 := hI (HB4.out.trans (hb5.mono HB4.out.size))
    have HE5 := hI (HE4.out.below hb5 HE4.out.lt)
    clear hb5 HVD e0 e4 e5 e6 e7 e8 e9
    have e4 : w5.cell? ⟨w3.heap.size, 4, none⟩ = some (.int .i64 (kindOf q.2)) := HE5.out.cell 4
    have e5 : w5.cell? ⟨w3.heap.size, 5, none⟩ = some (.int .u32 (flagsOf q.2)) := HE5.out.cell 5
    have e6 : w5.cell? ⟨w3.heap.size, 6, none⟩ = some (.int .u32 (expOf q.2)) := HE5.out.cell 6
    have e7 : w5.cell? ⟨w3.heap.size, 7, none⟩ = some (.int .u64 (seqOf q.2)) := HE5.out.cell 7
    have e8 : w5.cell? ⟨w3.heap.size, 8, none⟩ = some (.slice (some ⟨b1, 0, none⟩) (klenOf q.2) (klenOf q.2)) := HE5.out.cell 8
    have e9 : w5.cell? ⟨w3.heap.size, 9, none⟩ = some (.slice (some ⟨b2, 0, none⟩) (vlenOf q.2) (vlenOf q.2)) := HE5.out.cell 9
    have HR5 := hI ((HR3.out.below HB5.out HR3.out.lt))
    by_cases hv : seqOf q.2 ≤ s.f
    · have HNO := hI (show getS st s.f now us = none by unfold getS; rw [HQ.out]; exact if_pos (.inl hv))
      rw [decide_eq_true hv]
      clear hv
      go_wp2_with (first
        | (refine wpList_store_rowB (.tmp 6) (.tmp 48) 117 rfl rfl w.heap.size itm0C rfl rfl 117 _ HR5.out size_itm rfl one_itm0 ?_)
        | (with_reducible refine halt_end ?_))
      have hfin := get_fin HXL.out HM3.out HSZ.out HKX3.out HB5.out itm0C
      exact Halt.ret (results_row2 (p := 6) (u := 7) rfl _ _ w.heap.size 117 itm0C _ rfl (setRow_heap _ _ _ _ _ _ HR5.out) Tryz.underlying117 rfl size_itm) rfl ⟨⟨k3, hfin.1, HH3.out⟩, hfin.2.1, .inl ⟨HNO.out, rfl⟩⟩
    · rw [decide_eq_false hv]
      have HV := hI hv
      clear hv
      go_wp2_with fail
      refine (expired_ok (kindOf q.2) (flagsOf q.2) (expOf q.2) (seqOf q.2) now (some ⟨b1, 0, none⟩) (some ⟨b2, 0, none⟩) (klenOf q.2) (klenOf q.2) (vlenOf q.2) (vlenOf q.2) w5).mono ?_
      rintro e w6 ⟨rfl, hb6⟩
      have HB6 := hI (HB5.out.trans (hb6.mono HB5.out.size))
      have HE6 := hI (HE5.out.below hb6 HE5.out.lt)
      clear hb6 e4 e5 e6 e7 e8 e9
      have HR6 := hI ((HR3.out.below HB6.out HR3.out.lt))
      by_cases hx : 0 < expOf q.2 ∧ expOf q.2 ≤ now
      · have HNO := hI (show getS st s.f now us = none by unfold getS; rw [HQ.out]; exact if_pos (.inr hx))
        rw [decide_eq_true hx]
        clear hx
        go_wp2_with (first
          | (refine wpList_store_rowB (.tmp 6) (.tmp 48) 117 rfl rfl w.heap.size itm0C rfl rfl 117 _ HR6.out size_itm rfl one_itm0 ?_)
          | (with_reducible refine halt_end ?_))
        have hfin := get_fin HXL.out HM3.out HSZ.out HKX3.out HB6.out itm0C
        exact Halt.ret (results_row2 (p := 6) (u := 7) rfl _ _ w.heap.size 117 itm0C _ rfl (setRow_heap _ _ _ _ _ _ HR6.out) Tryz.underlying117 rfl size_itm) rfl ⟨⟨k3, hfin.1, HH3.out⟩, hfin.2.1, .inl ⟨HNO.out, rfl⟩⟩
      · have HYES := hI (show getS st s.f now us = some q.2 by unfold getS; rw [HQ.out]; exact if_neg (fun h => h.elim (fun h9 => by have := HV.out; omega) hx))
        rw [decide_eq_false hx]
        clear hx
        have e4 : w6.cell? ⟨w3.heap.size, 4, none⟩ = some (.int .i64 (kindOf q.2)) := HE6.out.cell 4
        have e5 : w6.cell? ⟨w3.heap.size, 5, none⟩ = some (.int .u32 (flagsOf q.2)) := HE6.out.cell 5
        have e6 : w6.cell? ⟨w3.heap.size, 6, none⟩ = some (.int .u32 (expOf q.2)) := HE6.out.cell 6
        have e7 : w6.cell? ⟨w3.heap.size, 7, none⟩ = some (.int .u64 (seqOf q.2)) := HE6.out.cell 7
        have e8 : w6.cell? ⟨w3.heap.size, 8, none⟩ = some (.slice (some ⟨b1, 0, none⟩) (klenOf q.2) (klenOf q.2)) := HE6.out.cell 8
        have e9 : w6.cell? ⟨w3.heap.size, 9, none⟩ = some (.slice (some ⟨b2, 0, none⟩) (vlenOf q.2) (vlenOf q.2)) := HE6.out.cell 9
        go_wp2_with fail
        refine (itemOf_ok q.2 b1 b2 w6).mono ?_
        rintro e w7 ⟨rfl, hb7⟩
        have HB7 := hI (HB6.out.trans (hb7.mono HB6.out.size))
        clear hb7 e4 e5 e6 e7 e8 e9
        have HR7 := hI ((HR3.out.below HB7.out HR3.out.lt))
        go_wp2_with (first
          | (refine wpList_store_rowB (.tmp 6) (.tmp 51) 117 rfl rfl w.heap.size (itmC q.2 b1 b2) rfl rfl 117 _ HR7.out size_itm rfl (one_itm _ _ _) ?_)
          | (with_reducible refine halt_end ?_))
        have hfin := get_fin HXL.out HM3.out HSZ.out HKX3.out HB7.out (itmC q.2 b1 b2)
        have hsz := HSZ.out
        have hbb := HBB.out
        refine Halt.ret (results_row2 (p := 6) (u := 7) rfl _ _ w.heap.size 117 (itmC q.2 b1 b2) _ rfl (setRow_heap _ _ _ _ _ _ HR7.out) Tryz.underlying117 rfl size_itm) rfl ⟨⟨k3, hfin.1, HH3.out⟩, hfin.2.1, .inr ⟨q.2, b1, b2, HYES.out, rfl, by omega, by omega, hbb.2.2, ?_, ?_⟩⟩
        · exact Blk.kept HA31.out hfin.2.2 ⟨Blk.lt HA31.out, by omega⟩
        · exact Blk.kept HA32.out hfin.2.2 ⟨Blk.lt HA32.out, by omega⟩
end
end
section
open Go.RowKit
def wb1 : List Int := recB 1 0 0 1 [107, 97] [120]
def wb2 : List Int := recB 2 0 0 2 [107, 97] []
theorem wb1_key : keyOf wb1 = [107, 97] := by decide +kernel
theorem wb1_val : valOf wb1 = [120] := by decide +kernel
theorem wb1_seq : seqOf wb1 = 1 := by decide +kernel
theorem wb1_exp : expOf wb1 = 0 := by decide +kernel
theorem wb1_vlen : vlenOf wb1 = 1 := by decide +kernel
theorem wb1_cnt : cntOf wb1.length = 1 := by decide +kernel
theorem wb2_cnt : cntOf wb2.length = 1 := by decide +kernel
theorem wk_sealed14 : sealedX 24 wkX = wkX := by
  unfold sealedX
  rw [if_neg]
  unfold sealE
  split
  · decide
  · rw [if_pos (by rw [wk_open]; decide)]; decide
theorem wk_app1 : appR wkS wkX 1 = some (0, genS wkS, openX wkX 1) := by
  unfold appR
  have h1 := wk_left
  rw [if_neg (by show ¬ ((1 : Nat) : Int) ≤ leftR 24 wkX; omega), if_neg (by rw [wk_next]; decide), wk_next, show sealedX wkS.b wkX = wkX from wk_sealed14]
  rfl
theorem wk_left2 : leftR 24 (useX (openX wkX 1) (1 : Nat)) = 22 := by decide +kernel
theorem wk_app2 : ∃ r, appR (genS wkS) (useX (openX wkX 1) (1 : Nat)) 1 = some r := by
  unfold appR
  rw [if_pos (by show ((1 : Nat) : Int) ≤ leftR 24 _; rw [wk_left2]; decide)]
  exact ⟨_, rfl⟩
theorem wk_may : mayS (addB (List.replicate 4 (List.replicate 128 0)) 0 [107, 97]) [107, 97] = true := by decide +kernel
theorem key0 : keyL 0 = [107, 97] := by decide
theorem one_st {a : Int × Int × Int} : hasS [(a, wb1)] [107, 97] = some (a, wb1) := by
  unfold hasS
  rw [List.find?_cons_of_pos (by rw [wb1_key]; decide)]
theorem one_get {a : Int × Int × Int} : getS [(a, wb1)] 0 0 [107, 97] = some wb1 := by
  unfold getS
  rw [one_st]
  exact if_neg (by rw [wb1_seq, wb1_exp]; decide)
theorem one_out {a : Int × Int × Int} : outS [(a, wb1)] [107, 97] = [] := by
  unfold outS
  rw [List.filter_cons_of_neg (by rw [wb1_key]; decide)]
  rfl
theorem none_out : outS [] [107, 97] = [] := rfl
theorem none_full : fullS [] [107, 97] 2 = false := by decide
end
end Go.Proofs.YthmimemenegokaaGreat
