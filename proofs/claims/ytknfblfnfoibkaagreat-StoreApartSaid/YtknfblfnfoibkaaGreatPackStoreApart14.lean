/- Texts of StoreApart, packed. -/
import Derived.Test.YtknfblfnfoibkaaGreatPackStoreApart13
import Derived.Great.BuildSlice
import Derived.Laws.CopyRow
import Derived.Laws.CopyOwn
import Derived.OwnWalk
import Derived.Lib.Hide
import Derived.Deep.MidRow
import Derived.Deep.Grids
import Derived.SizedLaws
import Derived.ChangeArms
set_option linter.unusedVariables false
set_option linter.unusedSimpArgs false
set_option maxRecDepth 100000
set_option maxHeartbeats 16000000
namespace Go.Proofs.YtknfblfnfoibkaaGreat
section
open Go.RowKit
attribute [local go_sem] Oper.semAt_some
abbrev ku0 : Oper := ⟨some 27, .load 28 (.tmp 3), 28, "store.go:127", #[], none⟩
abbrev ku1 : Oper := ⟨some 28, .nilCheck (.tmp 27), 0, "store.go:127", #[⟨0, .data⟩], none⟩
abbrev ku2 : Oper := ⟨some 29, .fieldAddr 115 (.tmp 28) 0, 0, "store.go:127", #[⟨1, .data⟩], none⟩
abbrev ku3 : Oper := ⟨some 30, .load 112 (.tmp 29), 112, "store.go:127", #[⟨2, .data⟩], none⟩
abbrev ku4 : Oper := ⟨some 31, .load 40 (.tmp 4), 40, "store.go:127", #[], none⟩
abbrev ku5 : Oper := ⟨some 32, .call { callee := .value (.func 57), args := #[.tmp 30, .tmp 31], argTypes := #[112, 40] }, 126, "store.go:127", #[⟨3, .data⟩, ⟨4, .data⟩], none⟩
abbrev ku6 : Oper := ⟨some 26, .move (.tmp 32), 126, "store.go:127", #[⟨5, .data⟩], none⟩
abbrev ku7 : Oper := ⟨some 33, .extract (.tmp 26) 0, 125, "store.go:127", #[⟨6, .data⟩], none⟩
abbrev ku8 : Oper := ⟨some 34, .extract (.tmp 26) 1, 29, "store.go:127", #[⟨6, .data⟩, { on := 10, ground := Go.Ground.gcOnly Go.Departure.lateStores }], none⟩
abbrev ku9 : Oper := ⟨some 8, .alloc 125, 0, "store.go:127", #[], none⟩
abbrev ku10 : Oper := ⟨none, .store 125 (.tmp 8) (.tmp 33), 0, "store.go:127", #[⟨9, .data⟩, ⟨7, .data⟩, ⟨5, .chain⟩, ⟨0, .phase⟩, ⟨1, .phase⟩, ⟨2, .phase⟩, ⟨3, .phase⟩, ⟨4, .phase⟩, ⟨5, .phase⟩, ⟨6, .phase⟩, ⟨7, .phase⟩, { on := 8, ground := Go.Ground.textOnly Go.Departure.lateStores }, ⟨9, .phase⟩], none⟩
abbrev ku11 : Oper := ⟨none, .store 29 (.tmp 6) (.tmp 34), 0, "store.go:127", #[⟨8, .data⟩, ⟨10, .chain⟩, ⟨0, .phase⟩, ⟨1, .phase⟩, ⟨2, .phase⟩, ⟨3, .phase⟩, ⟨4, .phase⟩, ⟨5, .phase⟩, ⟨6, .phase⟩, ⟨7, .phase⟩, ⟨8, .phase⟩, ⟨9, .phase⟩, ⟨10, .phase⟩], none⟩
abbrev kw0 : Oper := ⟨some 40, .load 28 (.tmp 3), 28, "store.go:136", #[], none⟩
abbrev kw1 : Oper := ⟨some 41, .nilCheck (.tmp 40), 0, "store.go:136", #[⟨0, .data⟩], none⟩
abbrev kw2 : Oper := ⟨some 42, .fieldAddr 115 (.tmp 41) 0, 0, "store.go:136", #[⟨1, .data⟩], none⟩
abbrev kw3 : Oper := ⟨some 43, .fieldAddr 112 (.tmp 42) 0, 0, "store.go:136", #[⟨2, .data⟩], none⟩
abbrev kw4 : Oper := ⟨some 44, .load 25 (.tmp 43), 25, "store.go:136", #[⟨3, .data⟩], none⟩
abbrev kw5 : Oper := ⟨some 45, .load 69 (.tmp 7), 69, "store.go:136", #[], none⟩
abbrev kw6 : Oper := ⟨some 46, .call { callee := .value (.func 62), args := #[.tmp 44, .tmp 45], argTypes := #[25, 69] }, 130, "store.go:136", #[⟨4, .data⟩, ⟨5, .data⟩], none⟩
abbrev kw7 : Oper := ⟨some 39, .move (.tmp 46), 130, "store.go:136", #[⟨6, .data⟩], none⟩
abbrev kw8 : Oper := ⟨some 47, .extract (.tmp 39) 0, 67, "store.go:136", #[⟨7, .data⟩], none⟩
abbrev kw9 : Oper := ⟨some 48, .extract (.tmp 39) 1, 29, "store.go:136", #[⟨7, .data⟩, { on := 11, ground := Go.Ground.gcOnly Go.Departure.lateStores }], none⟩
abbrev kw10 : Oper := ⟨some 9, .alloc 67, 0, "store.go:136", #[], none⟩
abbrev kw11 : Oper := ⟨none, .store 67 (.tmp 9) (.tmp 47), 0, "store.go:136", #[⟨10, .data⟩, ⟨8, .data⟩, ⟨6, .chain⟩, ⟨0, .phase⟩, ⟨1, .phase⟩, ⟨2, .phase⟩, ⟨3, .phase⟩, ⟨4, .phase⟩, ⟨5, .phase⟩, ⟨6, .phase⟩, ⟨7, .phase⟩, ⟨8, .phase⟩, { on := 9, ground := Go.Ground.textOnly Go.Departure.lateStores }, ⟨10, .phase⟩], none⟩
abbrev kw12 : Oper := ⟨some 10, .assign (.tmp 48), 29, "store.go:136", #[⟨9, .data⟩, ⟨11, .chain⟩, ⟨0, .phase⟩, ⟨1, .phase⟩, ⟨2, .phase⟩, ⟨3, .phase⟩, ⟨4, .phase⟩, ⟨5, .phase⟩, ⟨6, .phase⟩, ⟨7, .phase⟩, ⟨8, .phase⟩, ⟨9, .phase⟩, ⟨10, .phase⟩, ⟨11, .phase⟩], none⟩
section
variable {w w' : World} {X Y : Nat → Prop} {B : StB} {slots : Nat} {s : Sup} {xs : List Seg} {st : List EntS} {bl : List (List Int)} {u : Bool} {A : Option Addr} {m c : Nat} {us : List Int} {k k' : Dk} {l p d n pe : Nat} {t : Int}
theorem sync_lg (h : LgM w X l p d n s t k xs pe) (hX : ∀ b, X b → b < w.heap.size) :
 Calls Tryz.prog 66 #[.pointer (some ⟨l, 0, none⟩)] w fun e w' => e = .returned (.int .i64 0) ∧ LgM w' X l p d n s t (k.wr Dk.sync) xs pe ∧ Kept X w w' := by
 obtain ⟨A, c, hl, hc, hn⟩ := h.log
 refine (sync_good hl hX h.good).mono ?_
 rintro e w' ⟨rfl, hl', hk⟩
 exact ⟨rfl, ⟨⟨A, c, hl', hc, hn⟩, h.good.sync, h.ok, h.top, h.may, h.sin, h.dims, h.n2, h.room, by rw [h.good.pend_sync]; exact Nat.zero_le _⟩, hk⟩
def AppC (w : World) (Y : Nat → Prop) (l p d n : Nat) (s : Sup) (t : Int) (k : Dk) (xs : List Seg) (pe : Nat) (bs : List Int) (v : Value) (wx : World) : Prop :=
 ∃ a er s1 xs1 t1 k1 pe1, v = .int .i64 er ∧ LgM wx Y l p d n s1 t1 k1 xs1 pe1 ∧ Kept Y w wx ∧
  ((appR s xs (cntOf bs.length) = none ∧ er = 6 ∧ s1 = s ∧ xs1 = xs ∧ t1 = t ∧ k1 = k ∧ pe1 = pe) ∨
   (∃ i ys, appR s xs (cntOf bs.length) = some (i, s1, ys) ∧ er = 0 ∧ a = ((i : Int), genG ys i, usedG ys i) ∧ (s1 = s ∨ s1 = genS s) ∧ xs1 = useX ys ((cntOf bs.length : Nat) : Int) ∧ pe1 = pe + 17 ∧ AtR k1 s1 xs1 a bs ∧ ∀ a' bs', AtR k s xs a' bs' → AtR k1 s1 xs1 a' bs' ∧ a' ≠ a))
def KillT (w : World) (X : Nat → Prop) (B : StB) (slots : Nat) (s : Sup) (xs : List Seg) (st : List EntS) (bl : List (List Int)) (us bs : List Int) (e : Ending) (w' : World) : Prop :=
 Kept X w w' ∧
 ((appR s xs (cntOf bs.length) = none ∧ e = .returned (.int .i64 6) ∧ ∃ k', StoM2 w' X { B with t := B.t, k := k', pe := B.pe } slots s xs st bl false ∧ k'.held = B.k.held) ∨
  (∃ i s1 xs1 t' k', appR s xs (cntOf bs.length) = some (i, s1, xs1) ∧ (s1 = s ∨ s1 = genS s) ∧ e = .returned (.int .i64 0) ∧
    StoM2 w' X { B with t := t', k := k', pe := B.pe + 17 } slots s1 (useX xs1 ((cntOf bs.length : Nat) : Int)) (outS st us) bl false))
theorem kill_s14 (h : StoM2 w X B slots s xs st bl false) {q0 : Int} (hk : RowI .u8 w X A m us) (hb : Bytes us) (hmay : May 2 0 0 q0 m 0) (hr : Rng 0 0 q0) (hpe : B.pe ≤ 900000) (hgm : s.g + 1 ≤ 18446744073709551615) :
 Calls Tryz.prog 16 #[.pointer (some ⟨B.q, 0, none⟩), .slice A m c, .int .u64 q0] w (KillT w X B slots s xs st bl us (recB 2 0 0 q0 us [])) := by
 obtain ⟨w1, hw1⟩ : ∃ w1, w1 = ((w.alloc (.cells #[.pointer (some ⟨B.q, 0, none⟩)] 28)).alloc (.cells #[.slice A m c] 40)).alloc (.cells #[.int .i64 0] 29) := ⟨_, rfl⟩
 have hb1 : Below w.heap.size w w1 := by rw [hw1]; exact (((Below.refl _ w).alloc (nR _) _).alloc (by simp) _).alloc (by simp; omega) _
 have HS1 := hI (show Blk w1 w.heap.size 28 #[.pointer (some ⟨B.q, 0, none⟩)] by rw [hw1]; exact ((Blk.new w _ _).alloc _).alloc _)
 have HI1 := hI (show Blk w1 (w.heap.size + 1) 40 #[.slice A m c] by rw [hw1]; exact (blk_new2 w _ _ _).alloc _)
 have HE1 := hI (show Blk w1 (w.heap.size + 1 + 1) 29 #[.int .i64 0] by rw [hw1]; exact blk_new3 w _ _ _ _)
 have HZ1 := hI (show w1.heap.size = w.heap.size + 3 by rw [hw1]; simp)
 have HM0 := hI h
 have HB1 := hI hb1
 have HK := hI hk
 have HBY := hI hb
 have HMAY := hI hmay
 have HRNG := hI hr
 have HPE := hI (And.intro hpe hgm)
 have HM := hI (show m ≤ 250 by unfold May at hmay; omega)
 have HLEN := hI hk.1
 have HW1 := hI hw1
 have HTB := hI (tomb_yes A m c us q0 (fun b => b < w1.heap.size) w1 ((hk.below hb1 h.lt).more (fun b hb => nL (h.lt b hb) hb1.size)) (fun b h => h) hmay)
 clear hw1 hb1 h hk hb hmay hr hpe hgm
 go_enter_defers Tryz.func16, Tryz.ntmps16
 go_upto_region 1 with fail
 rw [← HW1.out]
 have s1 : w1.cell? ⟨w.heap.size, 0, none⟩ = some (.pointer (some ⟨B.q, 0, none⟩)) := HS1.out.cell 0
 have i1 : w1.cell? ⟨w.heap.size + 1, 0, none⟩ = some (.slice A m c) := HI1.out.cell 0
 go_wp2_with fail
 refine HTB.out.mono ?_
 rintro e w2 ⟨gt, rfl, hgt, hgr, hb2⟩
 have HT2 := hI hgr
 have HGT := hI hgt
 have HB2 := hI hb2
 have HE2 := hI (HE1.out.below hb2 HE1.out.lt)
 clear s1 i1 hgr hb2 hgt HTB
 obtain ⟨w3, hw3⟩ : ∃ w3, w3 = w2.alloc (.cells #[.int .i64 2, .int .u32 0, .int .u32 0, .int .u64 q0, .slice (some ⟨gt, 0, none⟩) us.length us.length, .slice none 0 0] 69) := ⟨_, rfl⟩
 have hb3 : Below w2.heap.size w2 w3 := by rw [hw3]; exact (Below.refl _ _).alloc (nR _) _
 have HE3 := hI (HE2.out.below hb3 HE2.out.lt)
 have HR3 := hI (show Blk w3 w2.heap.size 69 #[.int .i64 2, .int .u32 0, .int .u32 0, .int .u64 q0, .slice (some ⟨gt, 0, none⟩) us.length us.length, .slice none 0 0] by rw [hw3]; exact Blk.new w2 _ _)
 have HT3 := hI (Blk.below HT2.out hb3 (Blk.lt HT2.out))
 have HB3 := hI (HB2.out.trans (hb3.mono HB2.out.size))
 have HGL := hI (show gt < w2.heap.size from Blk.lt HT2.out)
 have e0 : w3.cell? ⟨w.heap.size + 1 + 1, 0, none⟩ = some (.int .i64 0) := HE3.out.cell 0
 have e9 := HE3.out.frozen 0
 rw [hw3] at e0 e9
 have HW3 := hI hw3
 clear hb3 hw3 HE2 HT2
 go_upto_region 4 with fail
 rw [← HW3.out]
 obtain ⟨w4, hw5⟩ : ∃ w4, w4 = w3.setCell ⟨w.heap.size + 1 + 1, 0, none⟩ (.int .i64 0) := ⟨_, rfl⟩
 have hk5 : Kept (fun b => b ≠ w.heap.size + 1 + 1) w3 w4 := by rw [hw5]; exact (Kept.refl _ _).setCell (p := ⟨w.heap.size + 1 + 1, 0, none⟩) (fun h => h rfl) _
 have hz1 := HZ1.out
 have hz2 := HB2.out.size
 have hgt := HGT.out
 have HE4 := hI (show Blk w4 (w.heap.size + 1 + 1) 29 #[.int .i64 0] by rw [hw5]; exact HE3.out.set_ 0 (.int .i64 0))
 have HB35 := hI (show Below w.heap.size w w4 from (HB1.out.trans (HB3.out.mono HB1.out.size)).trans (hk5.to_below (fun b hb => by omega)))
 have HB4 := hI (show Below w.heap.size w1 w4 from (HB3.out.mono HB1.out.size).trans (hk5.to_below (fun b hb => by omega)))
 have HR4 := hI (HR3.out.kept hk5 (by omega))
 have HT4 := hI (Blk.kept HT3.out hk5 (by omega))
 have HS4 := hI ((HS1.out.below HB3.out HS1.out.lt).kept hk5 (by omega))
 have HI4 := hI ((HI1.out.below HB3.out HI1.out.lt).kept hk5 (by omega))
 have HM4 := hI (HM0.out.grow HB35.out)
 have HZ2 := hI hz2
 have HZ4 := hI (show gt < w2.heap.size ∧ w2.heap.size < w4.heap.size from ⟨HGL.out, HR4.out.lt⟩)
 rw [← hw5]
 clear hk5 hz1 hz2 hgt hw5 e0 e9 HE3 HR3 HT3
 have hs4 : w4.cell? ⟨w.heap.size, 0, none⟩ = some (.pointer (some ⟨B.q, 0, none⟩)) := HS4.out.cell 0
 have he4 : w4.cell? ⟨w.heap.size + 1 + 1, 0, none⟩ = some (.int .i64 0) := HE4.out.cell 0
 go_wp2_with fail
 refine (degraded_ok HM4.out).mono ?_
 rintro e w5 ⟨rfl, rfl⟩
 go_upto_region 8 with fail
 clear hs4 he4
 go_cut [8] from 26 to 34 (fun v6 wx => ElkC w5 (fun b => (X b ∨ (w.heap.size ≤ b ∧ b < w5.heap.size)) ∨ B.own b) (w.heap.size + 1 + 1) B.l B.p B.d B.n s B.t B.k xs B.pe st us v6 wx)
 case first J KK hJ hKK =>
  have HQL := hI (show B.q < w.heap.size from HM0.out.own_lt (.inl rfl))
  have HSS := hI (show ∀ W, Kept (fun b => ((X b ∨ (w.heap.size ≤ b ∧ b < w5.heap.size)) ∨ B.own b) ∧ b ≠ w.heap.size + 1 + 1) w5 W → W.cell? ⟨w.heap.size, 0, none⟩ = some (.pointer (some ⟨B.q, 0, none⟩)) ∧ W.cell? ⟨B.q, 0, none⟩ = some (.pointer (some ⟨B.l, 0, none⟩)) ∧ W.cell? ⟨B.q, 1, none⟩ = some (.pointer (some ⟨B.x, 0, none⟩)) ∧ W.cell? ⟨w.heap.size + 1, 0, none⟩ = some (.slice A m c) from fun W hW => by
   obtain ⟨q0, q1, _, _⟩ := HM4.out.cells
   have h1 := HS4.out.lt
   have h2 := HI4.out.lt
   have h3 := HQL.out
   exact ⟨(HS4.out.kept hW ⟨.inl (.inr ⟨by omega, by omega⟩), by omega⟩).cell 0, (hW.cell (p := ⟨B.q, 0, none⟩) ⟨.inr (.inl rfl), (by omega : B.q ≠ _)⟩).trans q0, (hW.cell (p := ⟨B.q, 1, none⟩) ⟨.inr (.inl rfl), (by omega : B.q ≠ _)⟩).trans q1, (HI4.out.kept hW ⟨.inl (.inr ⟨by omega, by omega⟩), by omega⟩).cell 0⟩)
  have hMd := HM4.out.below ((Below.refl w5.heap.size w5).drew)
  have HKd := hI (show RowI .u8 w5.drew (fun b => (X b ∨ (w.heap.size ≤ b ∧ b < w5.heap.size)) ∨ B.own b) A m us from ((HK.out.below (HB35.out) HM0.out.lt).below ((Below.refl w5.heap.size w5).drew) (fun b hb => HM4.out.lt b (.inl hb))).more (fun b hb => .inl (.inl hb)))
  have HMD := hI hMd
  have HED := hI (show Blk w5.drew (w.heap.size + 1 + 1) 29 #[.int .i64 0] from HE4.out.below ((Below.refl w5.heap.size w5).drew) HE4.out.lt)
  have HYL := hI (show ∀ b, ((X b ∨ (w.heap.size ≤ b ∧ b < w5.heap.size)) ∨ B.own b) → b < w5.heap.size from HM4.out.ylt)
  have HYE := hI (show (X (w.heap.size + 1 + 1) ∨ (w.heap.size ≤ w.heap.size + 1 + 1 ∧ w.heap.size + 1 + 1 < w5.heap.size)) ∨ B.own (w.heap.size + 1 + 1) from .inl (.inr ⟨by omega, HE4.out.lt⟩))
  clear hMd
  refine wp_region_noPanic ?_
  refine Tillst.region (fun W => Kept (fun b => ((X b ∨ (w.heap.size ≤ b ∧ b < w5.heap.size)) ∨ B.own b) ∧ b ≠ w.heap.size + 1 + 1) w5 W) [] (by kernel_rfl) ((Kept.refl _ _).drew) (fun hė => ?_)
  obtain ⟨vd, hvd⟩ : ∃ vd, vd = w5.drew := ⟨_, rfl⟩
  have HZD := hI (show vd.heap.size = w5.heap.size by rw [hvd]; rfl)
  rw [← hvd] at HKd HMD HED hė ⊢
  have HVD := hI (show Kept (fun b => (X b ∨ (w.heap.size ≤ b ∧ b < w5.heap.size)) ∨ B.own b) w5 vd by rw [hvd]; exact (Kept.refl _ _).drew)
  clear hvd
  refine Tillst.tk 0 ku0 (v := ?_) rfl (by kernel_rfl) (by rfl) ?_ hė ?_
  rotate_left
  ·intro W hSW; have h9 := (HSS.out W hSW).1; clear hSW; unfold ku0; go_simp; with_reducible rfl
  simp only [ku0, Act.put, sA, sZ, sS]
  refine Tillst.tk 1 ku1 (v := ?_) rfl (by kernel_rfl) (by rfl) ?_ hė ?_
  rotate_left
  ·intro W hSW; (try dsimp only at hSW); unfold ku1; go_simp; with_reducible rfl
  simp only [ku1, Act.put, sA, sZ, sS]
  refine Tillst.tk 2 ku2 (v := ?_) rfl (by kernel_rfl) (by rfl) ?_ hė ?_
  rotate_left
  ·intro W hSW; (try dsimp only at hSW); unfold ku2; go_simp; with_reducible rfl
  simp only [ku2, Act.put, sA, sZ, sS]
  refine Tillst.tk 3 ku3 (v := shV B) rfl (by kernel_rfl) (by rfl) ?_ hė ?_
  ·intro W hSW; obtain ⟨_, h8, h9, _⟩ := HSS.out W hSW; clear hSW; unfold ku3; go_simp
  simp only [ku3, Act.put, sA, sZ, sS]
  refine Tillst.tk 4 ku4 (v := ?_) rfl (by kernel_rfl) (by rfl) ?_ hė ?_
  rotate_left
  ·intro W hSW; have h9 := (HSS.out W hSW).2.2.2; clear hSW; unfold ku4; go_simp; with_reducible rfl
  simp only [ku4, Act.put, sA, sZ, sS]
  refine Tillst.two (i := 5) (j := 9) (o := ku5) (o' := ku9) (by kernel_rfl) rfl rfl ?_ ?_
  ·intro K hK
   refine step_call 57 #[.tmp 30, .tmp 31] #[112, 40] rfl rfl Tryz.func57 rfl rfl [shV B, .slice A m c] rfl ((look_any (c := c) HMD.out.log HMD.out.ylt HMD.out.ix (.inr (.inr (.inl rfl))) HMD.out.inv HKd.out HBY.out (by have := HM.out; omega)).mono ?_)
   intro e w6 hlk
   obtain ⟨ev, k6, rfl, hev, hl6, hk6, hkp6⟩ := hlk.ent
   refine ⟨_, rfl, ?_⟩
   simp only [ku5, Act.put, sA, sZ, sS]
   have hS6 : Kept (fun b => ((X b ∨ (w.heap.size ≤ b ∧ b < w5.heap.size)) ∨ B.own b) ∧ b ≠ w.heap.size + 1 + 1) w5 w6 := hė.trans hkp6 (fun b h => h.1)
   have HEV := hI hev
   have HL6 := hI hl6
   have HK6 := hI hk6
   have HKP6 := hI (HVD.out.trans hkp6 (fun b h => h))
   have HE6 := hI (HED.out.kept hkp6 HYE.out)
   clear hlk hev hl6 hk6 hkp6 hė
   refine hK.out _ _ (fun _ => hS6) (fun hė => ?_)
   replace hė := hė (by decide)
   clear hK K hS6
   refine Tillst.tk 6 ku6 (v := ?_) rfl (by kernel_rfl) (by rfl) ?_ hė ?_
   rotate_left
   ·intro W hSW; (try dsimp only at hSW); unfold ku6; go_simp; with_reducible rfl
   simp only [ku6, Act.put, sA, sZ, sS]
   refine Tillst.tk 7 ku7 (v := ?_) rfl (by kernel_rfl) (by rfl) ?_ hė ?_
   rotate_left
   ·intro W hSW; (try dsimp only at hSW); unfold ku7; go_simp; with_reducible rfl
   simp only [ku7, Act.put, sA, sZ, sS]
   refine Tillst.tk 8 ku8 (v := ?_) rfl (by kernel_rfl) (by rfl) ?_ hė ?_
   rotate_left
   ·intro W hSW; (try dsimp only at hSW); unfold ku8; go_simp; with_reducible rfl
   simp only [ku8, Act.put, sA, sZ, sS]
   refine Tillst.one (i := 9) (o := ku9) (by kernel_rfl) rfl ?_
   intro K hK
   refine step_alloc14 125 rfl rfl ent0C zero_entry ?_
   simp only [ku9, Act.put, sA, sZ, sS]
   have hal := (Below.refl w6.heap.size w6).alloc (nR _) (.cells ent0C 125)
   have hS7 : Kept (fun b => ((X b ∨ (w.heap.size ≤ b ∧ b < w5.heap.size)) ∨ B.own b) ∧ b ≠ w.heap.size + 1 + 1) w5 (w6.alloc (.cells ent0C 125)) := hė.trans (Kept.of_below (S := fun b => ((X b ∨ (w.heap.size ≤ b ∧ b < w5.heap.size)) ∨ B.own b) ∧ b ≠ w.heap.size + 1 + 1) hal (fun b h => nL (HYL.out b h.1) hė.size)) (fun b h => h)
   have HL7 := hI (HL6.out.grow hal)
   have HKP7 := hI (HKP6.out.trans (Kept.of_below (S := fun b => (X b ∨ (w.heap.size ≤ b ∧ b < w5.heap.size)) ∨ B.own b) hal (fun b h => nL (HYL.out b h) HKP6.out.size)) (fun b h => h))
   have HE7 := hI (HE6.out.below hal HE6.out.lt)
   have HN7 := hI (Blk.new w6 125 ent0C)
   have HZ6 := hI HKP6.out.size
   have HZ7 := hI (show w6.heap.size < (w6.alloc (.cells ent0C 125)).heap.size by simp)
   clear hal
   generalize w6.heap.size = g6 at *
   generalize w6.alloc _ = w7 at *
   refine hK.out _ _ (fun _ => hS7) (fun hė => ?_)
   replace hė := hė (by decide)
   clear hK K hS7
   refine Tillst.one (i := 10) (o := ku10) (by kernel_rfl) rfl ?_
   intro K hK
   refine step_store14 (.tmp 8) (.tmp 33) 125 rfl rfl g6 ev rfl rfl 125 _ HN7.out (by rw [size_entry, HEV.out.size.1]) (by rw [HEV.out.size.1]; rfl) HEV.out.size.2 ?_
   simp only [ku10, Act.put, sA, sZ, sS]
   have hk8 : Kept (fun b => b ≠ g6) w7 (w7.setRow g6 ev) := (Kept.refl _ _).setRow (fun h => h rfl) ev
   have hS8 : Kept (fun b => ((X b ∨ (w.heap.size ≤ b ∧ b < w5.heap.size)) ∨ B.own b) ∧ b ≠ w.heap.size + 1 + 1) w5 (w7.setRow g6 ev) := hė.trans hk8 (fun b h => by have := HYL.out b h.1; have := HZ6.out; omega)
   have HE8 := hI (HE7.out.kept hk8 (by have := HYL.out _ HYE.out; have := HZ6.out; omega))
   refine hK.out _ _ (fun _ => hS8) (fun hė => ?_)
   replace hė := hė (by decide)
   clear hK K hk8 hS8
   refine Tillst.one (i := 11) (o := ku11) (by kernel_rfl) rfl ?_
   intro K hK
   have e8 : (w7.setRow g6 ev).cell? ⟨w.heap.size + 1 + 1, 0, none⟩ = some (.int .i64 0) := HE8.out.cell 0
   have e9 := HE8.out.frozen 0
   go_simp
   clear e8 e9
   have hS9 : Kept (fun b => ((X b ∨ (w.heap.size ≤ b ∧ b < w5.heap.size)) ∨ B.own b) ∧ b ≠ w.heap.size + 1 + 1) w5 ((w7.setRow g6 ev).setCell ⟨w.heap.size + 1 + 1, 0, none⟩ (.int .i64 0)) := hė.setCell (p := ⟨w.heap.size + 1 + 1, 0, none⟩) (fun h => h.2 rfl) _
   refine hK.out _ _ (fun _ => hS9) (fun hė => ?_)
   clear hK K hS9
   refine Tillst.done (by kernel_rfl) ?_ _
   refine hKK _ _ (Met.intro (hJ _ _ ?_))
   (repeat apply Exists.intro)
   exact ⟨ElkC.fin HYL.out HYE.out HZ6.out (fun b h => .inl h) (.inr ⟨nR _, HZ7.out⟩) HL7.out HK6.out HKP7.out HN7.out HE7.out HEV.out, rfl⟩
  ·intro K hK
   refine step_alloc14 125 rfl rfl ent0C zero_entry ?_
   simp only [ku9, Act.put, sA, sZ, sS]
   have hal := (Below.refl vd.heap.size vd).alloc (nR _) (.cells ent0C 125)
   have hS6 : Kept (fun b => ((X b ∨ (w.heap.size ≤ b ∧ b < w5.heap.size)) ∨ B.own b) ∧ b ≠ w.heap.size + 1 + 1) w5 (vd.alloc (.cells ent0C 125)) := hė.trans (Kept.of_below (S := fun b => ((X b ∨ (w.heap.size ≤ b ∧ b < w5.heap.size)) ∨ B.own b) ∧ b ≠ w.heap.size + 1 + 1) hal (fun b h => nL (HYL.out b h.1) hė.size)) (fun b h => h)
   have HL6 := hI (HMD.out.log.grow hal)
   have HX6 := hI (HMD.out.ix.below hal HMD.out.ix.lt)
   have HKP6 := hI (HVD.out.trans (Kept.of_below (S := fun b => (X b ∨ (w.heap.size ≤ b ∧ b < w5.heap.size)) ∨ B.own b) hal (fun b h => nL (HYL.out b h) HVD.out.size)) (fun b h => h))
   have HE6 := hI (HED.out.below hal HED.out.lt)
   have HKR6 := hI (HKd.out.below hal (fun b h => nL (HYL.out b h) HVD.out.size))
   have HN6 := hI (Blk.new vd 125 ent0C)
   have HZ6 := hI HVD.out.size
   have HZ7 := hI (show vd.heap.size < (vd.alloc (.cells ent0C 125)).heap.size by simp)
   have HINV := hI HMD.out.inv
   clear hal HMD HKd HED
   generalize vd.heap.size = g6 at *
   generalize vd.alloc _ = w6 at *
   refine hK.out _ _ (fun _ => hS6) (fun hė => ?_)
   replace hė := hė (by decide)
   clear hK K hS6
   refine Tillst.one (i := 5) (o := ku5) (by kernel_rfl) rfl ?_
   intro K hK
   refine step_call 57 #[.tmp 30, .tmp 31] #[112, 40] rfl rfl Tryz.func57 rfl rfl [shV B, .slice A m c] rfl ((look_any (c := c) HL6.out (fun b h => by
    rcases h with h | h
    ·exact nL (HYL.out b h) HKP6.out.size
    ·exact h.2) HX6.out (.inl (.inr (.inr (.inl rfl)))) HINV.out (HKR6.out.more (fun b h => .inl h)) HBY.out (by have := HM.out; omega)).mono ?_)
   intro e w7 hlk
   obtain ⟨ev, k6, rfl, hev, hl7, hk7, hkp7⟩ := hlk.ent
   refine ⟨_, rfl, ?_⟩
   simp only [ku5, Act.put, sA, sZ, sS]
   have hS7 : Kept (fun b => ((X b ∨ (w.heap.size ≤ b ∧ b < w5.heap.size)) ∨ B.own b) ∧ b ≠ w.heap.size + 1 + 1) w5 w7 := hė.trans hkp7 (fun b h => .inl h.1)
   have HEV := hI hev
   have HL7 := hI hl7
   have HK6 := hI hk7
   have HKP7 := hI (HKP6.out.trans hkp7 (fun b h => .inl h))
   have HE7 := hI (HE6.out.kept hkp7 (.inl HYE.out))
   have HN7 := hI (HN6.out.kept hkp7 (.inr ⟨nR _, HZ7.out⟩))
   clear hlk hev hl7 hk7 hkp7 hė HN6 HE6 HL6
   refine hK.out _ _ (fun _ => hS7) (fun hė => ?_)
   replace hė := hė (by decide)
   clear hK K hS7
   refine Tillst.tk 6 ku6 (v := ?_) rfl (by kernel_rfl) (by rfl) ?_ hė ?_
   rotate_left
   ·intro W hSW; (try dsimp only at hSW); unfold ku6; go_simp; with_reducible rfl
   simp only [ku6, Act.put, sA, sZ, sS]
   refine Tillst.tk 7 ku7 (v := ?_) rfl (by kernel_rfl) (by rfl) ?_ hė ?_
   rotate_left
   ·intro W hSW; (try dsimp only at hSW); unfold ku7; go_simp; with_reducible rfl
   simp only [ku7, Act.put, sA, sZ, sS]
   refine Tillst.tk 8 ku8 (v := ?_) rfl (by kernel_rfl) (by rfl) ?_ hė ?_
   rotate_left
   ·intro W hSW; (try dsimp only at hSW); unfold ku8; go_simp; with_reducible rfl
   simp only [ku8, Act.put, sA, sZ, sS]
   refine Tillst.one (i := 10) (o := ku10) (by kernel_rfl) rfl ?_
   intro K hK
   refine step_store14 (.tmp 8) (.tmp 33) 125 rfl rfl g6 ev rfl rfl 125 _ HN7.out (by rw [size_entry, HEV.out.size.1]) (by rw [HEV.out.size.1]; rfl) HEV.out.size.2 ?_
   simp only [ku10, Act.put, sA, sZ, sS]
   have hk8 : Kept (fun b => b ≠ g6) w7 (w7.setRow g6 ev) := (Kept.refl _ _).setRow (fun h => h rfl) ev
   have hS8 : Kept (fun b => ((X b ∨ (w.heap.size ≤ b ∧ b < w5.heap.size)) ∨ B.own b) ∧ b ≠ w.heap.size + 1 + 1) w5 (w7.setRow g6 ev) := hė.trans hk8 (fun b h => by have := HYL.out b h.1; have := HZ6.out; omega)
   have HE8 := hI (HE7.out.kept hk8 (by have := HYL.out _ HYE.out; have := HZ6.out; omega))
   refine hK.out _ _ (fun _ => hS8) (fun hė => ?_)
   replace hė := hė (by decide)
   clear hK K hk8 hS8
   refine Tillst.one (i := 11) (o := ku11) (by kernel_rfl) rfl ?_
   intro K hK
   have e8 : (w7.setRow g6 ev).cell? ⟨w.heap.size + 1 + 1, 0, none⟩ = some (.int .i64 0) := HE8.out.cell 0
   have e9 := HE8.out.frozen 0
   go_simp
   clear e8 e9
   have hS9 : Kept (fun b => ((X b ∨ (w.heap.size ≤ b ∧ b < w5.heap.size)) ∨ B.own b) ∧ b ≠ w.heap.size + 1 + 1) w5 ((w7.setRow g6 ev).setCell ⟨w.heap.size + 1 + 1, 0, none⟩ (.int .i64 0)) := hė.setCell (p := ⟨w.heap.size + 1 + 1, 0, none⟩) (fun h => h.2 rfl) _
   refine hK.out _ _ (fun _ => hS9) (fun hė => ?_)
   clear hK K hS9
   refine Tillst.done (by kernel_rfl) ?_ _
   refine hKK _ _ (Met.intro (hJ _ _ ?_))
   (repeat apply Exists.intro)
   exact ⟨ElkC.fin HYL.out HYE.out HZ6.out (fun b h => .inl h) (.inr ⟨nR _, HZ7.out⟩) HL7.out HK6.out HKP7.out HN7.out HE7.out HEV.out, rfl⟩
 case rest =>
  obtain ⟨g6, k6, ev, rfl, hg6, hl6, hk6, hkp6, hen6, hbe6, hev⟩ := hcut
  have HOL := hI (show ∀ b, B.own b → b < w.heap.size from fun b hb => HM0.out.own_lt hb)
  have hw45 := HB1.out.size
  have hw55 := HB4.out.size
  have hM6 : StoM2 wc (fun b => (X b ∨ (w.heap.size ≤ b ∧ b < w5.heap.size)) ∨ b = g6) { B with t := B.t, k := k6, pe := B.pe } slots s xs st bl false :=
   HM4.out.logTo2 hkp6 (fun b hb => ⟨.inr hb, by have := HOL.out b hb; omega⟩) (fun b hb => .inl hb) (fun b hb hx => by
    have h1 := HOL.out b hb
    rcases hx with hx | hx
    ·exact HM4.out.off b hb hx
    ·omega) (fun b hb => by
    rcases hb with hb | hb
    ·exact nL (HM4.out.lt b hb) hkp6.size
    ·rw [hb]; exact hen6.lt) (hl6.less (fun b hb => by
    rcases hb with (h | h) | h
    ·exact .inl (.inl h)
    ·exact .inr h
    ·exact .inl (.inr h))) rfl (HM4.out.inv.held hk6)
  have h1 := HS4.out.lt
  have h2 := HI4.out.lt
  have h3 := HE4.out.lt
  have h4 := HR4.out.lt
  have h5 := HZ1.out
  have h6 := HZ2.out
  have HS6 := hI (HS4.out.kept hkp6 ⟨.inl (.inr ⟨by omega, by omega⟩), by omega⟩)
  have HI6 := hI (HI4.out.kept hkp6 ⟨.inl (.inr ⟨by omega, by omega⟩), by omega⟩)
  have HR6 := hI (HR4.out.kept hkp6 ⟨.inl (.inr ⟨by omega, by omega⟩), by omega⟩)
  have HKX6 := hI (show Kept X w wc from (Kept.of_below (HB35.out) HM0.out.lt).trans hkp6 (fun b hb => ⟨.inl (.inl hb), by have := HM0.out.lt b hb; omega⟩))
  have HM6 := hI hM6
  have HEN6 := hI hen6
  have HBE6 := hI hbe6
  have HEV := hI hev
  have HH6 := hI hk6
  have HG6 := hI hg6
  have HSZ6 := hI hkp6.size
  have HBL := hI (show w.heap.size + 3 ≤ w2.heap.size ∧ w2.heap.size < w5.heap.size by omega)
  have HT6 := hI (Blk.kept HT4.out hkp6 ⟨.inl (.inr ⟨by have := HGT.out; omega, by have := HZ4.out; omega⟩), by have := HGT.out; omega⟩)
  clear hM6 hen6 hbe6 hev hk6 hg6 hkp6 hl6 h1 h2 h3 h4 h5 h6 hw45 hw55 HS4 HI4 HE4 HR4 HS1 HI1 HE1
  have e0 : wc.cell? ⟨w.heap.size + 1 + 1, 0, none⟩ = some (.int .i64 0) := HBE6.out.cell 0
  have hmf : ∀ (fn : Fn) (first cap : Array Value) (w : World), (Instr.makeFunc fn first cap).run Tryz.prog w = .ok (.func fn first cap) w := fun _ _ _ _ => rfl
  go_upto_region 12 with fail
  clear e0
  obtain ⟨X6, hX6⟩ : ∃ X6 : Nat → Prop, (fun b => (X b ∨ (w.heap.size ≤ b ∧ b < w5.heap.size)) ∨ b = g6) = X6 := ⟨_, rfl⟩
  rw [hX6] at HM6
  have hx0 : ∀ b, X b → X6 b := fun b hb => by rw [← hX6]; exact .inl (.inl hb)
  have hbl := HBL.out
  have hgt := HGT.out
  have hz4 := HZ4.out
  have hz1 := HZ1.out
  have HIN := hI (show X6 w.heap.size ∧ X6 (w.heap.size + 1) ∧ X6 (w.heap.size + 1 + 1) ∧ X6 w2.heap.size ∧ X6 g6 ∧ X6 gt by
   rw [← hX6]
   exact ⟨.inl (.inr ⟨by omega, by omega⟩), .inl (.inr ⟨by omega, by omega⟩), .inl (.inr ⟨by omega, by omega⟩), .inl (.inr ⟨by omega, by omega⟩), .inr rfl, .inl (.inr ⟨by omega, by omega⟩)⟩)
  have HX0 := hI hx0
  clear hX6 hx0 hbl hgt hz4 hz1
  have HYL := hI (HM6.out.ylt)
  have hrb := HMAY.out
  have HRT := hI (show RowI .u8 wc (fun b => b = gt) (some ⟨gt, 0, none⟩) us.length us from Arr.rowN (S := fun b => b = gt) HT6.out 0 rfl rfl)
  clear hrb
  have HNIL := hI (show ∀ W : World, RowI .u8 W (· < W.heap.size) none 0 [] from fun W => ⟨rfl, fun h => absurd h (by omega)⟩)
  go_cut [9, 10] from 39 to 48 (fun v9 v10 wx => AppC wc (fun b => X6 b ∨ B.own b) B.l B.p B.d B.n s B.t k6 xs B.pe (recB 2 0 0 q0 us []) v10 wx)
  case first J KK hJ hKK =>
   have HSS := hI (show ∀ W, Kept (fun b => X6 b ∨ B.own b) wc W → W.cell? ⟨w.heap.size, 0, none⟩ = some (.pointer (some ⟨B.q, 0, none⟩)) ∧ W.cell? ⟨B.q, 0, none⟩ = some (.pointer (some ⟨B.l, 0, none⟩)) ∧ Blk W w2.heap.size 69 #[.int .i64 2, .int .u32 0, .int .u32 0, .int .u64 q0, .slice (some ⟨gt, 0, none⟩) us.length us.length, .slice none 0 0] from fun W hW => by
    obtain ⟨q0, q1, _, _⟩ := HM6.out.cells
    obtain ⟨i1, i2, i3, i4, i5, i6⟩ := HIN.out
    exact ⟨(HS6.out.kept hW (.inl i1)).cell 0, (hW.cell (p := ⟨B.q, 0, none⟩) (.inr (.inl rfl))).trans q0, HR6.out.kept hW (.inl i4)⟩)
   refine wp_region_noPanic ?_
   refine Tillst.region (fun W => Kept (fun b => X6 b ∨ B.own b) wc W) [] (by kernel_rfl) ((Kept.refl _ _).drew) (fun hė => ?_)
   have hdr := (Below.refl wc.heap.size wc).drew
   have HMD := hI (HM6.out.below hdr)
   have HRD := hI (HRT.out.below hdr (fun b h => by rw [h]; exact Blk.lt HT6.out))
   obtain ⟨vd, hvd⟩ : ∃ vd, vd = wc.drew := ⟨_, rfl⟩
   have HZD := hI (show vd.heap.size = wc.heap.size by rw [hvd]; rfl)
   rw [← hvd] at HMD HRD hė ⊢
   clear hdr hvd
   have HGV := hI (show gt < vd.heap.size by rw [HZD.out]; exact Blk.lt HT6.out)
   have HMAYL := hI (show May 2 0 0 q0 us.length 0 by rw [HLEN.out]; exact HMAY.out)
   refine Tillst.tk 0 kw0 (v := ?_) rfl (by kernel_rfl) (by rfl) ?_ hė ?_
   rotate_left
   ·intro W hSW; have h9 := (HSS.out W hSW).1; clear hSW; unfold kw0; go_simp; with_reducible rfl
   simp only [kw0, Act.put, sA, sZ, sS]
   refine Tillst.tk 1 kw1 (v := ?_) rfl (by kernel_rfl) (by rfl) ?_ hė ?_
   rotate_left
   ·intro W hSW; (try dsimp only at hSW); unfold kw1; go_simp; with_reducible rfl
   simp only [kw1, Act.put, sA, sZ, sS]
   refine Tillst.tk 2 kw2 (v := ?_) rfl (by kernel_rfl) (by rfl) ?_ hė ?_
   rotate_left
   ·intro W hSW; (try dsimp only at hSW); unfold kw2; go_simp; with_reducible rfl
   simp only [kw2, Act.put, sA, sZ, sS]
   refine Tillst.tk 3 kw3 (v := ?_) rfl (by kernel_rfl) (by rfl) ?_ hė ?_
   rotate_left
   ·intro W hSW; (try dsimp only at hSW); unfold kw3; go_simp; with_reducible rfl
   simp only [kw3, Act.put, sA, sZ, sS]
   refine Tillst.tk 4 kw4 (v := ?_) rfl (by kernel_rfl) (by rfl) ?_ hė ?_
   rotate_left
   ·intro W hSW; have h9 := (HSS.out W hSW).2.1; clear hSW; unfold kw4; go_simp; with_reducible rfl
   simp only [kw4, Act.put, sA, sZ, sS]
   refine Tillst.tk 5 kw5 (v := .agg #[.int .i64 2, .int .u32 0, .int .u32 0, .int .u64 q0, .slice (some ⟨gt, 0, none⟩) us.length us.length, .slice none 0 0]) rfl (by kernel_rfl) (by rfl) ?_ hė ?_
   ·intro W hSW; exact row_runs (.tmp 7) 69 rfl w2.heap.size rfl 69 [.int .i64 2, .int .u32 0, .int .u32 0, .int .u64 q0, .slice (some ⟨gt, 0, none⟩) us.length us.length, .slice none 0 0] _ Tryz.underlying69 rfl size_rec (HSS.out W hSW).2.2
   simp only [kw5, Act.put, sA, sZ, sS]
   refine Tillst.two (i := 6) (j := 10) (o := kw6) (o' := kw10) (by kernel_rfl) rfl rfl ?_ ?_
   ·intro K hK
    refine step_call 62 #[.tmp 44, .tmp 45] #[25, 69] rfl rfl Tryz.func62 rfl rfl [.pointer (some ⟨B.l, 0, none⟩), .agg #[.int .i64 2, .int .u32 0, .int .u32 0, .int .u64 q0, .slice (some ⟨gt, 0, none⟩) us.length us.length, .slice none 0 0]] rfl ((append_at HMD.out.log HMD.out.ylt HPE.out.1 HPE.out.2 HMAYL.out HRNG.out (HRD.out.more (fun b h => by rw [h]; exact HGV.out)) (HNIL.out vd) (fun h => by cases h) (fun _ => rfl) HBY.out bytes_none).mono ?_)
    intro e w9 hap
    obtain ⟨a, er, s1, xs1, t1, k1, pe1, rfl, hk9, hl9, hcase⟩ := hap.told
    refine ⟨_, rfl, ?_⟩
    simp only [kw6, Act.put, sA, sZ, sS]
    have hS9 := hė.trans hk9 (fun b h => h)
    have HL9 := hI hl9
    have HC := hI hcase
    have HK9 := hI hS9
    clear hap hk9 hl9 hcase hė
    refine hK.out _ _ (fun _ => hS9) (fun hė => ?_)
    replace hė := hė (by decide)
    clear hK K hS9
    refine Tillst.tk 7 kw7 (v := ?_) rfl (by kernel_rfl) (by rfl) ?_ hė ?_
    rotate_left
    ·intro W hSW; (try dsimp only at hSW); unfold kw7; go_simp; with_reducible rfl
    simp only [kw7, Act.put, sA, sZ, sS]
    refine Tillst.tk 8 kw8 (v := ?_) rfl (by kernel_rfl) (by rfl) ?_ hė ?_
    rotate_left
    ·intro W hSW; (try dsimp only at hSW); unfold kw8; go_simp; with_reducible rfl
    simp only [kw8, Act.put, sA, sZ, sS]
    refine Tillst.tk 9 kw9 (v := ?_) rfl (by kernel_rfl) (by rfl) ?_ hė ?_
    rotate_left
    ·intro W hSW; (try dsimp only at hSW); unfold kw9; go_simp; with_reducible rfl
    simp only [kw9, Act.put, sA, sZ, sS]
    refine Tillst.one (i := 10) (o := kw10) (by kernel_rfl) rfl ?_
    intro K hK
    refine step_alloc14 67 rfl rfl #[.int .i64 0, .int .u64 0, .int .i64 0] zero_addr ?_
    simp only [kw10, Act.put, sA, sZ, sS]
    have hal := (Below.refl w9.heap.size w9).alloc (nR _) (.cells #[.int .i64 0, .int .u64 0, .int .i64 0] 67)
    have hS10 : Kept (fun b => X6 b ∨ B.own b) wc (w9.alloc (.cells #[.int .i64 0, .int .u64 0, .int .i64 0] 67)) := hė.trans (Kept.of_below (S := fun b => X6 b ∨ B.own b) hal (fun b h => nL (HYL.out b h) hė.size)) (fun b h => h)
    have HL10 := hI (HL9.out.grow hal)
    have HN10 := hI (Blk.new w9 67 #[.int .i64 0, .int .u64 0, .int .i64 0])
    have HZ9 := hI hė.size
    have HZ10 := hI (show w9.heap.size < (w9.alloc (.cells #[.int .i64 0, .int .u64 0, .int .i64 0] 67)).heap.size by simp)
    clear hal
    generalize w9.heap.size = g9 at *
    generalize w9.alloc _ = w10 at *
    refine hK.out _ _ (fun _ => hS10) (fun hė => ?_)
    replace hė := hė (by decide)
    clear hK K hS10
    refine Tillst.one (i := 11) (o := kw11) (by kernel_rfl) rfl ?_
    intro K hK
    refine step_store14 (.tmp 9) (.tmp 47) 67 rfl rfl g9 #[.int .i64 a.1, .int .u64 a.2.1, .int .i64 a.2.2] rfl rfl 67 _ HN10.out size_addr rfl (by simp [Value.oneCell']) ?_
    simp only [kw11, Act.put, sA, sZ, sS]
    have hk11 : Kept (fun b => b ≠ g9) w10 (w10.setRow g9 #[.int .i64 a.1, .int .u64 a.2.1, .int .i64 a.2.2]) := (Kept.refl _ _).setRow (fun h => h rfl) _
    have hS11 : Kept (fun b => X6 b ∨ B.own b) wc (w10.setRow g9 #[.int .i64 a.1, .int .u64 a.2.1, .int .i64 a.2.2]) := hė.trans hk11 (fun b h => by have := HYL.out b h; have := HZ9.out; omega)
    have HL11 := hI ((HL10.out.off hk11 (fun b _ hn => fun e => hn (.inr (by rw [e]; exact ⟨nR _, HZ10.out⟩)))).less (X := fun b => X6 b ∨ B.own b) (fun b h => .inl h))
    refine hK.out _ _ (fun _ => hS11) (fun hė => ?_)
    replace hė := hė (by decide)
    clear hK K hk11
    refine Tillst.one (i := 12) (o := kw12) (by kernel_rfl) rfl ?_
    intro K hK
    go_simp
    refine hK.out _ _ (fun _ => hė) (fun _ => ?_)
    clear hK K
    refine Tillst.done (by kernel_rfl) ?_ _
    refine hKK _ _ (Met.intro (hJ _ _ ?_))
    (repeat apply Exists.intro)
    exact ⟨⟨a, er, s1, xs1, t1, k1, pe1, rfl, HL11.out, hė, HC.out⟩, rfl⟩
   ·intro K hK
    refine step_alloc14 67 rfl rfl #[.int .i64 0, .int .u64 0, .int .i64 0] zero_addr ?_
    simp only [kw10, Act.put, sA, sZ, sS]
    have hal := (Below.refl vd.heap.size vd).alloc (nR _) (.cells #[.int .i64 0, .int .u64 0, .int .i64 0] 67)
    have hS10 : Kept (fun b => X6 b ∨ B.own b) wc (vd.alloc (.cells #[.int .i64 0, .int .u64 0, .int .i64 0] 67)) := hė.trans (Kept.of_below (S := fun b => X6 b ∨ B.own b) hal (fun b h => nL (HYL.out b h) hė.size)) (fun b h => h)
    have HL10 := hI (HMD.out.log.grow hal)
    have HN10 := hI (Blk.new vd 67 #[.int .i64 0, .int .u64 0, .int .i64 0])
    have HZ9 := hI hė.size
    have HZ10 := hI (show vd.heap.size < (vd.alloc (.cells #[.int .i64 0, .int .u64 0, .int .i64 0] 67)).heap.size by simp)
    have HRA := hI (HRD.out.below hal (fun b h => by rw [h]; exact HGV.out))
    clear hal HMD HRD
    generalize vd.heap.size = g9 at *
    generalize vd.alloc _ = w10 at *
    refine hK.out _ _ (fun _ => hS10) (fun hė => ?_)
    replace hė := hė (by decide)
    clear hK K hS10
    refine Tillst.one (i := 6) (o := kw6) (by kernel_rfl) rfl ?_
    intro K hK
    refine step_call 62 #[.tmp 44, .tmp 45] #[25, 69] rfl rfl Tryz.func62 rfl rfl [.pointer (some ⟨B.l, 0, none⟩), .agg #[.int .i64 2, .int .u32 0, .int .u32 0, .int .u64 q0, .slice (some ⟨gt, 0, none⟩) us.length us.length, .slice none 0 0]] rfl ((append_at HL10.out (fun b h => by
     rcases h with h | h
     ·exact nL (HYL.out b h) hė.size
     ·exact h.2) HPE.out.1 HPE.out.2 HMAYL.out HRNG.out (HRA.out.more (fun b h => by rw [h]; exact Nat.lt_trans HGV.out HZ10.out)) (HNIL.out w10) (fun h => by cases h) (fun _ => rfl) HBY.out bytes_none).mono ?_)
    intro e w11 hap
    obtain ⟨a, er, s1, xs1, t1, k1, pe1, rfl, hk9, hl9, hcase⟩ := hap.told
    refine ⟨_, rfl, ?_⟩
    simp only [kw6, Act.put, sA, sZ, sS]
    have hS9 := hė.trans hk9 (fun b h => .inl h)
    have HL9 := hI hl9
    have HC := hI hcase
    have HN11 := hI (HN10.out.kept hk9 (.inr ⟨nR _, HZ10.out⟩))
    clear hap hk9 hl9 hcase hė HN10 HL10
    refine hK.out _ _ (fun _ => hS9) (fun hė => ?_)
    replace hė := hė (by decide)
    clear hK K hS9
    refine Tillst.tk 7 kw7 (v := ?_) rfl (by kernel_rfl) (by rfl) ?_ hė ?_
    rotate_left
    ·intro W hSW; (try dsimp only at hSW); unfold kw7; go_simp; with_reducible rfl
    simp only [kw7, Act.put, sA, sZ, sS]
    refine Tillst.tk 8 kw8 (v := ?_) rfl (by kernel_rfl) (by rfl) ?_ hė ?_
    rotate_left
    ·intro W hSW; (try dsimp only at hSW); unfold kw8; go_simp; with_reducible rfl
    simp only [kw8, Act.put, sA, sZ, sS]
    refine Tillst.tk 9 kw9 (v := ?_) rfl (by kernel_rfl) (by rfl) ?_ hė ?_
    rotate_left
    ·intro W hSW; (try dsimp only at hSW); unfold kw9; go_simp; with_reducible rfl
    simp only [kw9, Act.put, sA, sZ, sS]
    refine Tillst.one (i := 11) (o := kw11) (by kernel_rfl) rfl ?_
    intro K hK
    refine step_store14 (.tmp 9) (.tmp 47) 67 rfl rfl g9 #[.int .i64 a.1, .int .u64 a.2.1, .int .i64 a.2.2] rfl rfl 67 _ HN11.out size_addr rfl (by simp [Value.oneCell']) ?_
    simp only [kw11, Act.put, sA, sZ, sS]
    have hk11 : Kept (fun b => b ≠ g9) w11 (w11.setRow g9 #[.int .i64 a.1, .int .u64 a.2.1, .int .i64 a.2.2]) := (Kept.refl _ _).setRow (fun h => h rfl) _
    have hS11 : Kept (fun b => X6 b ∨ B.own b) wc (w11.setRow g9 #[.int .i64 a.1, .int .u64 a.2.1, .int .i64 a.2.2]) := hė.trans hk11 (fun b h => by have := HYL.out b h; have := HZ9.out; omega)
    have HL11 := hI ((HL9.out.off hk11 (fun b _ hn => fun e => hn (.inr (by rw [e]; exact ⟨nR _, HZ10.out⟩)))).less (X := fun b => X6 b ∨ B.own b) (fun b h => .inl h))
    refine hK.out _ _ (fun _ => hS11) (fun hė => ?_)
    replace hė := hė (by decide)
    clear hK K hk11
    refine Tillst.one (i := 12) (o := kw12) (by kernel_rfl) rfl ?_
    intro K hK
    go_simp
    refine hK.out _ _ (fun _ => hė) (fun _ => ?_)
    clear hK K
    refine Tillst.done (by kernel_rfl) ?_ _
    refine hKK _ _ (Met.intro (hJ _ _ ?_))
    (repeat apply Exists.intro)
    exact ⟨⟨a, er, s1, xs1, t1, k1, pe1, rfl, HL11.out, hė, HC.out⟩, rfl⟩
  case rest =>
   obtain ⟨a, er, s1, xs1, t1, k1, pe1, rfl, hl9, hk9, hcase⟩ := hcut
   rename World => wa
   obtain ⟨i1, i2, i3, i4, i5, i6⟩ := HIN.out
   have HS9 := hI (HS6.out.kept hk9 (.inl i1))
   have HI9 := hI (HI6.out.kept hk9 (.inl i2))
   have HE9 := hI (HBE6.out.kept hk9 (.inl i3))
   have HEN9 := hI (HEN6.out.kept hk9 (.inl i5))
   have HKX9 := hI (HKX6.out.trans hk9 (fun b hb => .inl (HX0.out b hb)))
   have hdim : xs1.length = xs.length := by
    have h1 := hl9.dims
    have h2 := HM6.out.log.dims
    rcases hcase with ⟨_, _, e, _⟩ | ⟨_, _, _, _, _, e | e, _⟩
    ·rw [e] at h1; omega
    ·rw [e] at h1; omega
    ·rw [e] at h1
     have h3 : (genS s).a = s.a := rfl
     omega
   have HXW := hI (show ∀ b, X6 b → b < wa.heap.size from fun b hb => nL (HM6.out.lt b hb) hk9.size)
   have HLE := hI (show ∀ b, X b → b ≠ w.heap.size + 1 + 1 from fun b hb => by have := HM0.out.lt b hb; omega)
   rcases hcase with ⟨hno, rfl, rfl, rfl, rfl, rfl, rfl⟩ | ⟨i, ys, hsome, rfl, ha, hs1, hxs, hpe1, hat, hall⟩
   ·have HM9 := hI (HM6.out.logTo2 hk9 (fun b hb => .inr hb) (fun b hb => hb) HM6.out.off HXW.out hl9 rfl HM6.out.inv)
    have HNO := hI hno
    clear hl9 hk9 hno hdim i1 i2 i4 i5 i6
    have e8 : wa.cell? ⟨w.heap.size + 1 + 1, 0, none⟩ = some (.int .i64 0) := HE9.out.cell 0
    have e9 := HE9.out.frozen 0
    go_wp2_with fail
    clear e8 e9
    refine leaves_cons (f := 65) (args := #[.pointer (some ⟨w.heap.size + 1 + 1, 0, none⟩), .pointer (some ⟨w.heap.size, 0, none⟩), .pointer (some ⟨w.heap.size + 1, 0, none⟩), .pointer (some ⟨g6, 0, none⟩)]) (by simp) (by simp [go_sem]) ?_
    have HE12 := HE9.out.set_ 0 (.int .i64 6)
    refine (killD_no _ _ _ HE12 (by decide)).mono ?_
    rintro e u' w13 ⟨rfl, rfl, rfl⟩
    have hkb : Kept (fun b => b ≠ w.heap.size + 1 + 1) wa (wa.setCell ⟨w.heap.size + 1 + 1, 0, none⟩ (.int .i64 6)) := (Kept.refl _ _).setCell (p := ⟨w.heap.size + 1 + 1, 0, none⟩) (fun h => h rfl) _
    refine ⟨.int .i64 6, ?_, HKX9.out.trans hkb HLE.out, .inl ⟨HNO.out, rfl, _, (HM9.out.offX hkb (fun b _ hn => fun e => hn (e ▸ i3))).less HX0.out, HH6.out⟩⟩
    have c6 : (wa.setCell ⟨w.heap.size + 1 + 1, 0, none⟩ (.int .i64 6)).cell? ⟨w.heap.size + 1 + 1, 0, none⟩ = some (.int .i64 6) := HE12.cell 0
    simp [results, Tryz.f16, go_sem, c6]
   ·have HM9 := hI (HM6.out.logTo2 hk9 (fun b hb => .inr hb) (fun b hb => hb) HM6.out.off HXW.out hl9 hdim (HM6.out.inv.go (fun a' bs' h => (hall a' bs' h).1)))
    have HSO := hI (And.intro hsome (And.intro hs1 (And.intro hxs hpe1)))
    clear hl9 hk9 hdim i1 i2 i4 i5 i6 hsome hs1 hxs hpe1 hat hall ha
    have s8 : wa.cell? ⟨w.heap.size, 0, none⟩ = some (.pointer (some ⟨B.q, 0, none⟩)) := HS9.out.cell 0
    have q8 : wa.cell? ⟨B.q, 0, none⟩ = some (.pointer (some ⟨B.l, 0, none⟩)) := HM9.out.cells.1
    have HSY := hI (sync_lg HM9.out.log HM9.out.ylt)
    go_wp2_with fail
    refine HSY.out.mono ?_
    rintro e wb ⟨rfl, hlb, hkb⟩
    have HMB := hI (HM9.out.logTo hkb hlb rfl (HM9.out.inv.held (HM9.out.log.good.held_sync)))
    have HSB := hI (HS9.out.kept hkb (.inl HIN.out.1))
    have HIB := hI (HI9.out.kept hkb (.inl HIN.out.2.1))
    have HEB := hI (HE9.out.kept hkb (.inl HIN.out.2.2.1))
    have HENB := hI (HEN9.out.kept hkb (.inl HIN.out.2.2.2.2.1))
    have HKXB := hI (HKX9.out.trans hkb (fun b hb => .inl (HX0.out b hb)))
    clear hlb hkb s8 q8 HSY
    have e8 : wb.cell? ⟨w.heap.size + 1 + 1, 0, none⟩ = some (.int .i64 0) := HEB.out.cell 0
    have e9 := HEB.out.frozen 0
    go_wp2_with fail
    clear e8 e9
    obtain ⟨wd, hwd⟩ : ∃ wd, wd = wb.setCell ⟨w.heap.size + 1 + 1, 0, none⟩ (.int .i64 0) := ⟨_, rfl⟩
    have hkb : Kept (fun b => b ≠ w.heap.size + 1 + 1) wb wd := by rw [hwd]; exact (Kept.refl _ _).setCell (p := ⟨w.heap.size + 1 + 1, 0, none⟩) (fun h => h rfl) _
    have HED := hI (show Blk wd (w.heap.size + 1 + 1) 29 #[.int .i64 0] by rw [hwd]; exact HEB.out.set_ 0 (.int .i64 0))
    rw [← hwd]
    clear hwd
    have HMW := hI (HMB.out.offX hkb (fun b _ hn => fun e => hn (e ▸ HIN.out.2.2.1)))
    have hsz := HZ1.out
    have hg6 := HG6.out
    have hbl := HBL.out
    have HSD := hI (HSB.out.kept hkb (by omega))
    have HID := hI (HIB.out.kept hkb (by omega))
    have HEND := hI (HENB.out.kept hkb (by omega))
    have HKXD := hI (HKXB.out.trans hkb HLE.out)
    refine leaves_cons (f := 65) (args := #[.pointer (some ⟨w.heap.size + 1 + 1, 0, none⟩), .pointer (some ⟨w.heap.size, 0, none⟩), .pointer (some ⟨w.heap.size + 1, 0, none⟩), .pointer (some ⟨g6, 0, none⟩)]) (by simp) (by simp [go_sem]) ?_
    have hrow : RowI .u8 wd X6 A m us := (HK.out.kept HKXD.out (fun b hb => hb)).more HX0.out
    refine (killD_ok (c := c) HMW.out HEV.out HED.out HSD.out HID.out HEND.out hrow HBY.out (by have := HM.out; omega)).mono ?_
    rintro e u' we ⟨rfl, rfl, hm, hk⟩
    obtain ⟨hsome, hs1, hxs, hpe1⟩ := HSO.out
    subst hxs hpe1
    have hown : ∀ b, X6 b → b < wd.heap.size ∧ ¬ B.own b := fun b hb => ⟨HMW.out.lt b hb, fun e => HMW.out.off b e hb⟩
    refine ⟨.int .i64 0, ?_, HKXD.out.trans hk (fun b hb => hown b (HX0.out b hb)), .inr ⟨i, s1, ys, t1, _, hsome, hs1, rfl, hm.less HX0.out⟩⟩
    have c6 : we.cell? ⟨w.heap.size + 1 + 1, 0, none⟩ = some (.int .i64 0) := (HED.out.kept hk (hown _ i3)).cell 0
    simp [results, Tryz.f16, go_sem, c6]
end
end
section
open Go.RowKit
def flS (s : Sup) (q : Int) : Sup := ⟨s.a, s.b, s.g, s.r, s.v, q⟩
def flK (k : Dk) (s : Sup) (t q : Int) : Dk := (k.wr (Dk.put (secOf t) (supL s.a s.b s.g s.r s.v q (nxt t)))).wr Dk.sync
section
variable {w w' : World} {X Y : Nat → Prop} {l p d n pe : Nat} {s : Sup} {t q : Int} {k : Dk} {xs : List Seg} {a : Int × Int × Int} {bs : List Int}
theorem fl_V (hg : Good k) (seg j : Nat) : strV (flK k s t q) (flS s q) seg j = strV k s seg j := by
 unfold strV
 show (if (j : Int) < s.b then (flK k s t q).held.getD (2 + (seg : Int) * s.b + j).toNat [] else noughts 64) = _
 by_cases h : (j : Int) < s.b
 ·rw [if_pos h, if_pos h]
  have h0 : 0 ≤ (seg : Int) * s.b := Int.mul_nonneg (by omega) (by omega)
  have h1 := sec_lt t
  unfold flK
  rw [(hg.put _ _).held_sync, hg.held_put]
  simp only [List.getD]
  rw [List.getElem?_set_ne (by omega)]
 ·rw [if_neg h, if_neg h]
theorem fl_at (hg : Good k) (h : AtR k s xs a bs) : AtR (flK k s t q) (flS s q) xs a bs := by
 obtain ⟨h1, i, c, e, h2, h3, h4, h5⟩ := h
 exact ⟨h1, i, c, e, h2, h3, h4, fun j hj => by rw [fl_V hg]; exact h5 j hj⟩
theorem lg_setF (h : LgM w X l p d n s t k xs pe) (hX : ∀ b, X b → b < w.heap.size) (hpe : pe ≤ 900000) (hq : s.f < q) (hq2 : q ≤ 18446744073709551615) :
 Calls Tryz.prog 69 #[.pointer (some ⟨p, 0, none⟩), .agg (supC s.a s.b s.g s.r s.v q)] w fun e w' => e = .returned (.int .i64 0) ∧ LgM w' X l p d n (flS s q) (nxt t) (flK k s t q) xs pe ∧ ∃ R : Nat → Prop, (∀ b, R b → b < w.heap.size ∧ ¬ X b) ∧ Kept (fun b => X b ∨ R b) w w' := by
 obtain ⟨A, c, ⟨h1, h2, R, h3, h4, h5⟩, hc, hA⟩ := h.log
 have hin := h.sin
 have hmay := h.may
 have hgd := h.good
 have hp := h.pend
 refine (set_go (w := w) (X := fun b => X b ∨ b = l ∨ R b) h3 (fun b hb => by
  rcases hb with hb | rfl | hb
  ·exact hX b hb
  ·exact h1.lt
  ·exact (h5 b hb).1) s.g s.r s.v q hmay (by unfold Sup.In InS at hin; unfold InS; omega) (by unfold BackS; omega) h.n2.1 (by omega) hgd.wre (hgd.put _ _).wre).mono ?_
 rintro e w1 ⟨rfl, hs, hk⟩
 refine ⟨rfl, ⟨⟨A, c, ⟨h1.kept hk (.inr (.inl rfl)), h2, R, hs, h4.kept hk (fun b hb => .inr (.inr hb)), fun b hb => ⟨nL (h5 b hb).1 hk.size, (h5 b hb).2⟩⟩, hc, hA⟩, (hgd.put _ _).sync, h.ok, h.top, hmay, ?_, h.dims, h.n2, h.room, ?_⟩, fun b => b = l ∨ R b, fun b hb => ?_, hk⟩
 ·unfold flS Sup.In InS at *
  simp only at *
  omega
 ·unfold flK
  rw [(hgd.put _ _).pend_sync]
  exact Nat.zero_le _
 ·rcases hb with rfl | hb
  ·exact ⟨h1.lt, h2⟩
  ·exact ⟨(h5 b hb).1, (h5 b hb).2.2⟩
end
end
section
open Go.RowKit
attribute [local go_sem] Oper.semAt_some
abbrev fl0 : Oper := ⟨some 26, .load 28 (.tmp 2), 28, "store.go:156", #[], none⟩
abbrev fl1 : Oper := ⟨some 27, .nilCheck (.tmp 26), 0, "store.go:156", #[⟨0, .data⟩], none⟩
abbrev fl2 : Oper := ⟨some 28, .fieldAddr 115 (.tmp 27) 0, 0, "store.go:156", #[⟨1, .data⟩], none⟩
abbrev fl3 : Oper := ⟨some 29, .fieldAddr 112 (.tmp 28) 0, 0, "store.go:156", #[⟨2, .data⟩], none⟩
abbrev fl4 : Oper := ⟨some 30, .load 25 (.tmp 29), 25, "store.go:156", #[⟨3, .data⟩], none⟩
abbrev fl5 : Oper := ⟨some 31, .call { callee := .value (.func 31), args := #[.tmp 30], argTypes := #[25] }, 63, "store.go:156", #[⟨4, .data⟩], none⟩
abbrev fl6 : Oper := ⟨some 32, .load 136 (.tmp 5), 136, "store.go:156", #[], none⟩
abbrev fl7 : Oper := ⟨some 33, .call { callee := .value (.func 69), args := #[.tmp 31, .tmp 32], argTypes := #[63, 136] }, 29, "store.go:156", #[⟨5, .data⟩, ⟨6, .data⟩, ⟨5, .chain⟩], none⟩
abbrev fl8 : Oper := ⟨none, .store 29 (.tmp 4) (.tmp 33), 0, "store.go:156", #[⟨7, .data⟩, ⟨7, .chain⟩, ⟨0, .phase⟩, ⟨1, .phase⟩, ⟨2, .phase⟩, ⟨3, .phase⟩, ⟨4, .phase⟩, ⟨5, .phase⟩, ⟨6, .phase⟩, ⟨7, .phase⟩], none⟩
section
variable {w w' : World} {X Y : Nat → Prop} {B : StB} {slots : Nat} {s : Sup} {xs : List Seg} {st : List EntS} {bl : List (List Int)} {u : Bool}
theorem unset_eq (h : StoM2 w X B slots s xs st bl false) : w.setCell ⟨B.q, 3, none⟩ (.bool false) = w := by
 have h1 := h.blk
 unfold Blk at h1
 rw [setCell_eq_setRow w B.q 3 _ _ (0, 0) (.bool false) h1]
 exact setRow_self w B.q _ _ (0, 0) h1
theorem flushD_ok {be bs_ : Nat} {u0 : FrameMode} (h : StoM2 w X B slots s xs st bl false) (h1 : Blk w be 29 #[.int .i64 0]) (h2 : Blk w bs_ 28 #[.pointer (some ⟨B.q, 0, none⟩)]) :
 CallsD Tryz.prog 68 #[.pointer (some ⟨be, 0, none⟩), .pointer (some ⟨bs_, 0, none⟩)] u0 w fun e u' w' => u' = u0 ∧ e = .returned (.tuple #[]) ∧ w' = w := by
 have HU := hI (unset_eq h)
 have c1 : w.cell? ⟨be, 0, none⟩ = some (.int .i64 0) := h1.cell 0
 have c2 : w.cell? ⟨bs_, 0, none⟩ = some (.pointer (some ⟨B.q, 0, none⟩)) := h2.cell 0
 have c3 := h.cells.2.2.2
 have c4 := h.blk.frozen 3
 clear h h1 h2
 go_enter_d Tryz.func68, Tryz.ntmps68
 go_wp2_with fail
 go_end0
 exact ⟨rfl, HU.out⟩
def FlushT (w : World) (X : Nat → Prop) (B : StB) (slots : Nat) (s : Sup) (xs : List Seg) (st : List EntS) (bl : List (List Int)) (q : Int) (e : Ending) (w' : World) : Prop :=
 e = .returned (.int .i64 0) ∧ Kept X w w' ∧
 ((q ≤ s.f ∧ StoM2 w' X B slots s xs st bl false) ∨
  (s.f < q ∧ StoM2 w' X { B with t := nxt B.t, k := flK B.k s B.t q, pe := B.pe } slots (flS s q) xs st bl false))
theorem flush_s14 (h : StoM2 w X B slots s xs st bl false) (hpe : B.pe ≤ 900000) (q : Int) (hq2 : q ≤ 18446744073709551615) :
 Calls Tryz.prog 18 #[.pointer (some ⟨B.q, 0, none⟩), .int .u64 q] w (FlushT w X B slots s xs st bl q) := by
 obtain ⟨w1, hw1⟩ : ∃ w1, w1 = (w.alloc (.cells #[.pointer (some ⟨B.q, 0, none⟩)] 28)).alloc (.cells #[.int .i64 0] 29) := ⟨_, rfl⟩
 have hb1 : Below w.heap.size w w1 := by rw [hw1]; exact ((Below.refl _ w).alloc (nR _) _).alloc (by simp) _
 have HS1 := hI (show Blk w1 w.heap.size 28 #[.pointer (some ⟨B.q, 0, none⟩)] by rw [hw1]; exact (Blk.new w _ _).alloc _)
 have HE1 := hI (show Blk w1 (w.heap.size + 1) 29 #[.int .i64 0] by rw [hw1]; exact blk_new2 w _ _ _)
 have HM1 := hI (h.grow hb1)
 have HX := hI h.lt
 have HPE := hI (And.intro hpe hq2)
 have HB1 := hI hb1
 have HW1 := hI hw1
 clear h hpe hq2 hb1 hw1
 go_enter_defers Tryz.func18, Tryz.ntmps18
 go_upto_region 1 with fail
 rw [← HW1.out]
 have s0 : w1.cell? ⟨w.heap.size, 0, none⟩ = some (.pointer (some ⟨B.q, 0, none⟩)) := HS1.out.cell 0
 go_wp2_with fail
 refine (degraded_ok HM1.out).mono ?_
 rintro e w2 ⟨rfl, rfl⟩
 have q0 := HM1.out.cells.1
 obtain ⟨A2, c2, hl, _, _⟩ := HM1.out.log.log
 have HL := hI hl
 clear hl
 go_wp2_with fail
 refine (log_super HL.out).mono ?_
 rintro e w3 ⟨rfl, rfl⟩
 obtain ⟨_, _, R, hs, _, _⟩ := HL.out
 go_wp2_with fail
 refine (get_any hs).mono ?_
 rintro e w4 ⟨rfl, hb4⟩
 clear hs s0 q0
 obtain ⟨w5, hw5⟩ : ∃ w5, w5 = w4.alloc (.cells #[.int .i64 s.a, .int .i64 s.b, .int .u64 s.g, .int .u64 s.r, .int .u64 s.v, .int .u64 s.f] 136) := ⟨_, rfl⟩
 have hb5 : Below w3.heap.size w3 w5 := by rw [hw5]; exact hb4.alloc hb4.size _
 have HK5 := hI (show Blk w5 w4.heap.size 136 #[.int .i64 s.a, .int .i64 s.b, .int .u64 s.g, .int .u64 s.r, .int .u64 s.v, .int .u64 s.f] by rw [hw5]; exact Blk.new w4 _ _)
 have HM5 := hI (HM1.out.grow hb5)
 have HS5 := hI (HS1.out.below hb5 HS1.out.lt)
 have HE5 := hI (HE1.out.below hb5 HE1.out.lt)
 have HB5 := hI (HB1.out.trans (hb5.mono HB1.out.size))
 have HZ5 := hI (And.intro HB1.out.size (And.intro hb4.size HK5.out.lt))
 have HW5 := hI hw5
 clear hb4 hb5 hw5
 go_upto_region 6 with fail
 rw [← HW5.out]
 have k5 : w5.cell? ⟨w4.heap.size, 5, none⟩ = some (.int .u64 s.f) := HK5.out.cell 5
 by_cases hle : q ≤ s.f
 ·have HLE := hI hle
  have e0 : w5.cell? ⟨w.heap.size + 1, 0, none⟩ = some (.int .i64 0) := HE5.out.cell 0
  have e9 := HE5.out.frozen 0
  go_wp2_with fail
  have hkb : Kept (fun b => b ≠ w.heap.size + 1) w5 (w5.setCell ⟨w.heap.size + 1, 0, none⟩ (.int .i64 0)) := (Kept.refl _ _).setCell (p := ⟨w.heap.size + 1, 0, none⟩) (fun h => h rfl) _
  have h1 := HE1.out.lt
  refine ⟨.int .i64 0, ?_, rfl, (Kept.of_below HB5.out HX.out).trans hkb (fun b hb => by have := HX.out b hb; omega), .inl ⟨HLE.out, (HM5.out.offX hkb (fun b _ hn => fun e => hn (.inl (.inr ⟨by omega, by omega⟩)))).less (fun b hb => .inl (.inl hb))⟩⟩
  have c6 : (w5.setCell ⟨w.heap.size + 1, 0, none⟩ (.int .i64 0)).cell? ⟨w.heap.size + 1, 0, none⟩ = some (.int .i64 0) := (HE5.out.set_ 0 (.int .i64 0)).cell 0
  simp [results, Tryz.f18, go_sem, c6]
 ·have HLE := hI hle
  have k9 := HK5.out.frozen 5
  go_upto_region 10 with fail
  clear k5 k9
  obtain ⟨w6, hw6⟩ : ∃ w6, w6 = w5.setCell ⟨w4.heap.size, 5, none⟩ (.int .u64 q) := ⟨_, rfl⟩
  rw [← hw6]
  have hk6 : Kept (fun b => b ≠ w4.heap.size) w5 w6 := by rw [hw6]; exact (Kept.refl _ _).setCell (p := ⟨w4.heap.size, 5, none⟩) (fun h => h rfl) _
  have HK6 := hI (show Blk w6 w4.heap.size 136 #[.int .i64 s.a, .int .i64 s.b, .int .u64 s.g, .int .u64 s.r, .int .u64 s.v, .int .u64 q] by rw [hw6]; exact HK5.out.set_ 5 (.int .u64 q))
  clear hw6
  obtain ⟨Z, hZ⟩ : ∃ Z : Nat → Prop, Z = fun b => (X b ∨ (w.heap.size ≤ b ∧ b < w3.heap.size)) ∨ (w3.heap.size ≤ b ∧ b < w5.heap.size) := ⟨_, rfl⟩
  have HZD := hI (show ∀ b, (X b ∨ (w.heap.size ≤ b ∧ b < w5.heap.size)) → Z b by
   intro b hb
   rw [hZ]
   rcases hb with hb | ⟨h1, h2⟩
   ·exact .inl (.inl hb)
   ·rcases Nat.lt_or_ge b w3.heap.size with h | h
    ·exact .inl (.inr ⟨h1, h⟩)
    ·exact .inr ⟨h, h2⟩)
  have HM5Z := HM5.out
  rw [← hZ] at HM5Z
  have hz := HZ5.out
  have HM6 := hI (HM5Z.offX hk6 (fun b _ hn => fun e => hn (HZD.out b (.inr ⟨by omega, by omega⟩))))
  have h1 := HE1.out.lt
  have HS6 := hI (HS5.out.kept hk6 (by omega))
  have HE6 := hI (HE5.out.kept hk6 (by omega))
  have HKX6 := hI (show Kept X w w6 from (Kept.of_below HB5.out HX.out).trans hk6 (fun b hb => by have := HX.out b hb; omega))
  have HX0 := hI (show ∀ b, X b → Z b from fun b hb => HZD.out b (.inl hb))
  have HZE := hI (show Z (w.heap.size + 1) ∧ Z w.heap.size from ⟨HZD.out _ (.inr ⟨by omega, by omega⟩), HZD.out _ (.inr ⟨by omega, by omega⟩)⟩)
  have HLT1 := hI h1
  clear hZ HM5Z hz hk6 h1 HM5 HS5 HE5 HK5 HW5 HZ5
  refine wp_region_noPanic ?_
  refine Tillst.region (fun W => Below w6.heap.size w6 W) [7, 8] (by kernel_rfl) ((Below.refl _ _).drew) (fun hė => ?_)
  generalize w6.drew = vd at *
  refine Tillst.takeG (i := 0) (oi := fl0) (v := ?_) rfl (by kernel_rfl) (by kernel_rfl) (by kernel_rfl) (by kernel_rfl) (by kernel_rfl) (fun _ _ _ h => h) (by rfl) ?_ hė ?_
  rotate_left
  ·intro W hSW; have h9 : W.cell? ⟨w.heap.size, 0, none⟩ = some (.pointer (some ⟨B.q, 0, none⟩)) := (HS6.out.below hSW HS6.out.lt).cell 0; clear hSW; unfold fl0; go_simp; with_reducible rfl
  simp only [fl0, Act.put, sA, sZ, sS]
  refine Tillst.takeG (i := 1) (oi := fl1) (v := ?_) rfl (by kernel_rfl) (by kernel_rfl) (by kernel_rfl) (by kernel_rfl) (by kernel_rfl) (fun _ _ _ h => h) (by rfl) ?_ hė ?_
  rotate_left
  ·intro W hSW; (try dsimp only at hSW); unfold fl1; go_simp; with_reducible rfl
  simp only [fl1, Act.put, sA, sZ, sS]
  refine Tillst.takeG (i := 2) (oi := fl2) (v := ?_) rfl (by kernel_rfl) (by kernel_rfl) (by kernel_rfl) (by kernel_rfl) (by kernel_rfl) (fun _ _ _ h => h) (by rfl) ?_ hė ?_
  rotate_left
  ·intro W hSW; (try dsimp only at hSW); unfold fl2; go_simp; with_reducible rfl
  simp only [fl2, Act.put, sA, sZ, sS]
  refine Tillst.takeG (i := 3) (oi := fl3) (v := ?_) rfl (by kernel_rfl) (by kernel_rfl) (by kernel_rfl) (by kernel_rfl) (by kernel_rfl) (fun _ _ _ h => h) (by rfl) ?_ hė ?_
  rotate_left
  ·intro W hSW; (try dsimp only at hSW); unfold fl3; go_simp; with_reducible rfl
  simp only [fl3, Act.put, sA, sZ, sS]
  refine Tillst.takeG (i := 4) (oi := fl4) (v := ?_) rfl (by kernel_rfl) (by kernel_rfl) (by kernel_rfl) (by kernel_rfl) (by kernel_rfl) (fun _ _ _ h => h) (by rfl) ?_ hė ?_
  rotate_left
  ·intro W hSW; have h9 := (HM6.out.below hSW).cells.1; clear hSW; unfold fl4; go_simp; with_reducible rfl
  simp only [fl4, Act.put, sA, sZ, sS]
  refine Tillst.takeG (i := 6) (oi := fl6) (v := .agg #[.int .i64 s.a, .int .i64 s.b, .int .u64 s.g, .int .u64 s.r, .int .u64 s.v, .int .u64 q]) rfl (by kernel_rfl) (by kernel_rfl) (by kernel_rfl) (by kernel_rfl) (by kernel_rfl) (fun _ _ _ h => h) (by rfl) ?_ hė ?_
  ·intro W hSW; have h9 := HK6.out.below hSW HK6.out.lt; have c0 := h9.cell 0; have c1 := h9.cell 1; have c2 := h9.cell 2; have c3 := h9.cell 3; have c4 := h9.cell 4; have c5 := h9.cell 5; clear hSW h9; simp only [List.getElem?_toArray, List.getElem?_cons_zero, List.getElem?_cons_succ] at c0 c1 c2 c3 c4 c5; unfold fl6; go_simp
  simp only [fl6, Act.put, sA, sZ, sS]
  refine Tillst.one (i := 5) (o := fl5) (by kernel_rfl) rfl ?_
  intro K hK
  obtain ⟨A3, c3, hl, _, _⟩ := (HM6.out.below hė).log.log
  refine step_call 31 #[.tmp 30] #[25] rfl rfl Tryz.func31 rfl rfl [.pointer (some ⟨B.l, 0, none⟩)] rfl ((log_super hl).mono ?_)
  rintro e v2 ⟨rfl, rfl⟩
  refine ⟨_, rfl, ?_⟩
  simp only [fl5, Act.put, sA, sZ, sS]
  refine hK.out _ _ (fun _ => hė) (fun hė => ?_)
  replace hė := hė (by decide)
  clear hK K hl
  have HM7 := hI (HM6.out.below hė)
  have HS7 := hI (HS6.out.below hė HS6.out.lt)
  have HE7 := hI (HE6.out.below hė HE6.out.lt)
  have HKX7 := hI (HKX6.out.trans (Kept.of_below (S := X) hė (fun b hb => nL (HX.out b hb) HKX6.out.size)) (fun b h => h))
  have hle2 := HLE.out
  have hpe := HPE.out
  refine Tillst.one (i := 7) (o := fl7) (by kernel_rfl) rfl ?_
  intro K hK
  refine step_call 69 #[.tmp 31, .tmp 32] #[63, 136] rfl rfl Tryz.func69 rfl rfl [.pointer (some ⟨B.p, 0, none⟩), .agg (supC s.a s.b s.g s.r s.v q)] rfl ((lg_setF HM7.out.log HM7.out.ylt hpe.1 (q := q) (by omega) hpe.2).mono ?_)
  rintro e w8 ⟨rfl, hlg, R, hR, hk8⟩
  refine ⟨_, rfl, ?_⟩
  simp only [fl7, Act.put, sA, sZ, sS]
  have hm8 := HM7.out.logTo2 hk8 (fun b hb => .inl (.inr hb)) (fun b hb => hb) HM7.out.off (fun b hb => nL (HM7.out.lt b hb) hk8.size) hlg rfl (HM7.out.inv.go (fun a' bs' h => fl_at HM7.out.log.good h))
  have HM8 := hI hm8
  have HS8 := hI (HS7.out.kept hk8 (.inl (.inl HZE.out.2)))
  have HE8 := hI (HE7.out.kept hk8 (.inl (.inl HZE.out.1)))
  have HKX8 := hI (HKX7.out.trans hk8 (fun b hb => .inl (.inl (HX0.out b hb))))
  clear hm8 hlg hR hk8 hle2 hpe
  refine hK.out _ _ (fun h => by cases h) (fun _ => ?_)
  clear hK K hė
  refine Tillst.one (i := 8) (o := fl8) (by kernel_rfl) rfl ?_
  intro K hK
  have e8 : w8.cell? ⟨w.heap.size + 1, 0, none⟩ = some (.int .i64 0) := HE8.out.cell 0
  have e9 := HE8.out.frozen 0
  go_simp
  clear e8 e9
  refine hK.out _ _ (fun h => by cases h) (fun _ => ?_)
  clear hK K
  refine Tillst.done (by kernel_rfl) ?_ _
  refine NoPanic.normal ?_
  obtain ⟨w9, hw9⟩ : ∃ w9, w9 = w8.setCell ⟨w.heap.size + 1, 0, none⟩ (.int .i64 0) := ⟨_, rfl⟩
  have hk9 : Kept (fun b => b ≠ w.heap.size + 1) w8 w9 := by rw [hw9]; exact (Kept.refl _ _).setCell (p := ⟨w.heap.size + 1, 0, none⟩) (fun h => h rfl) _
  have HE9 := hI (show Blk w9 (w.heap.size + 1) 29 #[.int .i64 0] by rw [hw9]; exact HE8.out.set_ 0 (.int .i64 0))
  rw [← hw9]
  clear hw9
  have HM9 := hI (HM8.out.offX hk9 (fun b _ hn => fun e => hn (e ▸ HZE.out.1)))
  have HS9 := hI (HS8.out.kept hk9 (by omega))
  have HKX9 := hI (HKX8.out.trans hk9 (fun b hb => by have := HX.out b hb; omega))
  clear hk9
  go_wp2_with fail
  refine leaves_cons (f := 68) (args := #[.pointer (some ⟨w.heap.size + 1, 0, none⟩), .pointer (some ⟨w.heap.size, 0, none⟩)]) (by simp) (by simp [go_sem]) ?_
  refine (flushD_ok HM9.out HE9.out HS9.out).mono ?_
  rintro e u' w10 ⟨rfl, rfl, rfl⟩
  refine ⟨.int .i64 0, ?_, rfl, HKX9.out, .inr ⟨by have := HLE.out; omega, HM9.out.less HX0.out⟩⟩
  have c6 := HE9.out.cell 0
  simp [results, Tryz.f18, go_sem, c6]
end
end
section
open Go.RowKit
theorem RowG.bound {α : Type} {mk : α → Value} {d : α} {w : World} {S : Nat → Prop} {A : Option Addr} {n : Nat} {xs : List α} (h : RowG mk d w S A n xs) : RowG mk d w (fun b => S b ∧ b < w.heap.size) A n xs :=
 ⟨h.1, fun hn => by
  obtain ⟨b, off, e, hb, hc⟩ := h.2 hn
  exact ⟨b, off, e, ⟨hb, World.block_lt_of_cell? w _ (hc 0 hn)⟩, hc⟩⟩
def PutR (f x q : Int) (us vs : List Int) (m n slots : Nat) (s : Sup) (xs : List Seg) (st : List EntS) (er : Int) (s2 : Sup) (xs2 : List Seg) (st2 : List EntS) : Prop :=
 (er = 230 ∧ ¬ May 1 f x q m n ∧ s2 = s ∧ xs2 = xs ∧ st2 = st) ∨
 (er = 6 ∧ May 1 f x q m n ∧ (fullS st us slots = true ∨ appR s xs (cntOf (recB 1 f x q us vs).length) = none) ∧ s2 = s ∧ xs2 = xs ∧ st2 = st) ∨
 (er = 0 ∧ May 1 f x q m n ∧ fullS st us slots = false ∧ (s2 = s ∨ s2 = genS s) ∧ ∃ i ys a, appR s xs (cntOf (recB 1 f x q us vs).length) = some (i, s2, ys) ∧ xs2 = useX ys ((cntOf (recB 1 f x q us vs).length : Nat) : Int) ∧ st2 = outS st us ++ [(a, recB 1 f x q us vs)])
theorem May.lens {k f x s : Int} {n m : Nat} (h : May k f x s n m) : n ≤ 250 ∧ m ≤ 512 := by unfold May at h; omega
section
variable {w w' : World} {X Y Z : Nat → Prop} {B C : StB} {slots slots' : Nat} {s s' : Sup} {xs xs' : List Seg} {st st' : List EntS} {bl bl' : List (List Int)} {A A2 : Option Addr} {m c m2 c2 : Nat} {us vs : List Int}
theorem TwoS.put (h : TwoS w Z X Y B slots s xs st bl C slots' s' xs' st' bl') {f x q : Int} {dy : Bool} (hk : RowI .u8 w Z A m us) (hv : RowI .u8 w Z A2 m2 vs) (hb : Bytes us) (hbv : Bytes vs) (hnc : A = none → c = 0) (hnc2 : A2 = none → c2 = 0)
 (hr : Rng f x q) (hpe : B.pe ≤ 900000) (hgm : s.g + 1 ≤ 18446744073709551615) :
 Calls Tryz.prog 14 #[.pointer (some ⟨B.q, 0, none⟩), itmV A m c A2 m2 c2 f x q dy] w fun e w' => ∃ er B2 s2 xs2 st2 bl2, e = .returned (.int .i64 er) ∧ TwoS w' Z X (newer Y w w') B2 slots s2 xs2 st2 bl2 C slots' s' xs' st' bl' ∧ Kept Z w w' ∧ B2.q = B.q ∧ B2.pe ≤ B.pe + 17 ∧ PutR f x q us vs m m2 slots s xs st er s2 xs2 st2 := by
 by_cases hm : May 1 f x q m m2
 ·have hkl : us.length = m := hk.1
  have hkey : keyOf (recB 1 f x q us vs) = us := by
   have h9 := rec_key (k := 1) (f := f) (x := x) (s := q) (xs := us) (ys := vs) (zs := []) (by have := hm.lens; omega)
   rwa [List.append_nil] at h9
  refine (put_s14 (c := c) (c2 := c2) (dy := dy) h.one (hk.more h.offX) (hv.more h.offX) hb hbv hnc hnc2 hm hr hpe hgm).mono ?_
  rintro e w1 ⟨hkp, h9⟩
  rw [hkey] at h9
  rcases h9 with ⟨hf, rfl, k', hst, _⟩ | ⟨hf, hno, rfl, k', hst, _⟩ | ⟨hf, i, s1, ys, t1, k1, hso, hs1, rfl, hst⟩
  ·obtain ⟨h1, h2⟩ := h.left hkp hst
   exact ⟨6, _, s, xs, st, bl, rfl, h1, h2, rfl, Nat.le_add_right _ _, .inr (.inl ⟨rfl, hm, .inl hf, rfl, rfl, rfl⟩)⟩
  ·obtain ⟨h1, h2⟩ := h.left hkp hst
   exact ⟨6, _, s, xs, st, bl, rfl, h1, h2, rfl, Nat.le_add_right _ _, .inr (.inl ⟨rfl, hm, .inr hno, rfl, rfl, rfl⟩)⟩
  ·obtain ⟨h1, h2⟩ := h.left hkp hst
   exact ⟨0, _, s1, _, _, _, rfl, h1, h2, rfl, nR _, .inr (.inr ⟨rfl, hm, hf, hs1, i, ys, _, hso, rfl, rfl⟩)⟩
 ·refine (put_bad14 B.q A m c A2 m2 c2 f x q dy w hm).mono ?_
  rintro e w1 ⟨rfl, hb1⟩
  obtain ⟨h1, h2⟩ := h.left (Kept.of_below (S := X) hb1 h.one.lt) (h.one.below hb1)
  exact ⟨230, B, s, xs, st, bl, rfl, h1, h2, rfl, Nat.le_add_right _ _, .inl ⟨rfl, hm, rfl, rfl, rfl⟩⟩
def KillR (q : Int) (us : List Int) (m : Nat) (s : Sup) (xs : List Seg) (st : List EntS) (er : Int) (s2 : Sup) (xs2 : List Seg) (st2 : List EntS) : Prop :=
 (er = 160 ∧ ¬ May 2 0 0 q m 0 ∧ s2 = s ∧ xs2 = xs ∧ st2 = st) ∨
 (er = 6 ∧ May 2 0 0 q m 0 ∧ appR s xs (cntOf (recB 2 0 0 q us []).length) = none ∧ s2 = s ∧ xs2 = xs ∧ st2 = st) ∨
 (er = 0 ∧ May 2 0 0 q m 0 ∧ (s2 = s ∨ s2 = genS s) ∧ ∃ i ys, appR s xs (cntOf (recB 2 0 0 q us []).length) = some (i, s2, ys) ∧ xs2 = useX ys ((cntOf (recB 2 0 0 q us []).length : Nat) : Int) ∧ st2 = outS st us)
theorem TwoS.kill (h : TwoS w Z X Y B slots s xs st bl C slots' s' xs' st' bl') {q : Int} (hk : RowI .u8 w Z A m us) (hb : Bytes us) (hr : 0 ≤ q ∧ q ≤ 18446744073709551615) (hpe : B.pe ≤ 900000) (hgm : s.g + 1 ≤ 18446744073709551615) :
 Calls Tryz.prog 16 #[.pointer (some ⟨B.q, 0, none⟩), .slice A m c, .int .u64 q] w fun e w' => ∃ er B2 s2 xs2 st2 bl2, e = .returned (.int .i64 er) ∧ TwoS w' Z X (newer Y w w') B2 slots s2 xs2 st2 bl2 C slots' s' xs' st' bl' ∧ Kept Z w w' ∧ B2.q = B.q ∧ B2.pe ≤ B.pe + 17 ∧ KillR q us m s xs st er s2 xs2 st2 := by
 by_cases hm : May 2 0 0 q m 0
 ·refine (kill_s14 (c := c) h.one (hk.more h.offX) hb hm ⟨by omega, by omega, by omega, by omega, hr.1, hr.2⟩ hpe hgm).mono ?_
  rintro e w1 ⟨hkp, h9⟩
  rcases h9 with ⟨hno, rfl, k', hst, _⟩ | ⟨i, s1, ys, t1, k1, hso, hs1, rfl, hst⟩
  ·obtain ⟨h1, h2⟩ := h.left hkp hst
   exact ⟨6, _, s, xs, st, bl, rfl, h1, h2, rfl, Nat.le_add_right _ _, .inr (.inl ⟨rfl, hm, hno, rfl, rfl, rfl⟩)⟩
  ·obtain ⟨h1, h2⟩ := h.left hkp hst
   exact ⟨0, _, s1, _, _, _, rfl, h1, h2, rfl, nR _, .inr (.inr ⟨rfl, hm, hs1, i, ys, hso, rfl, rfl⟩)⟩
 ·refine (kill_bad14 B.q A m c q w hm).mono ?_
  rintro e w1 ⟨rfl, hb1⟩
  obtain ⟨h1, h2⟩ := h.left (Kept.of_below (S := X) hb1 h.one.lt) (h.one.below hb1)
  exact ⟨160, B, s, xs, st, bl, rfl, h1, h2, rfl, Nat.le_add_right _ _, .inl ⟨rfl, hm, rfl, rfl, rfl⟩⟩
theorem TwoS.flush (h : TwoS w Z X Y B slots s xs st bl C slots' s' xs' st' bl') (q : Int) (hq : q ≤ 18446744073709551615) (hpe : B.pe ≤ 900000) :
 Calls Tryz.prog 18 #[.pointer (some ⟨B.q, 0, none⟩), .int .u64 q] w fun e w' => ∃ B2 s2, e = .returned (.int .i64 0) ∧ TwoS w' Z X (newer Y w w') B2 slots s2 xs st bl C slots' s' xs' st' bl' ∧ Kept Z w w' ∧ B2.q = B.q ∧ B2.pe = B.pe ∧ s2 = (if q ≤ s.f then s else flS s q) := by
 refine (flush_s14 h.one hpe q hq).mono ?_
 rintro e w1 ⟨rfl, hkp, ⟨hle, hst⟩ | ⟨hlt, hst⟩⟩
 ·obtain ⟨h1, h2⟩ := h.left hkp hst
  exact ⟨_, s, rfl, h1, h2, rfl, rfl, by rw [if_pos hle]⟩
 ·obtain ⟨h1, h2⟩ := h.left hkp hst
  exact ⟨_, flS s q, rfl, h1, h2, rfl, rfl, by rw [if_neg (by omega)]⟩
theorem TwoS.get (h : TwoS w Z X Y B slots s xs st bl C slots' s' xs' st' bl') (hk : RowI .u8 w Z A m us) (hb : Bytes us) (hm : m ≤ 1000000) (now : Int) :
 Calls Tryz.prog 19 #[.pointer (some ⟨B.q, 0, none⟩), .slice A m c, .int .u32 now] w fun e w' => (∃ B2, TwoS w' Z X (newer Y w w') B2 slots s xs st bl C slots' s' xs' st' bl' ∧ B2.q = B.q ∧ B2.pe = B.pe) ∧ Kept Z w w' ∧
  ((getS st s.f now us = none ∧ e = .returned (.tuple #[.agg itm0C, .int .i64 4])) ∨
   ∃ bs b1 b2, getS st s.f now us = some bs ∧ e = .returned (.tuple #[.agg (itmC bs b1 b2), .int .i64 0]) ∧ w.heap.size ≤ b1 ∧ w.heap.size ≤ b2 ∧ b1 ≠ b2 ∧ ArrU w' b1 (keyOf bs) ∧ ArrU w' b2 (valOf bs)) := by
 refine (get_s (c := c) h.one (hk.more h.offX) hb hm now).mono ?_
 rintro e w1 ⟨⟨k', hst, _⟩, hkp, h9⟩
 obtain ⟨h1, h2⟩ := h.left hkp hst
 exact ⟨⟨_, h1, rfl, rfl⟩, h2, h9⟩
end
end
section
open Go.RowKit
structure Fit (s : Sup) (xs : List Seg) : Prop where
 ok : OkR s.b xs
 top : topG xs ≤ s.g
 b : s.b = 24
 pos : 0 < xs.length
section
variable {w : World} {X Y Z : Nat → Prop} {B C : StB} {slots slots' : Nat} {s s' s2 s2' : Sup} {xs xs' xs2 xs2' : List Seg} {st su st2 su2 : List EntS} {bl bl' : List (List Int)} {us vs kw : List Int} {f x q er er' : Int} {m n : Nat} {u : Bool}
theorem StoM2.fit (h : StoM2 w X B slots s xs st bl u) (hb : s.b = 24) : Fit s xs := by
 have h1 := h.log.ok
 have h2 := h1.1
 unfold SizedR at h2
 exact ⟨h1, h.log.top, hb, by omega⟩
theorem rec_cnt {k : Int} (h : May k f x q us.length vs.length) : 1 ≤ cntOf (recB k f x q us vs).length ∧ ((cntOf (recB k f x q us vs).length : Nat) : Int) ≤ 17 := by
 have h1 := h.lens
 have h2 := recB_length k f x q us vs
 unfold cntOf
 omega
theorem rec_keyL {k : Int} (h : May k f x q us.length vs.length) : keyOf (recB k f x q us vs) = us := by
 have h9 := rec_key (k := k) (f := f) (x := x) (s := q) (xs := us) (ys := vs) (zs := []) (by have := h.lens; omega)
 rwa [List.append_nil] at h9
theorem PutR.sup (h : PutR f x q us vs m n slots s xs st er s2 xs2 st2) : s2.b = s.b ∧ s2.g ≤ s.g + 1 := by
 rcases h with ⟨_, _, rfl, _⟩ | ⟨_, _, _, rfl, _⟩ | ⟨_, _, _, rfl | rfl, _⟩
 ·exact ⟨rfl, by omega⟩
 ·exact ⟨rfl, by omega⟩
 ·exact ⟨rfl, by omega⟩
 ·exact ⟨rfl, Int.le_refl _⟩
theorem KillR.sup (h : KillR q us m s xs st er s2 xs2 st2) : s2.b = s.b ∧ s2.g ≤ s.g + 1 := by
 rcases h with ⟨_, _, rfl, _⟩ | ⟨_, _, _, rfl, _⟩ | ⟨_, _, rfl | rfl, _⟩
 ·exact ⟨rfl, by omega⟩
 ·exact ⟨rfl, by omega⟩
 ·exact ⟨rfl, by omega⟩
 ·exact ⟨rfl, Int.le_refl _⟩
theorem ApR.put_one (h : ApR kw s xs st s' xs' su) (hf : Fit s xs) (hne : kw ≠ us) (hr : PutR f x q us vs us.length vs.length slots s xs st er s2 xs2 st2) : er = 6 ∨ ApR kw s2 xs2 st2 s' xs' su := by
 rcases hr with ⟨_, _, rfl, rfl, rfl⟩ | ⟨h6, _⟩ | ⟨_, hm, _, hs, i, ys, a, hso, rfl, rfl⟩
 ·exact .inr h
 ·exact .inl h6
 ·have hc := rec_cnt hm
  exact .inr (h.put1 (rec_keyL hm) hne hs (more_one h.room hf.ok hf.top hc.1 (by rw [hf.b]; omega) hso))
theorem ApR.put_both (h : ApR us s xs st s' xs' su) (hf : Fit s xs) (hf' : Fit s' xs') (hsl : 2 ≤ slots') (hr : PutR f x q us vs us.length vs.length slots s xs st er s2 xs2 st2) (hr' : PutR f x q us vs us.length vs.length slots' s' xs' su er' s2' xs2' su2) :
 er = 6 ∨ (er' = er ∧ ApR us s2 xs2 st2 s2' xs2' su2) := by
 rcases hr with ⟨rfl, hno, rfl, rfl, rfl⟩ | ⟨h6, _⟩ | ⟨rfl, hm, _, hs, i, ys, a, hso, rfl, rfl⟩
 ·rcases hr' with ⟨rfl, _, rfl, rfl, rfl⟩ | ⟨_, hm, _⟩ | ⟨_, hm, _⟩
  ·exact .inr ⟨rfl, h⟩
  ·exact absurd hm hno
  ·exact absurd hm hno
 ·exact .inl h6
 ·have hc := rec_cnt hm
  obtain ⟨i2, t1, ys2, hso2, hmore⟩ := more_both (hf'.b.trans hf.b.symm) h.room hf.ok hf.top hf'.ok hf'.top hf'.pos hc.1 (by rw [hf.b]; omega) hso
  rcases hr' with ⟨_, hno, _⟩ | ⟨_, _, hfl | hnone, _⟩ | ⟨rfl, _, _, hs', i', ys', a', hso', rfl, rfl⟩
  ·exact absurd hm hno
  ·rw [h.left hsl] at hfl; cases hfl
  ·rw [hso2] at hnone; cases hnone
  ·rw [hso2] at hso'
   have h9 := Option.some.inj hso'
   obtain ⟨_, h9⟩ := Prod.mk.inj h9
   obtain ⟨rfl, rfl⟩ := Prod.mk.inj h9
   exact .inr ⟨rfl, h.put2 (rec_keyL hm) hs hs' hmore⟩
theorem ApR.kill_one (h : ApR kw s xs st s' xs' su) (hf : Fit s xs) (hne : kw ≠ us) (hr : KillR q us us.length s xs st er s2 xs2 st2) : er = 6 ∨ ApR kw s2 xs2 st2 s' xs' su := by
 rcases hr with ⟨_, _, rfl, rfl, rfl⟩ | ⟨h6, _⟩ | ⟨_, hm, hs, i, ys, hso, rfl, rfl⟩
 ·exact .inr h
 ·exact .inl h6
 ·have hc := rec_cnt (vs := []) hm
  exact .inr (h.kill1 hne hs (more_one h.room hf.ok hf.top hc.1 (by rw [hf.b]; omega) hso))
theorem ApR.kill_both (h : ApR us s xs st s' xs' su) (hf : Fit s xs) (hf' : Fit s' xs') (hr : KillR q us us.length s xs st er s2 xs2 st2) (hr' : KillR q us us.length s' xs' su er' s2' xs2' su2) :
 er = 6 ∨ (er' = er ∧ ApR us s2 xs2 st2 s2' xs2' su2) := by
 rcases hr with ⟨rfl, hno, rfl, rfl, rfl⟩ | ⟨h6, _⟩ | ⟨rfl, hm, hs, i, ys, hso, rfl, rfl⟩
 ·rcases hr' with ⟨rfl, _, rfl, rfl, rfl⟩ | ⟨_, hm, _⟩ | ⟨_, hm, _⟩
  ·exact .inr ⟨rfl, h⟩
  ·exact absurd hm hno
  ·exact absurd hm hno
 ·exact .inl h6
 ·have hc := rec_cnt (vs := []) hm
  obtain ⟨i2, t1, ys2, hso2, hmore⟩ := more_both (hf'.b.trans hf.b.symm) h.room hf.ok hf.top hf'.ok hf'.top hf'.pos hc.1 (by rw [hf.b]; omega) hso
  rcases hr' with ⟨_, hno, _⟩ | ⟨_, _, hnone, _⟩ | ⟨rfl, _, hs', i', ys', hso', rfl, rfl⟩
  ·exact absurd hm hno
  ·rw [hso2] at hnone; cases hnone
  ·rw [hso2] at hso'
   have h9 := Option.some.inj hso'
   obtain ⟨_, h9⟩ := Prod.mk.inj h9
   obtain ⟨rfl, rfl⟩ := Prod.mk.inj h9
   exact .inr ⟨rfl, h.kill2 hs hs' hmore⟩
theorem ApR.flushed (h : ApR kw s xs st s' xs' su) (q : Int) : ApR kw (if q ≤ s.f then s else flS s q) xs st (if q ≤ s'.f then s' else flS s' q) xs' su := by
 have hf := h.flush
 refine ⟨h.same, ?_, ?_, h.once, h.only⟩
 ·rw [hf]
  by_cases e : q ≤ s.f
  ·rw [if_pos e, if_pos e]; exact hf
  ·rw [if_neg e, if_neg e]; rfl
 ·by_cases e : q ≤ s.f
  ·rw [if_pos e]; exact h.room
  ·rw [if_neg e]; exact h.room
theorem flush_sup (s : Sup) (q : Int) : (if q ≤ s.f then s else flS s q).b = s.b ∧ (if q ≤ s.f then s else flS s q).g = s.g := by
 by_cases e : q ≤ s.f
 ·rw [if_pos e]; exact ⟨rfl, rfl⟩
 ·rw [if_neg e]; exact ⟨rfl, rfl⟩
theorem ApR.start (kw : List Int) (s : Sup) (xs : List Seg) : ApR kw s xs [] s xs [] :=
 ⟨rfl, rfl, .inr ⟨rfl, Int.le_refl _⟩, by unfold OnceS; simp, by simp⟩
end
end
section
open Go.RowKit
def ApM (w : World) (Z : Nat → Prop) (q1 q2 : Nat) (kw : List Int) (r : Nat) (full : Bool) : Prop :=
 ∃ X Y B C s xs st bl s' xs' su bl', TwoS w Z X Y B 8 s xs st bl C 8 s' xs' su bl' ∧ (B.q = q1 ∧ C.q = q2) ∧ (B.pe ≤ 17 * r ∧ C.pe ≤ 17 * r ∧ s.g ≤ r ∧ s'.g ≤ r) ∧ (s.b = 24 ∧ s'.b = 24) ∧ (full = true ∨ ApR kw s xs st s' xs' su)
def ApH (w : World) (Z : Nat → Prop) (q1 q2 : Nat) (kw : List Int) (r : Nat) (full : Bool) (R : Sup → List Seg → List EntS → Int → Sup → List Seg → List EntS → Prop) (er : Int) : Prop :=
 ∃ X Y B C s2 xs2 st2 bl s' xs' su bl', TwoS w Z X Y B 8 s2 xs2 st2 bl C 8 s' xs' su bl' ∧ (B.q = q1 ∧ C.q = q2) ∧ (B.pe ≤ 17 * (r + 1) ∧ C.pe ≤ 17 * r ∧ s2.g ≤ r + 1 ∧ s'.g ≤ r) ∧ (s2.b = 24 ∧ s'.b = 24) ∧ (full = true ∨ ∃ s xs st, Fit s xs ∧ ApR kw s xs st s' xs' su ∧ R s xs st er s2 xs2 st2)
section
variable {w w' : World} {Z Z2 : Nat → Prop} {q1 q2 : Nat} {kw us vs : List Int} {r m n c c2 : Nat} {full : Bool} {A A2 : Option Addr} {f x q er : Int} {R : Sup → List Seg → List EntS → Int → Sup → List Seg → List EntS → Prop}
theorem ApM.grow (h : ApM w Z q1 q2 kw r full) (hb : Below w.heap.size w w') : ApM w' (newer Z w w') q1 q2 kw r full := by
 obtain ⟨X, Y, B, C, s, xs, st, bl, s', xs', su, bl', h1, h2⟩ := h
 exact ⟨_, _, B, C, s, xs, st, bl, s', xs', su, bl', h1.grow hb, h2⟩
theorem ApM.less (h : ApM w Z q1 q2 kw r full) (hz : ∀ b, Z2 b → Z b) : ApM w Z2 q1 q2 kw r full := by
 obtain ⟨X, Y, B, C, s, xs, st, bl, s', xs', su, bl', h1, h2⟩ := h
 exact ⟨_, _, B, C, s, xs, st, bl, s', xs', su, bl', h1.less hz, h2⟩
theorem ApM.next (h : ApM w Z q1 q2 kw r full) : ApM w Z q1 q2 kw (r + 1) full := by
 obtain ⟨X, Y, B, C, s, xs, st, bl, s', xs', su, bl', h1, h2, h3, h4⟩ := h
 exact ⟨_, _, B, C, s, xs, st, bl, s', xs', su, bl', h1, h2, ⟨by omega, by omega, by omega, by omega⟩, h4⟩
theorem ApH.grow (h : ApH w Z q1 q2 kw r full R er) (hb : Below w.heap.size w w') : ApH w' (newer Z w w') q1 q2 kw r full R er := by
 obtain ⟨X, Y, B, C, s, xs, st, bl, s', xs', su, bl', h1, h2⟩ := h
 exact ⟨_, _, B, C, s, xs, st, bl, s', xs', su, bl', h1.grow hb, h2⟩
theorem ApM.lt (h : ApM w Z q1 q2 kw r full) : ∀ b, Z b → b < w.heap.size := by
 obtain ⟨X, Y, B, C, s, xs, st, bl, s', xs', su, bl', h1, h2⟩ := h
 exact fun b hb => h1.one.lt b (h1.offX b hb)
theorem ApM.put (h : ApM w Z q1 q2 kw r full) (hr : r ≤ 50) {dy : Bool} (hk : RowI .u8 w Z A m us) (hv : RowI .u8 w Z A2 n vs) (hb : Bytes us) (hbv : Bytes vs) (hnc : A = none → c = 0) (hnc2 : A2 = none → c2 = 0) (hg : Rng f x q) :
 Calls Tryz.prog 14 #[.pointer (some ⟨q1, 0, none⟩), itmV A m c A2 n c2 f x q dy] w fun e w' => ∃ er, e = .returned (.int .i64 er) ∧ ApH w' Z q1 q2 kw r full (PutR f x q us vs us.length vs.length 8) er ∧ Kept Z w w' := by
 obtain ⟨X, Y, B, C, s, xs, st, bl, s', xs', su, bl', h1, ⟨rfl, rfl⟩, h3, h4, h5⟩ := h
 obtain rfl := hk.1
 obtain rfl := hv.1
 refine (h1.put (dy := dy) hk hv hb hbv hnc hnc2 hg (by omega) (by omega)).mono ?_
 rintro e w1 ⟨er, B2, s2, xs2, st2, bl2, rfl, g1, g2, g3, g4, g5⟩
 have g6 := g5.sup
 exact ⟨er, rfl, ⟨_, _, B2, C, s2, xs2, st2, bl2, s', xs', su, bl', g1, ⟨g3, rfl⟩, ⟨by omega, by omega, by omega, by omega⟩, ⟨by omega, h4.2⟩, h5.imp id (fun h6 => ⟨s, xs, st, h1.one.fit h4.1, h6, g5⟩)⟩, g2⟩
theorem ApH.put_one (h : ApH w Z q1 q2 kw r full (PutR f x q us vs us.length vs.length 8) er) (hne : kw ≠ us) : ApM w Z q1 q2 kw (r + 1) (full || (er == 6)) := by
 obtain ⟨X, Y, B, C, s2, xs2, st2, bl, s', xs', su, bl', h1, h2, h3, h4, h5⟩ := h
 refine ⟨_, _, B, C, s2, xs2, st2, bl, s', xs', su, bl', h1, h2, ⟨by omega, by omega, by omega, by omega⟩, h4, ?_⟩
 rcases h5 with rfl | ⟨s, xs, st, g1, g2, g3⟩
 ·exact .inl rfl
 ·rcases g2.put_one g1 hne g3 with rfl | g4
  ·exact .inl (by simp)
  ·exact .inr g4
theorem ApH.put_two (h : ApH w Z q1 q2 us r full (PutR f x q us vs us.length vs.length 8) er) (hr : r ≤ 50) {dy : Bool} (hk : RowI .u8 w Z A m us) (hv : RowI .u8 w Z A2 n vs) (hb : Bytes us) (hbv : Bytes vs) (hnc : A = none → c = 0) (hnc2 : A2 = none → c2 = 0) (hg : Rng f x q) :
 Calls Tryz.prog 14 #[.pointer (some ⟨q2, 0, none⟩), itmV A m c A2 n c2 f x q dy] w fun e w' => ∃ er', e = .returned (.int .i64 er') ∧ ApM w' Z q1 q2 us (r + 1) (full || (er == 6)) ∧ Kept Z w w' ∧ (full = true ∨ er = 6 ∨ er' = er) := by
 obtain ⟨X, Y, B, C, s2, xs2, st2, bl, s', xs', su, bl', h1, ⟨rfl, rfl⟩, h3, h4, h5⟩ := h
 obtain rfl := hk.1
 obtain rfl := hv.1
 refine (h1.swap.put (dy := dy) hk hv hb hbv hnc hnc2 hg (by omega) (by omega)).mono ?_
 rintro e w1 ⟨er', B2, s2', xs2', su2, bl2, rfl, g1, g2, g3, g4, g5⟩
 have g6 := g5.sup
 have g7 : full = true ∨ er = 6 ∨ (er' = er ∧ ApR us s2 xs2 st2 s2' xs2' su2) := by
  rcases h5 with e | ⟨s, xs, st, k1, k2, k3⟩
  ·exact .inl e
  ·exact .inr (k2.put_both k1 (h1.two.fit h4.2) (by omega) k3 g5)
 refine ⟨er', rfl, ⟨_, _, B, B2, s2, xs2, st2, bl, s2', xs2', su2, bl2, g1.swap, ⟨rfl, g3⟩, ⟨by omega, by omega, by omega, by omega⟩, ⟨h4.1, by omega⟩, ?_⟩, g2, ?_⟩
 ·rcases g7 with rfl | rfl | ⟨_, g8⟩
  ·exact .inl rfl
  ·exact .inl (by simp)
  ·exact .inr g8
 ·rcases g7 with e | e | ⟨e, _⟩
  ·exact .inl e
  ·exact .inr (.inl e)
  ·exact .inr (.inr e)
theorem ApM.kill (h : ApM w Z q1 q2 kw r full) (hr : r ≤ 50) (hk : RowI .u8 w Z A m us) (hb : Bytes us) (hg : 0 ≤ q ∧ q ≤ 18446744073709551615) :
 Calls Tryz.prog 16 #[.pointer (some ⟨q1, 0, none⟩), .slice A m c, .int .u64 q] w fun e w' => ∃ er, e = .returned (.int .i64 er) ∧ ApH w' Z q1 q2 kw r full (KillR q us us.length) er ∧ Kept Z w w' := by
 obtain ⟨X, Y, B, C, s, xs, st, bl, s', xs', su, bl', h1, ⟨rfl, rfl⟩, h3, h4, h5⟩ := h
 obtain rfl := hk.1
 refine (h1.kill (c := c) hk hb hg (by omega) (by omega)).mono ?_
 rintro e w1 ⟨er, B2, s2, xs2, st2, bl2, rfl, g1, g2, g3, g4, g5⟩
 have g6 := g5.sup
 exact ⟨er, rfl, ⟨_, _, B2, C, s2, xs2, st2, bl2, s', xs', su, bl', g1, ⟨g3, rfl⟩, ⟨by omega, by omega, by omega, by omega⟩, ⟨by omega, h4.2⟩, h5.imp id (fun h6 => ⟨s, xs, st, h1.one.fit h4.1, h6, g5⟩)⟩, g2⟩
theorem ApH.kill_one (h : ApH w Z q1 q2 kw r full (KillR q us us.length) er) (hne : kw ≠ us) : ApM w Z q1 q2 kw (r + 1) (full || (er == 6)) := by
 obtain ⟨X, Y, B, C, s2, xs2, st2, bl, s', xs', su, bl', h1, h2, h3, h4, h5⟩ := h
 refine ⟨_, _, B, C, s2, xs2, st2, bl, s', xs', su, bl', h1, h2, ⟨by omega, by omega, by omega, by omega⟩, h4, ?_⟩
 rcases h5 with rfl | ⟨s, xs, st, g1, g2, g3⟩
 ·exact .inl rfl
 ·rcases g2.kill_one g1 hne g3 with rfl | g4
  ·exact .inl (by simp)
  ·exact .inr g4
theorem ApH.kill_two (h : ApH w Z q1 q2 us r full (KillR q us us.length) er) (hr : r ≤ 50) (hk : RowI .u8 w Z A m us) (hb : Bytes us) (hg : 0 ≤ q ∧ q ≤ 18446744073709551615) :
 Calls Tryz.prog 16 #[.pointer (some ⟨q2, 0, none⟩), .slice A m c, .int .u64 q] w fun e w' => ∃ er', e = .returned (.int .i64 er') ∧ ApM w' Z q1 q2 us (r + 1) (full || (er == 6)) ∧ Kept Z w w' ∧ (full = true ∨ er = 6 ∨ er' = er) := by
 obtain ⟨X, Y, B, C, s2, xs2, st2, bl, s', xs', su, bl', h1, ⟨rfl, rfl⟩, h3, h4, h5⟩ := h
 obtain rfl := hk.1
 refine (h1.swap.kill (c := c) hk hb hg (by omega) (by omega)).mono ?_
 rintro e w1 ⟨er', B2, s2', xs2', su2, bl2, rfl, g1, g2, g3, g4, g5⟩
 have g6 := g5.sup
 have g7 : full = true ∨ er = 6 ∨ (er' = er ∧ ApR us s2 xs2 st2 s2' xs2' su2) := by
  rcases h5 with e | ⟨s, xs, st, k1, k2, k3⟩
  ·exact .inl e
  ·exact .inr (k2.kill_both k1 (h1.two.fit h4.2) k3 g5)
 refine ⟨er', rfl, ⟨_, _, B, B2, s2, xs2, st2, bl, s2', xs2', su2, bl2, g1.swap, ⟨rfl, g3⟩, ⟨by omega, by omega, by omega, by omega⟩, ⟨h4.1, by omega⟩, ?_⟩, g2, ?_⟩
 ·rcases g7 with rfl | rfl | ⟨_, g8⟩
  ·exact .inl rfl
  ·exact .inl (by simp)
  ·exact .inr g8
 ·rcases g7 with e | e | ⟨e, _⟩
  ·exact .inl e
  ·exact .inr (.inl e)
  ·exact .inr (.inr e)
def ApF (w : World) (Z : Nat → Prop) (q1 q2 : Nat) (kw : List Int) (r : Nat) (full : Bool) (q : Int) : Prop :=
 ∃ X Y B C s2 xs2 st2 bl s' xs' su bl', TwoS w Z X Y B 8 s2 xs2 st2 bl C 8 s' xs' su bl' ∧ (B.q = q1 ∧ C.q = q2) ∧ (B.pe ≤ 17 * r ∧ C.pe ≤ 17 * r ∧ s2.g ≤ r ∧ s'.g ≤ r) ∧ (s2.b = 24 ∧ s'.b = 24) ∧ (full = true ∨ ∃ s, ApR kw s xs2 st2 s' xs' su ∧ s2 = (if q ≤ s.f then s else flS s q))
theorem ApM.flush (h : ApM w Z q1 q2 kw r full) (hr : r ≤ 50) (q : Int) (hq : q ≤ 18446744073709551615) :
 Calls Tryz.prog 18 #[.pointer (some ⟨q1, 0, none⟩), .int .u64 q] w fun e w' => e = .returned (.int .i64 0) ∧ ApF w' Z q1 q2 kw r full q ∧ Kept Z w w' := by
 obtain ⟨X, Y, B, C, s, xs, st, bl, s', xs', su, bl', h1, ⟨rfl, rfl⟩, h3, h4, h5⟩ := h
 refine (h1.flush q hq (by omega)).mono ?_
 rintro e w1 ⟨B2, s2, rfl, g1, g2, g3, g4, g5⟩
 have g6 := flush_sup s q
 rw [← g5] at g6
 exact ⟨rfl, ⟨_, _, B2, C, s2, xs, st, bl, s', xs', su, bl', g1, ⟨g3, rfl⟩, ⟨by omega, by omega, by omega, by omega⟩, ⟨by omega, h4.2⟩, h5.imp id (fun h6 => ⟨s, h6, g5⟩)⟩, g2⟩
theorem ApF.flush (h : ApF w Z q1 q2 kw r full q) (hr : r ≤ 50) (hq : q ≤ 18446744073709551615) :
 Calls Tryz.prog 18 #[.pointer (some ⟨q2, 0, none⟩), .int .u64 q] w fun e w' => e = .returned (.int .i64 0) ∧ ApM w' Z q1 q2 kw r full ∧ Kept Z w w' := by
 obtain ⟨X, Y, B, C, s, xs, st, bl, s', xs', su, bl', h1, ⟨rfl, rfl⟩, h3, h4, h5⟩ := h
 refine (h1.swap.flush q hq (by omega)).mono ?_
 rintro e w1 ⟨B2, s2, rfl, g1, g2, g3, g4, g5⟩
 have g6 := flush_sup s' q
 rw [← g5] at g6
 refine ⟨rfl, ⟨_, _, B, B2, s, xs, st, bl, s2, xs', su, bl', g1.swap, ⟨rfl, g3⟩, ⟨by omega, by omega, by omega, by omega⟩, ⟨h4.1, by omega⟩, ?_⟩, g2⟩
 rcases h5 with e | ⟨s0, k1, rfl⟩
 ·exact .inl e
 ·right
  rw [g5]
  exact k1.flushed q
def GotI (w0 w' : World) (o : Option (List Int)) (e : Ending) : Prop :=
 (o = none ∧ e = .returned (.tuple #[.agg itm0C, .int .i64 4])) ∨
 ∃ bs b1 b2, o = some bs ∧ e = .returned (.tuple #[.agg (itmC bs b1 b2), .int .i64 0]) ∧ w0.heap.size ≤ b1 ∧ w0.heap.size ≤ b2 ∧ ArrU w' b1 (keyOf bs) ∧ ArrU w' b2 (valOf bs) ∧ RecOk bs
def ApG (w : World) (Z : Nat → Prop) (q1 q2 : Nat) (kw : List Int) (r : Nat) (full : Bool) (o : Option (List Int)) : Prop :=
 ∃ Z0 X Y B C s xs st bl s' xs' su bl', TwoS w Z0 X Y B 8 s xs st bl C 8 s' xs' su bl' ∧ (∀ b, Z b → Y b) ∧ (B.q = q1 ∧ C.q = q2) ∧ (full = true ∨ ApR kw s xs st s' xs' su) ∧ o = getS st s.f 0 kw
theorem StoM2.get_ok {X : Nat → Prop} {B : StB} {slots : Nat} {s : Sup} {xs : List Seg} {st : List EntS} {bl : List (List Int)} {u : Bool} {fl now : Int} {bs : List Int} (h : StoM2 w X B slots s xs st bl u) (hg : getS st fl now us = some bs) : RecOk bs := by
 unfold getS at hg
 cases e : hasS st us with
 | none => rw [e] at hg; cases hg
 | some p =>
  rw [e] at hg
  dsimp only at hg
  split at hg
  ·cases hg
  ·have h9 := Option.some.inj hg
   rw [← h9]
   unfold hasS at e
   exact (h.inv.here p (List.mem_of_find?_eq_some e)).rok
theorem ApM.get (h : ApM w Z q1 q2 kw r full) (hk : RowI .u8 w Z A m kw) (hb : Bytes kw) (hm : m ≤ 1000000) :
 Calls Tryz.prog 19 #[.pointer (some ⟨q1, 0, none⟩), .slice A m c, .int .u32 0] w fun e w' => ∃ o, ApG w' (newer Z w w') q1 q2 kw r full o ∧ Kept Z w w' ∧ GotI w w' o e := by
 obtain ⟨X, Y, B, C, s, xs, st, bl, s', xs', su, bl', h1, ⟨rfl, rfl⟩, h3, h4, h5⟩ := h
 refine (h1.get (c := c) hk hb hm 0).mono ?_
 rintro e w1 ⟨⟨B2, g1, g2, g3⟩, g4, g5⟩
 refine ⟨getS st s.f 0 kw, ⟨_, _, _, B2, C, s, xs, st, bl, s', xs', su, bl', g1, (fun b hb => hb.imp (h1.offY b) id), ⟨g2, rfl⟩, h5, rfl⟩, g4, ?_⟩
 rcases g5 with g5 | ⟨bs, b1, b2, k1, k2, k3, k4, k5, k6, k7⟩
 ·exact .inl g5
 ·exact .inr ⟨bs, b1, b2, k1, k2, k3, k4, k6, k7, h1.one.get_ok k1⟩
theorem ApG.grow {o : Option (List Int)} (h : ApG w Z q1 q2 kw r full o) (hb : Below w.heap.size w w') : ApG w' (newer Z w w') q1 q2 kw r full o := by
 obtain ⟨Z0, X, Y, B, C, s, xs, st, bl, s', xs', su, bl', h1, h0, h2⟩ := h
 exact ⟨_, _, _, B, C, s, xs, st, bl, s', xs', su, bl', h1.grow hb, (fun b hb => hb.imp (h0 b) id), h2⟩
theorem ApG.get {o : Option (List Int)} (h : ApG w Z q1 q2 kw r full o) (hk : RowI .u8 w Z A m kw) (hb : Bytes kw) (hm : m ≤ 1000000) :
 Calls Tryz.prog 19 #[.pointer (some ⟨q2, 0, none⟩), .slice A m c, .int .u32 0] w fun e w' => ∃ o2, (full = true ∨ o2 = o) ∧ Kept Z w w' ∧ GotI w w' o2 e := by
 obtain ⟨Z0, X, Y, B, C, s, xs, st, bl, s', xs', su, bl', h1, h0, ⟨rfl, rfl⟩, h5, h6⟩ := h
 refine (get_s (c := c) h1.two (hk.more h0) hb hm 0).mono ?_
 rintro e w1 ⟨⟨k', hst, _⟩, hkp, g5⟩
 refine ⟨getS su s'.f 0 kw, ?_, hkp.mono h0, ?_⟩
 ·rcases h5 with e | h5
  ·exact .inl e
  ·right
   rw [h6, h5.flush]
   exact (h5.same.get _ _).symm
 ·rcases g5 with g5 | ⟨bs, b1, b2, k1, k2, k3, k4, k5, k6, k7⟩
  ·exact .inl g5
  ·exact .inr ⟨bs, b1, b2, k1, k2, k3, k4, k6, k7, h1.two.get_ok k1⟩
theorem ApM.start {w1 w2 w3 w4 : World} {B C : StB} {bl bl' : List (List Int)} (h1 : StoM2 w3 (fun b => b < w.heap.size ∨ (w1.heap.size ≤ b ∧ b < w2.heap.size)) B 8 wkS wkX [] bl false) (h2 : StoM2 w4 (fun b => b < w1.heap.size ∨ (w2.heap.size ≤ b ∧ b < w3.heap.size)) C 8 wkS wkX [] bl' false)
 (hb : Below w3.heap.size w3 w4) (h01 : w.heap.size ≤ w1.heap.size) (hp : B.pe = 0 ∧ C.pe = 0) : ApM w4 (fun b => b < w.heap.size) B.q C.q kw 0 false :=
 ⟨_, _, B, C, wkS, wkX, [], bl, wkS, wkX, [], bl', TwoS.born h1 h2 hb h01, ⟨rfl, rfl⟩, ⟨by omega, by omega, by decide, by decide⟩, ⟨rfl, rfl⟩, .inr (ApR.start kw wkS wkX)⟩
end
end
end Go.Proofs.YtknfblfnfoibkaaGreat
namespace Go.Proofs.YtknfblfnfoibkaaGreat.OpM
open Go.Proofs.YtknfblfnfoibkaaGreat
open Go.RowKit
structure Op6 where
 kd : Int
 ky : Int
 sz : Int
 pl : Int
 q : Int
 x : Int
abbrev ent0 : Op6 := ⟨0, 0, 0, 0, 0, 0⟩
abbrev entV (e : Op6) : List Value := [.int .i64 e.kd, .int .i64 e.ky, .int .i64 e.sz, .int .i64 e.pl, .int .u64 e.q, .int .u32 e.x]
theorem ones_ent (s : Op6) : ∀ v ∈ entV s, v.oneCell' = true := by
 intro v hv
 simp [entV] at hv
 rcases hv with rfl | rfl | rfl | rfl | rfl | rfl <;> rfl
abbrev RowE := RowQ entV 6 ent0
def flatG (L : List Op6) : List Value := L.flatMap entV
theorem flatG_append (L M : List Op6) : flatG (L ++ M) = flatG L ++ flatG M := by simp [flatG]
theorem flatG_one (s : Op6) : flatG [s] = entV s := by simp [flatG]
theorem flatG_length (L : List Op6) : (flatG L).length = L.length * 6 := by
 induction L with
 | nil => rfl
 | cons x r ih =>
  simp only [flatG, List.flatMap_cons, List.length_append, List.length_cons] at *
  rw [ih]
  simp only [entV, List.length_cons, List.length_nil]
  omega
theorem flatG_get : ∀ (L : List Op6) (t : Nat), t < L.length * 6 → (flatG L)[t]? = (entV (L.getD (t / 6) ent0))[t % 6]?
 | [], t, h => by simp at h
 | y :: L, t, h => by
  unfold flatG
  rw [List.flatMap_cons]
  by_cases h4 : t < 6
  ·rw [List.getElem?_append_left (by simpa using h4)]
   rw [show t / 6 = 0 by omega, show t % 6 = t by omega]
   rfl
  ·have e : t - (entV y).length = t - 6 := by simp
   rw [List.getElem?_append_right (by simp; omega), e]
   have ih := flatG_get L (t - 6) (by simp at h; omega)
   unfold flatG at ih
   rw [ih, show t / 6 = (t - 6) / 6 + 1 by omega, show t % 6 = (t - 6) % 6 by omega]
   rfl
theorem flatG_ones (L : List Op6) : ∀ v ∈ flatG L, v.oneCell' = true := by
 intro v hv
 obtain ⟨s, _, h⟩ := List.mem_flatMap.1 hv
 exact ones_ent s v h
theorem flatG_set (L : List Op6) (i : Nat) (s : Op6) (h : i < L.length) : flatG (L.set i s) = (flatG L).take (i * 6) ++ entV s ++ (flatG L).drop (i * 6 + 6) := by
 have e : L.set i s = L.take i ++ [s] ++ L.drop (i + 1) := by
  rw [List.set_eq_take_append_cons_drop, if_pos h]; simp
 have e2 : L = L.take i ++ [L.getD i ent0] ++ L.drop (i + 1) := by
  simp only [List.getD, List.getElem?_eq_getElem h, Option.getD_some]
  rw [List.append_assoc, List.singleton_append, ← List.drop_eq_getElem_cons h, List.take_append_drop]
 have hl : (flatG (L.take i)).length = i * 6 := by rw [flatG_length, List.length_take]; omega
 have h1 : (flatG L).take (i * 6) = flatG (L.take i) := by
  conv => lhs; rw [e2]
  rw [flatG_append, flatG_append, List.append_assoc, List.take_append_of_le_length (by omega), ← hl, List.take_length]
 have h2 : (flatG L).drop (i * 6 + 6) = flatG (L.drop (i + 1)) := by
  conv => lhs; rw [e2]
  rw [flatG_append, List.drop_append_of_le_length (by rw [flatG_append, List.length_append, hl, flatG_one]; simp)]
  rw [List.drop_eq_nil_of_le (by rw [flatG_append, List.length_append, hl, flatG_one]; simp)]
  simp
 rw [h1, h2, e, flatG_append, flatG_append, flatG_one]
def ArrS (w : World) (g : Nat) (L : List Op6) : Prop := Blk w g 37 (flatG L).toArray
theorem row_of_flat {w : World} {g : Nat} {t : TypeId} {L : List Op6} {X : List Value} (h : Blk w g t (flatG L ++ X).toArray) {S : Nat → Prop} (hS : S g) {n : Nat} (hn : L.length = n) : RowE w S (some ⟨g, 0, none⟩) n L :=
 ⟨hn, fun _ => ⟨g, 0, rfl, hS, fun i hi j v hv => by
  have hj : j < 6 := by have := (List.getElem?_eq_some_iff.1 hv).1; simpa using this
  show w.cell? ⟨g, 0 + i * 6 + j, none⟩ = some v
  rw [h.cell, Nat.zero_add]
  have hlt : i * 6 + j < (flatG L).length := by rw [flatG_length]; omega
  rw [List.getElem?_toArray, List.getElem?_append_left hlt, flatG_get L _ (by rw [flatG_length] at hlt; exact hlt), show (i * 6 + j) / 6 = i by omega, show (i * 6 + j) % 6 = j by omega]
  exact hv⟩⟩
theorem ArrS.row {w : World} {g : Nat} {L : List Op6} (h : ArrS w g L) {S : Nat → Prop} (hS : S g) {n : Nat} (hn : L.length = n) : RowE w S (some ⟨g, 0, none⟩) n L :=
 row_of_flat (X := []) (by simpa [ArrS] using h) hS hn
theorem RowE_src {w : World} {S : Nat → Prop} {A : Option Addr} {n : Nat} {xs : List Op6} (h : RowE w S A n xs) (hn : 0 < n) :
 ∃ ad, A = some ad ∧ ∀ j v, (flatG xs)[j]? = some v → w.cell? (ad.add j) = some v := by
 obtain ⟨b, off, e, _, hc⟩ := h.2 hn
 refine ⟨_, e, fun j v hv => ?_⟩
 have hj : j < xs.length * 6 := by have := (List.getElem?_eq_some_iff.1 hv).1; rwa [flatG_length] at this
 rw [flatG_get xs j hj] at hv
 have h1 := hc (j / 6) (by have := h.1; omega) (j % 6) v hv
 rw [add_plain, show off + j = off + j / 6 * 6 + j % 6 by omega]
 exact h1
theorem info_seg : (Tryz.prog.info? 37).map (fun i => (i.zero, i.size, i.bytes)) = some (some (.agg (entV ent0).toArray), 6, 48) := by kernel_rfl
theorem made_segs (k : Nat) : madeCells (entV ent0).toArray (k * 6) = (flatG (List.replicate k ent0)).toArray := by
 apply Array.ext
 ·simp [size_madeCells, flatG_length]
 ·intro i h1 h2
  have hi : i < k * 6 := by simpa [size_madeCells] using h1
  have hq : i / 6 < k := by omega
  have e2 := flatG_get (List.replicate k ent0) i (by simpa using hi)
  have e3 : (List.replicate k ent0).getD (i / 6) ent0 = ent0 := by simp [List.getD, List.getElem?_replicate, hq]
  rw [e3, ← List.getElem?_toArray, Array.getElem?_eq_getElem h2] at e2
  have hm : i % 6 < 6 := Nat.mod_lt _ (by omega)
  have e4 : (entV ent0).toArray[i % 6]! = (entV ent0)[i % 6]'(by simpa using hm) := by
   rw [getElem!_def, List.getElem?_toArray, List.getElem?_eq_getElem (by simpa using hm)]
  rw [List.getElem?_eq_getElem (by simpa using hm)] at e2
  injection e2 with e2
  rw [e2]
  simp only [madeCells, Array.getElem_map, Array.getElem_range]
  exact e4
theorem run_make_segs (l c : Nat) (hlc : l ≤ c) (hc : c ≤ 1000000) (w : World) : (Instr.makeSlice 22 (.int .i64 l) (.int .i64 c)).run Tryz.prog w = .ok (.slice (some ⟨w.heap.size, 0, none⟩) l c) (w.alloc (.cells (flatG (List.replicate c ent0)).toArray 37)) := by
 obtain ⟨i0, hi, hz0, hz1, hz2⟩ := info_parts info_seg
 have hr := run_make (P := Tryz.prog) w 22 37 i0 (.agg (entV ent0).toArray) Tryz.underlying22 hi hz0 .i64 .i64 l c (by omega) (by omega) (by rw [hz2]; omega) (by omega)
 simp only [Int.toNat_natCast, hz1, Value.cells] at hr
 rw [made_segs] at hr
 exact hr
theorem run_copy_segs (w : World) (ty : TypeId) (g dCap : Nat) (a : Addr) (n sCap : Nat) (cur : List Value) (cs : List Value)
 (hg : Blk w g 37 cur.toArray) (hn : cs.length = n * 6) (hsrc : ∀ j v, cs[j]? = some v → w.cell? (a.add j) = some v) (hfit : cs.length = cur.length) (h1 : ∀ v ∈ cs, v.oneCell' = true) :
 (Builtin.copy_ #[22, 22] ty #[.slice (some ⟨g, 0, none⟩) n dCap, .slice (some a) n sCap]).run Tryz.prog w = .ok (goInt n) (w.setRow g cs.toArray) := by
 have hl := run_loadCells_list (P := Tryz.prog) w a cs hsrc
 have hst := run_storeCells_at Tryz.prog g 0 37 cs 0 cur.toArray w hg (by simp [hfit]) h1
 have e : (List.take (0 + 0) cur.toArray.toList ++ cs ++ List.drop (0 + 0 + cs.length) cur.toArray.toList).toArray = cs.toArray := by simp [hfit]
 rw [e] at hst
 obtain ⟨i0, hi, hz0, hz1, hz2⟩ := info_parts info_seg
 simp [Builtin.copy_, run_underlying (Tryz.underlying22), Builtin.lenOf, Builtin.firstCells, sizeOf, typeInfo, hi, hz1, ← hn, hl, hst]
section
variable {w : World} {ops : Array Oper} {rest : List Oper} {o : Oper} {a : Act} {Q : Exit → Act → World → Prop}
theorem wpList_make_segs (l c : Operand) (ho : o.op = .makeSlice 22 l c) (hgd : o.guard = none) (L C : Int) (l0 k : Nat) (hl : a.eval l = .int .i64 L) (hc : a.eval c = .int .i64 C) (hL : L = l0) (hC : C = k) (hlk : l0 ≤ k) (hk : k ≤ 1000000)
 (h : wpList Tryz.prog ops Q rest (a.put o.dst (.slice (some ⟨w.heap.size, 0, none⟩) l0 k)) (w.alloc (.cells (flatG (List.replicate k ent0)).toArray 37))) : wpList Tryz.prog ops Q (o :: rest) a w := by
 refine wpList_plain hgd fun K hK => ?_
 subst hL hC
 have hr := run_make_segs l0 k hlk hk w
 unfold Oper.wp
 simp [execOp, ho, hl, hc, hr, Result.andThen]
 exact hK _ _ h
theorem wpList_copy_segs (d s : Operand) (ho : o.op = .call { callee := .builtin .copy, args := #[d, s], argTypes := #[22, 22] }) (hgd : o.guard = none) (g dCap n sCap : Nat) (A : Option Addr) (hd : a.eval d = .slice (some ⟨g, 0, none⟩) n dCap) (hs : a.eval s = .slice A n sCap)
 (S : Nat → Prop) (xs ys : List Op6) (hr : RowE w S A n xs) (hg : ArrS w g ys) (hl : ys.length = n) (hpos : 0 < n)
 (h : wpList Tryz.prog ops Q rest (a.put o.dst (goInt n)) (w.setRow g (flatG xs).toArray)) : wpList Tryz.prog ops Q (o :: rest) a w := by
 refine wpList_plain hgd fun K hK => ?_
 obtain ⟨ad, rfl, hsrc⟩ := RowE_src hr hpos
 have hrun := run_copy_segs w o.type g dCap ad n sCap (flatG ys) (flatG xs) hg (by rw [flatG_length, hr.1]) hsrc (by rw [flatG_length, flatG_length, hl, hr.1]) (flatG_ones xs)
 unfold Oper.wp
 simp [execOp, ho, resolve, invoke, builtin, hd, hs, hrun, Result.andThen]
 exact hK _ _ h
theorem wpList_store_seg (x y : Operand) (ho : o.op = .store 37 x y) (hgd : o.guard = none) (g i : Nat) (s : Op6) (hx : a.eval x = .pointer (some ⟨g, i * 6, none⟩)) (hy : a.eval y = .agg (entV s).toArray)
 (L : List Op6) (hg : ArrS w g L) (hi : i < L.length) (h : wpList Tryz.prog ops Q rest (a.put o.dst undef) (w.setRow g (flatG (L.set i s)).toArray)) : wpList Tryz.prog ops Q (o :: rest) a w := by
 refine wpList_plain hgd fun K hK => ?_
 have hs := run_storeCells_at Tryz.prog g (i * 6) 37 (entV s) 0 (flatG L).toArray w hg (by simp [flatG_length]; omega) (ones_ent s)
 have he : (List.take (i * 6 + 0) (flatG L).toArray.toList ++ entV s ++ List.drop (i * 6 + 0 + (entV s).length) (flatG L).toArray.toList).toArray = (flatG (L.set i s)).toArray := by
  rw [flatG_set L i s hi]; rfl
 rw [he] at hs
 have hsz : ∀ w, (sizeOf 37).run Tryz.prog w = .ok 6 w := Tryz.sizeOf37
 have hrun : (Instr.storeAt 37 (.pointer (some ⟨g, i * 6, none⟩)) (.agg (entV s).toArray)).run Tryz.prog w = .ok () (w.setRow g (flatG (L.set i s)).toArray) := by
  simp only [Instr.storeAt, Instr.sureAddr, Sem.run_bind, Sem.run_pure, Result.andThen_ok, storeVar, hsz, Value.cells]
  simpa using hs
 unfold Oper.wp execOp
 simp only [ho, hx, hy, hrun, Sem.run_bind, Result.andThen_ok]
 exact hK _ _ h
end
theorem ArrS.setRow {w : World} {g : Nat} {L : List Op6} (h : ArrS w g L) (M : List Op6) : ArrS (w.setRow g (flatG M).toArray) g M := setRow_heap w g _ _ _ _ h
theorem ArrS.alloc {w : World} {g : Nat} {L : List Op6} (h : ArrS w g L) (o : Obj) : ArrS (w.alloc o) g L := Blk.alloc h o
theorem ArrS.below {w w' : World} {g B : Nat} {L : List Op6} (h : ArrS w g L) (hb : Below B w w') (hg : g < B) : ArrS w' g L := Blk.below h hb hg
theorem run_append_rowZ (w : World) (ty : TypeId) (base : Nat) (v : Value) (n : Nat) (P : List Value) (hown : w.ownsRow base 37 6 v n P)
 (S : Nat → Prop) (A : Option Addr) (m c : Nat) (ys : List Op6) (hr : RowE w S A m ys) (hnil : A = none → c = 0) (h63 : n + m ≤ 1000000) (hbase : base ≤ w.heap.size) :
 ∃ v' w', (Builtin.append_ #[22, 22] ty #[v, .slice A m c]).run Tryz.prog w = .ok v' w' ∧ w'.ownsRow base 37 6 v' (n + m) (P ++ flatG ys) ∧ w.grownBy w' v.ownBlock ∧ (v'.ownBlock = v.ownBlock ∨ v'.ownBlock = some w.heap.size) := by
 obtain ⟨i0, hi, hz0, hz1, hz2⟩ := info_parts info_seg
 have hl := hr.1
 rcases A with _ | ad
 ·have hm : m = 0 := by
   rcases Nat.eq_zero_or_pos m with h0 | h0
   ·exact h0
   ·obtain ⟨_, _, h1, _⟩ := hr.2 h0
    cases h1
  subst hm
  have hn : ys = [] := List.eq_nil_of_length_eq_zero hl
  subst hn
  rw [hnil rfl]
  exact ⟨v, w, run_append_owned_none (P := Tryz.prog) (w := w) base 22 ty 37 i0 6 Tryz.underlying22 hi v n P hown, by simpa [flatG] using hown, World.grownBy.refl w _, .inl rfl⟩
 ·obtain ⟨v', w', h1, h2, h3, _, h4⟩ := run_append_own_at (P := Tryz.prog) w base 22 ty 37 i0 (.agg (entV ent0).toArray) 6 48 Tryz.underlying22 hi hz0 hz1 hz2 (by simp [Value.cells]) (by omega) v n P hown ad m c (flatG ys) (by rw [flatG_length, hl])
   (fun j u hu => by
     have hm : 0 < m := by
      rcases Nat.eq_zero_or_pos m with h0 | h0
      ·have : ys = [] := List.eq_nil_of_length_eq_zero (by omega)
       subst this
       simp [flatG] at hu
      ·exact h0
     obtain ⟨ad', e, hc⟩ := RowE_src hr hm
     injection e with e
     subst e
     exact hc j u hu)
   (flatG_ones ys) (by unfold maxLen; omega) (by omega) hbase
  exact ⟨v', w', h1, h2, h3, h4⟩
theorem rowZ_own {w : World} {base : Nat} {v : Value} {n : Nat} {xs : List Op6} {P : List Value} (ho : w.ownsRow base 37 6 v n P) (hP : P = flatG xs) (hn : xs.length = n) :
 ∃ A cap, v = .slice A n cap ∧ n ≤ cap ∧ (A = none → cap = 0) ∧ RowE w (fun b => base ≤ b ∧ b < w.heap.size) A n xs := by
 subst hP
 have hlt := ho.lt
 rcases ho.2 with ⟨rfl, rfl⟩ | ⟨g, cap, cur, rfl, hg, hh, hnc, hc⟩
 ·exact ⟨none, 0, rfl, by omega, fun _ => rfl, hn, fun h => absurd h (by omega)⟩
 ·refine ⟨_, cap, rfl, hnc, (fun h => by cases h), hn, fun _ => ⟨g, 0, rfl, ⟨hg, (hlt g rfl).2⟩, fun i hi j v hv => ?_⟩⟩
  have hj : j < 6 := by have := (List.getElem?_eq_some_iff.1 hv).1; simpa using this
  have h1 := ho.cells (g := g) rfl (i * 6 + j) v (by rw [flatG_get xs _ (by omega), show (i * 6 + j) / 6 = i by omega, show (i * 6 + j) % 6 = j by omega]; exact hv)
  rw [add_plain] at h1
  rw [Nat.add_assoc]
  exact h1
section
variable {w : World} {ops : Array Oper} {rest : List Oper} {o : Oper} {a : Act} {Q : Exit → Act → World → Prop}
theorem wpList_append_rowZ (s x : Operand) (ho : o.op = .call { callee := .builtin .append, args := #[s, x], argTypes := #[22, 22] }) (hgd : o.guard = none)
 (base : Nat) (v : Value) (n : Nat) (P : List Value) (hs : a.eval s = v) (hown : w.ownsRow base 37 6 v n P)
 (S : Nat → Prop) (A : Option Addr) (m c : Nat) (ys : List Op6) (hx : a.eval x = .slice A m c) (hr : RowE w S A m ys) (hnil : A = none → c = 0) (h63 : n + m ≤ 1000000) (hbase : base ≤ w.heap.size)
 (h : ∀ v' w', w'.ownsRow base 37 6 v' (n + m) (P ++ flatG ys) → w.grownBy w' v.ownBlock → (v'.ownBlock = v.ownBlock ∨ v'.ownBlock = some w.heap.size) → wpList Tryz.prog ops Q rest (a.put o.dst v') w') :
 wpList Tryz.prog ops Q (o :: rest) a w := by
 obtain ⟨v', w', hrun, h2, h3, h4⟩ := run_append_rowZ w o.type base v n P hown S A m c ys hr hnil h63 hbase
 refine wpList_plain hgd fun K hK => ?_
 unfold Oper.wp execOp
 simp only [ho, resolve, invoke, builtin, Sem.run_bind, Sem.run_pure, Result.andThen_ok, List.map_toArray, List.map_cons, List.map_nil, hs, hx, hrun]
 exact hK _ _ (h v' w' h2 h3 h4)
theorem step_append_rowZ {K : Act → World → Prop} {E : Prop} (s x : Operand) (ho : o.op = .call { callee := .builtin .append, args := #[s, x], argTypes := #[22, 22] }) (hgd : o.guard = none)
 (base : Nat) (v : Value) (n : Nat) (P : List Value) (hs : a.eval s = v) (hown : w.ownsRow base 37 6 v n P)
 (S : Nat → Prop) (A : Option Addr) (m c : Nat) (ys : List Op6) (hx : a.eval x = .slice A m c) (hr : RowE w S A m ys) (hnil : A = none → c = 0) (h63 : n + m ≤ 1000000) (hbase : base ≤ w.heap.size)
 (h : ∀ v' w', w'.ownsRow base 37 6 v' (n + m) (P ++ flatG ys) → w.grownBy w' v.ownBlock → (v'.ownBlock = v.ownBlock ∨ v'.ownBlock = some w.heap.size) → K (a.put o.dst v') w') :
 if Region.wanted o (yielded ops a.tmps) = true then Oper.wp Tryz.prog o a w K Q else E := by
 obtain ⟨v', w', hrun, h2, h3, h4⟩ := run_append_rowZ w o.type base v n P hown S A m c ys hr hnil h63 hbase
 have hw : Region.wanted o (yielded ops a.tmps) = true := by simp [Region.wanted, hgd]
 rw [if_pos hw]
 unfold Oper.wp execOp
 simp only [ho, resolve, invoke, builtin, Sem.run_bind, Sem.run_pure, Result.andThen_ok, List.map_toArray, List.map_cons, List.map_nil, hs, hx, hrun]
 exact h v' w' h2 h3 h4
end
end Go.Proofs.YtknfblfnfoibkaaGreat.OpM

namespace Go.Proofs.YtknfblfnfoibkaaGreat
section
open Go.RowKit Go.ChangeShapes Go.WideShapes Go.Deep Go.Joins
def Op14In (o : OpM.Op6) : Prop := (0 ≤ o.q ∧ o.q ≤ 18446744073709551615) ∧ 0 ≤ o.x ∧ o.x ≤ 4294967295
structure IsOps14 (w : World) (A : Option Addr) (n c : Nat) (z : List OpM.Op6) : Prop where
 row : OpM.RowE w (· < w.heap.size) A n z
 nc : n ≤ c
 n63 : n ≤ 9223372036854775807
 nA : A = none → c = 0
 fin : ∀ i, i < n → Op14In (z.getD i OpM.ent0)
section
variable {H : Type} {enc : TypeId × Value → H} {w : World} {held : Bool}
theorem open_op_row14 {fuel : Nat} {l : List Value} {y : DataW H × List MemPlace} (hl6 : l.length = 6) (h : DataW.trod enc Tryz.prog w 0 (fun _ => true) held fuel 37 l = some y) :
 ∃ s : OpM.Op6, Op14In s ∧ l = OpM.entV s := by
 obtain ⟨ys, fu, _, _, _, hyl, hg⟩ := DataW.trod_struct Tryz.underlying37 h
 have hone : ∀ t, t = 3 ∨ t = 35 ∨ t = 34 → Tryz.prog.cellsOf t = 1 := by
  rintro t (rfl | rfl | rfl) <;> kernel_rfl
 have hy6 : ys.length = 6 := hyl
 match l, hl6 with
 | [v0, v1, v2, v3, v4, v5], _ =>
  have g0 : DataW.trod enc Tryz.prog w 0 (fun _ => true) held fu 3 (([v0, v1, v2, v3, v4, v5].drop 0).take (Tryz.prog.cellsOf 3)) = ys[0]? := hg 0 _ rfl
  have g1 : DataW.trod enc Tryz.prog w 0 (fun _ => true) held fu 3 (([v0, v1, v2, v3, v4, v5].drop 1).take (Tryz.prog.cellsOf 3)) = ys[1]? := hg 1 _ rfl
  have g2 : DataW.trod enc Tryz.prog w 0 (fun _ => true) held fu 3 (([v0, v1, v2, v3, v4, v5].drop 2).take (Tryz.prog.cellsOf 3)) = ys[2]? := hg 2 _ rfl
  have g3 : DataW.trod enc Tryz.prog w 0 (fun _ => true) held fu 3 (([v0, v1, v2, v3, v4, v5].drop 3).take (Tryz.prog.cellsOf 3)) = ys[3]? := hg 3 _ rfl
  have g4 : DataW.trod enc Tryz.prog w 0 (fun _ => true) held fu 34 (([v0, v1, v2, v3, v4, v5].drop 4).take (Tryz.prog.cellsOf 34)) = ys[4]? := hg 4 _ rfl
  have g5 : DataW.trod enc Tryz.prog w 0 (fun _ => true) held fu 35 (([v0, v1, v2, v3, v4, v5].drop 5).take (Tryz.prog.cellsOf 35)) = ys[5]? := hg 5 _ rfl
  simp only [hone _ (.inl rfl), hone _ (.inr (.inl rfl)), hone _ (.inr (.inr rfl)), List.drop_zero, List.drop_succ_cons, List.take_succ_cons, List.take_zero] at g0 g1 g2 g3 g4 g5
  rw [List.getElem?_eq_getElem (by omega)] at g0 g1 g2 g3 g4 g5
  obtain ⟨a0, e0, _, f0⟩ := DataW.trod_int Tryz.underlying3 g0
  injection e0 with e0 _
  obtain ⟨a1, e1, _, f1⟩ := DataW.trod_int Tryz.underlying3 g1
  injection e1 with e1 _
  obtain ⟨a2, e2, _, f2⟩ := DataW.trod_int Tryz.underlying3 g2
  injection e2 with e2 _
  obtain ⟨a3, e3, _, f3⟩ := DataW.trod_int Tryz.underlying3 g3
  injection e3 with e3 _
  obtain ⟨a4, e4, _, f4⟩ := DataW.trod_int Tryz.underlying34 g4
  injection e4 with e4 _
  obtain ⟨a5, e5, _, f5⟩ := DataW.trod_int Tryz.underlying35 g5
  injection e5 with e5 _
  subst e0 e1 e2 e3 e4 e5
  have i4 : 0 ≤ a4 ∧ a4 ≤ 18446744073709551615 := by simpa [Lit.wf, IntKind.min, IntKind.max, IntKind.signed, IntKind.bits] using f4
  have i5 : 0 ≤ a5 ∧ a5 ≤ 4294967295 := by simpa [Lit.wf, IntKind.min, IntKind.max, IntKind.signed, IntKind.bits] using f5
  exact ⟨⟨a0, a1, a2, a3, a4, a5⟩, ⟨i4, i5⟩, rfl⟩
theorem open_ops14 {t : TypeId} {fuel : Nat} {cs : List Value} {x : DataW H × List MemPlace} (ht : Tryz.prog.underlying t = some (.slice 37))
 (h : DataW.trod enc Tryz.prog w 0 (fun _ => true) held fuel t cs = some x) :
 ∃ a len cap zs, cs = [.slice a len cap] ∧ OpM.RowE w (· < w.heap.size) a len zs ∧ len ≤ cap ∧ len ≤ 9223372036854775807 ∧ (a = none → cap = 0) ∧ ∀ i, i < len → Op14In (zs.getD i OpM.ent0) := by
 have hc5 : Tryz.prog.cellsOf 37 = 6 := by kernel_rfl
 rcases open_slice ht h with ⟨rfl, _⟩ | ⟨a, len, cap, m, n, D, Pl, rfl, hb, hl, hm, hmm, rfl, hi⟩
 ·exact ⟨none, 0, 0, [], rfl, RowQ.nil _ _ _ _ _ _, nR _, by omega, fun _ => rfl, fun i hi => absurd hi (by omega)⟩
 ·simp only [if_true] at hmm
  subst hmm
  have key : ∀ i, i < m → ∃ z : OpM.Op6, Op14In z ∧ ∀ j, j < 6 → w.cell? (a.add (i * 6 + j)) = (OpM.entV z)[j]? := by
   intro i him
   obtain ⟨cs', hc, ht'⟩ := hi i him
   rw [hc5] at hc
   obtain ⟨_, hcl, hat⟩ := World.cells?_some hc
   obtain ⟨z, hzp, rfl⟩ := open_op_row14 hcl ht'
   refine ⟨z, hzp, fun j hj => ?_⟩
   have h1 := hat j hj
   rw [Go.Deep.add_add] at h1
   exact h1
  have : ∀ k, k ≤ m → ∃ zs : List OpM.Op6, zs.length = k ∧ ∀ i, i < k → Op14In (zs.getD i OpM.ent0) ∧ ∀ j, j < 6 → w.cell? (a.add (i * 6 + j)) = (OpM.entV (zs.getD i OpM.ent0))[j]? := by
   intro k
   induction k with
   | zero => intro _; exact ⟨[], rfl, fun i hi => by omega⟩
   | succ k ih =>
    intro hk
    obtain ⟨zs, hzl, hz⟩ := ih (by omega)
    obtain ⟨z, h1, h2⟩ := key k (by omega)
    refine ⟨zs ++ [z], by simp [hzl], fun i hi => ?_⟩
    by_cases e : i < k
    ·have e2 : (zs ++ [z]).getD i OpM.ent0 = zs.getD i OpM.ent0 := by simp [List.getD, List.getElem?_append_left (show i < zs.length by omega)]
     rw [e2]
     exact hz i e
    ·obtain rfl : i = k := by omega
     have e2 : (zs ++ [z]).getD i OpM.ent0 = z := by simp [List.getD, List.getElem?_append_right (show zs.length ≤ i by omega), hzl]
     rw [e2]
     exact ⟨h1, h2⟩
  obtain ⟨zs, hzl, hz⟩ := this m (nR _)
  have hget : ∀ i, i < len → (zs.take len).getD i OpM.ent0 = zs.getD i OpM.ent0 := fun i hi => by simp [List.getD, List.getElem?_take, hi]
  refine ⟨some a, len, m, zs.take len, rfl, ⟨by simp; omega, fun hn => ?_⟩, hl, by have := hm; unfold maxLen at this; omega, (by intro h; cases h), fun i hi => by rw [hget i hi]; exact (hz i (by omega)).1⟩
  obtain ⟨b, off, spot⟩ := a
  have h0 := (hz 0 (by omega)).2 0 (by omega)
  have h0' : w.cell? ⟨b, off, spot⟩ = some (.int .i64 (zs.getD 0 OpM.ent0).1) := by simpa [Addr.add] using h0
  have hspot : spot = none := World.cell?_spot h0'
  subst hspot
  refine ⟨b, off, rfl, block_lt_of_cell h0', fun i hi j v hv => ?_⟩
  rw [hget i hi] at hv
  have hj : j < 6 := by have := (List.getElem?_eq_some_iff.1 hv).1; simpa using this
  have h2 := (hz i (by omega)).2 j hj
  rw [add_plain] at h2
  rw [Nat.add_assoc, h2, hv]
end
end
end Go.Proofs.YtknfblfnfoibkaaGreat
