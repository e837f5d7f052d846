/- Texts of StoreApart, packed. -/
import Derived.Test.YtknfblfnfoibkaaGreatPackStoreApart11
import Derived.Defers
set_option linter.unusedVariables false
set_option linter.unusedSimpArgs false
set_option maxRecDepth 100000
set_option maxHeartbeats 16000000
namespace Go.Proofs.YtknfblfnfoibkaaGreat
section
open Go.RowKit
attribute [local go_sem] Oper.semAt_some
abbrev lk0 : Oper := ⟨some 12, .fieldAddr 112 (.tmp 2) 1, 0, "store.go:257", #[], none⟩
abbrev lk1 : Oper := ⟨some 13, .load 108 (.tmp 12), 108, "store.go:257", #[⟨0, .data⟩], none⟩
abbrev lk2 : Oper := ⟨some 14, .move (.tmp 1), 40, "store.go:257", #[], none⟩
abbrev lk3 : Oper := ⟨some 15, .call { callee := .value (.func 96), args := #[.tmp 14], argTypes := #[40] }, 35, "store.go:257", #[⟨2, .data⟩], none⟩
abbrev lk4 : Oper := ⟨some 16, .call { callee := .value (.func 95), args := #[.tmp 13, .tmp 15], argTypes := #[108, 35] }, 171, "store.go:257", #[⟨1, .data⟩, ⟨3, .data⟩, ⟨3, .chain⟩], none⟩
abbrev lk5 : Oper := ⟨some 17, .call { callee := .builtin Go.Builtin.len, args := #[.tmp 16], argTypes := #[171] }, 3, "store.go:257", #[⟨4, .data⟩], none⟩
abbrev lk6 : Oper := ⟨some 18, .move (.const (.int .i64 0)), 3, "store.go:257", #[], none⟩
section
variable {w : World} {Y : Nat → Prop} {l p d n x slots : Nat} {s : Sup} {t : Int} {k : Dk} {xs : List Seg} {pe : Nat} {st : List EntS} {A : Option Addr} {m c : Nat} {us : List Int}
def LookT (w : World) (Y : Nat → Prop) (l p d n : Nat) (s : Sup) (t : Int) (k : Dk) (xs : List Seg) (pe : Nat) (st : List EntS) (us : List Int) (e : Ending) (w' : World) : Prop :=
 (∃ k', LgM w' Y l p d n s t k' xs pe ∧ k'.held = k.held) ∧ Kept Y w w' ∧
 ((hasS st us = none ∧ e = .returned (.tuple #[.agg ent0C, .int .i64 0])) ∨
  ∃ q b1 b2, hasS st us = some q ∧ e = .returned (.tuple #[.agg (entC' q b1 b2), .int .i64 0]) ∧ w.heap.size ≤ b1 ∧ w.heap.size ≤ b2 ∧ b1 ≠ b2 ∧ ArrU w' b1 (keyOf q.2) ∧ ArrU w' b2 (valOf q.2))
theorem look_any (hl : LgM w Y l p d n s t k xs pe) (hY : ∀ b, Y b → b < w.heap.size) (hx : IxE w x slots (esS st)) (hxY : Y x) (hinv : InvS k s xs st) (hk : RowI .u8 w Y A m us) (hb : Bytes us) (hm : m ≤ 1000000) :
 Calls Tryz.prog 57 #[.agg #[.pointer (some ⟨l, 0, none⟩), .pointer (some ⟨x, 0, none⟩)], .slice A m c] w (LookT w Y l p d n s t k xs pe st us) := by
 obtain ⟨w1, hw1⟩ : ∃ w1, w1 = ((w.alloc (.cells #[.pointer (some ⟨l, 0, none⟩), .pointer (some ⟨x, 0, none⟩)] 112)).alloc (.cells ent0C 125)).alloc (.cells ent0C 125) := ⟨_, rfl⟩
 have hb1 : Below w.heap.size w w1 := by rw [hw1]; exact (((Below.refl _ w).alloc (nR _) _).alloc (by simp) _).alloc (by simp; omega) _
 have hz1 : w1.heap.size = w.heap.size + 3 := by rw [hw1]; simp
 have HS1 := hI (show Blk w1 w.heap.size 112 #[.pointer (some ⟨l, 0, none⟩), .pointer (some ⟨x, 0, none⟩)] by rw [hw1]; exact ((Blk.new w _ _).alloc _).alloc _)
 have HR1 := hI (show Blk w1 (w.heap.size + 1) 125 ent0C by rw [hw1]; exact (blk_new2 w _ _ _).alloc _)
 have HE1 := hI (show Blk w1 (w.heap.size + 1 + 1) 125 ent0C by rw [hw1]; exact blk_new3 w _ _ _ _)
 have HB1 := hI hb1
 have HZ1 := hI hz1
 have HX1 := hI (hx.below hb1 hx.lt)
 have HLT := hI hx.lt
 have HK1 := hI (hk.below hb1 hY)
 have HL := hI hl
 have HYY := hI hY
 have HXY := hI hxY
 have HI := hI hinv
 have HBY := hI hb
 have HM := hI hm
 have HW1 := hI hw1
 clear hb1 hz1 hw1 hl hY hx hxY hinv hk hb hm
 go_enter Tryz.func57, Tryz.ntmps57
 go_wp2_with fail
 go_step3
 go_wp2_with fail
 go_step3
 go_upto_region 3 with fail
 rw [← HW1.out]
 have c1 := HS1.out.cell 1
 refine Tillst.region (fun W => Below w1.heap.size w1 W) [] (by kernel_rfl) ((Below.refl _ _).drew) (fun hė => ?_)
 generalize w1.drew = vd at *
 refine Tillst.tk 0 lk0 (v := ?_) rfl (by kernel_rfl) (by rfl) ?_ hė ?_
 rotate_left
 ·intro W hSW; (try dsimp only at hSW); unfold lk0; go_simp; with_reducible rfl
 simp only [lk0, Act.put, sA, sZ, sS]
 refine Tillst.tk 1 lk1 (v := ?_) rfl (by kernel_rfl) (by rfl) ?_ hė ?_
 rotate_left
 ·intro W hSW; have h9 := (HS1.out.below hSW HS1.out.lt).cell 1; clear hSW; unfold lk1; go_simp; with_reducible rfl
 simp only [lk1, Act.put, sA, sZ, sS]
 refine Tillst.tk 2 lk2 (v := ?_) rfl (by kernel_rfl) (by rfl) ?_ hė ?_
 rotate_left
 ·intro W hSW; (try dsimp only at hSW); unfold lk2; go_simp; with_reducible rfl
 simp only [lk2, Act.put, sA, sZ, sS]
 refine Tillst.tk 6 lk6 (v := ?_) rfl (by kernel_rfl) (by rfl) ?_ hė ?_
 rotate_left
 ·intro W hSW; (try dsimp only at hSW); unfold lk6; go_simp; with_reducible rfl
 simp only [lk6, Act.put, sA, sZ, sS]
 refine Tillst.one (i := 3) (o := lk3) (by kernel_rfl) rfl ?_
 intro K hK
 refine step_call 96 #[.tmp 14] #[40] rfl rfl Tryz.func96 rfl rfl [.slice A m c] rfl ((finger_key A m c us vd (HK1.out.below hė (fun b h => nL (HYY.out b h) HB1.out.size)) (fun b h => nL (HYY.out b h) (nT HB1.out.size hė.size)) HBY.out HM.out).mono ?_)
 rintro e w2 ⟨rfl, rfl⟩
 refine ⟨_, rfl, ?_⟩
 simp only [lk3, Act.put, sA, sZ, sS]
 refine hK.out _ _ (fun _ => hė) (fun hė => ?_)
 replace hė := hė (by decide)
 clear hK K
 have HW12 := hI hė.size
 refine Tillst.one (i := 4) (o := lk4) (by kernel_rfl) rfl ?_
 intro K hK
 refine step_call 95 #[.tmp 13, .tmp 15] #[108, 35] rfl rfl Tryz.func95 rfl rfl [.pointer (some ⟨x, 0, none⟩), .int .u32 (fingK us : Nat)] rfl ((find_ix (HX1.out.below hė (nL HLT.out HB1.out.size)) (fingK us)).mono ?_)
 rintro e w3 ⟨⟨v, rfl, hown⟩, hb3⟩
 rw [es_find, List.length_map] at hown
 obtain ⟨A3, c3, e9, hAn, hAc, hrow⟩ := Adr.rowZ_own hown rfl (List.length_map _)
 subst e9
 refine ⟨_, rfl, ?_⟩
 simp only [lk4, Act.put, sA, sZ, sS]
 have hb13 := hė.trans (hb3.mono hė.size)
 refine hK.out _ _ (fun _ => hb13) (fun hė => ?_)
 replace hė := hė (by decide)
 clear hK K
 refine Tillst.tk 5 lk5 (v := ?_) rfl (by kernel_rfl) (by rfl) ?_ hė ?_
 rotate_left
 ·intro W hSW; (try dsimp only at hSW); unfold lk5; go_simp; with_reducible rfl
 simp only [lk5, Act.put, sA, sZ, sS]
 refine Tillst.done (by kernel_rfl) ?_ _
 have HLL := hI (show (ofF st us).length ≤ 1024 by
  have h1 := HX1.out.len
  have h2 : (ofF st us).length ≤ st.length := by unfold ofF; rw [List.length_reverse]; exact List.length_filter_le _ _
  unfold esS at h1
  rw [List.length_map] at h1
  omega)
 have HB3 := hI (HB1.out.trans (hė.mono HB1.out.size))
 have HSZ := hI (And.intro hė.size hb3.size)
 have HR3 := hI hrow
 have HG3 := hI (HL.out.grow HB3.out)
 have HS3 := hI (HS1.out.below hė HS1.out.lt)
 have HRE3 := hI (HR1.out.below hė HR1.out.lt)
 have HE3 := hI (HE1.out.below hė HE1.out.lt)
 have HK3 := hI (HK1.out.below hė (fun b h => nL (HYY.out b h) HB1.out.size))
 have HYL := hI (show ∀ p, p ∈ ofF st us → p ∈ st from fun p hp => (mem_ofF.1 hp).1)
 have HNO := hI (fun h => none_ofF (st := st) (us := us) h)
 obtain ⟨L, hL⟩ : ∃ L, ofF st us = L := ⟨_, rfl⟩
 rw [hL] at HLL HR3 HYL HNO
 rw [hL]
 obtain ⟨Y1, hY1⟩ : ∃ Y1 : Nat → Prop, (fun b => Y b ∨ (w.heap.size ≤ b ∧ b < w3.heap.size)) = Y1 := ⟨_, rfl⟩
 rw [hY1] at HG3
 have HYD := hI (show ∀ b, Y1 b ↔ (Y b ∨ (w.heap.size ≤ b ∧ b < w3.heap.size)) by intro b; rw [← hY1])
 have HSW := hI (show w1.heap.size ≤ w2.heap.size from HW12.out)
 clear hė hb3 hb13 hrow hown hAn hAc hL hY1 c1 HS1 HR1 HE1 HK1 HX1
 go_wp2_with fail
 go_loopw [7, 18] (fun er i wr => ∃ j : Nat, j ≤ L.length ∧ i = .int .i64 j ∧ er = .int .i64 0 ∧ (∃ kj, LgM wr Y1 l p d n s t kj xs pe ∧ kj.held = k.held) ∧ Kept Y1 w3 wr ∧ ∀ q, q ∈ L.take j → keyOf q.2 ≠ us) (fun _ i _ => L.length - (intOf i).toNat)
 case atStart => exact ⟨0, by omega, rfl, rfl, ⟨k, HG3.out, rfl⟩, Kept.refl _ _, by simp⟩
 case round =>
  obtain ⟨j, hj, rfl, rfl, ⟨kj, hlg, hkj⟩, hkp, hno⟩ := hrel
  have HLG := hI hlg
  have HKJ := hI hkj
  have HKP := hI hkp
  have HNJ := hI hno
  clear hlg hkj hkp hno
  by_cases hlt : j < L.length
  ·obtain ⟨q, hq⟩ : ∃ q, L[j]? = some q := ⟨_, List.getElem?_eq_getElem hlt⟩
   have hrow := HR3.out.kept HKP.out (fun b hb => (HYD.out b).2 (.inr ⟨by have := HB1.out.size; have := HSW.out; have := hb.1; omega, hb.2⟩))
   obtain ⟨b, off, rfl, hbS, hc⟩ := hrow.2 (by omega)
   have hc2 := hc j hlt
   rw [show (L.map (fun x => x.1)).getD j seg0 = q.1 by simp [List.getD, hq]] at hc2
   have a0 : wr.cell? ⟨b, off + j * 3, none⟩ = some (.int .i64 q.1.1) := hc2 0 _ rfl
   have a1 := hc2 1 _ rfl
   have a2 := hc2 2 _ rfl
   clear hc hc2 hrow HR3
   obtain ⟨w4, hw4⟩ : ∃ w4, w4 = wr.alloc (.cells #[.int .i64 q.1.1, .int .u64 q.1.2.1, .int .i64 q.1.2.2] 67) := ⟨_, rfl⟩
   have hb4 : Below wr.heap.size wr w4 := by rw [hw4]; exact (Below.refl _ wr).alloc (nR _) _
   have HA4 := hI (show Blk w4 wr.heap.size 67 #[.int .i64 q.1.1, .int .u64 q.1.2.1, .int .i64 q.1.2.2] by rw [hw4]; exact Blk.new wr _ _)
   have HY1 := hI (show ∀ b, Y1 b → b < wr.heap.size from fun b hb => by
    have h1 := HKP.out.size
    have h2 := HB3.out.size
    rcases (HYD.out b).1 hb with h | h
    ·have := HYY.out b h; omega
    ·omega)
   have HLG4 := hI (HLG.out.grow hb4)
   have HW4 := hI hw4
   have HB4 := hI hb4
   have HQ := hI (HYL.out q (List.mem_of_getElem? hq))
   have HS4 := hI ((HS3.out.kept HKP.out ((HYD.out _).2 (.inr ⟨nR _, HS3.out.lt⟩))).below hb4 (by have := HKP.out.size; have := HS3.out.lt; omega))
   have s0 := HS4.out.cell 0
   have hat := (HI.out.here q HQ.out).held HKJ.out
   have HRD := hI (read_at HLG4.out (fun b hb => by
    rcases hb with h | h
    ·exact nL (HY1.out b h) hb4.size
    ·exact h.2) hat)
   unfold adrW at HRD
   clear hw4 hb4 hat
   go_upto_region 6 with fail
   rw [← HW4.out]
   clear a0 a1 a2
   have a0 := HA4.out.cell 0
   have a1 := HA4.out.cell 1
   have a2 := HA4.out.cell 2
   go_wp2_with fail
   refine HRD.out.mono ?_
   rintro e w5 ⟨b1, b2, k5, rfl, hb1, hb2, hb12, hr1, hr2, hlg5, hk5, hkp5⟩
   have HR51 := hI hr1
   have HR52 := hI hr2
   have HBB := hI (And.intro hb1 (And.intro hb2 hb12))
   have HLG5 := hI (hlg5.less (X := Y1) (fun b h => .inl h))
   have HKH5 := hI (hk5.trans HKJ.out)
   have HKP5 := hI (((HKP.out.trans (Kept.of_below HB4.out HY1.out) (fun b h => h))).trans hkp5 (fun b h => .inl h))
   have HA5 := hI (HA4.out.kept hkp5 (.inr ⟨nR _, HA4.out.lt⟩))
   have HSZ5 := hI (And.intro HB4.out.size hkp5.size)
   clear hr1 hr2 hb1 hb2 hb12 hlg5 hk5 hkp5 a0 a1 a2 s0 HRD
   obtain ⟨w6, hw6⟩ : ∃ w6, w6 = (w5.alloc (.cells zeroC 69)).setRow w5.heap.size (recT9 q.2 b1 b2) := ⟨_, rfl⟩
   have HBN := hI (Blk.new w5 69 zeroC)
   have hb6 : Below w5.heap.size w5 w6 := by rw [hw6]; exact Kept.to_below (((Kept.refl (fun b => b < w5.heap.size) w5).alloc (fun b h => h) _).setRow (fun h => by omega) _) (fun b h => h)
   have HR6 := hI (show Blk w6 w5.heap.size 69 (recT9 q.2 b1 b2) by rw [hw6]; exact setRow_heap _ _ _ _ _ _ HBN.out)
   have HW6 := hI hw6.symm
   have HB6 := hI hb6
   clear hw6 hb6
   have r0 : w6.cell? ⟨w5.heap.size, 0, none⟩ = some (.int .i64 1) := by
    have h9 := HR6.out.cell 0
    rw [show (recT9 q.2 b1 b2)[0]? = some (.int .i64 (kindOf q.2)) from rfl, HI.out.kind q HQ.out] at h9
    exact h9
   have r4 : w6.cell? ⟨w5.heap.size, 4, none⟩ = some (.slice (some ⟨b1, 0, none⟩) (klenOf q.2) (klenOf q.2)) := HR6.out.cell 4
   have HRO := hI ((HI.out.here q HQ.out).rok)
   have hkl : (keyOf q.2).length = klenOf q.2 := by
    have h1 := HRO.out.need
    unfold needOf at h1
    unfold keyOf
    rw [List.length_take, List.length_drop]
    omega
   have HKB := hI (show Bytes (keyOf q.2) by unfold keyOf; exact bytes_part HRO.out.byt 21 _)
   have HK6 := hI ((HK3.out.kept HKP5.out (fun b hb => (HYD.out b).2 (.inl hb))).below HB6.out (fun b hb => by
    have h1 := HY1.out b ((HYD.out b).2 (.inl hb))
    have h2 := HSZ5.out
    omega))
   have HKY6 := hI (show RowI .u8 w6 (fun b => b = b1) (some ⟨b1, 0, none⟩) (klenOf q.2) (keyOf q.2) by
    have h9 := Blk.below HR51.out HB6.out (Blk.lt HR51.out)
    exact (Arr.rowN (S := fun b => b = b1) h9 0 (n := klenOf q.2) hkl rfl))
   have HKL := hI hkl
   have HYX := hI (show ∀ b, Y b → b < w6.heap.size from fun b hb => by
    have h1 := HY1.out b ((HYD.out b).2 (.inl hb))
    have h2 := HSZ5.out
    have h3 := HB6.out.size
    omega)
   have HB16 := hI (show b1 < w6.heap.size from nL (Blk.lt HR51.out) HB6.out.size)
   clear hkl
   go_wp2_with (refine wpList_store_rowB (.tmp 10) (.tmp 27) 69 rfl rfl w5.heap.size (recT9 q.2 b1 b2) rfl rfl 69 _ HBN.out size_rec rfl (one_rec _ _ _ _ _ _ _ _ _ _) ?_; rw [HW6.out])
   clear r0 r4
   by_cases hkey : keyOf q.2 = us
   ·have HKEY := hI hkey
    have HEQ := hI (show Calls Tryz.prog 34 #[.slice (some ⟨b1, 0, none⟩) (klenOf q.2) (klenOf q.2), .slice A m c] w6 (fun e w' => e = .returned (.bool true) ∧ w6 = w') by
     have hm : klenOf q.2 = m := by rw [← HKL.out, hkey]; exact HK6.out.1
     have h1 := HKY6.out
     rw [hm, hkey] at h1
     rw [hm]
     exact equal_yes _ A m m c us _ _ w6 h1 HK6.out (fun b h => by rw [h]; exact HB16.out) HYX.out HBY.out)
    clear hkey
    refine HEQ.out.mono ?_
    rintro e w7 ⟨rfl, rfl⟩
    clear HEQ
    have HA6 := hI (HA5.out.below HB6.out HA5.out.lt)
    have HE6 := hI ((HE3.out.kept HKP5.out ((HYD.out _).2 (.inr ⟨by omega, HE3.out.lt⟩))).below HB6.out (by have := HKP5.out.size; have := HE3.out.lt; omega))
    have HRE6 := hI ((HRE3.out.kept HKP5.out ((HYD.out _).2 (.inr ⟨by omega, HRE3.out.lt⟩))).below HB6.out (by have := HKP5.out.size; have := HRE3.out.lt; omega))
    have a0 := HA6.out.cell 0
    have a1 := HA6.out.cell 1
    have a2 := HA6.out.cell 2
    obtain ⟨w7, hw7⟩ : ∃ w7, w7 = w6.setRow (w.heap.size + 1 + 1) (entC' q b1 b2) := ⟨_, rfl⟩
    have hk7 : Kept (fun b => b ≠ w.heap.size + 1 + 1) w6 w7 := by rw [hw7]; exact (Kept.refl _ _).setRow (fun h => h rfl) _
    have HE7 := hI (show Blk w7 (w.heap.size + 1 + 1) 125 (entC' q b1 b2) by rw [hw7]; exact setRow_heap _ _ _ _ _ _ HE6.out)
    have HRE7 := hI (HRE6.out.kept hk7 (by omega))
    have HK7 := hI hk7
    have HW7 := hI hw7.symm
    clear hk7 hw7
    go_wp2_with (first
     | (refine wpList_load_rowB (.tmp 10) 69 rfl rfl w5.heap.size rfl 69 [.int .i64 (kindOf q.2), .int .u32 (flagsOf q.2), .int .u32 (expOf q.2), .int .u64 (seqOf q.2), .slice (some ⟨b1, 0, none⟩) (klenOf q.2) (klenOf q.2), .slice (some ⟨b2, 0, none⟩) (vlenOf q.2) (vlenOf q.2)] _ Tryz.underlying69 rfl size_rec HR6.out ?_)
     | (refine wpList_store_rowB (.tmp 6) (.tmp 53) 125 rfl rfl (w.heap.size + 1 + 1) (entC' q b1 b2) rfl rfl 125 _ HE6.out size_entry rfl (one_ent _ _ _) ?_; rw [HW7.out])
     | (refine wpList_load_rowB (.tmp 6) 125 rfl rfl (w.heap.size + 1 + 1) rfl 125 [.bool true, .int .i64 q.1.1, .int .u64 q.1.2.1, .int .i64 q.1.2.2, .int .i64 (kindOf q.2), .int .u32 (flagsOf q.2), .int .u32 (expOf q.2), .int .u64 (seqOf q.2), .slice (some ⟨b1, 0, none⟩) (klenOf q.2) (klenOf q.2), .slice (some ⟨b2, 0, none⟩) (vlenOf q.2) (vlenOf q.2)] _ Tryz.underlying125 rfl size_entry HE7.out ?_)
     | (refine wpList_store_rowB (.tmp 4) (.tmp 55) 125 rfl rfl (w.heap.size + 1) (entC' q b1 b2) rfl rfl 125 _ HRE7.out size_entry rfl (one_ent _ _ _) ?_)
     | (with_reducible refine halt_end ?_))
    rw [Exit.noGoto_ret]
    have hw3 := HKP.out.size
    have hz1 := HZ1.out
    have hz2 := HSZ.out
    have hz5 := HSZ5.out
    have hbb := HBB.out
    have hk8 := (Kept.refl (fun b => b ≠ w.heap.size + 1) w7).setRow (fun h => h rfl) (entC' q b1 b2)
    have hke : Kept (fun b => b ≠ w.heap.size + 1 + 1 ∧ b ≠ w.heap.size + 1) w6 (w7.setRow (w.heap.size + 1) (entC' q b1 b2)) := HK7.out.mono (S := fun b => b ≠ w.heap.size + 1 + 1 ∧ b ≠ w.heap.size + 1) (fun b h => h.1) |>.trans hk8 (fun b h => h.2)
    refine bodyPost_ret (results_row2 (p := 4) (u := 5) rfl _ _ (w.heap.size + 1) 125 (entC' q b1 b2) _ rfl (setRow_heap _ _ _ _ _ _ HRE7.out) Tryz.underlying125 rfl size_entry) rfl ⟨⟨k5, ?_, HKH5.out⟩, ?_, .inr ⟨q, b1, b2, ?_, rfl, by omega, by omega, hbb.2.2, ?_, ?_⟩⟩
    ·refine ((HLG5.out.below HB6.out).off hke (fun b hb hn => ⟨fun e => ?_, fun e => ?_⟩)).less (fun b hb => (HYD.out b).2 (.inl hb))
     ·exact hn ((HYD.out b).2 (.inr ⟨by omega, by omega⟩))
     ·exact hn ((HYD.out b).2 (.inr ⟨by omega, by omega⟩))
    ·have h1 : Kept Y w w3 := Kept.of_below HB3.out HYY.out
     have h2 := h1.trans HKP5.out (fun b hb => (HYD.out b).2 (.inl hb))
     have h3 := h2.trans (Kept.of_below (S := Y) HB6.out (fun b hb => by have := HYY.out b hb; have := HB3.out.size; omega)) (fun b hb => hb)
     exact h3.trans hke (fun b hb => ⟨by have := HYY.out b hb; omega, by have := HYY.out b hb; omega⟩)
    ·rw [← HKEY.out]; exact has_of HI.out HQ.out
    ·exact Blk.kept (Blk.below HR51.out HB6.out (Blk.lt HR51.out)) hke ⟨by omega, by omega⟩
    ·exact Blk.kept (Blk.below HR52.out HB6.out (Blk.lt HR52.out)) hke ⟨by omega, by omega⟩
   ·have HKEY := hI hkey
    have HEQ := hI (equal_no (some ⟨b1, 0, none⟩) A (klenOf q.2) m (klenOf q.2) c (keyOf q.2) us _ _ w6 HKY6.out HK6.out (fun b h => by rw [h]; exact HB16.out) HYX.out HKB.out HBY.out hkey)
    clear hkey
    refine HEQ.out.mono ?_
    rintro e w7 ⟨rfl, rfl⟩
    clear HEQ
    go_wp2_with fail
    go_roundw
    case rel =>
     have h9 := HLL.out
     refine ⟨j + 1, by omega, by rw [IntWalk.wrap64_in _ (by omega)]; rfl, rfl, ⟨k5, HLG5.out.below HB6.out, HKH5.out⟩, HKP5.out.trans (Kept.of_below (S := Y1) HB6.out (fun b hb => by have h1 := HY1.out b hb; have h2 := HSZ5.out; omega)) (fun b h => h), fun y hy => ?_⟩
     rw [List.take_add_one, hq] at hy
     rcases List.mem_append.1 hy with h | h
     ·exact HNJ.out y h
     ·have e : y = q := by simpa [eq_comm] using h
      rw [e]; exact HKEY.out
    case measure =>
     have h9 := HLL.out
     rw [IntWalk.wrap64_in _ (by omega)]
     simp only [intOf]
     omega
  ·obtain rfl : j = L.length := by omega
   rw [List.take_of_length_le (nR _)] at HNJ
   have hw3 := HKP.out.size
   have hz1 := HZ1.out
   have hz2 := HSZ.out
   have HEr := hI (HE3.out.kept HKP.out ((HYD.out _).2 (.inr ⟨by omega, HE3.out.lt⟩)))
   have HREr := hI (HRE3.out.kept HKP.out ((HYD.out _).2 (.inr ⟨by omega, HRE3.out.lt⟩)))
   go_wp2_with (first
    | (refine wpList_load_rowB (.tmp 6) 125 rfl rfl (w.heap.size + 1 + 1) rfl 125 ent0C.toList _ Tryz.underlying125 rfl size_entry HEr.out ?_)
    | (refine wpList_store_rowB (.tmp 4) (.tmp 55) 125 rfl rfl (w.heap.size + 1) ent0C rfl rfl 125 _ HREr.out size_entry rfl one_ent0 ?_)
    | (with_reducible refine halt_end ?_))
   rw [Exit.noGoto_ret]
   have hk8 := (Kept.refl (fun b => b ≠ w.heap.size + 1) wr).setRow (fun h => h rfl) ent0C
   refine bodyPost_ret (results_row2 (p := 4) (u := 5) rfl _ _ (w.heap.size + 1) 125 ent0C _ rfl (setRow_heap _ _ _ _ _ _ HREr.out) Tryz.underlying125 rfl size_entry) rfl ⟨⟨kj, ?_, HKJ.out⟩, ?_, .inl ⟨HNO.out HNJ.out, rfl⟩⟩
   ·refine (HLG.out.off hk8 (fun b hb hn => fun e => ?_)).less (fun b hb => (HYD.out b).2 (.inl hb))
    exact hn ((HYD.out b).2 (.inr ⟨by omega, by omega⟩))
   ·have h1 : Kept Y w w3 := Kept.of_below HB3.out HYY.out
    have h2 := h1.trans HKP.out (fun b hb => (HYD.out b).2 (.inl hb))
    exact h2.trans hk8 (fun b hb => by have := HYY.out b hb; omega)
end
end
section
open Go.RowKit
attribute [local go_sem] Oper.semAt_some
abbrev vo0 : Oper := ⟨some 5, .fieldAddr 69 (.tmp 3) 3, 0, "store.go:319", #[], none⟩
abbrev vo1 : Oper := ⟨some 6, .load 34 (.tmp 5), 34, "store.go:319", #[⟨0, .data⟩], none⟩
abbrev vo2 : Oper := ⟨some 7, .move (.tmp 0), 28, "store.go:319", #[], none⟩
abbrev vo3 : Oper := ⟨some 8, .nilCheck (.tmp 7), 0, "store.go:319", #[⟨2, .data⟩], none⟩
abbrev vo4 : Oper := ⟨some 9, .fieldAddr 115 (.tmp 8) 0, 0, "store.go:319", #[⟨3, .data⟩], none⟩
abbrev vo5 : Oper := ⟨some 10, .fieldAddr 112 (.tmp 9) 0, 0, "store.go:319", #[⟨4, .data⟩], none⟩
abbrev vo6 : Oper := ⟨some 11, .load 25 (.tmp 10), 25, "store.go:319", #[⟨5, .data⟩], none⟩
abbrev vo7 : Oper := ⟨some 12, .call { callee := .value (.func 31), args := #[.tmp 11], argTypes := #[25] }, 63, "store.go:319", #[⟨6, .data⟩], none⟩
abbrev vo8 : Oper := ⟨some 13, .call { callee := .value (.func 67), args := #[.tmp 12], argTypes := #[63] }, 136, "store.go:319", #[⟨7, .data⟩, ⟨7, .chain⟩], none⟩
abbrev vo9 : Oper := ⟨some 14, .field 136 (.tmp 13) 5, 34, "store.go:319", #[⟨8, .data⟩], none⟩
abbrev vo10 : Oper := ⟨some 15, .binOp Go.BinOp.leq 34 (.tmp 6) (.tmp 14) 34, 4, "store.go:319", #[⟨1, .data⟩, ⟨9, .data⟩], none⟩
abbrev vo11 : Oper := ⟨some 4, .assign (.tmp 15), 4, "store.go:319", #[⟨10, .data⟩, ⟨8, .chain⟩, ⟨0, .phase⟩, ⟨1, .phase⟩, ⟨2, .phase⟩, ⟨3, .phase⟩, ⟨4, .phase⟩, ⟨5, .phase⟩, ⟨6, .phase⟩, ⟨7, .phase⟩, ⟨8, .phase⟩, ⟨9, .phase⟩, ⟨10, .phase⟩], none⟩
abbrev itmV (A : Option Addr) (n c : Nat) (B : Option Addr) (m d : Nat) (f x s : Int) (dy : Bool) : Value := .agg #[.slice A n c, .slice B m d, .int .u32 f, .int .u32 x, .int .u64 s, .bool dy]
abbrev itm0C : Array Value := #[.slice none 0 0, .slice none 0 0, .int .u32 0, .int .u32 0, .int .u64 0, .bool false]
abbrev itmC (bs : List Int) (b1 b2 : Nat) : Array Value := #[.slice (some ⟨b1, 0, none⟩) (klenOf bs) (klenOf bs), .slice (some ⟨b2, 0, none⟩) (vlenOf bs) (vlenOf bs), .int .u32 (flagsOf bs), .int .u32 (expOf bs), .int .u64 (seqOf bs), .bool false]
theorem size_itm : (Tryz.prog.info? 42).map (·.size) = some 6 := by kernel_rfl
theorem one_itm (bs : List Int) (b1 b2 : Nat) : (itmC bs b1 b2).all (·.oneCell') = true := by simp [Value.oneCell']
theorem one_itm0 : itm0C.all (·.oneCell') = true := by simp [Value.oneCell']
section
variable {w w' : World} {X Y : Nat → Prop} {B : StB} {slots : Nat} {s : Sup} {xs : List Seg} {st : List EntS} {bl : List (List Int)} {u : Bool} {A : Option Addr} {m c : Nat} {us : List Int}
theorem degraded_ok (h : StoM2 w X B slots s xs st bl false) : Calls Tryz.prog 36 #[.pointer (some ⟨B.q, 0, none⟩)] w fun e w' => e = .returned (.bool false) ∧ w' = w := by
 obtain ⟨c0, _, _, c3⟩ := h.cells
 obtain ⟨A, c, hl, _, _⟩ := h.log.log
 have HL := hI (log_broken hl)
 clear h hl
 go_enter Tryz.func36, Tryz.ntmps36
 go_wp2_with fail
 refine HL.out.mono ?_
 rintro e w2 ⟨rfl, rfl⟩
 go_wp2_with fail
 go_ret
 exact ⟨rfl, rfl⟩
theorem void_ok (h : StoM2 w X B slots s xs st bl u) (k f x q : Int) (A A' : Option Addr) (n c n' c' : Nat) :
 Calls Tryz.prog 70 #[.pointer (some ⟨B.q, 0, none⟩), .agg #[.int .i64 k, .int .u32 f, .int .u32 x, .int .u64 q, .slice A n c, .slice A' n' c']] w fun e w' => e = .returned (.bool (decide (q ≤ s.f))) ∧ Below w.heap.size w w' := by
 obtain ⟨w1, hw1⟩ : ∃ w1, w1 = w.alloc (.cells #[.int .i64 k, .int .u32 f, .int .u32 x, .int .u64 q, .slice A n c, .slice A' n' c'] 69) := ⟨_, rfl⟩
 have hb1 : Below w.heap.size w w1 := by rw [hw1]; exact (Below.refl _ w).alloc (nR _) _
 have HR1 := hI (show Blk w1 w.heap.size 69 #[.int .i64 k, .int .u32 f, .int .u32 x, .int .u64 q, .slice A n c, .slice A' n' c'] by rw [hw1]; exact Blk.new w _ _)
 have HM1 := hI (h.below hb1)
 have HB1 := hI hb1
 have HW1 := hI hw1
 clear h hb1 hw1
 go_enter Tryz.func70, Tryz.ntmps70
 go_upto_region 1 with fail
 rw [← HW1.out]
 refine Tillst.region (fun W => Below w1.heap.size w1 W) [] (by kernel_rfl) ((Below.refl _ _).drew) (fun hė => ?_)
 generalize w1.drew = vd at *
 refine Tillst.tk 0 vo0 (v := ?_) rfl (by kernel_rfl) (by rfl) ?_ hė ?_
 rotate_left
 ·intro W hSW; (try dsimp only at hSW); unfold vo0; go_simp; with_reducible rfl
 simp only [vo0, Act.put, sA, sZ, sS]
 refine Tillst.tk 1 vo1 (v := ?_) rfl (by kernel_rfl) (by rfl) ?_ hė ?_
 rotate_left
 ·intro W hSW; have h9 : W.cell? ⟨w.heap.size, 3, none⟩ = some (.int .u64 q) := (HR1.out.below hSW HR1.out.lt).cell 3; clear hSW; unfold vo1; go_simp; with_reducible rfl
 simp only [vo1, Act.put, sA, sZ, sS]
 refine Tillst.tk 2 vo2 (v := ?_) rfl (by kernel_rfl) (by rfl) ?_ hė ?_
 rotate_left
 ·intro W hSW; (try dsimp only at hSW); unfold vo2; go_simp; with_reducible rfl
 simp only [vo2, Act.put, sA, sZ, sS]
 refine Tillst.tk 3 vo3 (v := ?_) rfl (by kernel_rfl) (by rfl) ?_ hė ?_
 rotate_left
 ·intro W hSW; (try dsimp only at hSW); unfold vo3; go_simp; with_reducible rfl
 simp only [vo3, Act.put, sA, sZ, sS]
 refine Tillst.tk 4 vo4 (v := ?_) rfl (by kernel_rfl) (by rfl) ?_ hė ?_
 rotate_left
 ·intro W hSW; (try dsimp only at hSW); unfold vo4; go_simp; with_reducible rfl
 simp only [vo4, Act.put, sA, sZ, sS]
 refine Tillst.tk 5 vo5 (v := ?_) rfl (by kernel_rfl) (by rfl) ?_ hė ?_
 rotate_left
 ·intro W hSW; (try dsimp only at hSW); unfold vo5; go_simp; with_reducible rfl
 simp only [vo5, Act.put, sA, sZ, sS]
 refine Tillst.tk 6 vo6 (v := ?_) rfl (by kernel_rfl) (by rfl) ?_ hė ?_
 rotate_left
 ·intro W hSW; have h9 := (HM1.out.below hSW).cells.1; clear hSW; unfold vo6; go_simp; with_reducible rfl
 simp only [vo6, Act.put, sA, sZ, sS]
 have hM := HM1.out.below hė
 obtain ⟨A2, c2, hl, _, _⟩ := hM.log.log
 refine Tillst.one (i := 7) (o := vo7) (by kernel_rfl) rfl ?_
 intro K hK
 refine step_call 31 #[.tmp 11] #[25] rfl rfl Tryz.func31 rfl rfl [.pointer (some ⟨B.l, 0, none⟩)] rfl ((log_super hl).mono ?_)
 rintro e w2 ⟨rfl, rfl⟩
 refine ⟨_, rfl, ?_⟩
 simp only [vo7, Act.put, sA, sZ, sS]
 refine hK.out _ _ (fun _ => hė) (fun hė => ?_)
 replace hė := hė (by decide)
 clear hK K
 obtain ⟨_, _, R, hs, _, _⟩ := hl
 refine Tillst.one (i := 8) (o := vo8) (by kernel_rfl) rfl ?_
 intro K hK
 refine step_call 67 #[.tmp 12] #[63] rfl rfl Tryz.func67 rfl rfl [.pointer (some ⟨B.p, 0, none⟩)] rfl ((get_any hs).mono ?_)
 rintro e w3 ⟨rfl, hb3⟩
 refine ⟨_, rfl, ?_⟩
 simp only [vo8, Act.put, sA, sZ, sS]
 have hHeld3 := hė.trans (hb3.mono hė.size)
 refine hK.out _ _ (fun _ => hHeld3) (fun hė => ?_)
 replace hė := hė (by decide)
 clear hK K hHeld3 hb3
 refine Tillst.tk 9 vo9 (v := .int .u64 s.f) rfl (by kernel_rfl) (by rfl) ?_ hė ?_
 ·intro W hSW; clear hSW; unfold vo9; unfold execOp Instr.field; simp [Sem.run_bind, run_underlying (Tryz.underlying136), asAgg, part, isAgg, run_underlying (Tryz.underlying34), Act.eval]
 simp only [vo9, Act.put, sA, sZ, sS]
 refine Tillst.tk 10 vo10 (v := ?_) rfl (by kernel_rfl) (by rfl) ?_ hė ?_
 rotate_left
 ·intro W hSW; (try dsimp only at hSW); unfold vo10; go_simp; with_reducible rfl
 simp only [vo10, Act.put, sA, sZ, sS]
 refine Tillst.tk 11 vo11 (v := ?_) rfl (by kernel_rfl) (by rfl) ?_ hė ?_
 rotate_left
 ·intro W hSW; (try dsimp only at hSW); unfold vo11; go_simp; with_reducible rfl
 simp only [vo11, Act.put, sA, sZ, sS]
 refine Tillst.done (by kernel_rfl) ?_ _
 go_wp2_with fail
 go_ret
 exact ⟨rfl, HB1.out.trans (hė.mono HB1.out.size)⟩
theorem expired_ok (k f x q now : Int) (A A' : Option Addr) (n c n' c' : Nat) (w : World) :
 Calls Tryz.prog 71 #[.agg #[.int .i64 k, .int .u32 f, .int .u32 x, .int .u64 q, .slice A n c, .slice A' n' c'], .int .u32 now] w fun e w' => e = .returned (.bool (decide (0 < x ∧ x ≤ now))) ∧ Below w.heap.size w w' := by
 have HB := hI ((Below.refl w.heap.size w).alloc (nR _) (.cells #[.int .i64 k, .int .u32 f, .int .u32 x, .int .u64 q, .slice A n c, .slice A' n' c'] 69))
 by_cases h1 : 0 < x
 ·by_cases h2 : x ≤ now
  ·rw [decide_eq_true (show 0 < x ∧ x ≤ now from ⟨h1, h2⟩)]
   go_enter Tryz.func71, Tryz.ntmps71
   go_wp2_with fail
   go_ret
   exact ⟨rfl, HB.out⟩
  ·rw [decide_eq_false (show ¬ (0 < x ∧ x ≤ now) from fun h => h2 h.2)]
   go_enter Tryz.func71, Tryz.ntmps71
   go_wp2_with fail
   go_ret
   exact ⟨rfl, HB.out⟩
 ·rw [decide_eq_false (show ¬ (0 < x ∧ x ≤ now) from fun h => h1 h.1)]
  go_enter Tryz.func71, Tryz.ntmps71
  go_wp2_with fail
  go_ret
  exact ⟨rfl, HB.out⟩
theorem itemOf_ok (bs : List Int) (b1 b2 : Nat) (w : World) :
 Calls Tryz.prog 72 #[.agg (recT9 bs b1 b2)] w fun e w' => e = .returned (.agg (itmC bs b1 b2)) ∧ Below w.heap.size w w' := by
 have hb := ((Below.refl w.heap.size w).alloc (nR _) (.cells (recT9 bs b1 b2) 69)).alloc (by simp) (.cells itm0C 42)
 have HB := hI hb
 have HI := hI (blk_new2 w (.cells (recT9 bs b1 b2) 69) 42 itm0C)
 clear hb
 go_enter Tryz.func72, Tryz.ntmps72
 go_wp2_with (first | (with_reducible refine halt_end ?_) | (refine wpList_store_rowB (.tmp 2) (.tmp 13) 42 rfl rfl (w.heap.size + 1) (itmC bs b1 b2) rfl rfl 42 _ HI.out size_itm rfl (one_itm _ _ _) ?_))
 exact Halt.ret (results_row1 rfl _ _ (w.heap.size + 1) 42 (itmC bs b1 b2) _ rfl (setRow_heap _ _ _ _ _ _ HI.out) Tryz.underlying42 rfl size_itm) rfl ⟨rfl, below_setRow HB.out (by omega) _⟩
theorem recordOf_ok (A : Option Addr) (n c : Nat) (A2 : Option Addr) (n2 c2 : Nat) (f x q : Int) (dy : Bool) (w : World) :
 Calls Tryz.prog 55 #[itmV A n c A2 n2 c2 f x q dy] w fun e w' => e = .returned (.agg #[.int .i64 1, .int .u32 f, .int .u32 x, .int .u64 q, .slice A n c, .slice A2 n2 c2]) ∧ Below w.heap.size w w' := by
 have hb := ((Below.refl w.heap.size w).alloc (nR _) (.cells #[.slice A n c, .slice A2 n2 c2, .int .u32 f, .int .u32 x, .int .u64 q, .bool dy] 42)).alloc (by simp) (.cells zeroC 69)
 have HB := hI hb
 have HI := hI (blk_new2 w (.cells #[.slice A n c, .slice A2 n2 c2, .int .u32 f, .int .u32 x, .int .u64 q, .bool dy] 42) 69 zeroC)
 clear hb
 go_enter Tryz.func55, Tryz.ntmps55
 go_wp2_with (first | (with_reducible refine halt_end ?_) | (refine wpList_store_rowB (.tmp 2) (.tmp 13) 69 rfl rfl (w.heap.size + 1) #[.int .i64 1, .int .u32 f, .int .u32 x, .int .u64 q, .slice A n c, .slice A2 n2 c2] rfl rfl 69 _ HI.out size_rec rfl (one_rec _ _ _ _ _ _ _ _ _ _) ?_))
 exact Halt.ret (results_row1 rfl _ _ (w.heap.size + 1) 69 #[.int .i64 1, .int .u32 f, .int .u32 x, .int .u64 q, .slice A n c, .slice A2 n2 c2] _ rfl (setRow_heap _ _ _ _ _ _ HI.out) Tryz.underlying69 rfl size_rec) rfl ⟨rfl, below_setRow HB.out (by omega) _⟩
theorem len_s (h : StoM2 w X B slots s xs st bl u) : Calls Tryz.prog 28 #[.pointer (some ⟨B.q, 0, none⟩)] w fun e w' => e = .returned (.int .i64 (st.length : Nat)) ∧ w' = w := by
 obtain ⟨_, c1, _, _⟩ := h.cells
 obtain ⟨c, L, fr, hx, hr, he⟩ := h.ix
 have hn : c 1 = (st.length : Nat) := by
  rw [hr.n]
  have h1 := congrArg List.length he
  unfold esS at h1
  rw [List.length_map, List.length_map] at h1
  rw [h1]
 have HL := hI (len_ix hx)
 rw [hn] at HL
 clear h hx hr he hn
 go_enter Tryz.func28, Tryz.ntmps28
 go_wp2_with fail
 refine HL.out.mono ?_
 rintro e w2 ⟨rfl, rfl⟩
 go_wp2_with fail
 go_ret
 exact ⟨rfl, rfl⟩
end
end
section
open Go.RowKit
attribute [local go_sem] Oper.semAt_some
section
variable {w w' : World} {X Y : Nat → Prop} {B : StB} {slots : Nat} {s : Sup} {xs : List Seg} {st : List EntS} {bl : List (List Int)} {u : Bool} {A : Option Addr} {m c : Nat} {us : List Int}
def getS (st : List EntS) (fl now : Int) (us : List Int) : Option (List Int) :=
 match hasS st us with
 | none => none
 | some p => if seqOf p.2 ≤ fl ∨ (0 < expOf p.2 ∧ expOf p.2 ≤ now) then none else some p.2
def GetT (w : World) (X : Nat → Prop) (B : StB) (slots : Nat) (s : Sup) (xs : List Seg) (st : List EntS) (bl : List (List Int)) (now : Int) (us : List Int) (e : Ending) (w' : World) : Prop :=
 (∃ k', StoM2 w' X { B with t := B.t, k := k', pe := B.pe } slots s xs st bl false ∧ k'.held = B.k.held) ∧ Kept X w w' ∧
 ((getS st s.f now us = none ∧ e = .returned (.tuple #[.agg itm0C, .int .i64 4])) ∨
  ∃ bs b1 b2, getS st s.f now us = some bs ∧ e = .returned (.tuple #[.agg (itmC bs b1 b2), .int .i64 0]) ∧ w.heap.size ≤ b1 ∧ w.heap.size ≤ b2 ∧ b1 ≠ b2 ∧ ArrU w' b1 (keyOf bs) ∧ ArrU w' b2 (valOf bs))
theorem get_fin {w2 w3 w4 : World} (hX : ∀ b, X b → b < w.heap.size) (h : StoM2 w3 (fun b => X b ∨ (w.heap.size ≤ b ∧ b < w2.heap.size)) B slots s xs st bl u) (hs : w.heap.size < w2.heap.size ∧ w2.heap.size ≤ w3.heap.size) (hk : Kept X w w3) (hb : Below w3.heap.size w3 w4) (cs : Array Value) :
 StoM2 (w4.setRow w.heap.size cs) X B slots s xs st bl u ∧ Kept X w (w4.setRow w.heap.size cs) ∧ Kept (fun b => b < w3.heap.size ∧ b ≠ w.heap.size) w3 (w4.setRow w.heap.size cs) := by
 have hkr : Kept (fun b => b ≠ w.heap.size) w4 (w4.setRow w.heap.size cs) := (Kept.refl _ w4).setRow (fun h => h rfl) cs
 refine ⟨((h.below hb).offX hkr (fun b hb hn e => hn (.inr ⟨by omega, by omega⟩))).less (fun b hb => .inl hb), (hk.trans (Kept.of_below (S := X) hb (fun b h => by have := hX b h; omega)) (fun b h => h)).trans hkr (fun b h => by have := hX b h; omega), (Kept.of_below (S := fun b => b < w3.heap.size ∧ b ≠ w.heap.size) hb (fun b h => h.1)).trans hkr (fun b h => h.2)⟩
theorem get_s (h : StoM2 w X B slots s xs st bl false) (hk : RowI .u8 w X A m us) (hb : Bytes us) (hm : m ≤ 1000000) (now : Int) :
 Calls Tryz.prog 19 #[.pointer (some ⟨B.q, 0, none⟩), .slice A m c, .int .u32 now] w (GetT w X B slots s xs st bl now us) := by
 obtain ⟨w1, hw1⟩ : ∃ w1, w1 = w.alloc (.cells itm0C 42) := ⟨_, rfl⟩
 have hb1 : Below w.heap.size w w1 := by rw [hw1]; exact (Below.refl _ w).alloc (nR _) _
 have HR1 := hI (show Blk w1 w.heap.size 42 itm0C by rw [hw1]; exact Blk.new w _ _)
 have hM1 := h.grow hb1
 have HM1 := hI hM1
 have HB1 := hI hb1
 have HXL := hI h.lt
 have HK1 := hI (hk.below hb1 h.lt)
 have HBY := hI hb
 have HM := hI hm
 have HW1 := hI hw1
 have HLK := hI (look_any (c := c) hM1.log hM1.ylt hM1.ix (.inr (.inr (.inl rfl))) hM1.inv ((hk.below hb1 h.lt).more (fun b h => .inl (.inl h))) hb hm)
 obtain ⟨c0, c1, _, _⟩ := hM1.cells
 have HDG := hI (degraded_ok hM1)
 clear h hk hb hm hb1 hw1 hM1
 go_enter Tryz.func19, Tryz.ntmps19
 go_upto_region 3 with fail
 rw [← HW1.out]
 go_wp2_with fail
 refine HDG.out.mono ?_
 rintro e w2 ⟨rfl, rfl⟩
 go_wp2_with fail
 refine HLK.out.mono ?_
 rintro e w3 ⟨⟨k3, hl3, hk3⟩, hkp3, hres⟩
 have hM3 := HM1.out.logTo hkp3 hl3 rfl (HM1.out.inv.held hk3)
 have HM3 := hI hM3
 have HH3 := hI hk3
 have HKX3 := hI ((Kept.of_below HB1.out HXL.out).trans hkp3 (fun b hb => .inl (.inl hb)))
 have HR3 := hI (HR1.out.kept hkp3 (.inl (.inr ⟨nR _, HR1.out.lt⟩)))
 have HSZ := hI (show w.heap.size < w2.heap.size ∧ w2.heap.size ≤ w3.heap.size from ⟨HR1.out.lt, hkp3.size⟩)
 clear hl3 hk3 hkp3 hM3 HLK
 rcases hres with ⟨hno, rfl⟩ | ⟨q, b1, b2, hq, rfl, hq1, hq2, hq12, hr1, hr2⟩
 ·have HNO := hI (show getS st s.f now us = none by unfold getS; rw [hno])
  clear hno c0 c1
  have HB4 := hI ((Below.refl w3.heap.size w3).alloc (nR _) (.cells ent0C 125))
  have HR4 := hI (HR3.out.alloc (.cells ent0C 125))
  go_wp2_with (first
   | (refine wpList_store_rowB (.tmp 6) (.tmp 48) 42 rfl rfl w.heap.size itm0C rfl rfl 42 _ HR4.out size_itm rfl one_itm0 ?_)
   | (with_reducible refine halt_end ?_))
  have hfin := get_fin HXL.out HM3.out HSZ.out HKX3.out HB4.out itm0C
  exact Halt.ret (results_row2 (p := 6) (u := 7) rfl _ _ w.heap.size 42 itm0C _ rfl (setRow_heap _ _ _ _ _ _ HR4.out) Tryz.underlying42 rfl size_itm) rfl ⟨⟨k3, hfin.1, HH3.out⟩, hfin.2.1, .inl ⟨HNO.out, rfl⟩⟩
 ·have HQ := hI hq
  have HA31 := hI hr1
  have HA32 := hI hr2
  have HBB := hI (And.intro hq1 (And.intro hq2 hq12))
  clear hq hr1 hr2 hq1 hq2 hq12 c0 c1
  obtain ⟨w4, hw4⟩ : ∃ w4, w4 = (w3.alloc (.cells ent0C 125)).setRow w3.heap.size (entC' q b1 b2) := ⟨_, rfl⟩
  have HBN := hI (Blk.new w3 125 ent0C)
  have hb4 : Below w3.heap.size w3 w4 := by rw [hw4]; exact Kept.to_below (((Kept.refl (fun b => b < w3.heap.size) w3).alloc (fun b h => h) _).setRow (fun h => by omega) _) (fun b h => h)
  have HE4 := hI (show Blk w4 w3.heap.size 125 (entC' q b1 b2) by rw [hw4]; exact setRow_heap _ _ _ _ _ _ HBN.out)
  have HW4 := hI hw4.symm
  have HB4 := hI hb4
  have HVD := hI (void_ok (HM3.out.below hb4) (kindOf q.2) (flagsOf q.2) (expOf q.2) (seqOf q.2) (some ⟨b1, 0, none⟩) (some ⟨b2, 0, none⟩) (klenOf q.2) (klenOf q.2) (vlenOf q.2) (vlenOf q.2))
  clear hw4 hb4
  have e0 : w4.cell? ⟨w3.heap.size, 0, none⟩ = some (.bool true) := HE4.out.cell 0
  have e4 : w4.cell? ⟨w3.heap.size, 4, none⟩ = some (.int .i64 (kindOf q.2)) := HE4.out.cell 4
  have e5 : w4.cell? ⟨w3.heap.size, 5, none⟩ = some (.int .u32 (flagsOf q.2)) := HE4.out.cell 5
  have e6 : w4.cell? ⟨w3.heap.size, 6, none⟩ = some (.int .u32 (expOf q.2)) := HE4.out.cell 6
  have e7 : w4.cell? ⟨w3.heap.size, 7, none⟩ = some (.int .u64 (seqOf q.2)) := HE4.out.cell 7
  have e8 : w4.cell? ⟨w3.heap.size, 8, none⟩ = some (.slice (some ⟨b1, 0, none⟩) (klenOf q.2) (klenOf q.2)) := HE4.out.cell 8
  have e9 : w4.cell? ⟨w3.heap.size, 9, none⟩ = some (.slice (some ⟨b2, 0, none⟩) (vlenOf q.2) (vlenOf q.2)) := HE4.out.cell 9
  go_wp2_with (refine wpList_store_rowB (.tmp 8) (.tmp 25) 125 rfl rfl w3.heap.size (entC' q b1 b2) rfl rfl 125 _ HBN.out size_entry rfl (one_ent _ _ _) ?_; rw [HW4.out])
  refine HVD.out.mono ?_
  rintro e w5 ⟨rfl, hb5⟩
  have HB5 := hI (HB4.out.trans (hb5.mono HB4.out.size))
  have HE5 := hI (HE4.out.below hb5 HE4.out.lt)
  clear hb5 HVD e0 e4 e5 e6 e7 e8 e9
  have e4 : w5.cell? ⟨w3.heap.size, 4, none⟩ = some (.int .i64 (kindOf q.2)) := HE5.out.cell 4
  have e5 : w5.cell? ⟨w3.heap.size, 5, none⟩ = some (.int .u32 (flagsOf q.2)) := HE5.out.cell 5
  have e6 : w5.cell? ⟨w3.heap.size, 6, none⟩ = some (.int .u32 (expOf q.2)) := HE5.out.cell 6
  have e7 : w5.cell? ⟨w3.heap.size, 7, none⟩ = some (.int .u64 (seqOf q.2)) := HE5.out.cell 7
  have e8 : w5.cell? ⟨w3.heap.size, 8, none⟩ = some (.slice (some ⟨b1, 0, none⟩) (klenOf q.2) (klenOf q.2)) := HE5.out.cell 8
  have e9 : w5.cell? ⟨w3.heap.size, 9, none⟩ = some (.slice (some ⟨b2, 0, none⟩) (vlenOf q.2) (vlenOf q.2)) := HE5.out.cell 9
  have HR5 := hI ((HR3.out.below HB5.out HR3.out.lt))
  by_cases hv : seqOf q.2 ≤ s.f
  ·have HNO := hI (show getS st s.f now us = none by unfold getS; rw [HQ.out]; exact if_pos (.inl hv))
   rw [decide_eq_true hv]
   clear hv
   go_wp2_with (first
    | (refine wpList_store_rowB (.tmp 6) (.tmp 48) 42 rfl rfl w.heap.size itm0C rfl rfl 42 _ HR5.out size_itm rfl one_itm0 ?_)
    | (with_reducible refine halt_end ?_))
   have hfin := get_fin HXL.out HM3.out HSZ.out HKX3.out HB5.out itm0C
   exact Halt.ret (results_row2 (p := 6) (u := 7) rfl _ _ w.heap.size 42 itm0C _ rfl (setRow_heap _ _ _ _ _ _ HR5.out) Tryz.underlying42 rfl size_itm) rfl ⟨⟨k3, hfin.1, HH3.out⟩, hfin.2.1, .inl ⟨HNO.out, rfl⟩⟩
  ·rw [decide_eq_false hv]
   have HV := hI hv
   clear hv
   go_wp2_with fail
   refine (expired_ok (kindOf q.2) (flagsOf q.2) (expOf q.2) (seqOf q.2) now (some ⟨b1, 0, none⟩) (some ⟨b2, 0, none⟩) (klenOf q.2) (klenOf q.2) (vlenOf q.2) (vlenOf q.2) w5).mono ?_
   rintro e w6 ⟨rfl, hb6⟩
   have HB6 := hI (HB5.out.trans (hb6.mono HB5.out.size))
   have HE6 := hI (HE5.out.below hb6 HE5.out.lt)
   clear hb6 e4 e5 e6 e7 e8 e9
   have HR6 := hI ((HR3.out.below HB6.out HR3.out.lt))
   by_cases hx : 0 < expOf q.2 ∧ expOf q.2 ≤ now
   ·have HNO := hI (show getS st s.f now us = none by unfold getS; rw [HQ.out]; exact if_pos (.inr hx))
    rw [decide_eq_true hx]
    clear hx
    go_wp2_with (first
     | (refine wpList_store_rowB (.tmp 6) (.tmp 48) 42 rfl rfl w.heap.size itm0C rfl rfl 42 _ HR6.out size_itm rfl one_itm0 ?_)
     | (with_reducible refine halt_end ?_))
    have hfin := get_fin HXL.out HM3.out HSZ.out HKX3.out HB6.out itm0C
    exact Halt.ret (results_row2 (p := 6) (u := 7) rfl _ _ w.heap.size 42 itm0C _ rfl (setRow_heap _ _ _ _ _ _ HR6.out) Tryz.underlying42 rfl size_itm) rfl ⟨⟨k3, hfin.1, HH3.out⟩, hfin.2.1, .inl ⟨HNO.out, rfl⟩⟩
   ·have HYES := hI (show getS st s.f now us = some q.2 by unfold getS; rw [HQ.out]; exact if_neg (fun h => h.elim (fun h9 => by have := HV.out; omega) hx))
    rw [decide_eq_false hx]
    clear hx
    have e4 : w6.cell? ⟨w3.heap.size, 4, none⟩ = some (.int .i64 (kindOf q.2)) := HE6.out.cell 4
    have e5 : w6.cell? ⟨w3.heap.size, 5, none⟩ = some (.int .u32 (flagsOf q.2)) := HE6.out.cell 5
    have e6 : w6.cell? ⟨w3.heap.size, 6, none⟩ = some (.int .u32 (expOf q.2)) := HE6.out.cell 6
    have e7 : w6.cell? ⟨w3.heap.size, 7, none⟩ = some (.int .u64 (seqOf q.2)) := HE6.out.cell 7
    have e8 : w6.cell? ⟨w3.heap.size, 8, none⟩ = some (.slice (some ⟨b1, 0, none⟩) (klenOf q.2) (klenOf q.2)) := HE6.out.cell 8
    have e9 : w6.cell? ⟨w3.heap.size, 9, none⟩ = some (.slice (some ⟨b2, 0, none⟩) (vlenOf q.2) (vlenOf q.2)) := HE6.out.cell 9
    go_wp2_with fail
    refine (itemOf_ok q.2 b1 b2 w6).mono ?_
    rintro e w7 ⟨rfl, hb7⟩
    have HB7 := hI (HB6.out.trans (hb7.mono HB6.out.size))
    clear hb7 e4 e5 e6 e7 e8 e9
    have HR7 := hI ((HR3.out.below HB7.out HR3.out.lt))
    go_wp2_with (first
     | (refine wpList_store_rowB (.tmp 6) (.tmp 51) 42 rfl rfl w.heap.size (itmC q.2 b1 b2) rfl rfl 42 _ HR7.out size_itm rfl (one_itm _ _ _) ?_)
     | (with_reducible refine halt_end ?_))
    have hfin := get_fin HXL.out HM3.out HSZ.out HKX3.out HB7.out (itmC q.2 b1 b2)
    have hsz := HSZ.out
    have hbb := HBB.out
    refine Halt.ret (results_row2 (p := 6) (u := 7) rfl _ _ w.heap.size 42 (itmC q.2 b1 b2) _ rfl (setRow_heap _ _ _ _ _ _ HR7.out) Tryz.underlying42 rfl size_itm) rfl ⟨⟨k3, hfin.1, HH3.out⟩, hfin.2.1, .inr ⟨q.2, b1, b2, HYES.out, rfl, by omega, by omega, hbb.2.2, ?_, ?_⟩⟩
    ·exact Blk.kept HA31.out hfin.2.2 ⟨Blk.lt HA31.out, by omega⟩
    ·exact Blk.kept HA32.out hfin.2.2 ⟨Blk.lt HA32.out, by omega⟩
end
end
section
open Go.RowKit
attribute [local go_sem] Oper.semAt_some
abbrev dp0 : Oper := ⟨some 8, .fieldAddr 112 (.tmp 3) 1, 0, "store.go:274", #[], none⟩
abbrev dp1 : Oper := ⟨some 9, .load 108 (.tmp 8), 108, "store.go:274", #[⟨0, .data⟩], none⟩
abbrev dp2 : Oper := ⟨some 10, .move (.tmp 1), 40, "store.go:274", #[], none⟩
abbrev dp3 : Oper := ⟨some 11, .call { callee := .value (.func 96), args := #[.tmp 10], argTypes := #[40] }, 35, "store.go:274", #[⟨2, .data⟩], none⟩
abbrev dp4 : Oper := ⟨some 12, .fieldAddr 125 (.tmp 5) 1, 0, "store.go:274", #[], none⟩
abbrev dp5 : Oper := ⟨some 13, .load 67 (.tmp 12), 67, "store.go:274", #[⟨4, .data⟩], none⟩
abbrev dp6 : Oper := ⟨some 14, .call { callee := .value (.func 130), args := #[.tmp 9, .tmp 11, .tmp 13], argTypes := #[108, 35, 67] }, 29, "store.go:274", #[⟨1, .data⟩, ⟨3, .data⟩, ⟨5, .data⟩, ⟨3, .chain⟩], none⟩
abbrev ad0 : Oper := ⟨some 8, .move (.tmp 0), 28, "store.go:306", #[], none⟩
abbrev ad1 : Oper := ⟨some 9, .nilCheck (.tmp 8), 0, "store.go:306", #[⟨0, .data⟩], none⟩
abbrev ad2 : Oper := ⟨some 10, .fieldAddr 115 (.tmp 9) 0, 0, "store.go:306", #[⟨1, .data⟩], none⟩
abbrev ad3 : Oper := ⟨some 11, .fieldAddr 112 (.tmp 10) 1, 0, "store.go:306", #[⟨2, .data⟩], none⟩
abbrev ad4 : Oper := ⟨some 12, .load 108 (.tmp 11), 108, "store.go:306", #[⟨3, .data⟩], none⟩
abbrev ad5 : Oper := ⟨some 13, .move (.tmp 1), 40, "store.go:306", #[], none⟩
abbrev ad6 : Oper := ⟨some 14, .call { callee := .value (.func 96), args := #[.tmp 13], argTypes := #[40] }, 35, "store.go:306", #[⟨5, .data⟩], none⟩
abbrev ad7 : Oper := ⟨some 15, .load 67 (.tmp 5), 67, "store.go:306", #[], none⟩
abbrev ad8 : Oper := ⟨some 16, .call { callee := .value (.func 188), args := #[.tmp 12, .tmp 14, .tmp 15], argTypes := #[108, 35, 67] }, 29, "store.go:306", #[⟨4, .data⟩, ⟨6, .data⟩, ⟨7, .data⟩, ⟨6, .chain⟩], none⟩
abbrev ad9 : Oper := ⟨some 7, .assign (.tmp 16), 29, "store.go:306", #[⟨8, .data⟩, ⟨8, .chain⟩, ⟨0, .phase⟩, ⟨1, .phase⟩, ⟨2, .phase⟩, ⟨3, .phase⟩, ⟨4, .phase⟩, ⟨5, .phase⟩, ⟨6, .phase⟩, ⟨7, .phase⟩, ⟨8, .phase⟩], none⟩
abbrev ag0 : Oper := ⟨some 20, .move (.tmp 0), 28, "store.go:309", #[], none⟩
abbrev ag1 : Oper := ⟨some 21, .nilCheck (.tmp 20), 0, "store.go:309", #[⟨0, .data⟩], none⟩
abbrev ag2 : Oper := ⟨some 22, .fieldAddr 115 (.tmp 21) 1, 0, "store.go:309", #[⟨1, .data⟩], none⟩
abbrev ag3 : Oper := ⟨some 23, .load 113 (.tmp 22), 113, "store.go:309", #[⟨2, .data⟩], none⟩
abbrev ag4 : Oper := ⟨some 24, .fieldAddr 67 (.tmp 5) 0, 0, "store.go:309", #[], none⟩
abbrev ag5 : Oper := ⟨some 25, .load 3 (.tmp 24), 3, "store.go:309", #[⟨4, .data⟩], none⟩
abbrev ag6 : Oper := ⟨some 26, .indexAddr 113 (.tmp 23) (.tmp 25), 0, "store.go:309", #[⟨3, .data⟩, ⟨5, .data⟩], none⟩
abbrev ag7 : Oper := ⟨some 27, .load 117 (.tmp 26), 117, "store.go:309", #[⟨6, .data⟩], none⟩
abbrev ag8 : Oper := ⟨some 28, .move (.tmp 1), 40, "store.go:309", #[], none⟩
abbrev ag9 : Oper := ⟨some 29, .call { callee := .value (.func 79), args := #[.tmp 28], argTypes := #[40] }, 34, "store.go:309", #[⟨8, .data⟩], none⟩
abbrev ag10 : Oper := ⟨some 30, .call { callee := .value (.func 189), args := #[.tmp 27, .tmp 29], argTypes := #[117, 34] }, 29, "store.go:309", #[⟨7, .data⟩, ⟨9, .data⟩, ⟨9, .chain⟩], none⟩
abbrev ag11 : Oper := ⟨some 6, .assign (.tmp 30), 29, "store.go:309", #[⟨10, .data⟩, ⟨10, .chain⟩, ⟨0, .phase⟩, ⟨1, .phase⟩, ⟨2, .phase⟩, ⟨3, .phase⟩, ⟨4, .phase⟩, ⟨5, .phase⟩, ⟨6, .phase⟩, ⟨7, .phase⟩, ⟨8, .phase⟩, ⟨9, .phase⟩, ⟨10, .phase⟩], none⟩
abbrev en0 : Oper := ⟨some 6, .move (.tmp 0), 28, "store.go:300", #[], none⟩
abbrev en1 : Oper := ⟨some 7, .nilCheck (.tmp 6), 0, "store.go:300", #[⟨0, .data⟩], none⟩
abbrev en2 : Oper := ⟨some 8, .fieldAddr 115 (.tmp 7) 0, 0, "store.go:300", #[⟨1, .data⟩], none⟩
abbrev en3 : Oper := ⟨some 9, .fieldAddr 112 (.tmp 8) 1, 0, "store.go:300", #[⟨2, .data⟩], none⟩
abbrev en4 : Oper := ⟨some 10, .load 108 (.tmp 9), 108, "store.go:300", #[⟨3, .data⟩], none⟩
abbrev en5 : Oper := ⟨some 11, .move (.tmp 1), 40, "store.go:300", #[], none⟩
abbrev en6 : Oper := ⟨some 12, .call { callee := .value (.func 96), args := #[.tmp 11], argTypes := #[40] }, 35, "store.go:300", #[⟨5, .data⟩], none⟩
abbrev en7 : Oper := ⟨some 13, .load 67 (.tmp 5), 67, "store.go:300", #[], none⟩
abbrev en8 : Oper := ⟨some 14, .call { callee := .value (.func 130), args := #[.tmp 10, .tmp 12, .tmp 13], argTypes := #[108, 35, 67] }, 29, "store.go:300", #[⟨4, .data⟩, ⟨6, .data⟩, ⟨7, .data⟩, ⟨6, .chain⟩], none⟩
abbrev shV (B : StB) : Value := .agg #[.pointer (some ⟨B.l, 0, none⟩), .pointer (some ⟨B.x, 0, none⟩)]
section
variable {w w' : World} {X Y : Nat → Prop} {B : StB} {slots : Nat} {s : Sup} {xs : List Seg} {st : List EntS} {bl : List (List Int)} {u : Bool} {A : Option Addr} {m c : Nat} {us : List Int}
theorem drop_no (l x : Nat) (A : Option Addr) (m c : Nat) (w : World) : Calls Tryz.prog 60 #[.agg #[.pointer (some ⟨l, 0, none⟩), .pointer (some ⟨x, 0, none⟩)], .slice A m c, .agg ent0C] w fun e w' => e = .returned (.tuple #[]) ∧ Below w.heap.size w w' := by
 have HB := hI (((Below.refl w.heap.size w).alloc (nR _) (.cells #[.pointer (some ⟨l, 0, none⟩), .pointer (some ⟨x, 0, none⟩)] 112)).alloc (by simp) (.cells ent0C 125))
 go_enter Tryz.func60, Tryz.ntmps60
 go_wp2
 go_end0
 exact ⟨rfl, HB.out⟩
theorem drop_yes (h : StoM2 w X B slots s xs st bl u) {q : EntS} (hq : q ∈ st) (hk : RowI .u8 w (· < w.heap.size) A m (keyOf q.2)) (hb : Bytes (keyOf q.2)) (hm : m ≤ 1000000) (b1 b2 : Nat) :
 Calls Tryz.prog 60 #[shV B, .slice A m c, .agg (entC' q b1 b2)] w fun e w' => e = .returned (.tuple #[]) ∧ StoM2 w' X B slots s xs (outS st (keyOf q.2)) bl u ∧ Kept (fun b => b < w.heap.size ∧ b ≠ B.x) w w' := by
 obtain ⟨w1, hw1⟩ : ∃ w1, w1 = (w.alloc (.cells #[.pointer (some ⟨B.l, 0, none⟩), .pointer (some ⟨B.x, 0, none⟩)] 112)).alloc (.cells (entC' q b1 b2) 125) := ⟨_, rfl⟩
 have hb1 : Below w.heap.size w w1 := by rw [hw1]; exact ((Below.refl _ w).alloc (nR _) _).alloc (by simp) _
 have HS1 := hI (show Blk w1 w.heap.size 112 #[.pointer (some ⟨B.l, 0, none⟩), .pointer (some ⟨B.x, 0, none⟩)] by rw [hw1]; exact (Blk.new w _ _).alloc _)
 have HE1 := hI (show Blk w1 (w.heap.size + 1) 125 (entC' q b1 b2) by rw [hw1]; exact blk_new2 w _ _ _)
 have HB1 := hI hb1
 have HM1 := hI (h.below hb1)
 have HK1 := hI (hk.below hb1 (fun b h => h))
 have HQ := hI hq
 have HBY := hI hb
 have HM := hI hm
 have HXL := hI h.ix.lt
 have HW1 := hI hw1
 clear hb1 hw1 h hq hk hb hm
 go_enter Tryz.func60, Tryz.ntmps60
 go_upto_region 1 with fail
 rw [← HW1.out]
 have e0 : w1.cell? ⟨w.heap.size + 1, 0, none⟩ = some (.bool true) := HE1.out.cell 0
 go_upto_region 2 with fail
 clear e0
 refine Tillst.region (fun W => Below w1.heap.size w1 W) [6] (by kernel_rfl) ((Below.refl _ _).drew) (fun hė => ?_)
 generalize w1.drew = vd at *
 refine Tillst.takeG (i := 0) (oi := dp0) (v := ?_) rfl (by kernel_rfl) (by kernel_rfl) (by kernel_rfl) (by kernel_rfl) (by kernel_rfl) (fun _ _ _ h => h) (by rfl) ?_ hė ?_
 rotate_left
 ·intro W hSW; (try dsimp only at hSW); unfold dp0; go_simp; with_reducible rfl
 simp only [dp0, Act.put, sA, sZ, sS]
 refine Tillst.takeG (i := 1) (oi := dp1) (v := ?_) rfl (by kernel_rfl) (by kernel_rfl) (by kernel_rfl) (by kernel_rfl) (by kernel_rfl) (fun _ _ _ h => h) (by rfl) ?_ hė ?_
 rotate_left
 ·intro W hSW; have h9 := (HS1.out.below hSW HS1.out.lt).cell 1; clear hSW; unfold dp1; go_simp; with_reducible rfl
 simp only [dp1, Act.put, sA, sZ, sS]
 refine Tillst.takeG (i := 2) (oi := dp2) (v := ?_) rfl (by kernel_rfl) (by kernel_rfl) (by kernel_rfl) (by kernel_rfl) (by kernel_rfl) (fun _ _ _ h => h) (by rfl) ?_ hė ?_
 rotate_left
 ·intro W hSW; (try dsimp only at hSW); unfold dp2; go_simp; with_reducible rfl
 simp only [dp2, Act.put, sA, sZ, sS]
 refine Tillst.takeG (i := 4) (oi := dp4) (v := ?_) rfl (by kernel_rfl) (by kernel_rfl) (by kernel_rfl) (by kernel_rfl) (by kernel_rfl) (fun _ _ _ h => h) (by rfl) ?_ hė ?_
 rotate_left
 ·intro W hSW; (try dsimp only at hSW); unfold dp4; go_simp; with_reducible rfl
 simp only [dp4, Act.put, sA, sZ, sS]
 refine Tillst.takeG (i := 5) (oi := dp5) (v := .agg #[.int .i64 q.1.1, .int .u64 q.1.2.1, .int .i64 q.1.2.2]) rfl (by kernel_rfl) (by kernel_rfl) (by kernel_rfl) (by kernel_rfl) (by kernel_rfl) (fun _ _ _ h => h) (by rfl) ?_ hė ?_
 ·intro W hSW; have h7 : W.cell? ⟨w.heap.size + 1, 1, none⟩ = some (.int .i64 q.1.1) := (HE1.out.below hSW HE1.out.lt).cell 1; have h8 : W.cell? ⟨w.heap.size + 1, 2, none⟩ = some (.int .u64 q.1.2.1) := (HE1.out.below hSW HE1.out.lt).cell 2; have h9 : W.cell? ⟨w.heap.size + 1, 3, none⟩ = some (.int .i64 q.1.2.2) := (HE1.out.below hSW HE1.out.lt).cell 3; clear hSW; unfold dp5; go_simp
 simp only [dp5, Act.put, sA, sZ, sS]
 refine Tillst.one (i := 3) (o := dp3) (by kernel_rfl) rfl ?_
 intro K hK
 refine step_call 96 #[.tmp 10] #[40] rfl rfl Tryz.func96 rfl rfl [.slice A m c] rfl ((finger_key A m c (keyOf q.2) vd (HK1.out.below hė (fun b h => nL h HB1.out.size)) (fun b h => nL h (nT HB1.out.size hė.size)) HBY.out HM.out).mono ?_)
 rintro e w2 ⟨rfl, rfl⟩
 refine ⟨_, rfl, ?_⟩
 simp only [dp3, Act.put, sA, sZ, sS]
 refine hK.out _ _ (fun _ => hė) (fun hė => ?_)
 replace hė := hė (by decide)
 clear hK K
 refine Tillst.one (i := 6) (o := dp6) (by kernel_rfl) rfl ?_
 intro K hK
 refine step_call 130 #[.tmp 9, .tmp 11, .tmp 13] #[108, 35, 67] rfl rfl Tryz.func130 rfl rfl [.pointer (some ⟨B.x, 0, none⟩), .int .u32 (fingK (keyOf q.2) : Nat), .agg (adrV q.1).toArray] rfl ((remove_ix (HM1.out.ix.below hė HM1.out.ix.lt) (fingK (keyOf q.2)) q.1).mono ?_)
 rintro e w3 ⟨rfl, hx3, hk3⟩
 refine ⟨_, rfl, ?_⟩
 simp only [dp6, Act.put, sA, sZ, sS]
 refine hK.out _ _ (fun h => by cases h) (fun _ => ?_)
 clear hK K
 refine Tillst.done (by kernel_rfl) ?_ _
 go_wp2_with fail
 go_end0
 have hr := es_rem HM1.out.inv HQ.out
 unfold entE at hr
 rw [hr] at hx3
 have hm2 := (HM1.out.below hė).ixTo hk3 hx3 rfl HM1.out.inv.out
 refine ⟨rfl, hm2, ?_⟩
 have h1 := (Kept.of_below (S := fun b => b < w.heap.size ∧ b ≠ B.x) HB1.out (fun b h => h.1)).trans (Kept.of_below (S := fun b => b < w.heap.size ∧ b ≠ B.x) hė (fun b h => nL h.1 HB1.out.size)) (fun b h => h)
 exact h1.trans hk3 (fun b h => ⟨nL h.1 (nT HB1.out.size hė.size), h.2⟩)
def addB (bl : List (List Int)) (i : Nat) (us : List Int) : List (List Int) := bl.set i (setBits (bl.getD i []) (nums4 (fnv start us) (bl.getD i [])))
theorem setBit_len (xs : List Int) (i : Nat) : (setBit xs i).length = xs.length := by unfold setBit; rw [List.length_set]
theorem setBits_len : ∀ (ps xs : List Int), (setBits xs ps).length = xs.length
 | [], xs => rfl
 | p :: r, xs => by
  show (setBits (setBit xs p.toNat) r).length = _
  rw [setBits_len r, setBit_len]
theorem add_s (h : StoM2 w X B slots s xs st bl u) {i : Nat} {g sc : Int} {bs : List Int} (hi : i < bl.length) (hk : RowI .u8 w (fun b => b < w.heap.size ∧ ¬ B.own b) A m (keyOf bs)) (hb : Bytes (keyOf bs)) (hm : m ≤ 1000000)
 (hinv : InvS B.k s xs (st ++ [(((i : Int), g, sc), bs)])) (hfr : ∀ p, p ∈ st → p.1 ≠ ((i : Int), g, sc)) (hsl : st.length ≠ slots) :
 Calls Tryz.prog 127 #[.pointer (some ⟨B.q, 0, none⟩), .slice A m c, .agg #[.int .i64 (i : Int), .int .u64 g, .int .i64 sc]] w fun e w' => e = .returned (.int .i64 0) ∧ StoM2 w' X B slots s xs (st ++ [(((i : Int), g, sc), bs)]) (addB bl i (keyOf bs)) u ∧ Kept (fun b => b < w.heap.size ∧ ¬ B.own b) w w' := by
 obtain ⟨w1, hw1⟩ : ∃ w1, w1 = w.alloc (.cells #[.int .i64 (i : Int), .int .u64 g, .int .i64 sc] 67) := ⟨_, rfl⟩
 have hb1 : Below w.heap.size w w1 := by rw [hw1]; exact (Below.refl _ w).alloc (nR _) _
 have HA1 := hI (show Blk w1 w.heap.size 67 #[.int .i64 (i : Int), .int .u64 g, .int .i64 sc] by rw [hw1]; exact Blk.new w _ _)
 have HB1 := hI hb1
 have HOL := hI (fun b (hb : B.own b) => h.own_lt hb)
 have HM1 := hI (h.below hb1)
 have HK1 := hI (hk.below hb1 (fun b h => h.1))
 have HBY := hI hb
 have HM := hI hm
 have HI := hI hinv
 have HFR := hI hfr
 have HSL := hI hsl
 have HIL := hI hi
 have HXQ := hI h.xq
 have HW1 := hI hw1
 clear hb1 hw1 h hk hb hm hinv hfr hsl hi
 go_enter Tryz.func127, Tryz.ntmps127
 go_upto_region 1 with fail
 rw [← HW1.out]
 refine Tillst.region (fun W => Below w1.heap.size w1 W) [8, 9] (by kernel_rfl) ((Below.refl _ _).drew) (fun hė => ?_)
 generalize w1.drew = vd at *
 refine Tillst.takeG (i := 0) (oi := ad0) (v := ?_) rfl (by kernel_rfl) (by kernel_rfl) (by kernel_rfl) (by kernel_rfl) (by kernel_rfl) (fun _ _ _ h => h) (by rfl) ?_ hė ?_
 rotate_left
 ·intro W hSW; (try dsimp only at hSW); unfold ad0; go_simp; with_reducible rfl
 simp only [ad0, Act.put, sA, sZ, sS]
 refine Tillst.takeG (i := 1) (oi := ad1) (v := ?_) rfl (by kernel_rfl) (by kernel_rfl) (by kernel_rfl) (by kernel_rfl) (by kernel_rfl) (fun _ _ _ h => h) (by rfl) ?_ hė ?_
 rotate_left
 ·intro W hSW; (try dsimp only at hSW); unfold ad1; go_simp; with_reducible rfl
 simp only [ad1, Act.put, sA, sZ, sS]
 refine Tillst.takeG (i := 2) (oi := ad2) (v := ?_) rfl (by kernel_rfl) (by kernel_rfl) (by kernel_rfl) (by kernel_rfl) (by kernel_rfl) (fun _ _ _ h => h) (by rfl) ?_ hė ?_
 rotate_left
 ·intro W hSW; (try dsimp only at hSW); unfold ad2; go_simp; with_reducible rfl
 simp only [ad2, Act.put, sA, sZ, sS]
 refine Tillst.takeG (i := 3) (oi := ad3) (v := ?_) rfl (by kernel_rfl) (by kernel_rfl) (by kernel_rfl) (by kernel_rfl) (by kernel_rfl) (fun _ _ _ h => h) (by rfl) ?_ hė ?_
 rotate_left
 ·intro W hSW; (try dsimp only at hSW); unfold ad3; go_simp; with_reducible rfl
 simp only [ad3, Act.put, sA, sZ, sS]
 refine Tillst.takeG (i := 4) (oi := ad4) (v := ?_) rfl (by kernel_rfl) (by kernel_rfl) (by kernel_rfl) (by kernel_rfl) (by kernel_rfl) (fun _ _ _ h => h) (by rfl) ?_ hė ?_
 rotate_left
 ·intro W hSW; have h9 := (HM1.out.below hSW).cells.2.1; clear hSW; unfold ad4; go_simp; with_reducible rfl
 simp only [ad4, Act.put, sA, sZ, sS]
 refine Tillst.takeG (i := 5) (oi := ad5) (v := ?_) rfl (by kernel_rfl) (by kernel_rfl) (by kernel_rfl) (by kernel_rfl) (by kernel_rfl) (fun _ _ _ h => h) (by rfl) ?_ hė ?_
 rotate_left
 ·intro W hSW; (try dsimp only at hSW); unfold ad5; go_simp; with_reducible rfl
 simp only [ad5, Act.put, sA, sZ, sS]
 refine Tillst.takeG (i := 7) (oi := ad7) (v := .agg #[.int .i64 (i : Int), .int .u64 g, .int .i64 sc]) rfl (by kernel_rfl) (by kernel_rfl) (by kernel_rfl) (by kernel_rfl) (by kernel_rfl) (fun _ _ _ h => h) (by rfl) ?_ hė ?_
 ·intro W hSW; have h7 : W.cell? ⟨w.heap.size, 0, none⟩ = some (.int .i64 (i : Int)) := (HA1.out.below hSW HA1.out.lt).cell 0; have h8 : W.cell? ⟨w.heap.size, 1, none⟩ = some (.int .u64 g) := (HA1.out.below hSW HA1.out.lt).cell 1; have h9 : W.cell? ⟨w.heap.size, 2, none⟩ = some (.int .i64 sc) := (HA1.out.below hSW HA1.out.lt).cell 2; clear hSW; unfold ad7; go_simp
 simp only [ad7, Act.put, sA, sZ, sS]
 refine Tillst.one (i := 6) (o := ad6) (by kernel_rfl) rfl ?_
 intro K hK
 refine step_call 96 #[.tmp 13] #[40] rfl rfl Tryz.func96 rfl rfl [.slice A m c] rfl ((finger_key A m c (keyOf bs) vd (HK1.out.below hė (fun b h => nL h.1 HB1.out.size)) (fun b h => nL h.1 (nT HB1.out.size hė.size)) HBY.out HM.out).mono ?_)
 rintro e w2 ⟨rfl, rfl⟩
 refine ⟨_, rfl, ?_⟩
 simp only [ad6, Act.put, sA, sZ, sS]
 refine hK.out _ _ (fun _ => hė) (fun hė => ?_)
 replace hė := hė (by decide)
 clear hK K
 refine Tillst.one (i := 8) (o := ad8) (by kernel_rfl) rfl ?_
 intro K hK
 refine step_call 188 #[.tmp 12, .tmp 14, .tmp 15] #[108, 35, 67] rfl rfl Tryz.func188 rfl rfl [.pointer (some ⟨B.x, 0, none⟩), .int .u32 (fingK (keyOf bs) : Nat), .agg (adrV ((i : Int), g, sc)).toArray] rfl ((add_ix (HM1.out.ix.below hė HM1.out.ix.lt) (fingK (keyOf bs)) (fing_lt _).1 ((i : Int), g, sc)).mono ?_)
 rintro e w3 ⟨rfl, hx3, hk3⟩
 have he := es_add (slots := slots) (bs := bs) HFR.out HSL.out
 rw [he] at hx3
 rw [he]
 refine ⟨_, rfl, ?_⟩
 simp only [ad8, Act.put, sA, sZ, sS]
 have hm2 := (HM1.out.below hė).ixTo hk3 hx3 rfl HI.out
 have hkk := ((Kept.of_below (S := fun b => b < w.heap.size ∧ ¬ B.own b) HB1.out (fun b h => h.1)).trans (Kept.of_below (S := fun b => b < w.heap.size ∧ ¬ B.own b) hė (fun b h => nL h.1 HB1.out.size)) (fun b h => h)).trans hk3 (fun b h => ⟨nL h.1 (nT HB1.out.size hė.size), fun e => h.2 (.inr (.inl e))⟩)
 have HM2 := hI hm2
 have HKK := hI hkk
 have HK3 := hI ((HK1.out.below hė (fun b h => nL h.1 HB1.out.size)).kept hk3 (fun b h => ⟨nL h.1 (nT HB1.out.size hė.size), fun e => h.2 (.inr (.inl e))⟩))
 have HA3 := hI ((HA1.out.below hė HA1.out.lt).kept hk3 ⟨nL HA1.out.lt hė.size, fun e => by have := HOL.out B.x (.inr (.inl rfl)); omega⟩)
 clear he hx3 hk3 hm2 hkk
 refine hK.out _ _ (fun h => by cases h) (fun _ => ?_)
 clear hK K hė
 refine Tillst.one (i := 9) (o := ad9) (by kernel_rfl) rfl ?_
 intro K hK
 go_simp
 refine hK.out _ _ (fun h => by cases h) (fun _ => ?_)
 clear hK K
 refine Tillst.done (by kernel_rfl) ?_ _
 go_upto_region 4 with fail
 obtain ⟨f, hf⟩ : ∃ f, B.fs[i]? = some f := ⟨_, List.getElem?_eq_getElem (by rw [HM2.out.fm.len]; exact HIL.out)⟩
 have HF := hI hf
 have HFL := hI (show i < B.fs.length by rw [HM2.out.fm.len]; exact HIL.out)
 clear hf
 rename_i _ _
 refine Tillst.region (fun W => Below w3.heap.size w3 W) [10, 11] (by kernel_rfl) ((Below.refl _ _).drew) (fun hė => ?_)
 generalize w3.drew = vd at *
 refine Tillst.takeG (i := 0) (oi := ag0) (v := ?_) rfl (by kernel_rfl) (by kernel_rfl) (by kernel_rfl) (by kernel_rfl) (by kernel_rfl) (fun _ _ _ h => h) (by rfl) ?_ hė ?_
 rotate_left
 ·intro W hSW; (try dsimp only at hSW); unfold ag0; go_simp; with_reducible rfl
 simp only [ag0, Act.put, sA, sZ, sS]
 refine Tillst.takeG (i := 1) (oi := ag1) (v := ?_) rfl (by kernel_rfl) (by kernel_rfl) (by kernel_rfl) (by kernel_rfl) (by kernel_rfl) (fun _ _ _ h => h) (by rfl) ?_ hė ?_
 rotate_left
 ·intro W hSW; (try dsimp only at hSW); unfold ag1; go_simp; with_reducible rfl
 simp only [ag1, Act.put, sA, sZ, sS]
 refine Tillst.takeG (i := 2) (oi := ag2) (v := ?_) rfl (by kernel_rfl) (by kernel_rfl) (by kernel_rfl) (by kernel_rfl) (by kernel_rfl) (fun _ _ _ h => h) (by rfl) ?_ hė ?_
 rotate_left
 ·intro W hSW; (try dsimp only at hSW); unfold ag2; go_simp; with_reducible rfl
 simp only [ag2, Act.put, sA, sZ, sS]
 refine Tillst.takeG (i := 3) (oi := ag3) (v := ?_) rfl (by kernel_rfl) (by kernel_rfl) (by kernel_rfl) (by kernel_rfl) (by kernel_rfl) (fun _ _ _ h => h) (by rfl) ?_ hė ?_
 rotate_left
 ·intro W hSW; have h9 := (HM2.out.below hSW).cells.2.2.1; clear hSW; unfold ag3; go_simp; with_reducible rfl
 simp only [ag3, Act.put, sA, sZ, sS]
 refine Tillst.takeG (i := 4) (oi := ag4) (v := ?_) rfl (by kernel_rfl) (by kernel_rfl) (by kernel_rfl) (by kernel_rfl) (by kernel_rfl) (fun _ _ _ h => h) (by rfl) ?_ hė ?_
 rotate_left
 ·intro W hSW; (try dsimp only at hSW); unfold ag4; go_simp; with_reducible rfl
 simp only [ag4, Act.put, sA, sZ, sS]
 refine Tillst.takeG (i := 5) (oi := ag5) (v := ?_) rfl (by kernel_rfl) (by kernel_rfl) (by kernel_rfl) (by kernel_rfl) (by kernel_rfl) (fun _ _ _ h => h) (by rfl) ?_ hė ?_
 rotate_left
 ·intro W hSW; have h7 : W.cell? ⟨w.heap.size, 0, none⟩ = some (.int .i64 (i : Int)) := (HA3.out.below hSW HA3.out.lt).cell 0; clear hSW; unfold ag5; go_simp; with_reducible rfl
 simp only [ag5, Act.put, sA, sZ, sS]
 refine Tillst.takeG (i := 6) (oi := ag6) (v := .pointer (some ⟨B.F, i, none⟩)) rfl (by kernel_rfl) (by kernel_rfl) (by kernel_rfl) (by kernel_rfl) (by kernel_rfl) (fun _ _ _ h => h) (by rfl) ?_ hė ?_
 ·intro W hSW; have h7 := HFL.out; clear hSW; unfold ag6; go_simp
 simp only [ag6, Act.put, sA, sZ, sS]
 refine Tillst.takeG (i := 7) (oi := ag7) (v := .pointer (some ⟨f.1, 0, none⟩)) rfl (by kernel_rfl) (by kernel_rfl) (by kernel_rfl) (by kernel_rfl) (by kernel_rfl) (fun _ _ _ h => h) (by rfl) ?_ hė ?_
 ·intro W hSW; obtain ⟨cs, hF0, hcs⟩ := (HM2.out.below hSW).fm.row; have h8 := hF0.cell i; rw [hcs i f HF.out] at h8; clear hSW hcs; unfold ag7; go_simp
 simp only [ag7, Act.put, sA, sZ, sS]
 refine Tillst.takeG (i := 8) (oi := ag8) (v := ?_) rfl (by kernel_rfl) (by kernel_rfl) (by kernel_rfl) (by kernel_rfl) (by kernel_rfl) (fun _ _ _ h => h) (by rfl) ?_ hė ?_
 rotate_left
 ·intro W hSW; (try dsimp only at hSW); unfold ag8; go_simp; with_reducible rfl
 simp only [ag8, Act.put, sA, sZ, sS]
 have hlt3 := HKK.out.size
 refine Tillst.one (i := 9) (o := ag9) (by kernel_rfl) rfl ?_
 intro K hK
 refine step_call 79 #[.tmp 28] #[40] rfl rfl Tryz.func79 rfl rfl [.slice A m c] rfl ((hash_any A m c (keyOf bs) vd.heap.size vd ((HK3.out.below hė (fun b h => nL h.1 hlt3)).more (fun b h => nL h.1 (nT hlt3 hė.size))).toRow HBY.out (by have := HM.out; omega)).mono ?_)
 rintro e w4 ⟨rfl, rfl⟩
 refine ⟨_, rfl, ?_⟩
 simp only [ag9, Act.put, sA, sZ, sS]
 refine hK.out _ _ (fun _ => hė) (fun hė => ?_)
 replace hė := hė (by decide)
 clear hK K
 have hM3 := HM2.out.below hė
 refine Tillst.one (i := 10) (o := ag10) (by kernel_rfl) rfl ?_
 intro K hK
 refine step_call 189 #[.tmp 27, .tmp 29] #[117, 34] rfl rfl Tryz.func189 rfl rfl [.pointer (some ⟨f.1, 0, none⟩), .int .u64 (fnv start (keyOf bs))] rfl ((add_any _ f.1 f.2 (bl.getD i []) (fnv start (keyOf bs)) (hM3.fm.fil i f HF.out) (fnv_bounds start _ (by decide)).1).mono ?_)
 rintro e w5 ⟨rfl, hf5, hk5⟩
 refine ⟨_, rfl, ?_⟩
 simp only [ag10, Act.put, sA, sZ, sS]
 have hm5 := hM3.filTo HF.out hk5 hf5 (by rw [setBits_len]; exact hM3.fm.bits i HIL.out)
 have hkk := (HKK.out.trans (Kept.of_below (S := fun b => b < w.heap.size ∧ ¬ B.own b) hė (fun b h => nL h.1 hlt3)) (fun b h => h)).trans hk5 (fun b h => ⟨nL h.1 (nT hlt3 hė.size), fun e => h.2 (.inr (.inr (.inr ⟨f, List.mem_of_getElem? HF.out, .inr e⟩)))⟩)
 have HM5 := hI hm5
 have HK5 := hI hkk
 clear hm5 hkk hf5 hk5 hM3
 refine hK.out _ _ (fun h => by cases h) (fun _ => ?_)
 clear hK K hė
 refine Tillst.one (i := 11) (o := ag11) (by kernel_rfl) rfl ?_
 intro K hK
 go_simp
 refine hK.out _ _ (fun h => by cases h) (fun _ => ?_)
 clear hK K
 refine Tillst.done (by kernel_rfl) ?_ _
 go_wp2_with fail
 go_ret
 exact ⟨rfl, HM5.out, HK5.out⟩
theorem enter_s (h : StoM2 w X B slots s xs st bl u) {i : Nat} {g sc : Int} {bs : List Int} (hi : i < bl.length) (hk : RowI .u8 w (fun b => b < w.heap.size ∧ ¬ B.own b) A m (keyOf bs)) (hb : Bytes (keyOf bs)) (hm : m ≤ 1000000)
 (hinv : InvS B.k s xs (st ++ [(((i : Int), g, sc), bs)])) (hfr : ∀ p, p ∈ st → p.1 ≠ ((i : Int), g, sc)) (hsl : st.length ≠ slots) :
 Calls Tryz.prog 61 #[.pointer (some ⟨B.q, 0, none⟩), .slice A m c, .agg #[.int .i64 (i : Int), .int .u64 g, .int .i64 sc]] w fun e w' => e = .returned (.tuple #[]) ∧ StoM2 w' X B slots s xs (st ++ [(((i : Int), g, sc), bs)]) (addB bl i (keyOf bs)) u ∧ Kept (fun b => b < w.heap.size ∧ ¬ B.own b) w w' := by
 obtain ⟨w1, hw1⟩ : ∃ w1, w1 = w.alloc (.cells #[.int .i64 (i : Int), .int .u64 g, .int .i64 sc] 67) := ⟨_, rfl⟩
 have hb1 : Below w.heap.size w w1 := by rw [hw1]; exact (Below.refl _ w).alloc (nR _) _
 have HA1 := hI (show Blk w1 w.heap.size 67 #[.int .i64 (i : Int), .int .u64 g, .int .i64 sc] by rw [hw1]; exact Blk.new w _ _)
 have HB1 := hI hb1
 have HOL := hI (fun b (hb : B.own b) => h.own_lt hb)
 have HM1 := hI (h.below hb1)
 have HK1 := hI (hk.below hb1 (fun b h => h.1))
 have HBY := hI hb
 have HM := hI hm
 have HI := hI hinv
 have HFR := hI hfr
 have HSL := hI hsl
 have HIL := hI hi
 have HW1 := hI hw1
 have HIN := hI h.inv
 clear hb1 hw1 h hk hb hm hinv hfr hsl hi
 go_enter Tryz.func61, Tryz.ntmps61
 go_upto_region 1 with fail
 rw [← HW1.out]
 refine Tillst.region (fun W => Below w1.heap.size w1 W) [8] (by kernel_rfl) ((Below.refl _ _).drew) (fun hė => ?_)
 generalize w1.drew = vd at *
 refine Tillst.takeG (i := 0) (oi := en0) (v := ?_) rfl (by kernel_rfl) (by kernel_rfl) (by kernel_rfl) (by kernel_rfl) (by kernel_rfl) (fun _ _ _ h => h) (by rfl) ?_ hė ?_
 rotate_left
 ·intro W hSW; (try dsimp only at hSW); unfold en0; go_simp; with_reducible rfl
 simp only [en0, Act.put, sA, sZ, sS]
 refine Tillst.takeG (i := 1) (oi := en1) (v := ?_) rfl (by kernel_rfl) (by kernel_rfl) (by kernel_rfl) (by kernel_rfl) (by kernel_rfl) (fun _ _ _ h => h) (by rfl) ?_ hė ?_
 rotate_left
 ·intro W hSW; (try dsimp only at hSW); unfold en1; go_simp; with_reducible rfl
 simp only [en1, Act.put, sA, sZ, sS]
 refine Tillst.takeG (i := 2) (oi := en2) (v := ?_) rfl (by kernel_rfl) (by kernel_rfl) (by kernel_rfl) (by kernel_rfl) (by kernel_rfl) (fun _ _ _ h => h) (by rfl) ?_ hė ?_
 rotate_left
 ·intro W hSW; (try dsimp only at hSW); unfold en2; go_simp; with_reducible rfl
 simp only [en2, Act.put, sA, sZ, sS]
 refine Tillst.takeG (i := 3) (oi := en3) (v := ?_) rfl (by kernel_rfl) (by kernel_rfl) (by kernel_rfl) (by kernel_rfl) (by kernel_rfl) (fun _ _ _ h => h) (by rfl) ?_ hė ?_
 rotate_left
 ·intro W hSW; (try dsimp only at hSW); unfold en3; go_simp; with_reducible rfl
 simp only [en3, Act.put, sA, sZ, sS]
 refine Tillst.takeG (i := 4) (oi := en4) (v := ?_) rfl (by kernel_rfl) (by kernel_rfl) (by kernel_rfl) (by kernel_rfl) (by kernel_rfl) (fun _ _ _ h => h) (by rfl) ?_ hė ?_
 rotate_left
 ·intro W hSW; have h9 := (HM1.out.below hSW).cells.2.1; clear hSW; unfold en4; go_simp; with_reducible rfl
 simp only [en4, Act.put, sA, sZ, sS]
 refine Tillst.takeG (i := 5) (oi := en5) (v := ?_) rfl (by kernel_rfl) (by kernel_rfl) (by kernel_rfl) (by kernel_rfl) (by kernel_rfl) (fun _ _ _ h => h) (by rfl) ?_ hė ?_
 rotate_left
 ·intro W hSW; (try dsimp only at hSW); unfold en5; go_simp; with_reducible rfl
 simp only [en5, Act.put, sA, sZ, sS]
 refine Tillst.takeG (i := 7) (oi := en7) (v := .agg #[.int .i64 (i : Int), .int .u64 g, .int .i64 sc]) rfl (by kernel_rfl) (by kernel_rfl) (by kernel_rfl) (by kernel_rfl) (by kernel_rfl) (fun _ _ _ h => h) (by rfl) ?_ hė ?_
 ·intro W hSW; have h7 : W.cell? ⟨w.heap.size, 0, none⟩ = some (.int .i64 (i : Int)) := (HA1.out.below hSW HA1.out.lt).cell 0; have h8 : W.cell? ⟨w.heap.size, 1, none⟩ = some (.int .u64 g) := (HA1.out.below hSW HA1.out.lt).cell 1; have h9 : W.cell? ⟨w.heap.size, 2, none⟩ = some (.int .i64 sc) := (HA1.out.below hSW HA1.out.lt).cell 2; clear hSW; unfold en7; go_simp
 simp only [en7, Act.put, sA, sZ, sS]
 refine Tillst.one (i := 6) (o := en6) (by kernel_rfl) rfl ?_
 intro K hK
 refine step_call 96 #[.tmp 11] #[40] rfl rfl Tryz.func96 rfl rfl [.slice A m c] rfl ((finger_key A m c (keyOf bs) vd (HK1.out.below hė (fun b h => nL h.1 HB1.out.size)) (fun b h => nL h.1 (nT HB1.out.size hė.size)) HBY.out HM.out).mono ?_)
 rintro e w2 ⟨rfl, rfl⟩
 refine ⟨_, rfl, ?_⟩
 simp only [en6, Act.put, sA, sZ, sS]
 refine hK.out _ _ (fun _ => hė) (fun hė => ?_)
 replace hė := hė (by decide)
 clear hK K
 refine Tillst.one (i := 8) (o := en8) (by kernel_rfl) rfl ?_
 intro K hK
 refine step_call 130 #[.tmp 10, .tmp 12, .tmp 13] #[108, 35, 67] rfl rfl Tryz.func130 rfl rfl [.pointer (some ⟨B.x, 0, none⟩), .int .u32 (fingK (keyOf bs) : Nat), .agg (adrV ((i : Int), g, sc)).toArray] rfl ((remove_ix (HM1.out.ix.below hė HM1.out.ix.lt) (fingK (keyOf bs)) ((i : Int), g, sc)).mono ?_)
 rintro e w3 ⟨rfl, hx3, hk3⟩
 have he := es_rem_no (f := (fingK (keyOf bs) : Int)) HFR.out
 rw [he] at hx3
 refine ⟨_, rfl, ?_⟩
 simp only [en8, Act.put, sA, sZ, sS]
 have hm2 := (HM1.out.below hė).ixTo hk3 hx3 rfl HIN.out
 have hkk := ((Kept.of_below (S := fun b => b < w.heap.size ∧ ¬ B.own b) HB1.out (fun b h => h.1)).trans (Kept.of_below (S := fun b => b < w.heap.size ∧ ¬ B.own b) hė (fun b h => nL h.1 HB1.out.size)) (fun b h => h)).trans hk3 (fun b h => ⟨nL h.1 (nT HB1.out.size hė.size), fun e => h.2 (.inr (.inl e))⟩)
 have HM2 := hI hm2
 have HKK := hI hkk
 have HK3 := hI ((HK1.out.below hė (fun b h => nL h.1 HB1.out.size)).kept hk3 (fun b h => ⟨nL h.1 (nT HB1.out.size hė.size), fun e => h.2 (.inr (.inl e))⟩))
 have HA3 := hI ((HA1.out.below hė HA1.out.lt).kept hk3 ⟨nL HA1.out.lt hė.size, fun e => by have := HOL.out B.x (.inr (.inl rfl)); omega⟩)
 clear he hx3 hk3 hm2 hkk
 refine hK.out _ _ (fun h => by cases h) (fun _ => ?_)
 clear hK K hė
 refine Tillst.done (by kernel_rfl) ?_ _
 have a0 : w3.cell? ⟨w.heap.size, 0, none⟩ = some (.int .i64 (i : Int)) := HA3.out.cell 0
 have a1 : w3.cell? ⟨w.heap.size, 1, none⟩ = some (.int .u64 g) := HA3.out.cell 1
 have a2 : w3.cell? ⟨w.heap.size, 2, none⟩ = some (.int .i64 sc) := HA3.out.cell 2
 have HAD := hI (add_s (c := c) HM2.out HIL.out (HK3.out.more (fun b h => ⟨nL h.1 HKK.out.size, h.2⟩)) HBY.out HM.out HI.out HFR.out HSL.out)
 go_wp2_with fail
 refine HAD.out.mono ?_
 rintro e w4 ⟨rfl, hm4, hk4⟩
 have HM4 := hI hm4
 have HK4 := hI (HKK.out.trans hk4 (fun b h => ⟨nL h.1 HKK.out.size, h.2⟩))
 clear hm4 hk4 HAD a0 a1 a2
 go_wp2_with fail
 go_end0
 exact ⟨rfl, HM4.out, HK4.out⟩
end
end
section
open Go.RowKit
attribute [local go_sem] Oper.semAt_some
abbrev pd0 : Oper := ⟨some 7, .load 28 (.tmp 1), 28, "store.go:80", #[], none⟩
abbrev pd1 : Oper := ⟨some 8, .nilCheck (.tmp 7), 0, "store.go:80", #[⟨0, .data⟩], none⟩
abbrev pd2 : Oper := ⟨some 9, .fieldAddr 115 (.tmp 8) 0, 0, "store.go:80", #[⟨1, .data⟩], none⟩
abbrev pd3 : Oper := ⟨some 10, .load 112 (.tmp 9), 112, "store.go:80", #[⟨2, .data⟩], none⟩
abbrev pd4 : Oper := ⟨some 11, .fieldAddr 42 (.tmp 2) 0, 0, "store.go:80", #[], none⟩
abbrev pd5 : Oper := ⟨some 12, .load 40 (.tmp 11), 40, "store.go:80", #[⟨4, .data⟩], none⟩
abbrev pd6 : Oper := ⟨some 13, .load 125 (.tmp 3), 125, "store.go:80", #[], none⟩
abbrev pd7 : Oper := ⟨some 14, .call { callee := .value (.func 60), args := #[.tmp 10, .tmp 12, .tmp 13], argTypes := #[112, 40, 125] }, 0, "store.go:80", #[⟨3, .data⟩, ⟨5, .data⟩, ⟨6, .data⟩], none⟩
abbrev kd0 : Oper := ⟨some 6, .load 28 (.tmp 1), 28, "store.go:133", #[], none⟩
abbrev kd1 : Oper := ⟨some 7, .nilCheck (.tmp 6), 0, "store.go:133", #[⟨0, .data⟩], none⟩
abbrev kd2 : Oper := ⟨some 8, .fieldAddr 115 (.tmp 7) 0, 0, "store.go:133", #[⟨1, .data⟩], none⟩
abbrev kd3 : Oper := ⟨some 9, .load 112 (.tmp 8), 112, "store.go:133", #[⟨2, .data⟩], none⟩
abbrev kd4 : Oper := ⟨some 10, .load 40 (.tmp 2), 40, "store.go:133", #[], none⟩
abbrev kd5 : Oper := ⟨some 11, .load 125 (.tmp 3), 125, "store.go:133", #[], none⟩
abbrev kd6 : Oper := ⟨some 12, .call { callee := .value (.func 60), args := #[.tmp 9, .tmp 10, .tmp 11], argTypes := #[112, 40, 125] }, 0, "store.go:133", #[⟨3, .data⟩, ⟨4, .data⟩, ⟨5, .data⟩], none⟩
section
variable {w w' : World} {X Y : Nat → Prop} {B : StB} {slots : Nat} {s : Sup} {xs : List Seg} {st : List EntS} {bl : List (List Int)} {u : Bool} {A : Option Addr} {m c : Nat} {us : List Int} {k : Dk}
theorem InvS.put2 {a : Int × Int × Int} {bs : List Int} (h : InvS k s xs st) (h2 : AtR k s xs a bs) (hfr : ∀ p, p ∈ st → p.1 ≠ a) (hk : kindOf bs = 1) (hn : ∀ p, p ∈ st → keyOf p.2 ≠ keyOf bs) : InvS k s xs (st ++ [(a, bs)]) := by
 refine ⟨fun p hp => ?_, fun p hp => ?_, fun p hp q hq e => ?_, fun p hp q hq e => ?_⟩
 ·rcases List.mem_append.1 hp with h3 | h3
  ·exact h.here p h3
  ·rw [List.mem_singleton.1 h3]; exact h2
 ·rcases List.mem_append.1 hp with h3 | h3
  ·exact h.kind p h3
  ·rw [List.mem_singleton.1 h3]; exact hk
 ·rcases List.mem_append.1 hp with h3 | h3 <;> rcases List.mem_append.1 hq with h4 | h4
  ·exact h.adr p h3 q h4 e
  ·rw [List.mem_singleton.1 h4] at e
   exact absurd e (hfr p h3)
  ·rw [List.mem_singleton.1 h3] at e
   exact absurd e.symm (hfr q h4)
  ·rw [List.mem_singleton.1 h3, List.mem_singleton.1 h4]
 ·rcases List.mem_append.1 hp with h3 | h3 <;> rcases List.mem_append.1 hq with h4 | h4
  ·exact h.key p h3 q h4 e
  ·rw [List.mem_singleton.1 h4] at e
   exact absurd e (hn p h3)
  ·rw [List.mem_singleton.1 h3] at e
   exact absurd e.symm (hn q h4)
  ·rw [List.mem_singleton.1 h3, List.mem_singleton.1 h4]
def EntV (st : List EntS) (us : List Int) (ev : Array Value) : Prop := (hasS st us = none ∧ ev = ent0C) ∨ ∃ q b1 b2, hasS st us = some q ∧ ev = entC' q b1 b2
theorem drop_s (h : StoM2 w X B slots s xs st bl u) {ev : Array Value} (he : EntV st us ev) (hk : RowI .u8 w (· < w.heap.size) A m us) (hb : Bytes us) (hm : m ≤ 1000000) :
 Calls Tryz.prog 60 #[shV B, .slice A m c, .agg ev] w fun e w' => e = .returned (.tuple #[]) ∧ StoM2 w' X B slots s xs (outS st us) bl u ∧ Kept (fun b => b < w.heap.size ∧ b ≠ B.x) w w' := by
 rcases he with ⟨h1, rfl⟩ | ⟨q, b1, b2, h1, rfl⟩
 ·rw [out_none h1]
  refine (drop_no B.l B.x A m c w).mono ?_
  rintro e w' ⟨rfl, hb⟩
  exact ⟨rfl, h.below hb, Kept.of_below hb (fun b h => h.1)⟩
 ·obtain ⟨h2, h3⟩ := has_some h1
  subst h3
  exact drop_yes h h2 hk hb hm b1 b2
theorem EntV.size {ev : Array Value} (h : EntV st us ev) : ev.size = 10 ∧ ev.all (·.oneCell') = true := by
 rcases h with ⟨_, rfl⟩ | ⟨q, b1, b2, _, rfl⟩
 ·exact ⟨rfl, one_ent0⟩
 ·exact ⟨rfl, one_ent _ _ _⟩
theorem putD_ok {be bs_ bi bn ba : Nat} {u0 : FrameMode} {ev : Array Value} {i : Nat} {g sc : Int} {bs : List Int} {Av : Option Addr} {n2 c2 : Nat} {f0 x0 q0 : Int} {dy : Bool} (h : StoM2 w X B slots s xs st bl u) (hev : EntV st (keyOf bs) ev)
 (h1 : Blk w be 29 #[.int .i64 0]) (h2 : Blk w bs_ 28 #[.pointer (some ⟨B.q, 0, none⟩)]) (h3 : Blk w bi 42 #[.slice A m c, .slice Av n2 c2, .int .u32 f0, .int .u32 x0, .int .u64 q0, .bool dy]) (h4 : Blk w bn 125 ev) (h5 : Blk w ba 67 #[.int .i64 (i : Int), .int .u64 g, .int .i64 sc])
 (hX : X bs_ ∧ X bi ∧ X ba) (hi : i < bl.length) (hk : RowI .u8 w X A m (keyOf bs)) (hb : Bytes (keyOf bs)) (hm : m ≤ 1000000) (hat : AtR B.k s xs ((i : Int), g, sc) bs) (hfr : ∀ p, p ∈ st → p.1 ≠ ((i : Int), g, sc)) (hkd : kindOf bs = 1) (hsl : (outS st (keyOf bs)).length ≠ slots) :
 CallsD Tryz.prog 59 #[.pointer (some ⟨be, 0, none⟩), .pointer (some ⟨bs_, 0, none⟩), .pointer (some ⟨bi, 0, none⟩), .pointer (some ⟨bn, 0, none⟩), .pointer (some ⟨ba, 0, none⟩)] u0 w fun e u' w' => u' = u0 ∧ e = .returned (.tuple #[]) ∧ StoM2 w' X B slots s xs (outS st (keyOf bs) ++ [(((i : Int), g, sc), bs)]) (addB bl i (keyOf bs)) u ∧ Kept (fun b => b < w.heap.size ∧ ¬ B.own b) w w' := by
 have HM0 := hI h
 have H2 := hI h2
 have H3 := hI h3
 have H4 := hI h4
 have H5 := hI h5
 have HE := hI hev
 have HX := hI hX
 have HK := hI hk
 have HBY := hI hb
 have HM := hI hm
 have HIL := hI hi
 have HSL := hI hsl
 have HINV := hI ((h.inv.out (us := keyOf bs)).put2 hat (fun p hp => hfr p (mem_out.1 hp).1) hkd (fun p hp => (mem_out.1 hp).2))
 have HFR := hI (show ∀ p, p ∈ outS st (keyOf bs) → p.1 ≠ ((i : Int), g, sc) from fun p hp => hfr p (mem_out.1 hp).1)
 have c1 : w.cell? ⟨be, 0, none⟩ = some (.int .i64 0) := h1.cell 0
 clear h h1 h2 h3 h4 h5 hev hX hk hb hm hi hsl hat hfr hkd
 go_enter_d Tryz.func59, Tryz.ntmps59
 go_upto_region 1 with fail
 clear c1
 refine Tillst.region (fun W => Below w.heap.size w W) [7] (by kernel_rfl) ((Below.refl _ _).drew) (fun hė => ?_)
 generalize w.drew = vd at *
 refine Tillst.takeG (i := 0) (oi := pd0) (v := ?_) rfl (by kernel_rfl) (by kernel_rfl) (by kernel_rfl) (by kernel_rfl) (by kernel_rfl) (fun _ _ _ h => h) (by rfl) ?_ hė ?_
 rotate_left
 ·intro W hSW; have h9 : W.cell? ⟨bs_, 0, none⟩ = some (.pointer (some ⟨B.q, 0, none⟩)) := (H2.out.below hSW H2.out.lt).cell 0; clear hSW; unfold pd0; go_simp; with_reducible rfl
 simp only [pd0, Act.put, sA, sZ, sS]
 refine Tillst.takeG (i := 1) (oi := pd1) (v := ?_) rfl (by kernel_rfl) (by kernel_rfl) (by kernel_rfl) (by kernel_rfl) (by kernel_rfl) (fun _ _ _ h => h) (by rfl) ?_ hė ?_
 rotate_left
 ·intro W hSW; (try dsimp only at hSW); unfold pd1; go_simp; with_reducible rfl
 simp only [pd1, Act.put, sA, sZ, sS]
 refine Tillst.takeG (i := 2) (oi := pd2) (v := ?_) rfl (by kernel_rfl) (by kernel_rfl) (by kernel_rfl) (by kernel_rfl) (by kernel_rfl) (fun _ _ _ h => h) (by rfl) ?_ hė ?_
 rotate_left
 ·intro W hSW; (try dsimp only at hSW); unfold pd2; go_simp; with_reducible rfl
 simp only [pd2, Act.put, sA, sZ, sS]
 refine Tillst.takeG (i := 3) (oi := pd3) (v := shV B) rfl (by kernel_rfl) (by kernel_rfl) (by kernel_rfl) (by kernel_rfl) (by kernel_rfl) (fun _ _ _ h => h) (by rfl) ?_ hė ?_
 ·intro W hSW; have h8 := (HM0.out.below hSW).cells.1; have h9 := (HM0.out.below hSW).cells.2.1; clear hSW; unfold pd3; go_simp
 simp only [pd3, Act.put, sA, sZ, sS]
 refine Tillst.takeG (i := 4) (oi := pd4) (v := ?_) rfl (by kernel_rfl) (by kernel_rfl) (by kernel_rfl) (by kernel_rfl) (by kernel_rfl) (fun _ _ _ h => h) (by rfl) ?_ hė ?_
 rotate_left
 ·intro W hSW; (try dsimp only at hSW); unfold pd4; go_simp; with_reducible rfl
 simp only [pd4, Act.put, sA, sZ, sS]
 refine Tillst.takeG (i := 5) (oi := pd5) (v := ?_) rfl (by kernel_rfl) (by kernel_rfl) (by kernel_rfl) (by kernel_rfl) (by kernel_rfl) (fun _ _ _ h => h) (by rfl) ?_ hė ?_
 rotate_left
 ·intro W hSW; have h9 : W.cell? ⟨bi, 0, none⟩ = some (.slice A m c) := (H3.out.below hSW H3.out.lt).cell 0; clear hSW; unfold pd5; go_simp; with_reducible rfl
 simp only [pd5, Act.put, sA, sZ, sS]
 refine Tillst.takeG (i := 6) (oi := pd6) (v := .agg ev) rfl (by kernel_rfl) (by kernel_rfl) (by kernel_rfl) (by kernel_rfl) (by kernel_rfl) (fun _ _ _ h => h) (by rfl) ?_ hė ?_
 ·intro W hSW; have h9 := H4.out.below hSW H4.out.lt; rw [← Array.toArray_toList (xs := ev)] at h9 ⊢; refine row_runs (.tmp 3) 125 rfl bn rfl 125 ev.toList _ Tryz.underlying125 rfl ?_ h9; rw [size_entry, Array.length_toList, HE.out.size.1]
 simp only [pd6, Act.put, sA, sZ, sS]
 refine Tillst.one (i := 7) (o := pd7) (by kernel_rfl) rfl ?_
 intro K hK
 have hX0 := HM0.out.lt
 refine step_call 60 #[.tmp 10, .tmp 12, .tmp 13] #[112, 40, 125] rfl rfl Tryz.func60 rfl rfl [shV B, .slice A m c, .agg ev] rfl ((drop_s (HM0.out.below hė) HE.out ((HK.out.below hė hX0).more (fun b h => nL (hX0 b h) hė.size)) HBY.out HM.out).mono ?_)
 rintro e w2 ⟨rfl, hm2, hk2⟩
 refine ⟨_, rfl, ?_⟩
 simp only [pd7, Act.put, sA, sZ, sS]
 have hkk := (Kept.of_below (S := fun b => b < w.heap.size ∧ b ≠ B.x) hė (fun b h => h.1)).trans hk2 (fun b h => ⟨nL h.1 hė.size, h.2⟩)
 have HM2 := hI hm2
 have HKK := hI hkk
 clear hm2 hkk hk2 hX0
 refine hK.out _ _ (fun h => by cases h) (fun _ => ?_)
 clear hK K hė
 refine Tillst.done (by kernel_rfl) ?_ _
 have hxo : ∀ b, X b → b < w.heap.size ∧ b ≠ B.x := fun b hb => ⟨HM0.out.lt b hb, fun e => HM0.out.off B.x (.inr (.inl rfl)) (e ▸ hb)⟩
 have HK2 := hI (HK.out.kept HKK.out hxo)
 have HB2 := hI (H2.out.kept HKK.out (hxo _ HX.out.1))
 have HI2 := hI (H3.out.kept HKK.out (hxo _ HX.out.2.1))
 have HA2 := hI (H5.out.kept HKK.out (hxo _ HX.out.2.2))
 have hbs : w2.cell? ⟨bs_, 0, none⟩ = some (.pointer (some ⟨B.q, 0, none⟩)) := HB2.out.cell 0
 have hbi : w2.cell? ⟨bi, 0, none⟩ = some (.slice A m c) := HI2.out.cell 0
 have a0 : w2.cell? ⟨ba, 0, none⟩ = some (.int .i64 (i : Int)) := HA2.out.cell 0
 have a1 : w2.cell? ⟨ba, 1, none⟩ = some (.int .u64 g) := HA2.out.cell 1
 have a2 : w2.cell? ⟨ba, 2, none⟩ = some (.int .i64 sc) := HA2.out.cell 2
 have HEN := hI (enter_s (c := c) HM2.out HIL.out (HK2.out.more (fun b h => ⟨nL (hxo b h).1 HKK.out.size, fun e => HM0.out.off b e h⟩)) HBY.out HM.out HINV.out HFR.out HSL.out)
 clear hxo
 go_wp2_with fail
 refine HEN.out.mono ?_
 rintro e w3 ⟨rfl, hm3, hk3⟩
 have HM3 := hI hm3
 have HK3 := hI ((HKK.out.mono (S := fun b => b < w.heap.size ∧ ¬ B.own b) (fun b h => ⟨h.1, fun e => h.2 (.inr (.inl e))⟩)).trans hk3 (fun b h => ⟨nL h.1 HKK.out.size, h.2⟩))
 clear hm3 hk3 HEN hbs hbi a0 a1 a2
 go_wp2_with fail
 go_end0
 exact ⟨rfl, HM3.out, HK3.out⟩
theorem killD_ok {be bs_ bk bn : Nat} {u0 : FrameMode} {ev : Array Value} (h : StoM2 w X B slots s xs st bl u) (hev : EntV st us ev)
 (h1 : Blk w be 29 #[.int .i64 0]) (h2 : Blk w bs_ 28 #[.pointer (some ⟨B.q, 0, none⟩)]) (h3 : Blk w bk 40 #[.slice A m c]) (h4 : Blk w bn 125 ev)
 (hk : RowI .u8 w X A m us) (hb : Bytes us) (hm : m ≤ 1000000) :
 CallsD Tryz.prog 65 #[.pointer (some ⟨be, 0, none⟩), .pointer (some ⟨bs_, 0, none⟩), .pointer (some ⟨bk, 0, none⟩), .pointer (some ⟨bn, 0, none⟩)] u0 w fun e u' w' => u' = u0 ∧ e = .returned (.tuple #[]) ∧ StoM2 w' X B slots s xs (outS st us) bl u ∧ Kept (fun b => b < w.heap.size ∧ ¬ B.own b) w w' := by
 have HM0 := hI h
 have H2 := hI h2
 have H3 := hI h3
 have H4 := hI h4
 have HE := hI hev
 have HK := hI hk
 have HBY := hI hb
 have HM := hI hm
 have c1 : w.cell? ⟨be, 0, none⟩ = some (.int .i64 0) := h1.cell 0
 clear h h1 h2 h3 h4 hev hk hb hm
 go_enter_d Tryz.func65, Tryz.ntmps65
 go_upto_region 1 with fail
 clear c1
 refine Tillst.region (fun W => Below w.heap.size w W) [6] (by kernel_rfl) ((Below.refl _ _).drew) (fun hė => ?_)
 generalize w.drew = vd at *
 refine Tillst.takeG (i := 0) (oi := kd0) (v := ?_) rfl (by kernel_rfl) (by kernel_rfl) (by kernel_rfl) (by kernel_rfl) (by kernel_rfl) (fun _ _ _ h => h) (by rfl) ?_ hė ?_
 rotate_left
 ·intro W hSW; have h9 : W.cell? ⟨bs_, 0, none⟩ = some (.pointer (some ⟨B.q, 0, none⟩)) := (H2.out.below hSW H2.out.lt).cell 0; clear hSW; unfold kd0; go_simp; with_reducible rfl
 simp only [kd0, Act.put, sA, sZ, sS]
 refine Tillst.takeG (i := 1) (oi := kd1) (v := ?_) rfl (by kernel_rfl) (by kernel_rfl) (by kernel_rfl) (by kernel_rfl) (by kernel_rfl) (fun _ _ _ h => h) (by rfl) ?_ hė ?_
 rotate_left
 ·intro W hSW; (try dsimp only at hSW); unfold kd1; go_simp; with_reducible rfl
 simp only [kd1, Act.put, sA, sZ, sS]
 refine Tillst.takeG (i := 2) (oi := kd2) (v := ?_) rfl (by kernel_rfl) (by kernel_rfl) (by kernel_rfl) (by kernel_rfl) (by kernel_rfl) (fun _ _ _ h => h) (by rfl) ?_ hė ?_
 rotate_left
 ·intro W hSW; (try dsimp only at hSW); unfold kd2; go_simp; with_reducible rfl
 simp only [kd2, Act.put, sA, sZ, sS]
 refine Tillst.takeG (i := 3) (oi := kd3) (v := shV B) rfl (by kernel_rfl) (by kernel_rfl) (by kernel_rfl) (by kernel_rfl) (by kernel_rfl) (fun _ _ _ h => h) (by rfl) ?_ hė ?_
 ·intro W hSW; have h8 := (HM0.out.below hSW).cells.1; have h9 := (HM0.out.below hSW).cells.2.1; clear hSW; unfold kd3; go_simp
 simp only [kd3, Act.put, sA, sZ, sS]
 refine Tillst.takeG (i := 4) (oi := kd4) (v := ?_) rfl (by kernel_rfl) (by kernel_rfl) (by kernel_rfl) (by kernel_rfl) (by kernel_rfl) (fun _ _ _ h => h) (by rfl) ?_ hė ?_
 rotate_left
 ·intro W hSW; have h9 : W.cell? ⟨bk, 0, none⟩ = some (.slice A m c) := (H3.out.below hSW H3.out.lt).cell 0; clear hSW; unfold kd4; go_simp; with_reducible rfl
 simp only [kd4, Act.put, sA, sZ, sS]
 refine Tillst.takeG (i := 5) (oi := kd5) (v := .agg ev) rfl (by kernel_rfl) (by kernel_rfl) (by kernel_rfl) (by kernel_rfl) (by kernel_rfl) (fun _ _ _ h => h) (by rfl) ?_ hė ?_
 ·intro W hSW; have h9 := H4.out.below hSW H4.out.lt; rw [← Array.toArray_toList (xs := ev)] at h9 ⊢; refine row_runs (.tmp 3) 125 rfl bn rfl 125 ev.toList _ Tryz.underlying125 rfl ?_ h9; rw [size_entry, Array.length_toList, HE.out.size.1]
 simp only [kd5, Act.put, sA, sZ, sS]
 refine Tillst.one (i := 6) (o := kd6) (by kernel_rfl) rfl ?_
 intro K hK
 have hX0 := HM0.out.lt
 refine step_call 60 #[.tmp 9, .tmp 10, .tmp 11] #[112, 40, 125] rfl rfl Tryz.func60 rfl rfl [shV B, .slice A m c, .agg ev] rfl ((drop_s (HM0.out.below hė) HE.out ((HK.out.below hė hX0).more (fun b h => nL (hX0 b h) hė.size)) HBY.out HM.out).mono ?_)
 rintro e w2 ⟨rfl, hm2, hk2⟩
 refine ⟨_, rfl, ?_⟩
 simp only [kd6, Act.put, sA, sZ, sS]
 have hkk := (Kept.of_below (S := fun b => b < w.heap.size ∧ b ≠ B.x) hė (fun b h => h.1)).trans hk2 (fun b h => ⟨nL h.1 hė.size, h.2⟩)
 have HM2 := hI hm2
 have HKK := hI hkk
 clear hm2 hkk hk2 hX0
 refine hK.out _ _ (fun h => by cases h) (fun _ => ?_)
 clear hK K hė
 refine Tillst.done (by kernel_rfl) ?_ _
 go_wp2_with fail
 go_end0
 exact ⟨rfl, HM2.out, HKK.out.mono (S := fun b => b < w.heap.size ∧ ¬ B.own b) (fun b h => ⟨h.1, fun e => h.2 (.inr (.inl e))⟩)⟩
theorem putD_no {be : Nat} {er : Int} {u0 : FrameMode} (a1 a2 a3 a4 : Value) (h1 : Blk w be 29 #[.int .i64 er]) (hne : (er == 0) = false) :
 CallsD Tryz.prog 59 #[.pointer (some ⟨be, 0, none⟩), a1, a2, a3, a4] u0 w fun e u' w' => u' = u0 ∧ e = .returned (.tuple #[]) ∧ w' = w := by
 have c1 : w.cell? ⟨be, 0, none⟩ = some (.int .i64 er) := h1.cell 0
 clear h1
 go_enter_d Tryz.func59, Tryz.ntmps59
 go_wp2_with fail
 go_end0
 exact ⟨rfl, rfl⟩
theorem killD_no {be : Nat} {er : Int} {u0 : FrameMode} (a1 a2 a3 : Value) (h1 : Blk w be 29 #[.int .i64 er]) (hne : (er == 0) = false) :
 CallsD Tryz.prog 65 #[.pointer (some ⟨be, 0, none⟩), a1, a2, a3] u0 w fun e u' w' => u' = u0 ∧ e = .returned (.tuple #[]) ∧ w' = w := by
 have c1 : w.cell? ⟨be, 0, none⟩ = some (.int .i64 er) := h1.cell 0
 clear h1
 go_enter_d Tryz.func65, Tryz.ntmps65
 go_wp2_with fail
 go_end0
 exact ⟨rfl, rfl⟩
theorem out_lt (h : hasS st us ≠ none) : (outS st us).length < st.length := by
 obtain ⟨q, hq⟩ : ∃ q, hasS st us = some q := Option.ne_none_iff_exists'.1 h
 obtain ⟨h1, h2⟩ := has_some hq
 unfold outS
 refine List.length_filter_lt_length_iff_exists.2 ⟨q, h1, by simp [h2]⟩
end
end
end Go.Proofs.YtknfblfnfoibkaaGreat
