/- SuperCuts: the walk. -/
import Derived.Test.YtkmbbfdjdmkjpaaSetCut
import Derived.Test.YtkmbbfdjdmkjpaaArgsCut
import Derived.Test.YtkmbbfdjdmkjpaaArgsSup
import Derived.Test.YtkmbbfdjdmkjpaaCalm
import Derived.Test.YtkmbbfdjdmkjpaaSupEq
import Derived.Test.YtkmbbfdjdmkjpaaAppend
import Derived.Deep.DeepCutAuto
namespace Go.Proofs.Ytkmbbfdjdmkjpaa
open Go.RowKit
set_option linter.unusedVariables false
set_option linter.unusedSimpArgs false

/-- While the disk is armed and set to fail. -/
def SoftC (w : World) (m0 K p d : Nat) (t : Int) (o : Sup) (k1 : Dk) (c1 c2 : Array Value) (wx : World) : Prop :=
  ∃ k : Dk, StoreM wx (fun b => b < m0 ∨ b = K) p d 98 o.a o.b o.g o.r o.v o.f t k ∧ (k.safe = k1.safe ∧ k.pend = [] ∧ k.dead = false) ∧ Blk wx (w.heap.size + 1) 24 c1 ∧ Blk wx (w.heap.size + 1 + 1) 59 c2 ∧ Blk wx K 24 o.c ∧ Below w.heap.size w wx ∧ w.heap.size + 1 + 1 < m0 ∧ m0 ≤ wx.heap.size
section
variable {w wx : World} {m0 K p d : Nat} {t : Int} {o : Sup} {k1 : Dk} {c1 c2 : Array Value}
theorem SoftC.lim (h : SoftC w m0 K p d t o k1 c1 c2 wx) : ∀ c, ((c < m0 ∨ c = K) ∨ c = p) → c < wx.heap.size := by
  obtain ⟨k, hs, _, _, _, hK, _, _, hm⟩ := h
  intro c h
  rcases h with (h | h) | h
  · omega
  · rw [h]; exact hK.lt
  · rw [h]; exact hs.1.lt
theorem SoftC.next {k : Dk} (hs : StoreM wx (fun b => b < m0 ∨ b = K) p d 98 o.a o.b o.g o.r o.v o.f t k) (h : SoftC w m0 K p d t o k1 c1 c2 wx) {w' : World} {k' : Dk} (hd : DiskM w' (fun c => (c < m0 ∨ c = K) ∨ c = p) d 98 k') (hk : Kept (fun c => (c < m0 ∨ c = K) ∨ c = p) wx w') (hsf : k'.safe = k1.safe ∧ k'.pend = [] ∧ k'.dead = false) : SoftC w m0 K p d t o k1 c1 c2 w' := by
  obtain ⟨_, _, _, h1, h2, h3, h4, h5, h6⟩ := h
  exact ⟨k', hs.disk hd hk, hsf, h1.kept hk (.inl (.inl (by omega))), h2.kept hk (.inl (.inl h5)), h3.kept hk (.inl (.inr rfl)), h4.trans (hk.to_below (fun b hb => .inl (.inl (by omega)))), h5, Nat.le_trans h6 hk.size⟩
theorem soft_arm {k k1 : Dk} (h : k.safe = k1.safe ∧ k.pend = [] ∧ k.dead = false) (x : Int) : (k.arm x).safe = k1.safe ∧ (k.arm x).pend = [] ∧ (k.arm x).dead = false := by
  unfold Dk.arm
  rw [if_neg (by rw [h.2.2]; simp)]
  exact h
theorem soft_fail {k k1 : Dk} (h : k.safe = k1.safe ∧ k.pend = [] ∧ k.dead = false) (x : Int) : (k.fail x).safe = k1.safe ∧ (k.fail x).pend = [] ∧ (k.fail x).dead = false := by
  unfold Dk.fail
  rw [if_neg (by rw [h.2.2]; simp)]
  exact h
end
theorem info_boolC : (Try.prog.info? 4).map (fun i => (i.zero, i.size, i.bytes)) = some (some (.bool false), 1, 1) := by kernel_rfl
theorem zero_supC (w : World) : (zeroValue 24).run Try.prog w = .ok (.agg (supC 0 0 0 0 0 0)) w := (Try.zeroValue24 w).trans rfl
theorem sup_cells0 {w : World} {g : Nat} {t : TypeId} {a b c e v f : Int} (h : Blk w g t (supC a b c e v f)) : Blk ((w.setCell ⟨g, 0, none⟩ (.int .i64 4)).setCell ⟨g, 1, none⟩ (.int .i64 24)) g t (supC 4 24 c e v f) := (h.set_ 0 (.int .i64 4)).set_ 1 (.int .i64 24)

set_option maxRecDepth 100000 in
set_option maxHeartbeats 4000000 in
theorem cuts_law (A0 B0 G0 R0 V0 F0 A1 B1 G1 R1 V1 F1 at_ fl : Int) (A : Option Addr) (n c : Nat) (xs : List Bool) (w : World) (h0 : InS A0 B0 G0 R0 V0 F0) (h1 : InS A1 B1 G1 R1 V1 F1) (hc : IsCut w at_ fl A n c xs) (hb : c ≤ 140737488351232) :
    Calls Try.prog 6 #[.agg (supC A0 B0 G0 R0 V0 F0), .agg (supC A1 B1 G1 R1 V1 F1), .agg #[.int .i64 at_, .int .i64 fl, .slice A n c]] w fun e w' => e = .returned (.bool true) ∧ Below w.heap.size w w' := by
  have HC := Lib.hid hc
  obtain ⟨x0, hx0⟩ : ∃ x0 : Sup, x0 = ⟨4, 24, G0, R0, V0, F0⟩ := ⟨_, rfl⟩
  obtain ⟨x1, hx1⟩ : ∃ x1 : Sup, x1 = ⟨4, 24, G1, R1, V1, F1⟩ := ⟨_, rfl⟩
  have HI0 := Lib.hid (show x0.In by rw [hx0]; unfold Sup.In; unfold InS at *; simp only []; omega)
  have HI1 := Lib.hid (show x1.In by rw [hx1]; unfold Sup.In; unfold InS at *; simp only []; omega)
  have HX0 := Lib.hid (show x0.c = supC 4 24 G0 R0 V0 F0 by rw [hx0]; rfl)
  have HX1 := Lib.hid (show x1.c = supC 4 24 G1 R1 V1 F1 by rw [hx1]; rfl)
  have HX4 := Lib.hid (show x1.a = 4 ∧ x1.b = 24 by rw [hx1]; exact ⟨rfl, rfl⟩)
  have HCB := Lib.hid hb
  have HNC := Lib.hid hc.nc
  obtain ⟨m, hm⟩ : ∃ m, max at_ 0 % 4 = m := ⟨_, rfl⟩
  have hm0 : 0 ≤ m ∧ m < 4 := by omega
  have HM0 := Lib.hid hm0
  have hat0 := hc.k0
  have hat1 := hc.k1
  have hfl0 := hc.f0
  have hfl1 := hc.f1
  have HP3 := Lib.hid (show Blk (((w.alloc (.cells (supC A0 B0 G0 R0 V0 F0) 24)).alloc (.cells (supC A1 B1 G1 R1 V1 F1) 24)).alloc (.cells #[.int .i64 at_, .int .i64 fl, .slice A n c] 59)) w.heap.size 24 (supC A0 B0 G0 R0 V0 F0) from ((Blk.new w _ _).alloc _).alloc _)
  have HQ3 := Lib.hid (show Blk (((w.alloc (.cells (supC A0 B0 G0 R0 V0 F0) 24)).alloc (.cells (supC A1 B1 G1 R1 V1 F1) 24)).alloc (.cells #[.int .i64 at_, .int .i64 fl, .slice A n c] 59)) (w.heap.size + 1) 24 (supC A1 B1 G1 R1 V1 F1) from (blk_new2 w _ _ _).alloc _)
  have HR3 := Lib.hid (show Blk (((w.alloc (.cells (supC A0 B0 G0 R0 V0 F0) 24)).alloc (.cells (supC A1 B1 G1 R1 V1 F1) 24)).alloc (.cells #[.int .i64 at_, .int .i64 fl, .slice A n c] 59)) (w.heap.size + 1 + 1) 59 #[.int .i64 at_, .int .i64 fl, .slice A n c] from blk_new3 w _ _ _ _)
  have HB3 := Lib.hid (show Below w.heap.size w (((w.alloc (.cells (supC A0 B0 G0 R0 V0 F0) 24)).alloc (.cells (supC A1 B1 G1 R1 V1 F1) 24)).alloc (.cells #[.int .i64 at_, .int .i64 fl, .slice A n c] 59)) from (((Below.refl w.heap.size w).alloc (Nat.le_refl _) _).alloc (by simp) _).alloc (by simp; omega) _)
  clear hx0 hx1 hc hb h0 h1
  go_enter Try.func6, Try.ntmps6
  go_wp2_with fail
  refine (wakes_any _).mono ?_
  rintro e w1 ⟨rfl, hb⟩
  have HP1 := Lib.hid (HP3.out.below hb HP3.out.lt)
  have HQ1 := Lib.hid (HQ3.out.below hb HQ3.out.lt)
  have HR1 := Lib.hid (HR3.out.below hb HR3.out.lt)
  have HB1 := Lib.hid (HB3.out.trans (hb.mono HB3.out.size))
  have HL1 := Lib.hid HR1.out.lt
  clear hb
  go_wp2_with fail
  refine (new_i w1 98 98 rfl (by omega) (by omega)).mono ?_
  rintro e w2 ⟨d, rfl, hd, hb⟩
  have HD2 := Lib.hid hd
  have HB2 := Lib.hid hb
  clear hd hb
  go_wp2_with fail
  refine (format_fresh HD2.out (fun c h => Nat.lt_of_lt_of_le h HB2.out.size) 4 24 fmt_may (by omega)).mono ?_
  rintro e w3 ⟨p, rfl, hst, hk⟩
  obtain ⟨k0, hk0⟩ : ∃ k0, k0 = (((Dk.fresh 98).wr (Dk.put 0 (supL 4 24 0 0 0 0 0))).wr (Dk.put 1 (noughts 64))).wr Dk.sync := ⟨_, rfl⟩
  rw [← hk0] at hst
  have HK0 := Lib.hid hk0
  clear hk0
  have hb := HB2.out.trans (hk.to_below (B := w1.heap.size) (fun b hb => hb))
  have HS3 := Lib.hid hst
  have HP4 := Lib.hid (HP1.out.below hb HP1.out.lt)
  have HQ4 := Lib.hid (HQ1.out.below hb HQ1.out.lt)
  have HR4 := Lib.hid (HR1.out.below hb HR1.out.lt)
  have HB4 := Lib.hid (HB1.out.trans (hb.mono HB1.out.size))
  have HSZ := Lib.hid hb.size
  obtain ⟨f0, f1, f2, f3⟩ := And.intro (HP4.out.frozen 0) (And.intro (HP4.out.frozen 1) (And.intro (HQ4.out.frozen 0) (HQ4.out.frozen 1)))
  obtain ⟨c0, c1, c2, c3⟩ : _ ∧ _ ∧ _ ∧ _ := ⟨HP4.out.cell 0, HP4.out.cell 1, HQ4.out.cell 0, HQ4.out.cell 1⟩
  simp only [List.getElem?_toArray, List.getElem?_cons_zero, List.getElem?_cons_succ] at c0 c1 c2 c3
  clear hst hk hb
  have HP5 := Lib.hid (((sup_cells0 HP4.out).far (p := ⟨w.heap.size + 1, 0, none⟩) (show w.heap.size ≠ w.heap.size + 1 by omega) (.int .i64 4)).far (p := ⟨w.heap.size + 1, 1, none⟩) (show w.heap.size ≠ w.heap.size + 1 by omega) (.int .i64 24))
  have HQ5 := Lib.hid (sup_cells0 ((HQ4.out.far (p := ⟨w.heap.size, 0, none⟩) (show w.heap.size + 1 ≠ w.heap.size by omega) (.int .i64 4)).far (p := ⟨w.heap.size, 1, none⟩) (show w.heap.size + 1 ≠ w.heap.size by omega) (.int .i64 24)))
  have HR5 := Lib.hid ((((HR4.out.far (p := ⟨w.heap.size, 0, none⟩) (show w.heap.size + 1 + 1 ≠ w.heap.size by omega) (.int .i64 4)).far (p := ⟨w.heap.size, 1, none⟩) (show w.heap.size + 1 + 1 ≠ w.heap.size by omega) (.int .i64 24)).far (p := ⟨w.heap.size + 1, 0, none⟩) (show w.heap.size + 1 + 1 ≠ w.heap.size + 1 by omega) (.int .i64 4)).far (p := ⟨w.heap.size + 1, 1, none⟩) (show w.heap.size + 1 + 1 ≠ w.heap.size + 1 by omega) (.int .i64 24))
  have HB5 := Lib.hid ((((HB4.out.setCell (p := ⟨w.heap.size, 0, none⟩) (Nat.le_refl _) (.int .i64 4)).setCell (p := ⟨w.heap.size, 1, none⟩) (Nat.le_refl _) (.int .i64 24)).setCell (p := ⟨w.heap.size + 1, 0, none⟩) (show w.heap.size ≤ w.heap.size + 1 by omega) (.int .i64 4)).setCell (p := ⟨w.heap.size + 1, 1, none⟩) (show w.heap.size ≤ w.heap.size + 1 by omega) (.int .i64 24))
  have HK5 := Lib.hid (show Kept (fun b => b ≠ w.heap.size ∧ b ≠ w.heap.size + 1) w3 ((((w3.setCell ⟨w.heap.size, 0, none⟩ (.int .i64 4)).setCell ⟨w.heap.size, 1, none⟩ (.int .i64 24)).setCell ⟨w.heap.size + 1, 0, none⟩ (.int .i64 4)).setCell ⟨w.heap.size + 1, 1, none⟩ (.int .i64 24)) from
    ((((Kept.refl _ w3).setCell (p := ⟨w.heap.size, 0, none⟩) (fun h => h.1 rfl) _).setCell (p := ⟨w.heap.size, 1, none⟩) (fun h => h.1 rfl) _).setCell (p := ⟨w.heap.size + 1, 0, none⟩) (fun h => h.2 rfl) _).setCell (p := ⟨w.heap.size + 1, 1, none⟩) (fun h => h.2 rfl) _)
  have HS5 := Lib.hid (HS3.out.kept (Y := fun b => b < w1.heap.size) HK5.out (fun b hb hx => by have h := HL1.out; exact ⟨fun e => hx (by omega), fun e => hx (by omega)⟩) (fun b _ h => h))
  go_upto_region 10 with fail
  generalize (((w3.setCell ⟨w.heap.size, 0, none⟩ (.int .i64 4)).setCell ⟨w.heap.size, 1, none⟩ (.int .i64 24)).setCell ⟨w.heap.size + 1, 0, none⟩ (.int .i64 4)).setCell ⟨w.heap.size + 1, 1, none⟩ (.int .i64 24) = w5 at *
  clear c0 c1 c2 c3 f0 f1 f2 f3
  have HSF := Lib.hid (set_first (x := x0) HK0.out HS5.out (fun c h => Nat.lt_of_lt_of_le h (Nat.le_trans HSZ.out HK5.out.size)) HI0.out)
  rw [HX0.out] at HSF
  go_wp2_with (refine wpList_load_rowB (.tmp 3) 24 rfl rfl w.heap.size rfl 24 (supC 4 24 G0 R0 V0 F0).toList _ Try.underlying24 rfl size_sup HP5.out ?_)
  refine HSF.out.mono ?_
  rintro e w6 ⟨E0, o, t, k1, rfl, hst, hk, hr, hom, hoa, hob⟩
  have HS6 := Lib.hid hst
  have HQ6 := Lib.hid (HQ5.out.kept hk (by have := HL1.out; omega))
  have HR6 := Lib.hid (HR5.out.kept hk HL1.out)
  have HB6 := Lib.hid (HB5.out.trans (hk.to_below (B := w.heap.size) (fun b hb => Nat.lt_of_lt_of_le hb HB1.out.size)))
  have HZ6 := Lib.hid (Nat.le_trans (Nat.le_trans HSZ.out HK5.out.size) hk.size)
  have HRD := Lib.hid hr
  have HOM := Lib.hid (show o.May ∧ o.a = 4 ∧ o.b = 24 from ⟨hom, hoa, hob⟩)
  clear hst hk hr hom hoa hob HSF
  go_wp2_with fail
  refine (get_any HS6.out).mono ?_
  rintro e w7 ⟨rfl, hb⟩
  have HS7 := Lib.hid (HS6.out.below hb)
  have HQ7 := Lib.hid ((HQ6.out.below hb HQ6.out.lt).alloc (.cells #[.int .i64 o.a, .int .i64 o.b, .int .u64 o.g, .int .u64 o.r, .int .u64 o.v, .int .u64 o.f] 24))
  have HR7 := Lib.hid ((HR6.out.below hb HR6.out.lt).alloc (.cells #[.int .i64 o.a, .int .i64 o.b, .int .u64 o.g, .int .u64 o.r, .int .u64 o.v, .int .u64 o.f] 24))
  have HB7 := Lib.hid ((HB6.out.trans (hb.mono HB6.out.size)).alloc (HB6.out.trans (hb.mono HB6.out.size)).size (.cells #[.int .i64 o.a, .int .i64 o.b, .int .u64 o.g, .int .u64 o.r, .int .u64 o.v, .int .u64 o.f] 24))
  have HK7 := Lib.hid (show Blk (w7.alloc (.cells #[.int .i64 o.a, .int .i64 o.b, .int .u64 o.g, .int .u64 o.r, .int .u64 o.v, .int .u64 o.f] 24)) w7.heap.size 24 o.c from Blk.new w7 24 o.c)
  have HZ7 := Lib.hid (Nat.le_trans HZ6.out hb.size)
  clear hb
  have HS8 := Lib.hid (HS7.out.kept (Y := fun b => b < w1.heap.size ∨ b = w7.heap.size) (Z := fun b => b < w7.heap.size) (Kept.of_below ((Below.refl w7.heap.size w7).alloc (Nat.le_refl _) (.cells #[.int .i64 o.a, .int .i64 o.b, .int .u64 o.g, .int .u64 o.r, .int .u64 o.v, .int .u64 o.f] 24)) (fun b h => h)) (fun b hb _ => hb) (fun b hb h => by rcases h with h | h; exact h; omega))
  have HSO := Lib.hid (show SoftC w w1.heap.size w7.heap.size p d t o k1 (supC 4 24 G1 R1 V1 F1) #[.int .i64 at_, .int .i64 fl, .slice A n c] (w7.alloc (.cells #[.int .i64 o.a, .int .i64 o.b, .int .u64 o.g, .int .u64 o.r, .int .u64 o.v, .int .u64 o.f] 24)) from
    ⟨k1, HS8.out, ⟨rfl, HRD.out.tidy.2, HRD.out.tidy.1.1⟩, HQ7.out, HR7.out, HK7.out, HB7.out, HL1.out, by have := HZ7.out; simp; omega⟩)
  clear HS7 HQ7 HR7 HB7 HK7 HS8
  go_upto_region 12 with fail
  generalize w7.alloc (.cells #[.int .i64 o.a, .int .i64 o.b, .int .u64 o.g, .int .u64 o.r, .int .u64 o.v, .int .u64 o.f] 24) = w8 at *
  go_cut [] from 38 to 43 (fun wx => SoftC w w1.heap.size w7.heap.size p d t o k1 (supC 4 24 G1 R1 V1 F1) #[.int .i64 at_, .int .i64 fl, .slice A n c] wx)
  case first =>
    have HX8 := Lib.hid HSO.out.lim
    obtain ⟨k, hs, hsf, _, hr8, _⟩ := HSO.out
    have HS8 := Lib.hid hs
    have HSF := Lib.hid hsf
    have a0 := hr8.cell 0
    simp only [List.getElem?_toArray, List.getElem?_cons_zero, List.getElem?_cons_succ] at a0
    clear hs hsf hr8
    go_wp2_with fail
    all_goals
      refine (arm_k HS8.out.2.1 HX8.out _ (by omega) (by omega)).mono ?_
      rintro e w9 ⟨rfl, hd, hk⟩
      have HN := Lib.hid (SoftC.next HS8.out HSO.out hd hk (soft_arm HSF.out _))
      clear hd hk
      go_wp2_with fail
      go_meet
      exact HN.out
  case rest =>
    have HS9 := Lib.hid hcut
    clear hcut HSO
    have HX8 := Lib.hid HS9.out.lim
    obtain ⟨k, hs, hsf, _, hr8, _⟩ := HS9.out
    have HS8 := Lib.hid hs
    have HSF := Lib.hid hsf
    have a1 := hr8.cell 1
    simp only [List.getElem?_toArray, List.getElem?_cons_zero, List.getElem?_cons_succ] at a1
    clear hs hsf hr8
    obtain ⟨bb, hbb⟩ : ∃ bb, decide (0 < fl) = bb := ⟨_, rfl⟩
    go_upto_if 46 with fail
    have HFB := Lib.hid hbb
    clear hbb
    go_cut [] from 47 to 53 (fun wx => SoftC w w1.heap.size w7.heap.size p d t o k1 (supC 4 24 G1 R1 V1 F1) #[.int .i64 at_, .int .i64 fl, .slice A n c] wx)
    case first =>
      cases bb
      case false =>
        go_wp2_with fail
        go_meet
        exact HS9.out
      have hf : 0 < fl := of_decide_eq_true HFB.out
      go_wp2_with fail
      refine (arm_k HS8.out.2.1 HX8.out (-1) (by omega) (by omega)).mono ?_
      rintro e w9 ⟨rfl, hd, hk⟩
      have HN := Lib.hid (SoftC.next HS8.out HS9.out hd hk (soft_arm HSF.out _))
      clear hd hk HX8 HS8 HSF a1
      have HX8 := Lib.hid HN.out.lim
      obtain ⟨k, hs, hsf, _, hr8, _⟩ := HN.out
      have HS8 := Lib.hid hs
      have HSF := Lib.hid hsf
      have a1 := hr8.cell 1
      simp only [List.getElem?_toArray, List.getElem?_cons_zero, List.getElem?_cons_succ] at a1
      clear hs hsf hr8
      go_wp2_with fail
      refine (fail_k HS8.out.2.1 HX8.out _ (by omega) (by omega)).mono ?_
      rintro e w10 ⟨rfl, hd, hk⟩
      have HN2 := Lib.hid (SoftC.next HS8.out HN.out hd hk (soft_fail HSF.out _))
      clear hd hk
      go_wp2_with fail
      go_meet
      exact HN2.out
    case rest =>
      have HLM := Lib.hid hcut.lim
      obtain ⟨k, hs, hsf, hq, hr, hk0, hbw, hlt, hm0⟩ := hcut
      have HSa := Lib.hid hs
      have HQa := Lib.hid hq
      have HRa := Lib.hid hr
      have HKa := Lib.hid hk0
      have HBa := Lib.hid hbw
      have HLa := Lib.hid hlt
      have HMa := Lib.hid hm0
      have hsc := set_cut (x := x1) hs (fun c h => HLM.out c (.inl h)) HRD.out hsf.1 hsf.2.1 hsf.2.2 HOM.out.1 HOM.out.2 HI1.out HX4.out
      rw [HX1.out] at hsc
      have HSC := Lib.hid hsc
      obtain ⟨q0, q1, q2, q3, q4, q5⟩ : _ ∧ _ ∧ _ ∧ _ ∧ _ ∧ _ := ⟨hq.cell 0, hq.cell 1, hq.cell 2, hq.cell 3, hq.cell 4, hq.cell 5⟩
      simp only [List.getElem?_toArray, List.getElem?_cons_zero, List.getElem?_cons_succ] at q0 q1 q2 q3 q4 q5
      clear hs hsf hq hr hk0 hbw hlt hm0 hsc HS9 hat0 hat1 hfl0 hfl1
      go_wp2_with fail
      refine HSC.out.mono ?_
      rintro e wb ⟨E, now, t', kk, rfl, hst, hk, hout⟩
      have HSb := Lib.hid hst
      have HQb := Lib.hid (HQa.out.kept hk (.inl (by have := HLa.out; omega)))
      have HRb := Lib.hid (HRa.out.kept hk (.inl HLa.out))
      have HKb := Lib.hid (HKa.out.kept hk (.inr rfl))
      have HBb := Lib.hid (HBa.out.trans (hk.to_below (B := w.heap.size) (fun b hb => .inl (by have := HLa.out; omega))))
      have HMb := Lib.hid (Nat.le_trans HMa.out hk.size)
      have HOU := Lib.hid hout
      clear hst hk hout q0 q1 q2 q3 q4 q5 HSC
      go_wp2_with fail
      refine (get_any HSb.out).mono ?_
      rintro e wd ⟨rfl, hb⟩
      have HSd := Lib.hid (HSb.out.below hb)
      have HQd := Lib.hid ((HQb.out.below hb HQb.out.lt).alloc (.cells #[.int .i64 now.a, .int .i64 now.b, .int .u64 now.g, .int .u64 now.r, .int .u64 now.v, .int .u64 now.f] 24))
      have HRd := Lib.hid ((HRb.out.below hb HRb.out.lt).alloc (.cells #[.int .i64 now.a, .int .i64 now.b, .int .u64 now.g, .int .u64 now.r, .int .u64 now.v, .int .u64 now.f] 24))
      have HKd := Lib.hid ((HKb.out.below hb HKb.out.lt).alloc (.cells #[.int .i64 now.a, .int .i64 now.b, .int .u64 now.g, .int .u64 now.r, .int .u64 now.v, .int .u64 now.f] 24))
      have HBd := Lib.hid ((HBb.out.trans (hb.mono HBb.out.size)).alloc (HBb.out.trans (hb.mono HBb.out.size)).size (.cells #[.int .i64 now.a, .int .i64 now.b, .int .u64 now.g, .int .u64 now.r, .int .u64 now.v, .int .u64 now.f] 24))
      have HNd := Lib.hid (show Blk (wd.alloc (.cells #[.int .i64 now.a, .int .i64 now.b, .int .u64 now.g, .int .u64 now.r, .int .u64 now.v, .int .u64 now.f] 24)) wd.heap.size 24 now.c from Blk.new wd 24 now.c)
      have HMd := Lib.hid (Nat.le_trans HMb.out hb.size)
      have HBB := Lib.hid ((Below.refl wd.heap.size wd).alloc (Nat.le_refl _) (.cells #[.int .i64 now.a, .int .i64 now.b, .int .u64 now.g, .int .u64 now.r, .int .u64 now.v, .int .u64 now.f] 24))
      have a2 := HRd.out.cell 2
      simp only [List.getElem?_toArray, List.getElem?_cons_zero, List.getElem?_cons_succ] at a2
      clear hb
      go_upto_region 18 with fail
      generalize wd.alloc (.cells #[.int .i64 now.a, .int .i64 now.b, .int .u64 now.g, .int .u64 now.r, .int .u64 now.v, .int .u64 now.f] 24) = we at *
      obtain ⟨i0, hi, hz0, hz1, hz2⟩ := info_parts info_boolC
      have a3 : (we.alloc (.cells #[] 4)).cell? ⟨w.heap.size + 1 + 1, 2, none⟩ = some (.slice A n c) := (HRd.out.alloc (.cells #[] 4)).cell 2
      clear a2
      go_wp2_with (at_builtin; refine wpList_append_rowG rfl (.tmp 60) (.tmp 62) 57 rfl we.heap.size 4 i0 (.bool false) 1 Try.underlying57 hi hz0 hz1 hz2 rfl (fun _ => rfl) _ _ _ rfl (own_empty we 4) (· < w.heap.size) A n c xs rfl (HC.out.keep.below (HBd.out.alloc HBd.out.size (.cells #[] 4)) (fun b h => h)) HC.out.nA ?c2 ?c3 ?c4 ?_)
      case c2 => unfold maxLen; have := HCB.out; have := HNC.out; omega
      case c3 => have := HCB.out; have := HNC.out; omega
      case c4 => simp
      intro v1 wf hown1 hgrow1 _
      have hb1 : Below we.heap.size we wf := ((Below.refl _ _).alloc (Nat.le_refl _) _).grown hgrow1 (by simp) (fun k hk => by simp [Value.ownBlock] at hk; omega)
      have hown2 : wf.ownsRow we.heap.size 4 1 v1 n (xs.map Value.bool) := by first | exact hown1 | simpa using hown1
      obtain ⟨A', cap', rfl, hcap, hnil', hrow⟩ := rowG_own false hown2
      have hbd : Below wd.heap.size wd wf := HBB.out.trans (hb1.mono HBB.out.size)
      have hnd : wd.heap.size < we.heap.size := HNd.out.lt
      have HNF := Lib.hid hnd
      have HX3 := Lib.hid (show ∀ c, (fun b => ((b < w1.heap.size ∨ b = w7.heap.size) ∨ b = p) ∨ b = wd.heap.size ∨ (we.heap.size ≤ b ∧ b < wf.heap.size)) c → c < wf.heap.size from fun c h => by
        have h1 := hb1.size
        have h2 := HMd.out
        have h3 := HKd.out.lt
        have h4 := HSd.out.1.lt
        rcases h with ((h | h) | h) | h | h <;> omega)
      have HDf := Lib.hid (show DiskM wf (fun b => ((b < w1.heap.size ∨ b = w7.heap.size) ∨ b = p) ∨ b = wd.heap.size ∨ (we.heap.size ≤ b ∧ b < wf.heap.size)) d 98 kk from HSd.out.2.1.below hbd (fun b hb h => by
        rcases h with h | h | h
        · exact h
        · omega
        · omega))
      have HRW := Lib.hid (show RowB wf (fun b => ((b < w1.heap.size ∨ b = w7.heap.size) ∨ b = p) ∨ b = wd.heap.size ∨ (we.heap.size ≤ b ∧ b < wf.heap.size)) A' n xs from hrow.more (fun b h => .inr (.inr ⟨h.1, h.2.1⟩)))
      have HQf := Lib.hid (HQd.out.below hb1 HQd.out.lt)
      have HKf := Lib.hid (HKd.out.below hb1 HKd.out.lt)
      have HNf := Lib.hid (HNd.out.below hb1 HNd.out.lt)
      have HBf := Lib.hid (HBd.out.trans (hb1.mono HBd.out.size))
      have HMf := Lib.hid (Nat.le_trans (Nat.le_trans HMd.out HBB.out.size) hb1.size)
      clear hb1 hown1 hown2 hgrow1 hcap hnil' hrow hbd hnd hi hz0 hz1 hz2 a3
      go_wp2_with fail
      refine (crash_k HDf.out HX3.out A' n cap' xs HRW.out).mono ?_
      rintro e wg ⟨rfl, hd, hk⟩
      have HDg := Lib.hid hd
      have HQg := Lib.hid (HQf.out.kept hk (.inl (.inl (.inl (by have := HLa.out; omega)))))
      have HKg := Lib.hid (HKf.out.kept hk (.inl (.inl (.inr rfl))))
      have HNg := Lib.hid (HNf.out.kept hk (.inr (.inl rfl)))
      have HBg := Lib.hid (HBf.out.trans (hk.to_below (B := w.heap.size) (fun b hb => .inl (.inl (.inl (by have := HLa.out; omega))))))
      have HXg := Lib.hid (show ∀ c, (fun b => ((b < w1.heap.size ∨ b = w7.heap.size) ∨ b = p) ∨ b = wd.heap.size ∨ (we.heap.size ≤ b ∧ b < wf.heap.size)) c → c < wg.heap.size from fun c h => Nat.lt_of_lt_of_le (HX3.out c h) hk.size)
      clear hd hk
      obtain ⟨s, hfnd, hs0, hs1⟩ := HOU.out.2.2 xs
      obtain ⟨ts, hct⟩ := hfnd.cnt
      have hop := open_good HDg.out HXg.out hfnd.good (by omega) _ _ rfl rfl s.a s.b s.g s.r s.v s.f ts hfnd.may (by rw [hfnd.a, hfnd.b]; omega) hct
      have HOP := Lib.hid hop
      have HS0 := Lib.hid hs0
      have HS1 := Lib.hid hs1
      clear hfnd hs0 hs1 hct hop
      go_wp2_with fail
      refine HOP.out.mono ?_
      rintro e wh ⟨p2, rfl, hst, hk⟩
      have HSh := Lib.hid hst
      have HQh := Lib.hid (HQg.out.kept hk (.inl (.inl (.inl (by have := HLa.out; omega)))))
      have HKh := Lib.hid (HKg.out.kept hk (.inl (.inl (.inr rfl))))
      have HNh := Lib.hid (HNg.out.kept hk (.inr (.inl rfl)))
      have HBh := Lib.hid (HBg.out.trans (hk.to_below (B := w.heap.size) (fun b hb => .inl (.inl (.inl (by have := HLa.out; omega))))))
      clear hst hk HOP
      go_wp2_with fail
      go_loopw [12, 13, 70] (fun v12 v13 i wr => ∃ j : Nat, j ≤ 3 ∧ i = .int .i64 j ∧ v12 = .pointer (some ⟨p2, 0, none⟩) ∧ v13 = .int .i64 0 ∧ wr = wh) (fun _ _ i _ => 3 - (intOf i).toNat)
      case atStart => exact ⟨0, Nat.zero_le _, rfl, rfl, rfl, rfl⟩
      case round =>
        obtain ⟨j, hj, rfl, rfl, rfl, rfl⟩ := hrel
        by_cases h3 : j = 3
        case neg =>
          have d3 : decide ((j : Int) < 3) = true := decide_eq_true (by omega)
          have hj3 : j < 3 := by omega
          clear h3
          go_wp2_with fail
          go_roundw
          case rel =>
            refine ⟨j + 1, by omega, by simp, ?_⟩
            simp
          case measure => simp [intOf]; omega
        subst h3
        have HQ1' := Lib.hid (show Blk wr (w.heap.size + 1) 24 x1.c by rw [HX1.out]; exact HQh.out)
        by_cases hE : E = 0
        case pos =>
          obtain rfl : now = x1 := HOU.out.1 hE
          obtain rfl : s = now := HS0.out hE
          subst hE
          go_wp2_with fail
          refine calm_region (fun W => Below wr.heap.size wr W) (by kernel_rfl) (by kernel_rfl) (Below.refl _ _).drew ?_
          refine calm_load_row (.tmp 11) 24 rfl rfl wd.heap.size rfl 24 s.c.toList _ Try.underlying24 rfl size_sup (fun W h => HNh.out.below h HNh.out.lt) ?_
          simp only [Act.put, List.setIfInBounds_toArray, List.set_cons_zero, List.set_cons_succ]
          refine calm_load_row (.tmp 4) 24 rfl rfl (w.heap.size + 1) rfl 24 s.c.toList _ Try.underlying24 rfl size_sup (fun W h => HQ1'.out.below h HQ1'.out.lt) ?_
          simp only [Act.put, List.setIfInBounds_toArray, List.set_cons_zero, List.set_cons_succ]
          refine calm_cmp .eql 24 _ (.tmp 84) (.tmp 85) rfl rfl (.agg s.c) (.agg s.c) (.bool true) rfl rfl (eqg_sup _ _ _ _) (eql_same s) ?_
          simp only [Act.put, List.setIfInBounds_toArray, List.set_cons_zero, List.set_cons_succ]
          go_big_quiet_step (fail)
          go_big_quiet_step (fail)
          refine calm_call 24 #[.tmp 88] #[42] rfl rfl Try.func24 rfl rfl (.agg s.c) [.pointer (some ⟨p2, 0, none⟩)] rfl (fun W h => (get_any (HSh.out.below h)).mono fun e w' ⟨h1, h2⟩ => ⟨h1, h.trans (h2.mono h.size)⟩) ?_
          simp only [Act.put, List.setIfInBounds_toArray, List.set_cons_zero, List.set_cons_succ]
          refine calm_load_row (.tmp 4) 24 rfl rfl (w.heap.size + 1) rfl 24 s.c.toList _ Try.underlying24 rfl size_sup (fun W h => HQ1'.out.below h HQ1'.out.lt) ?_
          simp only [Act.put, List.setIfInBounds_toArray, List.set_cons_zero, List.set_cons_succ]
          refine calm_cmp .eql 24 _ (.tmp 89) (.tmp 90) rfl rfl (.agg s.c) (.agg s.c) (.bool true) rfl rfl (eqg_sup _ _ _ _) (eql_same s) ?_
          simp only [Act.put, List.setIfInBounds_toArray, List.set_cons_zero, List.set_cons_succ]
          refine calm_by (.bool true) rfl (fun W h => by simp [go_sem, execOp, Act.eval]) ?_
          simp only [Act.put, List.setIfInBounds_toArray, List.set_cons_zero, List.set_cons_succ]
          go_big_quiet_step (fail)
          refine wpQuiet_nil ?_
          intro wz hz
          have HZ := Lib.hid (HBh.out.trans (hz.mono HBh.out.size))
          clear hz
          go_wp2_with fail
          go_ret
          exact ⟨rfl, HZ.out⟩
        case neg =>
          have hnow : now = o := HOU.out.2.1 hE
          have d2 : (E == 0) = false := by simpa using hE
          subst hnow
          go_wp2_with fail
          clear d2
          by_cases hso : s = now
          case pos =>
            subst hso
            refine calm_region (fun W => Below wr.heap.size wr W) (by kernel_rfl) (by kernel_rfl) (Below.refl _ _).drew ?_
            refine calm_load_row (.tmp 11) 24 rfl rfl wd.heap.size rfl 24 s.c.toList _ Try.underlying24 rfl size_sup (fun W h => HNh.out.below h HNh.out.lt) ?_
            simp only [Act.put, List.setIfInBounds_toArray, List.set_cons_zero, List.set_cons_succ]
            refine calm_load_row (.tmp 10) 24 rfl rfl w7.heap.size rfl 24 s.c.toList _ Try.underlying24 rfl size_sup (fun W h => HKh.out.below h HKh.out.lt) ?_
            simp only [Act.put, List.setIfInBounds_toArray, List.set_cons_zero, List.set_cons_succ]
            refine calm_cmp .eql 24 _ (.tmp 93) (.tmp 94) rfl rfl (.agg s.c) (.agg s.c) (.bool true) rfl rfl (eqg_sup _ _ _ _) (eql_same s) ?_
            simp only [Act.put, List.setIfInBounds_toArray, List.set_cons_zero, List.set_cons_succ]
            go_big_quiet_step (fail)
            go_big_quiet_step (fail)
            refine calm_call 24 #[.tmp 97] #[42] rfl rfl Try.func24 rfl rfl (.agg s.c) [.pointer (some ⟨p2, 0, none⟩)] rfl (fun W h => (get_any (HSh.out.below h)).mono fun e w' ⟨h1, h2⟩ => ⟨h1, h.trans (h2.mono h.size)⟩) ?_
            simp only [Act.put, List.setIfInBounds_toArray, List.set_cons_zero, List.set_cons_succ]
            refine calm_load_row (.tmp 10) 24 rfl rfl w7.heap.size rfl 24 s.c.toList _ Try.underlying24 rfl size_sup (fun W h => HKh.out.below h HKh.out.lt) ?_
            simp only [Act.put, List.setIfInBounds_toArray, List.set_cons_zero, List.set_cons_succ]
            refine calm_cmp .eql 24 _ (.tmp 98) (.tmp 99) rfl rfl (.agg s.c) (.agg s.c) (.bool true) rfl rfl (eqg_sup _ _ _ _) (eql_same s) ?_
            simp only [Act.put, List.setIfInBounds_toArray, List.set_cons_zero, List.set_cons_succ]
            go_big_quiet_step (fail)
            go_big_quiet_step (fail)
            go_big_quiet_step (fail)
            go_big_quiet_step (fail)
            go_big_quiet_step (fail)
            go_big_quiet_step (fail)
            go_big_quiet_step (fail)
            go_big_quiet_step (fail)
            go_big_quiet_step (fail)
            go_big_quiet_step (fail)
            go_big_quiet_step (fail)
            go_big_quiet_step (fail)
            go_big_quiet_step (fail)
            refine calm_by (.bool true) rfl (fun W h => by simp [go_sem, execOp, Act.eval]) ?_
            simp only [Act.put, List.setIfInBounds_toArray, List.set_cons_zero, List.set_cons_succ]
            refine calm_by (.bool true) rfl (fun W h => by simp [go_sem, execOp, Act.eval]) ?_
            simp only [Act.put, List.setIfInBounds_toArray, List.set_cons_zero, List.set_cons_succ]
            go_big_quiet_step (fail)
            refine wpQuiet_nil ?_
            intro wz hz
            have HZ := Lib.hid (HBh.out.trans (hz.mono HBh.out.size))
            clear hz
            go_wp2_with fail
            go_ret
            exact ⟨rfl, HZ.out⟩
          case neg =>
            obtain ⟨hsx, he⟩ : s = x1 ∧ (E = 7 ∨ E = 8) := by
              rcases HS1.out hE with h | h
              · exact absurd h hso
              · exact h
            subst hsx
            rcases he with rfl | rfl
            · skip
              refine calm_region (fun W => Below wr.heap.size wr W) (by kernel_rfl) (by kernel_rfl) (Below.refl _ _).drew ?_
              refine calm_load_row (.tmp 11) 24 rfl rfl wd.heap.size rfl 24 now.c.toList _ Try.underlying24 rfl size_sup (fun W h => HNh.out.below h HNh.out.lt) ?_
              simp only [Act.put, List.setIfInBounds_toArray, List.set_cons_zero, List.set_cons_succ]
              refine calm_load_row (.tmp 10) 24 rfl rfl w7.heap.size rfl 24 now.c.toList _ Try.underlying24 rfl size_sup (fun W h => HKh.out.below h HKh.out.lt) ?_
              simp only [Act.put, List.setIfInBounds_toArray, List.set_cons_zero, List.set_cons_succ]
              refine calm_cmp .eql 24 _ (.tmp 93) (.tmp 94) rfl rfl (.agg now.c) (.agg now.c) (.bool true) rfl rfl (eqg_sup _ _ _ _) (eql_same now) ?_
              simp only [Act.put, List.setIfInBounds_toArray, List.set_cons_zero, List.set_cons_succ]
              go_big_quiet_step (fail)
              go_big_quiet_step (fail)
              refine calm_call 24 #[.tmp 97] #[42] rfl rfl Try.func24 rfl rfl (.agg s.c) [.pointer (some ⟨p2, 0, none⟩)] rfl (fun W h => (get_any (HSh.out.below h)).mono fun e w' ⟨h1, h2⟩ => ⟨h1, h.trans (h2.mono h.size)⟩) ?_
              simp only [Act.put, List.setIfInBounds_toArray, List.set_cons_zero, List.set_cons_succ]
              refine calm_load_row (.tmp 10) 24 rfl rfl w7.heap.size rfl 24 now.c.toList _ Try.underlying24 rfl size_sup (fun W h => HKh.out.below h HKh.out.lt) ?_
              simp only [Act.put, List.setIfInBounds_toArray, List.set_cons_zero, List.set_cons_succ]
              refine calm_cmp .eql 24 _ (.tmp 98) (.tmp 99) rfl rfl (.agg s.c) (.agg now.c) (.bool false) rfl rfl (eqg_sup _ _ _ _) (eql_not hso) ?_
              simp only [Act.put, List.setIfInBounds_toArray, List.set_cons_zero, List.set_cons_succ]
              go_big_quiet_step (fail)
              go_big_quiet_step (fail)
              refine calm_call 24 #[.tmp 102] #[42] rfl rfl Try.func24 rfl rfl (.agg s.c) [.pointer (some ⟨p2, 0, none⟩)] rfl (fun W h => (get_any (HSh.out.below h)).mono fun e w' ⟨h1, h2⟩ => ⟨h1, h.trans (h2.mono h.size)⟩) ?_
              simp only [Act.put, List.setIfInBounds_toArray, List.set_cons_zero, List.set_cons_succ]
              refine calm_load_row (.tmp 4) 24 rfl rfl (w.heap.size + 1) rfl 24 s.c.toList _ Try.underlying24 rfl size_sup (fun W h => HQ1'.out.below h HQ1'.out.lt) ?_
              simp only [Act.put, List.setIfInBounds_toArray, List.set_cons_zero, List.set_cons_succ]
              refine calm_cmp .eql 24 _ (.tmp 103) (.tmp 104) rfl rfl (.agg s.c) (.agg s.c) (.bool true) rfl rfl (eqg_sup _ _ _ _) (eql_same s) ?_
              simp only [Act.put, List.setIfInBounds_toArray, List.set_cons_zero, List.set_cons_succ]
              go_big_quiet_step (fail)
              go_big_quiet_step (fail)
              refine calm_by (.bool true) rfl (fun W h => by simp [go_sem, execOp, Act.eval, Try.underlying28]) ?_
              simp only [Act.put, List.setIfInBounds_toArray, List.set_cons_zero, List.set_cons_succ]
              go_big_quiet_step (fail)
              go_big_quiet_step (fail)
              go_big_quiet_step (fail)
              refine calm_by (.bool true) rfl (fun W h => by simp [go_sem, execOp, Act.eval]) ?_
              simp only [Act.put, List.setIfInBounds_toArray, List.set_cons_zero, List.set_cons_succ]
              refine calm_by (.bool true) rfl (fun W h => by simp [go_sem, execOp, Act.eval]) ?_
              simp only [Act.put, List.setIfInBounds_toArray, List.set_cons_zero, List.set_cons_succ]
              refine calm_by (.bool true) rfl (fun W h => by simp [go_sem, execOp, Act.eval]) ?_
              simp only [Act.put, List.setIfInBounds_toArray, List.set_cons_zero, List.set_cons_succ]
              refine calm_by (.bool true) rfl (fun W h => by simp [go_sem, execOp, Act.eval]) ?_
              simp only [Act.put, List.setIfInBounds_toArray, List.set_cons_zero, List.set_cons_succ]
              go_big_quiet_step (fail)
              refine wpQuiet_nil ?_
              intro wz hz
              have HZ := Lib.hid (HBh.out.trans (hz.mono HBh.out.size))
              clear hz
              go_wp2_with fail
              go_ret
              exact ⟨rfl, HZ.out⟩
            · skip
              refine calm_region (fun W => Below wr.heap.size wr W) (by kernel_rfl) (by kernel_rfl) (Below.refl _ _).drew ?_
              refine calm_load_row (.tmp 11) 24 rfl rfl wd.heap.size rfl 24 now.c.toList _ Try.underlying24 rfl size_sup (fun W h => HNh.out.below h HNh.out.lt) ?_
              simp only [Act.put, List.setIfInBounds_toArray, List.set_cons_zero, List.set_cons_succ]
              refine calm_load_row (.tmp 10) 24 rfl rfl w7.heap.size rfl 24 now.c.toList _ Try.underlying24 rfl size_sup (fun W h => HKh.out.below h HKh.out.lt) ?_
              simp only [Act.put, List.setIfInBounds_toArray, List.set_cons_zero, List.set_cons_succ]
              refine calm_cmp .eql 24 _ (.tmp 93) (.tmp 94) rfl rfl (.agg now.c) (.agg now.c) (.bool true) rfl rfl (eqg_sup _ _ _ _) (eql_same now) ?_
              simp only [Act.put, List.setIfInBounds_toArray, List.set_cons_zero, List.set_cons_succ]
              go_big_quiet_step (fail)
              go_big_quiet_step (fail)
              refine calm_call 24 #[.tmp 97] #[42] rfl rfl Try.func24 rfl rfl (.agg s.c) [.pointer (some ⟨p2, 0, none⟩)] rfl (fun W h => (get_any (HSh.out.below h)).mono fun e w' ⟨h1, h2⟩ => ⟨h1, h.trans (h2.mono h.size)⟩) ?_
              simp only [Act.put, List.setIfInBounds_toArray, List.set_cons_zero, List.set_cons_succ]
              refine calm_load_row (.tmp 10) 24 rfl rfl w7.heap.size rfl 24 now.c.toList _ Try.underlying24 rfl size_sup (fun W h => HKh.out.below h HKh.out.lt) ?_
              simp only [Act.put, List.setIfInBounds_toArray, List.set_cons_zero, List.set_cons_succ]
              refine calm_cmp .eql 24 _ (.tmp 98) (.tmp 99) rfl rfl (.agg s.c) (.agg now.c) (.bool false) rfl rfl (eqg_sup _ _ _ _) (eql_not hso) ?_
              simp only [Act.put, List.setIfInBounds_toArray, List.set_cons_zero, List.set_cons_succ]
              go_big_quiet_step (fail)
              go_big_quiet_step (fail)
              refine calm_call 24 #[.tmp 102] #[42] rfl rfl Try.func24 rfl rfl (.agg s.c) [.pointer (some ⟨p2, 0, none⟩)] rfl (fun W h => (get_any (HSh.out.below h)).mono fun e w' ⟨h1, h2⟩ => ⟨h1, h.trans (h2.mono h.size)⟩) ?_
              simp only [Act.put, List.setIfInBounds_toArray, List.set_cons_zero, List.set_cons_succ]
              refine calm_load_row (.tmp 4) 24 rfl rfl (w.heap.size + 1) rfl 24 s.c.toList _ Try.underlying24 rfl size_sup (fun W h => HQ1'.out.below h HQ1'.out.lt) ?_
              simp only [Act.put, List.setIfInBounds_toArray, List.set_cons_zero, List.set_cons_succ]
              refine calm_cmp .eql 24 _ (.tmp 103) (.tmp 104) rfl rfl (.agg s.c) (.agg s.c) (.bool true) rfl rfl (eqg_sup _ _ _ _) (eql_same s) ?_
              simp only [Act.put, List.setIfInBounds_toArray, List.set_cons_zero, List.set_cons_succ]
              go_big_quiet_step (fail)
              go_big_quiet_step (fail)
              refine calm_by (.bool false) rfl (fun W h => by simp [go_sem, execOp, Act.eval, Try.underlying28]) ?_
              simp only [Act.put, List.setIfInBounds_toArray, List.set_cons_zero, List.set_cons_succ]
              go_big_quiet_step (fail)
              go_big_quiet_step (fail)
              refine calm_by (.bool true) rfl (fun W h => by simp [go_sem, execOp, Act.eval, Try.underlying28]) ?_
              simp only [Act.put, List.setIfInBounds_toArray, List.set_cons_zero, List.set_cons_succ]
              refine calm_by (.bool true) rfl (fun W h => by simp [go_sem, execOp, Act.eval]) ?_
              simp only [Act.put, List.setIfInBounds_toArray, List.set_cons_zero, List.set_cons_succ]
              refine calm_by (.bool true) rfl (fun W h => by simp [go_sem, execOp, Act.eval]) ?_
              simp only [Act.put, List.setIfInBounds_toArray, List.set_cons_zero, List.set_cons_succ]
              refine calm_by (.bool true) rfl (fun W h => by simp [go_sem, execOp, Act.eval]) ?_
              simp only [Act.put, List.setIfInBounds_toArray, List.set_cons_zero, List.set_cons_succ]
              refine calm_by (.bool true) rfl (fun W h => by simp [go_sem, execOp, Act.eval]) ?_
              simp only [Act.put, List.setIfInBounds_toArray, List.set_cons_zero, List.set_cons_succ]
              go_big_quiet_step (fail)
              refine wpQuiet_nil ?_
              intro wz hz
              have HZ := Lib.hid (HBh.out.trans (hz.mono HBh.out.size))
              clear hz
              go_wp2_with fail
              go_ret
              exact ⟨rfl, HZ.out⟩
end Go.Proofs.Ytkmbbfdjdmkjpaa
