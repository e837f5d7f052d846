/- Lists in memory: a number is put in, and taken out. -/
import Derived.Test.YthegbimolbhikaaLrA
import Derived.Deep.DeepCutAuto
namespace Go.Proofs.Ythegbimolbhikaa
open Go.RowKit
attribute [local go_sem] Oper.semAt_some
set_option linter.unusedVariables false
set_option linter.unusedSimpArgs false
set_option maxRecDepth 100000
section
variable {w w' : World} {x p n L : Nat} {A B C len : Nat → Nat}
set_option maxHeartbeats 1000000 in
theorem putIn_any (h : LrM w x p n L A B C len) (i k b : Nat) (hi : i < L) (hk : k < n) (hb : B (n + i) = b) (hb2 : b < n + L) (hl : len i ≤ n) : Calls Try.prog 32 #[.pointer (some ⟨x, 0, none⟩), .int .i64 (i : Nat), .int .i64 (k : Nat)] w
    fun e w' => e = .returned (.tuple #[]) ∧ LrM w' x p n L (updN (updN A b k) k (n + i)) (updN (updN B k b) (n + i) k) (updN C k (i + 1)) (updN len i (len i + 1)) ∧ Kept (fun b => b ≠ x ∧ b ≠ p) w w' := by
  have q1 := h.n2
  have q2 := h.l2
  have hiL : n + i < n + L := by omega
  have HE := Lib.hid (end_any h i hi)
  have HB := Lib.hid (behind_any h (n + i) hiL)
  have hcb := h.cb hiL
  rw [hb] at hcb
  have HJ := Lib.hid (join_any h k b (by omega) hb2)
  have HX := Lib.hid h
  clear h hb
  obtain ⟨en, hen⟩ : ∃ en, en = n + i := ⟨_, rfl⟩
  rw [← hen] at HE HB hcb hiL ⊢
  have q3 : en < 65600 := by omega
  clear hen
  go_enter Try.func32, Try.ntmps32
  go_wp2_with fail
  refine HE.out.mono ?_
  rintro e w2 ⟨rfl, rfl⟩
  go_wp2_with fail
  refine HB.out.mono ?_
  rintro e w2 ⟨rfl, rfl⟩
  go_wp2_with fail
  refine HJ.out.mono ?_
  rintro e w3 ⟨rfl, hM, hK⟩
  have HM := Lib.hid hM
  have HK := Lib.hid hK
  have HJ2 := Lib.hid (join_any hM en k hiL (by omega))
  clear hM hK hcb
  go_wp2_with fail
  refine HJ2.out.mono ?_
  rintro e w4 ⟨rfl, hM, hK⟩
  have HM2 := Lib.hid hM
  have HK2 := Lib.hid (HK.out.trans hK fun _ h => h)
  have HP := Lib.hid (plist_any hM k (by omega))
  have hcc := hM.cc (a := k) (by omega)
  have f1 := hM.pc.frozen (aC k + 128)
  have HM3 := Lib.hid (hM.setC k (i + 1))
  clear hM hK HK HM
  obtain ⟨ck, hck⟩ : ∃ ck, ck = aC k + 128 := ⟨_, rfl⟩
  rw [← hck] at HP hcc f1 HM3
  clear hck
  go_wp2_with fail
  refine HP.out.mono ?_
  rintro e w5 ⟨rfl, rfl⟩
  go_upto_region 4 with fail
  have HK3 := Lib.hid (HK2.out.setCell (p := ⟨p, ck, none⟩) (by simp) (.int .i64 ((i + 1 : Nat) : Int)))
  rw [show ((i + 1 : Nat) : Int) = (i : Int) + 1 by omega] at HK3 HM3
  generalize w5.setCell ⟨p, ck, none⟩ (.int .i64 ((i : Int) + 1)) = w6 at *
  have hce := HM3.out.ce (i := i) (by omega)
  have f2 := HM3.out.hd.frozen (2 + i)
  have HM4 := Lib.hid (HM3.out.setE (i := i) (len i + 1) (by omega))
  rw [show ((len i + 1 : Nat) : Int) = (len i : Int) + 1 by omega] at HM4
  go_region
  all_goals go_wp2
  all_goals (first | go_ret | go_ret2 | go_end0)
  all_goals exact ⟨rfl, HM4.out.drew, (HK3.out.setCell (by simp) _).drew⟩
set_option maxHeartbeats 1000000 in
theorem takeOut_any (h : LrM w x p n L A B C len) (i k a b l : Nat) (hi : i < L) (hk : k < n) (ha : A k = a) (hb : B k = b) (ha2 : a < n + L) (hb2 : b < n + L) (hl : len i = l) (hl2 : 1 ≤ l ∧ l ≤ n) : Calls Try.prog 37 #[.pointer (some ⟨x, 0, none⟩), .int .i64 (i : Nat), .int .i64 (k : Nat)] w
    fun e w' => e = .returned (.tuple #[]) ∧ LrM w' x p n L (updN A b a) (updN B a b) (updN C k 0) (updN len i (l - 1)) ∧ Kept (fun b => b ≠ x ∧ b ≠ p) w w' := by
  have q1 := h.n2
  have q2 := h.l2
  have HA := Lib.hid (fun (W : World) (hW : LrM W x p n L A B C len) => ahead_any hW k (by omega))
  have HB := Lib.hid (fun (W : World) (hW : LrM W x p n L A B C len) => behind_any hW k (by omega))
  have hca := h.ca (a := k) (by omega)
  have hcb := h.cb (a := k) (by omega)
  rw [ha] at hca
  rw [hb] at hcb
  have HJ := Lib.hid (fun (W : World) (hW : LrM W x p n L A B C len) => join_any hW a b ha2 hb2)
  have HX := Lib.hid h
  clear h hb ha
  go_enter Try.func37, Try.ntmps37
  go_upto_region 0 with fail
  go_cut [17] (fun s wx => s = .tuple #[] ∧ LrM wx x p n L (updN A b a) (updN B a b) C len ∧ Kept (fun b => b ≠ x ∧ b ≠ p) w wx)
  case first =>
    go_region_with (first
      | (go_at_call 45; refine (HA.out _ HX.out.drew).mono ?_; rintro e w2 ⟨rfl, rfl⟩)
      | (go_at_call 46; refine (HB.out _ HX.out.drew).mono ?_; rintro e w2 ⟨rfl, rfl⟩)
      | (go_at_call 27; refine (HJ.out _ HX.out.drew).mono ?_; rintro e w3 ⟨rfl, hM, hK⟩))
    all_goals
      go_wp2_with fail
      go_meet
      exact ⟨rfl, hM, (Kept.refl _ w).drew.trans hK fun _ h => h⟩
  case rest =>
    obtain ⟨rfl, hM, hK⟩ := hcut
    have HM2 := Lib.hid hM
    have HK2 := Lib.hid hK
    have HP := Lib.hid (plist_any hM k (by omega))
    have hcc := hM.cc (a := k) (by omega)
    have f1 := hM.pc.frozen (aC k + 128)
    have HM3 := Lib.hid (hM.setC k 0)
    clear hM hK hca hcb
    obtain ⟨ck, hck⟩ : ∃ ck, ck = aC k + 128 := ⟨_, rfl⟩
    rw [← hck] at HP hcc f1 HM3
    clear hck
    go_wp2_with fail
    refine HP.out.mono ?_
    rintro e w5 ⟨rfl, rfl⟩
    go_upto_region 2 with fail
    have HK3 := Lib.hid (HK2.out.setCell (p := ⟨p, ck, none⟩) (by simp) (.int .i64 0))
    rw [show ((0 : Nat) : Int) = 0 from rfl] at HM3
    generalize w5.setCell ⟨p, ck, none⟩ (.int .i64 0) = w6 at *
    have hce := HM3.out.ce (i := i) (by omega)
    rw [hl] at hce
    have f2 := HM3.out.hd.frozen (2 + i)
    have HM4 := Lib.hid (HM3.out.setE (i := i) (l - 1) (by omega))
    rw [show ((l - 1 : Nat) : Int) = (l : Int) - 1 by omega] at HM4
    clear hl
    go_region
    all_goals go_wp2
    all_goals (first | go_ret | go_ret2 | go_end0)
    all_goals exact ⟨rfl, HM4.out.drew, (HK3.out.setCell (by simp) _).drew⟩
end
end Go.Proofs.Ythegbimolbhikaa
