/- The law's same and number. -/
import Derived.Test.YthegbimolbhikaaTold12
import Derived.Test.YthegbimolbhikaaR12
namespace Go.Proofs.Ythegbimolbhikaa
open Go.RowKit
attribute [local go_sem] Oper.semAt_some
set_option linter.unusedVariables false
set_option linter.unusedSimpArgs false
set_option maxRecDepth 100000
set_option maxHeartbeats 2000000 in
theorem same_any12 {w : World} {S T : Nat → Prop} {A B : Option Addr} {n c d : Nat} {L : List Nat} (hx : RowNat w S A n L) (hy : RowK12 w T B n L) (hn63 : n ≤ 1000000) :
    Calls Try.prog 40 #[.slice A n c, .slice B n d] w fun e w' => e = .returned (.bool true) ∧ Below w.heap.size w w' := by
  have HX := Lib.hid hx
  have HY := Lib.hid hy
  clear hx hy
  have hq : ((n : Int) != (n : Int)) = false := by simp
  go_enter Try.func40, Try.ntmps40
  go_wp2
  go_loopw [13] (fun i wr => ∃ j : Nat, i = .int .i64 j ∧ j ≤ n ∧ Kept (fun _ => True) w wr) (fun i _ => n - (intOf i).toNat)
  case atStart => exact ⟨0, rfl, Nat.zero_le _, Kept.refl _ _⟩
  case round =>
    obtain ⟨j, rfl, hj, hk⟩ := hrel
    have HK := Lib.hid hk
    clear hk
    by_cases hjn : j < n
    · obtain ⟨b, off, rfl, _, ha⟩ := (HX.out.kept HK.out (fun _ _ => trivial)).2 (by omega)
      obtain ⟨b', off', rfl, _, hb⟩ := (HY.out.kept HK.out (fun _ _ => trivial)).2 (by omega)
      obtain ⟨v, hv⟩ : ∃ v, L.getD j 0 = v := ⟨_, rfl⟩
      have a0 : wr.cell? ⟨b, off + j, none⟩ = some (.int .i64 (v : Nat)) := by rw [← hv]; exact ha j hjn
      have b0 : wr.cell? ⟨b', off' + j, none⟩ = some (.int .i64 (v : Nat)) := by rw [← hv]; exact hb j hjn
      have hne : ((v : Int) != (v : Int)) = false := by simp
      clear hv ha hb
      go_wp2
      go_quiet (fail)
      go_wp2
      go_roundw
      case rel => exact ⟨j + 1, by simp, by omega, HK.out.drewN _⟩
      case measure => show n - (Int.toNat ((j : Int) + 1)) < n - (Int.toNat (j : Int)); omega
    · obtain rfl : n = j := by omega
      go_wp2
      go_ret
      exact ⟨rfl, HK.out.to_below fun _ _ => trivial⟩
/-- What number holds. -/
theorem number_no (A : Option Addr) (m c : Nat) (q : Int) (w : World) : Calls Try.prog 41 #[.int .i64 0, .int .i64 2, .bool false, .slice A m c, .int .i64 q] w fun e w' => e = .returned (.bool true) ∧ w' = w := by
  go_enter Try.func41, Try.ntmps41
  go_wp2
  all_goals (go_ret; exact ⟨rfl, rfl⟩)
theorem number_nil (A : Option Addr) (c : Nat) (q : Int) (w : World) : Calls Try.prog 41 #[.int .i64 0, .int .i64 4, .bool true, .slice A 0 c, .int .i64 q] w fun e w' => e = .returned (.bool true) ∧ w' = w := by
  go_enter Try.func41, Try.ntmps41
  go_wp2
  all_goals (go_ret; exact ⟨rfl, rfl⟩)
theorem number_at {w : World} {T : Nat → Prop} {A : Option Addr} {n c : Nat} {L : List Nat} (hy : RowK12 w T A n L) (t v : Nat) (ht : t < n) (hv : L.getD t 0 = v) (hn : n ≤ 1000000) : Calls Try.prog 41 #[.int .i64 (v : Nat), .int .i64 0, .bool true, .slice A n c, .int .i64 (t : Nat)] w fun e w' => e = .returned (.bool true) ∧ w' = w := by
  obtain ⟨b, off, rfl, _, hb⟩ := hy.2 (by omega)
  have b0 : w.cell? ⟨b, off + t, none⟩ = some (.int .i64 (v : Nat)) := by rw [← hv]; exact hb t ht
  have q0 : ((n : Int) == 0) = false := by simp; omega
  have hne : ((v : Int) == (v : Int)) = true := by simp
  clear hb hv hy
  go_enter Try.func41, Try.ntmps41
  go_wp2
  all_goals (go_ret; exact ⟨rfl, rfl⟩)
/-- The two numbers that a list tells, told again by the document's list. -/
theorem number_old {w : World} {T : Nat → Prop} {A : Option Addr} {c : Nat} {xs : List (List Nat)} (i : Int) (hy : RowK12 w T A (ofX xs i).length (ofX xs i)) (hn : (ofX xs i).length ≤ 1000000) :
    Calls Try.prog 41 #[.int .i64 (oldV xs i), .int .i64 (someE xs i), .bool (decide (hasL xs i)), .slice A (ofX xs i).length c, .int .i64 (((ofX xs i).length : Nat) - 1)] w fun e w' => e = .returned (.bool true) ∧ w' = w := by
  by_cases hi : hasL xs i
  · have eL : ofX xs i = xs.getD i.toNat [] := by unfold ofX; rw [if_pos hi]
    rw [decide_eq_true hi]
    by_cases h0 : xs.getD i.toNat [] = []
    · have e1 : someE xs i = 4 := by unfold someE; rw [if_neg (by simp [hi]), if_pos h0]
      have e2 : oldV xs i = 0 := by unfold oldV; rw [e1, if_neg (by decide)]
      rw [e1, e2, eL, h0]
      exact number_nil A c _ w
    · have e1 : someE xs i = 0 := by unfold someE; rw [if_neg (by simp [hi]), if_neg h0]
      have e2 : oldV xs i = ((xs.getD i.toNat []).getLastD 0 : Nat) := by unfold oldV; rw [e1, if_pos rfl]
      rw [e1, e2]
      rw [eL] at hy hn ⊢
      have hl : 0 < (xs.getD i.toNat []).length := List.length_pos_iff.2 h0
      have e3 : (((xs.getD i.toNat []).length : Nat) : Int) - 1 = (((xs.getD i.toNat []).length - 1 : Nat) : Int) := by omega
      rw [e3]
      refine number_at hy _ _ (by omega) ?_ hn
      rw [List.getLastD_eq_getLast?, List.getLast?_eq_getElem?]
      rfl
  · rw [decide_eq_false hi]
    have e1 : someE xs i = 2 := by unfold someE; rw [if_pos hi]
    have e2 : oldV xs i = 0 := by unfold oldV; rw [e1, if_neg (by decide)]
    rw [e1, e2]
    exact number_no A _ c _ w
theorem number_new {w : World} {T : Nat → Prop} {A : Option Addr} {c : Nat} {xs : List (List Nat)} (i : Int) (hy : RowK12 w T A (ofX xs i).length (ofX xs i)) (hn : (ofX xs i).length ≤ 1000000) :
    Calls Try.prog 41 #[.int .i64 (newV xs i), .int .i64 (someE xs i), .bool (decide (hasL xs i)), .slice A (ofX xs i).length c, .int .i64 0] w fun e w' => e = .returned (.bool true) ∧ w' = w := by
  by_cases hi : hasL xs i
  · have eL : ofX xs i = xs.getD i.toNat [] := by unfold ofX; rw [if_pos hi]
    rw [decide_eq_true hi]
    by_cases h0 : xs.getD i.toNat [] = []
    · have e1 : someE xs i = 4 := by unfold someE; rw [if_neg (by simp [hi]), if_pos h0]
      have e2 : newV xs i = 0 := by unfold newV; rw [e1, if_neg (by decide)]
      rw [e1, e2, eL, h0]
      exact number_nil A c _ w
    · have e1 : someE xs i = 0 := by unfold someE; rw [if_neg (by simp [hi]), if_neg h0]
      have e2 : newV xs i = ((xs.getD i.toNat []).headD 0 : Nat) := by unfold newV; rw [e1, if_pos rfl]
      rw [e1, e2]
      rw [eL] at hy hn ⊢
      have hl : 0 < (xs.getD i.toNat []).length := List.length_pos_iff.2 h0
      refine number_at hy 0 _ (by omega) ?_ hn
      cases xs.getD i.toNat [] <;> rfl
  · rw [decide_eq_false hi]
    have e1 : someE xs i = 2 := by unfold someE; rw [if_pos hi]
    have e2 : newV xs i = 0 := by unfold newV; rw [e1, if_neg (by decide)]
    rw [e1, e2]
    exact number_no A _ c _ w
end Go.Proofs.Ythegbimolbhikaa
