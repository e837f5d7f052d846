/- The document's answers of layer 6: Same. -/
import Derived.Test.YtehldhdpeefljaaSame
namespace Go.Proofs.Ytehldhdpeefljaa
open Go.RowKit
set_option linter.unusedVariables false

set_option maxHeartbeats 2000000 in
theorem rsame_any (k f x s k' f' x' s' : Int) (A A' B B' : Option Addr) (n c n' c' m d m' d' : Nat) (xs xs' ys ys' : List Int) (S : Nat → Prop) (w : World)
    (hx : RowI .u8 w S A n xs) (hx' : RowI .u8 w S B m xs') (hy : RowI .u8 w S A' n' ys) (hy' : RowI .u8 w S B' m' ys') (hS : ∀ b, S b → b < w.heap.size) (hb : Bytes xs) (hb' : Bytes xs') (hby : Bytes ys) (hby' : Bytes ys') :
    Calls Try.prog 26 #[.agg #[.int .i64 k, .int .u32 f, .int .u32 x, .int .u64 s, .slice A n c, .slice A' n' c'], .agg #[.int .i64 k', .int .u32 f', .int .u32 x', .int .u64 s', .slice B m d, .slice B' m' d']] w fun e w' =>
      e = .returned (.bool (recSame k f x s xs ys k' f' x' s' xs' ys')) ∧ Below w.heap.size w w' := by
  have hbel : Below w.heap.size w ((w.alloc (.cells #[.int .i64 k, .int .u32 f, .int .u32 x, .int .u64 s, .slice A n c, .slice A' n' c'] 26)).alloc (.cells #[.int .i64 k', .int .u32 f', .int .u32 x', .int .u64 s', .slice B m d, .slice B' m' d'] 26)) := ((Below.refl _ _).alloc (Nat.le_refl _) _).alloc (by simp) _
  have HB := Lib.hid hbel
  have conv : ∀ (Z : Option Addr) (l cc : Nat) (zs : List Int), RowI .u8 w S Z l zs → Bytes zs → ∃ t : ByteArray, (convert 24 9 (.slice Z l cc)).run Try.prog ((w.alloc (.cells #[.int .i64 k, .int .u32 f, .int .u32 x, .int .u64 s, .slice A n c, .slice A' n' c'] 26)).alloc (.cells #[.int .i64 k', .int .u32 f', .int .u32 x', .int .u64 s', .slice B m d, .slice B' m' d'] 26)) = .ok (.string t) ((w.alloc (.cells #[.int .i64 k, .int .u32 f, .int .u32 x, .int .u64 s, .slice A n c, .slice A' n' c'] 26)).alloc (.cells #[.int .i64 k', .int .u32 f', .int .u32 x', .int .u64 s', .slice B m d, .slice B' m' d'] 26)) ∧ nums t = zs := fun Z l cc zs h hz =>
    conv_string _ _ _ _ Try.underlying24 Try.underlying5 Try.underlying9 cc ((h.below hbel hS).more (T := (· < w.heap.size)) hS).toRow hz
  obtain ⟨t1, ht1, hn1⟩ := conv A n c xs hx hb
  obtain ⟨t2, ht2, hn2⟩ := conv B m d xs' hx' hb'
  obtain ⟨t3, ht3, hn3⟩ := conv A' n' c' ys hy hby
  obtain ⟨t4, ht4, hn4⟩ := conv B' m' d' ys' hy' hby'
  have e1 := texts_any hn1 hn2
  have e2 := texts_any hn3 hn4
  clear conv hbel hx hx' hy hy' hn1 hn2 hn3 hn4
  by_cases h1 : k = k'
  case neg =>
    have d1 : (k == k') = false := by simpa using h1
    have hr : recSame k f x s xs ys k' f' x' s' xs' ys' = false := by simp [recSame, h1]
    rw [hr]
    clear e1 e2 h1 hr
    go_enter Try.func26, Try.ntmps26
    go_wp2
    go_ret
    exact ⟨rfl, HB.out⟩
  subst h1
  by_cases h1 : f = f'
  case neg =>
    have d1 : (f == f') = false := by simpa using h1
    have hr : recSame k f x s xs ys k f' x' s' xs' ys' = false := by simp [recSame, h1]
    rw [hr]
    clear e1 e2 h1 hr
    go_enter Try.func26, Try.ntmps26
    go_wp2
    go_ret
    exact ⟨rfl, HB.out⟩
  subst h1
  by_cases h1 : x = x'
  case neg =>
    have d1 : (x == x') = false := by simpa using h1
    have hr : recSame k f x s xs ys k f x' s' xs' ys' = false := by simp [recSame, h1]
    rw [hr]
    clear e1 e2 h1 hr
    go_enter Try.func26, Try.ntmps26
    go_wp2
    go_ret
    exact ⟨rfl, HB.out⟩
  subst h1
  by_cases h1 : s = s'
  case neg =>
    have d1 : (s == s') = false := by simpa using h1
    have hr : recSame k f x s xs ys k f x s' xs' ys' = false := by simp [recSame, h1]
    rw [hr]
    clear e1 e2 h1 hr
    go_enter Try.func26, Try.ntmps26
    go_wp2
    go_ret
    exact ⟨rfl, HB.out⟩
  subst h1
  by_cases h1 : xs = xs'
  case neg =>
    have hr : recSame k f x s xs ys k f x s xs' ys' = false := by simp [recSame, h1]
    rw [decide_eq_false h1] at e1
    rw [hr]
    clear e2 h1 hr
    go_enter Try.func26, Try.ntmps26
    go_wp2
    go_ret
    exact ⟨rfl, HB.out⟩
  subst h1
  have hr : recSame k f x s xs ys k f x s xs ys' = decide (ys = ys') := by simp [recSame]
  rw [decide_eq_true rfl] at e1
  rw [hr]
  clear hr
  go_enter Try.func26, Try.ntmps26
  go_wp2
  go_ret
  exact ⟨rfl, HB.out⟩

end Go.Proofs.Ytehldhdpeefljaa
