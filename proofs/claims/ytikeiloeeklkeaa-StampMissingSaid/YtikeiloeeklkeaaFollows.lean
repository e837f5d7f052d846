/- Package stamp: follows. -/
import Derived.Test.YtikeiloeeklkeaaStamp
namespace Go.Proofs.Ytikeiloeeklkeaa
open Go.RowKit
set_option linter.unusedVariables false

/-- May a sector of that stamp stand behind one of the other? -/
def folB (g p f g' p' : Int) : Bool := decide (0 < p' ∧ g = g' ∧ p = p' - 1 ∧ f = 48)

theorem follows_any (g p f g' p' f' : Int) (w : World) (hp : 0 ≤ p') (hp2 : p' ≤ 4294967295) (hf : 0 ≤ f) (hf2 : f ≤ 65535) :
    Calls Try.prog 30 #[.agg #[.int .u64 g, .int .u32 p, .int .i64 f], .agg #[.int .u64 g', .int .u32 p', .int .i64 f']] w fun e w' => e = .returned (.bool (folB g p f g' p')) ∧ Below w.heap.size w w' := by
  by_cases h : 0 < p'
  · have h1 : 1 ≤ p' := by omega
    go_enter Try.func30, Try.ntmps30
    go_wp2
    all_goals
      go_ret
      refine ⟨ret_bool ?_, (((Below.refl _ _).alloc (Nat.le_refl _) _).alloc (by simp) _).alloc (by simp; omega) _⟩
      simp [folB, *]
  · have h1 : p' = 0 := by omega
    subst h1
    go_enter Try.func30, Try.ntmps30
    go_wp2
    go_ret
    refine ⟨ret_bool ?_, (((Below.refl _ _).alloc (Nat.le_refl _) _).alloc (by simp) _).alloc (by simp; omega) _⟩
    simp [folB]

end Go.Proofs.Ytikeiloeeklkeaa
