/- cmp.Compare at unsigned numbers; the sort of segments by their generations. -/
import Derived.Test.YtkmbbfdjdmkjpaaSegs
import Derived.Test.YtkmbbfdjdmkjpaaShelf
import Derived.Lib.Hide
namespace Go.Proofs.Ytkmbbfdjdmkjpaa
open Go.RowKit Go.Shelf Go.Lib Go.Sort
set_option linter.unusedVariables false

theorem nan_any (x : Int) (w : World) : Calls Try.prog 121 #[.int .u64 x] w fun e w' => e = .returned (.bool false) ∧ w' = w := by
  go_enter Try.func121, Try.ntmps121
  go_wp2
  go_ret
  exact ⟨rfl, rfl⟩
def cmpG (x y : Int) : Int := if x < y then -1 else if y < x then 1 else 0
theorem cmp_any (x y : Int) (w : World) : Calls Try.prog 113 #[.int .u64 x, .int .u64 y] w fun e w' => e = .returned (.int .i64 (cmpG x y)) ∧ w' = w := by
  unfold cmpG
  by_cases h1 : x < y
  · rw [if_pos h1]
    have hd : decide (x < y) = true := decide_eq_true h1
    go_enter Try.func113, Try.ntmps113
    go_wp2_with (go_at_call 121; refine (nan_any _ _).mono ?_; rintro e w' ⟨rfl, rfl⟩)
    go_ret
    exact ⟨rfl, rfl⟩
  · rw [if_neg h1]
    have hd : decide (x < y) = false := decide_eq_false h1
    by_cases h2 : y < x
    · rw [if_pos h2]
      have hd2 : decide (y < x) = true := decide_eq_true h2
      go_enter Try.func113, Try.ntmps113
      go_wp2_with (go_at_call 121; refine (nan_any _ _).mono ?_; rintro e w' ⟨rfl, rfl⟩)
      go_ret
      exact ⟨rfl, rfl⟩
    · rw [if_neg h2]
      have hd2 : decide (y < x) = false := decide_eq_false h2
      go_enter Try.func113, Try.ntmps113
      go_wp2_with (go_at_call 121; refine (nan_any _ _).mono ?_; rintro e w' ⟨rfl, rfl⟩)
      go_ret
      exact ⟨rfl, rfl⟩

abbrev cmpN (x y : Num) : Int := cmpG x.2.2.1 y.2.2.1
theorem ltN (x y : Num) : ltOf cmpN x y = decide (x.2.2.1 < y.2.2.1) := by
  unfold ltOf cmpN cmpG
  by_cases h1 : x.2.2.1 < y.2.2.1
  · simp [h1]
  · by_cases h2 : y.2.2.1 < x.2.2.1 <;> simp [h1, h2]
theorem swoN : SWO (ltOf cmpN) where
  irrefl x := by rw [ltN]; simp
  trans x y z h1 h2 := by rw [ltN] at *; simp at *; omega
  ntrans x y z h1 h2 := by rw [ltN] at *; simp at *; omega

theorem closure_cmp (x y : Num) (W : World) : Calls Try.prog 112 #[.agg (numC x).toArray, .agg (numC y).toArray] W fun e w' => e = .returned (.int .i64 (cmpN x y)) ∧ ∃ q os', w' = grow (W.drewN q) os' := by
  obtain ⟨i, st, g, u⟩ := x
  obtain ⟨i', st', g', u'⟩ := y
  have hcon := fun W' => cmp_any g g' W'
  simp only [cmpN]
  generalize cmpG g g' = r at hcon ⊢
  go_enter Try.func112, Try.ntmps112
  go_wp2_with (go_at_call 113; refine (hcon _).mono ?_; rintro e w' ⟨rfl, rfl⟩)
  go_ret
  exact ⟨rfl, 0, _, by rw [alloc_eq_grow, alloc_eq_grow, grow_grow]; rfl⟩

/-- Behind the sort all blocks but the row's are as they were. -/
theorem grownBy_sortK {α : Type} [Inhabited α] {enc : α → List Value} {k : Nat} {w : World} {g off n : Nat} {os : Array Obj} (d : Array α) : w.grownBy (sortWorldK enc k w g off n d os) (some g) := by
  unfold sortWorldK putRowK
  refine ⟨rfl, rfl, rfl, by simp, fun j hj hne => ?_⟩
  rw [heap_grow_old _ _ (by simpa using hj)]
  have : g ≠ j := fun e => hne (by rw [e])
  simp [putRow, mapBlock, Sort.ahead, Array.getElem?_modify, this]

/-- slices.SortFunc of segments by their generations. -/
theorem sort_num (blk off cap : Nat) (d : Array Num) (w : World) (hH : HoldsK numC 4 w blk off d) (hblk : blk < w.heap.size) (hsz : d.size < 4611686018427387904) :
    Calls Try.prog 111 #[.slice (some ⟨blk, off, none⟩) d.size cap, .func (.func 112) #[] #[]] w fun e w' =>
      e = .returned (.tuple #[]) ∧ ∃ d', d'.size = d.size ∧ d'.toList.Perm d.toList ∧ (∀ i j, i < j → j < d.size → (d'[i]!).2.2.1 ≤ (d'[j]!).2.2.1) ∧ HoldsK numC 4 w' blk off d' ∧ w.grownBy w' (some blk) := by
  have eg : ∀ args w, (callFunc 112 args).run Try.prog w = .ok (.enter 112 args) w := enters_of Try.func112 (by kernel_rfl) rfl
  have hcon := AnyQ.slices_SortFunc (α := Num) sortNum 4 Try.isAgg139 Try.sizeOf139 numC (fun _ => rfl) ones_num cmpN swoN 112 #[] blk off cap d w eg (fun m os dk _ x y => closure_cmp x y _) hH hblk hsz
  refine Calls.mono (hcon : Calls Try.prog 111 _ _ _) ?_
  rintro e w' ⟨rfl, d', n, os, hp, hs, rfl⟩
  refine ⟨rfl, d', hp.1, ?_, ?_, holdsK_sortWorldK _ _ _ _ _ _ d d' os hblk hH hp.1, grownBy_sortK d'⟩
  · have h := hp.2.2
    have e1 : d'.extract 0 d.size = d' := by rw [← hp.1]; simp
    have e2 : d.extract 0 d.size = d := by simp
    rwa [e1, e2] at h
  · intro i j hij hj
    have h := hs i j (Nat.zero_le _) hij hj
    rw [ltN] at h
    simp at h
    simpa using h

end Go.Proofs.Ytkmbbfdjdmkjpaa
