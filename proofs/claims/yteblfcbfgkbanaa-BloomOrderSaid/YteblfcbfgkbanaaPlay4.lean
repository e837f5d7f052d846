/- What follows of filters that hashes were added to: nothing that was added is denied, and how many bits are set. -/
import Derived.Test.YteblfcbfgkbanaaPlay3
import Derived.Test.YteblfcbfgkbanaaPlay2
namespace Go.Proofs.Yteblfcbfgkbanaa
open Go.RowKit
set_option linter.unusedVariables false

def adds (xs : List Int) (hs : List Int) : List Int := hs.foldl addF xs
theorem adds_length (xs hs : List Int) : (adds xs hs).length = xs.length := by
  induction hs generalizing xs with
  | nil => rfl
  | cons h r ih => show (adds (addF xs h) r).length = _; rw [ih, addF_length]
theorem adds_snoc (xs hs : List Int) (h : Int) : adds xs (hs ++ [h]) = addF (adds xs hs) h := by simp [adds]
theorem adds_take (xs hs : List Int) (k : Nat) (hk : k < hs.length) : adds xs (hs.take (k + 1)) = addF (adds xs (hs.take k)) (hs.getD k 0) := by
  rw [take_snoc hs k hk, adds_snoc]

/-- Every bit that is set in xs is set in ys. -/
def Grows (xs ys : List Int) : Prop := xs.length = ys.length ∧ ∀ i, i < 8 * xs.length → (bitsOf xs).getD i false = true → (bitsOf ys).getD i false = true
theorem Grows.refl (xs : List Int) : Grows xs xs := ⟨rfl, fun _ _ h => h⟩
theorem Grows.trans {xs ys zs : List Int} (h : Grows xs ys) (k : Grows ys zs) : Grows xs zs := ⟨h.1.trans k.1, fun i hi hb => k.2 i (by rw [← h.1]; exact hi) (h.2 i hi hb)⟩
theorem grows_add (xs : List Int) (h : Int) (h1 : 1 ≤ xs.length) : Grows xs (addF xs h) :=
  ⟨(addF_length _ _).symm, fun i hi hb => by rw [addF_bits _ _ h1]; exact markAll_mono _ _ _ (by rw [bitsOf_length]; exact hi) hb⟩
theorem grows_adds (xs hs : List Int) (h1 : 1 ≤ xs.length) : Grows xs (adds xs hs) := by
  induction hs generalizing xs with
  | nil => exact Grows.refl _
  | cons h r ih => exact (grows_add xs h h1).trans (ih (addF xs h) (by rw [addF_length]; exact h1))
theorem grows_join (xs ys : List Int) (h : xs.length = ys.length) : Grows xs (joinB xs ys) :=
  ⟨(joinB_length _ _ h).symm, fun i hi hb => by rw [bitsOf_joinB _ _ h _ hi, hb]; rfl⟩
theorem grows_join' (xs ys : List Int) (h : xs.length = ys.length) : Grows ys (joinB xs ys) :=
  ⟨h.symm.trans (joinB_length _ _ h).symm, fun i hi hb => by rw [bitsOf_joinB _ _ h _ (by omega), hb]; simp⟩

def Has (xs : List Int) (h : Int) : Prop := allSet (bitsOf xs) (nums4 h xs) = true
theorem Has.grow {xs ys : List Int} {h : Int} (H : Has xs h) (hg : Grows xs ys) (h1 : 1 ≤ xs.length) : Has ys h := by
  unfold Has at *
  rw [allSet_iff] at *
  have e : nums4 h ys = nums4 h xs := by unfold nums4; rw [hg.1]
  rw [e]
  intro p hp
  have := nums4_mem h xs h1 p hp
  exact hg.2 _ (by omega) (H p hp)
theorem has_adds (xs hs : List Int) (h : Int) (h1 : 1 ≤ xs.length) (hm : h ∈ hs) : Has (adds xs hs) h := by
  induction hs generalizing xs with
  | nil => cases hm
  | cons a r ih =>
    have hl : 1 ≤ (addF xs a).length := by rw [addF_length]; exact h1
    rcases List.mem_cons.1 hm with rfl | hm
    · exact Has.grow (may_self xs h h1) (grows_adds (addF xs h) r hl) hl
    · exact ih (addF xs a) hl hm

theorem pop_add (xs : List Int) (h : Int) (h1 : 1 ≤ xs.length) : popAll xs ≤ popAll (addF xs h) ∧ popAll (addF xs h) ≤ popAll xs + 4 := by
  rw [popAll_count, popAll_count, addF_bits _ _ h1]
  have := count_markAll (bitsOf xs) (probes h ((8 * xs.length : Nat) : Int) 4)
  rw [probes_len] at this
  omega
theorem pop_adds (xs hs : List Int) (h1 : 1 ≤ xs.length) : popAll (adds xs hs) ≤ popAll xs + 4 * hs.length := by
  induction hs generalizing xs with
  | nil => simp [adds]
  | cons a r ih =>
    have i1 := ih (addF xs a) (by rw [addF_length]; exact h1)
    have i2 := (pop_add xs a h1).2
    show popAll (adds (addF xs a) r) ≤ _
    simp only [List.length_cons]
    omega
theorem count_join (a b : List Bool) : (joinL a b).count true ≤ a.count true + b.count true := by
  induction a generalizing b with
  | nil => simp [joinL]
  | cons x r ih =>
    cases b with
    | nil => simp [joinL]
    | cons y s =>
      have := ih s
      unfold joinL at *
      simp only [List.zipWith_cons_cons, List.count_cons]
      cases x <;> cases y <;> simp <;> omega
theorem pop_join (xs ys : List Int) (h : xs.length = ys.length) : popAll (joinB xs ys) ≤ popAll xs + popAll ys := by
  rw [popAll_count, popAll_count, popAll_count, bitsOf_join _ _ h]
  have := count_join (bitsOf xs) (bitsOf ys)
  omega
theorem pop_zeros (s : Nat) : popAll (List.replicate s 0) = 0 := by rw [popAll_count, bitsOf_zeros]; simp [List.count_replicate]

/-- A filter's bytes are a filter's. -/
theorem file_num (xs : List Int) (h : xs.length ≤ 8192) : numOf ((fileOf xs).take 4) = 8 * (xs.length : Int) := by
  have hh := head4 ((8 * xs.length : Nat) : Int) (by omega)
  have e : (fileOf xs).take 4 = beBytes ((8 * xs.length : Nat) : Int) 4 := by
    unfold fileOf
    rw [List.take_append_of_le_length (by rw [beBytes_length]; exact Nat.le_refl _), List.take_of_length_le (by rw [beBytes_length]; exact Nat.le_refl _)]
  rw [e, hh]
  simp [numOf]
  omega
theorem file_drop (xs : List Int) : (fileOf xs).drop 4 = xs := by
  unfold fileOf
  rw [List.drop_append_of_le_length (by rw [beBytes_length]; exact Nat.le_refl _), List.drop_eq_nil_of_le (by rw [beBytes_length]; exact Nat.le_refl _)]
  rfl

theorem set_is (w : World) (f h : Nat) (xs : List Int) (H : Filt w f h xs) (n : Int) (hn : popAll xs = n) :
    Calls Try.prog 27 #[.pointer (some ⟨f, 0, none⟩)] w fun e w' => e = .returned (.int .i64 n) ∧ w = w' := by
  rw [← hn]
  exact set_any w f h xs H

end Go.Proofs.Yteblfcbfgkbanaa
