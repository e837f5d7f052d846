/- Lists in memory: what is told, and what is done, by the lists alone. -/
import Derived.Test.YthegbimolbhikaaLrB
namespace Go.Proofs.Ythegbimolbhikaa
open Go.RowKit
attribute [local go_sem] Oper.semAt_some
set_option linter.unusedVariables false
set_option linter.unusedSimpArgs false
set_option maxRecDepth 100000

/-- These lists lie at x, their places at p. -/
def LrV (w : World) (x p n : Nat) (xs : List (List Nat)) : Prop := ∃ A B C len, LrM w x p n xs.length A B C len ∧ Rep n A B C len xs
section
variable {w w' : World} {x p n : Nat} {xs : List (List Nat)}
theorem LrV.ne (h : LrV w x p n xs) : x ≠ p := by obtain ⟨A, B, C, len, h1, h2⟩ := h; exact h1.ne
theorem LrV.lt (h : LrV w x p n xs) : x < w.heap.size ∧ p < w.heap.size := by obtain ⟨A, B, C, len, h1, h2⟩ := h; exact h1.lt
theorem LrV.nums (h : LrV w x p n xs) : 1 ≤ n ∧ n ≤ 65536 ∧ 1 ≤ xs.length ∧ xs.length ≤ 64 := by obtain ⟨A, B, C, len, h1, h2⟩ := h; exact ⟨h1.n1, h1.n2, h1.l1, h1.l2⟩
theorem LrV.nd (h : LrV w x p n xs) (i : Nat) : (xs.getD i []).Nodup := by obtain ⟨A, B, C, len, h1, h2⟩ := h; exact h2.nd i
theorem LrV.small (h : LrV w x p n xs) {i k : Nat} (hk : k ∈ xs.getD i []) : k < n := by obtain ⟨A, B, C, len, h1, h2⟩ := h; exact h2.lt i k hk
theorem LrV.apart (h : LrV w x p n xs) {i j k : Nat} (hi : k ∈ xs.getD i []) (hj : k ∈ xs.getD j []) : i = j := by obtain ⟨A, B, C, len, h1, h2⟩ := h; exact h2.apart hi hj
theorem LrV.drew (h : LrV w x p n xs) : LrV w.drew x p n xs := by obtain ⟨A, B, C, len, h1, h2⟩ := h; exact ⟨A, B, C, len, h1.drew, h2⟩
theorem LrV.drewN (h : LrV w x p n xs) (k : Nat) : LrV (w.drewN k) x p n xs := by obtain ⟨A, B, C, len, h1, h2⟩ := h; exact ⟨A, B, C, len, h1.drewN k, h2⟩
theorem LrV.kept {S : Nat → Prop} (h : LrV w x p n xs) (hb : Kept S w w') (hx : S x) (hp : S p) : LrV w' x p n xs := by obtain ⟨A, B, C, len, h1, h2⟩ := h; exact ⟨A, B, C, len, h1.kept hb hx hp, h2⟩
theorem LrV.below {D : Nat} (h : LrV w x p n xs) (hb : Below D w w') (hx : x < D) (hp : p < D) : LrV w' x p n xs := by obtain ⟨A, B, C, len, h1, h2⟩ := h; exact ⟨A, B, C, len, h1.below hb hx hp, h2⟩
theorem nodup_len : ∀ {n : Nat} {l : List Nat}, l.Nodup → (∀ a ∈ l, a < n) → l.length ≤ n
  | 0, l, _, hlt => by
    cases l with
    | nil => simp
    | cons a l => have := hlt a (by simp); omega
  | n + 1, l, hnd, hlt => by
    have h1 := nodup_len (n := n) (hnd.erase n) (fun a ha => by
      have h2 := (hnd.mem_erase_iff).1 ha
      have := hlt a h2.2
      omega)
    rw [List.length_erase] at h1
    split at h1 <;> omega
theorem LrV.len (h : LrV w x p n xs) (i : Nat) : (xs.getD i []).length ≤ n := nodup_len (h.nd i) fun a ha => h.small ha

theorem where_any (h : LrV w x p n xs) (k : Int) : Calls Try.prog 25 #[.pointer (some ⟨x, 0, none⟩), .int .i64 k] w fun e w' => e = .returned (.tuple #[.int .i64 (whV n xs k), .int .i64 (outE n xs k)]) ∧ w' = w := by
  obtain ⟨A, B, C, len, hM, hR⟩ := h
  have HN := Lib.hid (hasNumber_any hM k)
  by_cases hk : hasN n k
  · obtain ⟨k, rfl⟩ : ∃ m : Nat, k = (m : Int) := ⟨k.toNat, by have := hk.1; omega⟩
    have hk2 : k < n := by have := hk.2; omega
    have hw := hR.wh hk2
    have hcc := hM.cc (a := k) (by omega)
    rw [← hw] at hcc
    have HP := Lib.hid (plist_any hM k (by omega))
    have e0 : outE n xs (k : Int) = if whX xs k = 0 then 4 else 0 := by unfold outE; rw [if_neg (by simpa using hk)]; simp
    have e1 : whV n xs (k : Int) = if whX xs k = 0 then 0 else (whX xs k : Int) - 1 := by unfold whV; rw [e0]; split <;> simp
    rw [e0, e1]
    have hc64 : whX xs k ≤ 64 := by
      have := hM.l2
      by_cases h0 : whX xs k = 0
      · omega
      · have := (whX_some h0).1
        omega
    rw [decide_eq_true hk] at HN
    clear hM hR hw e0 e1 hk hk2
    generalize whX xs k = c at *
    go_enter Try.func25, Try.ntmps25
    by_cases h0 : c = 0
    · subst h0
      go_wp2_with (first | (go_at_call 30; refine HN.out.mono ?_; rintro e w2 ⟨rfl, rfl⟩) | (go_at_call 31; refine HP.out.mono ?_; rintro e w2 ⟨rfl, rfl⟩))
      (first | go_ret | go_ret2)
      exact ⟨rfl, rfl⟩
    · have h0' : ((c : Int) = 0) = False := by simp; exact h0
      rw [if_neg h0, if_neg h0]
      go_wp2_with (first | (go_at_call 30; refine HN.out.mono ?_; rintro e w2 ⟨rfl, rfl⟩) | (go_at_call 31; refine HP.out.mono ?_; rintro e w2 ⟨rfl, rfl⟩))
      (first | go_ret | go_ret2)
      exact ⟨by first | rfl | simp, rfl⟩
  · have e0 : outE n xs k = 2 := by unfold outE; rw [if_pos hk]
    have e1 : whV n xs k = 0 := by unfold whV; rw [e0]; rfl
    rw [e0, e1]
    rw [decide_eq_false hk] at HN
    clear hM hR e0 e1 hk
    go_enter Try.func25, Try.ntmps25
    go_wp2_with (first | (go_at_call 30; refine HN.out.mono ?_; rintro e w2 ⟨rfl, rfl⟩))
    (first | go_ret | go_ret2)
    exact ⟨rfl, rfl⟩

theorem some_any (h : LrV w x p n xs) (i : Int) : Calls Try.prog 44 #[.pointer (some ⟨x, 0, none⟩), .int .i64 i] w fun e w' => e = .returned (.int .i64 (someE xs i)) ∧ w' = w := by
  have hlen := h.len i.toNat
  obtain ⟨A, B, C, len, hM, hR⟩ := h
  have HH := Lib.hid (hasList_any hM i)
  by_cases hi : hasL xs i
  · obtain ⟨i, rfl⟩ : ∃ m : Nat, i = (m : Int) := ⟨i.toNat, by have := hi.1; omega⟩
    have hi2 : i < xs.length := by have := hi.2; omega
    have hl := hR.ln i hi2
    have h64 := hM.l2
    have h65 := hM.n2
    have hce := hM.ce (i := i) (by omega)
    rw [hl] at hce
    have e0 : someE xs (i : Int) = if (xs.getD i []).length = 0 then 4 else 0 := by
      unfold someE; rw [if_neg (by simpa using hi)]; simp
    rw [e0]
    rw [decide_eq_true (show 0 ≤ (i : Int) ∧ (i : Int) < (xs.length : Nat) from hi)] at HH
    have h66 : i < 64 := by omega
    have h67 : (xs.getD i []).length ≤ 65536 := by simpa using Nat.le_trans hlen h65
    clear hM hR hl hlen h64 h65 e0 hi hi2
    generalize (xs.getD i []).length = c at *
    go_enter Try.func44, Try.ntmps44
    by_cases h0 : c = 0
    · subst h0
      go_wp2_with (first | (go_at_call 29; refine HH.out.mono ?_; rintro e w2 ⟨rfl, rfl⟩))
      (first | go_ret | go_ret2)
      exact ⟨rfl, rfl⟩
    · have h0' : ((c : Int) = 0) = False := by simp; exact h0
      rw [if_neg h0]
      go_wp2_with (first | (go_at_call 29; refine HH.out.mono ?_; rintro e w2 ⟨rfl, rfl⟩))
      (first | go_ret | go_ret2)
      exact ⟨rfl, rfl⟩
  · have e0 : someE xs i = 2 := by unfold someE; rw [if_pos hi]
    rw [e0]
    rw [decide_eq_false (show ¬ (0 ≤ i ∧ i < (xs.length : Nat)) from hi)] at HH
    clear hM hR e0 hi hlen
    go_enter Try.func44, Try.ntmps44
    go_wp2_with (first | (go_at_call 29; refine HH.out.mono ?_; rintro e w2 ⟨rfl, rfl⟩))
    (first | go_ret | go_ret2)
    exact ⟨rfl, rfl⟩
theorem len_any (h : LrV w x p n xs) (i : Int) : Calls Try.prog 21 #[.pointer (some ⟨x, 0, none⟩), .int .i64 i] w fun e w' => e = .returned (.int .i64 ((ofX xs i).length : Nat)) ∧ w' = w := by
  obtain ⟨A, B, C, len, hM, hR⟩ := h
  have HH := Lib.hid (hasList_any hM i)
  by_cases hi : hasL xs i
  · obtain ⟨i, rfl⟩ : ∃ m : Nat, i = (m : Int) := ⟨i.toNat, by have := hi.1; omega⟩
    have hi2 : i < xs.length := by have := hi.2; omega
    have hl := hR.ln i hi2
    have h64 := hM.l2
    have hce := hM.ce (i := i) (by omega)
    rw [hl] at hce
    have e0 : ofX xs (i : Int) = xs.getD i [] := by unfold ofX; rw [if_pos hi]; simp
    rw [e0]
    rw [decide_eq_true (show 0 ≤ (i : Int) ∧ (i : Int) < (xs.length : Nat) from hi)] at HH
    have h66 : i < 64 := by omega
    clear hM hR hl h64 e0 hi hi2
    generalize (xs.getD i []).length = c at *
    go_enter Try.func21, Try.ntmps21
    go_wp2_with (first | (go_at_call 29; refine HH.out.mono ?_; rintro e w2 ⟨rfl, rfl⟩))
    (first | go_ret | go_ret2)
    exact ⟨rfl, rfl⟩
  · have e0 : ofX xs i = [] := by unfold ofX; rw [if_neg hi]
    rw [e0]
    rw [decide_eq_false (show ¬ (0 ≤ i ∧ i < (xs.length : Nat)) from hi)] at HH
    clear hM hR e0 hi
    go_enter Try.func21, Try.ntmps21
    go_wp2_with (first | (go_at_call 29; refine HH.out.mono ?_; rintro e w2 ⟨rfl, rfl⟩))
    (first | go_ret | go_ret2)
    exact ⟨rfl, rfl⟩
/-- The first and the last one of a list that has some, as its circle tells them. -/
theorem ends_of (h : LrV w x p n xs) {i : Nat} (hi : i < xs.length) (hne : xs.getD i [] ≠ []) :
    w.cell? ⟨p, aC (n + i), none⟩ = some (.int .i64 ((xs.getD i []).getLastD 0 : Nat)) ∧ w.cell? ⟨p, aC (n + i) + 64, none⟩ = some (.int .i64 ((xs.getD i []).headD 0 : Nat)) := by
  obtain ⟨A, B, C, len, hM, hR⟩ := h
  have h1 := hM.ca (a := n + i) (by omega)
  have h2 := hM.cb (a := n + i) (by omega)
  rw [hR.last hi] at h1
  rw [hR.first hi] at h2
  cases e : xs.getD i [] with
  | nil => exact absurd e hne
  | cons y l =>
    rw [e] at h2
    refine ⟨?_, h2⟩
    rw [h1]
    simp only [e]
    rw [List.getLast_cons (by simp), List.getLastD_eq_getLast?, List.getLast?_eq_some_getLast (by simp)]
    rfl
theorem oldest_lr (h : LrV w x p n xs) (i : Int) : Calls Try.prog 23 #[.pointer (some ⟨x, 0, none⟩), .int .i64 i] w fun e w' => e = .returned (.tuple #[.int .i64 (oldV xs i), .int .i64 (someE xs i)]) ∧ w' = w := by
  have HS := Lib.hid (some_any h i)
  have hends := fun (j : Nat) (hj : j < xs.length) (hne : xs.getD j [] ≠ []) => (ends_of h hj hne).1
  obtain ⟨A, B, C, len, hM, hR⟩ := h
  by_cases he : someE xs i = 0
  · have hi : hasL xs i := by unfold someE at he; split at he; cases he; rename_i h; exact Decidable.not_not.1 h
    have hne : xs.getD i.toNat [] ≠ [] := by unfold someE at he; rw [if_neg (by simpa using hi)] at he; intro e; rw [if_pos e] at he; cases he
    obtain ⟨i, rfl⟩ : ∃ m : Nat, i = (m : Int) := ⟨i.toNat, by have := hi.1; omega⟩
    have hi2 : i < xs.length := by have := hi.2; omega
    rw [show (i : Int).toNat = i by simp] at hne
    have hc := hends i hi2 hne
    have e1 : oldV xs (i : Int) = ((xs.getD i []).getLastD 0 : Nat) := by unfold oldV; rw [if_pos he]; simp
    have HE := Lib.hid (end_any hM i hi2)
    have HA := Lib.hid (ahead_any hM (n + i) (by omega))
    rw [e1, he]
    rw [he] at HS
    clear hM hR hends e1 he hi hne
    generalize (xs.getD i []).getLastD 0 = v at *
    generalize aC (n + i) = c at *
    go_enter Try.func23, Try.ntmps23
    go_wp2_with (first | (go_at_call 44; refine HS.out.mono ?_; rintro e w2 ⟨rfl, rfl⟩) | (go_at_call 28; refine HE.out.mono ?_; rintro e w2 ⟨rfl, rfl⟩) | (go_at_call 45; refine HA.out.mono ?_; rintro e w2 ⟨rfl, rfl⟩))
    (first | go_ret | go_ret2)
    exact ⟨rfl, rfl⟩
  · have e1 : oldV xs i = 0 := by unfold oldV; rw [if_neg he]
    rw [e1]
    clear hM hR hends e1
    generalize someE xs i = v at *
    go_enter Try.func23, Try.ntmps23
    go_wp2_with (first | (go_at_call 44; refine HS.out.mono ?_; rintro e w2 ⟨rfl, rfl⟩))
    (first | go_ret | go_ret2)
    exact ⟨rfl, rfl⟩
theorem newest_lr (h : LrV w x p n xs) (i : Int) : Calls Try.prog 24 #[.pointer (some ⟨x, 0, none⟩), .int .i64 i] w fun e w' => e = .returned (.tuple #[.int .i64 (newV xs i), .int .i64 (someE xs i)]) ∧ w' = w := by
  have HS := Lib.hid (some_any h i)
  have hends := fun (j : Nat) (hj : j < xs.length) (hne : xs.getD j [] ≠ []) => (ends_of h hj hne).2
  obtain ⟨A, B, C, len, hM, hR⟩ := h
  by_cases he : someE xs i = 0
  · have hi : hasL xs i := by unfold someE at he; split at he; cases he; rename_i h; exact Decidable.not_not.1 h
    have hne : xs.getD i.toNat [] ≠ [] := by unfold someE at he; rw [if_neg (by simpa using hi)] at he; intro e; rw [if_pos e] at he; cases he
    obtain ⟨i, rfl⟩ : ∃ m : Nat, i = (m : Int) := ⟨i.toNat, by have := hi.1; omega⟩
    have hi2 : i < xs.length := by have := hi.2; omega
    rw [show (i : Int).toNat = i by simp] at hne
    have hc := hends i hi2 hne
    have e1 : newV xs (i : Int) = ((xs.getD i []).headD 0 : Nat) := by unfold newV; rw [if_pos he]; simp
    have HE := Lib.hid (end_any hM i hi2)
    have HA := Lib.hid (behind_any hM (n + i) (by omega))
    rw [e1, he]
    rw [he] at HS
    clear hM hR hends e1 he hi hne
    generalize (xs.getD i []).headD 0 = v at *
    generalize aC (n + i) + 64 = c at *
    go_enter Try.func24, Try.ntmps24
    go_wp2_with (first | (go_at_call 44; refine HS.out.mono ?_; rintro e w2 ⟨rfl, rfl⟩) | (go_at_call 28; refine HE.out.mono ?_; rintro e w2 ⟨rfl, rfl⟩) | (go_at_call 46; refine HA.out.mono ?_; rintro e w2 ⟨rfl, rfl⟩))
    (first | go_ret | go_ret2)
    exact ⟨rfl, rfl⟩
  · have e1 : newV xs i = 0 := by unfold newV; rw [if_neg he]
    rw [e1]
    clear hM hR hends e1
    generalize someE xs i = v at *
    go_enter Try.func24, Try.ntmps24
    go_wp2_with (first | (go_at_call 44; refine HS.out.mono ?_; rintro e w2 ⟨rfl, rfl⟩))
    (first | go_ret | go_ret2)
    exact ⟨rfl, rfl⟩
end
end Go.Proofs.Ythegbimolbhikaa
