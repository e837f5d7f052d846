/- Numbers in lists, told by circles of places: the pure side. -/
import Derived.Test.YthegbimolbhikaaBase
namespace Go.Proofs.Ythegbimolbhikaa
set_option linter.unusedVariables false
set_option linter.unusedSimpArgs false

def updN (f : Nat → Nat) (i v : Nat) : Nat → Nat := fun j => if j = i then v else f j
theorem updN_same (f : Nat → Nat) (i v : Nat) : updN f i v i = v := if_pos rfl
theorem updN_far (f : Nat → Nat) {i j : Nat} (v : Nat) (h : j ≠ i) : updN f i v j = f j := if_neg h

/-- Each place stands right ahead of the next one. -/
def Ch (A B : Nat → Nat) : List Nat → Prop
  | u :: v :: t => B u = v ∧ A v = u ∧ Ch A B (v :: t)
  | _ => True
section
variable {A B A' B' : Nat → Nat}
theorem Ch.congr : ∀ {ps : List Nat}, Ch A B ps → (∀ p ∈ ps.dropLast, B' p = B p) → (∀ p ∈ ps.tail, A' p = A p) → Ch A' B' ps
  | [], _, _, _ => trivial
  | [_], _, _, _ => trivial
  | u :: v :: t, h, hb, ha => by
    refine ⟨(hb u (by simp)).trans h.1, (ha v (by simp)).trans h.2.1, Ch.congr h.2.2 (fun p hp => hb p (by simp [List.dropLast] at hp ⊢; exact .inr hp)) fun p hp => ha p (by simp at hp ⊢; exact .inr hp)⟩
theorem ch_app : ∀ {s t : List Nat} {u v : Nat}, Ch A B (s ++ [u]) → Ch A B (v :: t) → B u = v → A v = u → Ch A B (s ++ u :: v :: t)
  | [], t, u, v, _, h2, h3, h4 => ⟨h3, h4, h2⟩
  | [y], t, u, v, h1, h2, h3, h4 => ⟨h1.1, h1.2.1, h3, h4, h2⟩
  | y :: z :: s, t, u, v, h1, h2, h3, h4 => ⟨h1.1, h1.2.1, ch_app (s := z :: s) h1.2.2 h2 h3 h4⟩
theorem ch_left : ∀ {s t : List Nat} {u : Nat}, Ch A B (s ++ u :: t) → Ch A B (s ++ [u])
  | [], t, u, _ => trivial
  | [y], t, u, h => ⟨h.1, h.2.1, trivial⟩
  | y :: z :: s, t, u, h => ⟨h.1, h.2.1, ch_left (s := z :: s) h.2.2⟩
theorem Ch.tl : ∀ {t : List Nat} {u : Nat}, Ch A B (u :: t) → Ch A B t
  | [], _, _ => trivial
  | _ :: _, _, h => h.2.2
theorem ch_right : ∀ {s t : List Nat}, Ch A B (s ++ t) → Ch A B t
  | [], t, h => h
  | y :: s, t, h => ch_right (s := s) h.tl
theorem ch_far {ps : List Nat} {u v a b : Nat} (h : Ch A B ps) (hv : v ∉ ps.tail) (hu : u ∉ ps.dropLast) : Ch (updN A v a) (updN B u b) ps :=
  h.congr (fun p hp => updN_far _ _ (fun e => hu (e ▸ hp))) (fun p hp => updN_far _ _ (fun e => hv (e ▸ hp)))
theorem ch_join {s t : List Nat} {u v : Nat} (h1 : Ch A B (s ++ [u])) (h2 : Ch A B (v :: t)) (hus : u ∉ s) (hvt : v ∉ t) (hv : v ∉ (s ++ [u]).tail) (hu : u ∉ (v :: t).dropLast) : Ch (updN A v u) (updN B u v) (s ++ u :: v :: t) :=
  ch_app (ch_far h1 hv (by simpa using hus)) (ch_far h2 (by simpa using hvt) hu) (updN_same _ _ _) (updN_same _ _ _)
end
abbrev cir (e : Nat) (l : List Nat) : List Nat := e :: (l ++ [e])
theorem cir_drop (e : Nat) (l : List Nat) : (cir e l).dropLast = e :: l := by show ((e :: l) ++ [e]).dropLast = _; rw [List.dropLast_concat]
theorem cir_tail (e : Nat) (l : List Nat) : (cir e l).tail = l ++ [e] := rfl

/-- The lists without a number; with a number that is the newest of one; where a number stands (one more than the list; 0: in none). -/
def outX (xs : List (List Nat)) (x : Nat) : List (List Nat) := xs.map fun l => l.filter fun y => y != x
def putX (xs : List (List Nat)) (i x : Nat) : List (List Nat) := xs.set i (x :: xs.getD i [])
def whX : List (List Nat) → Nat → Nat
  | [], _ => 0
  | l :: xs, x => if l.contains x then 1 else if whX xs x = 0 then 0 else whX xs x + 1
theorem outX_len (xs : List (List Nat)) (x : Nat) : (outX xs x).length = xs.length := by simp [outX]
theorem putX_len (xs : List (List Nat)) (i x : Nat) : (putX xs i x).length = xs.length := by simp [putX]
theorem outX_getD (xs : List (List Nat)) (x i : Nat) : (outX xs x).getD i [] = (xs.getD i []).filter fun y => y != x := by
  unfold outX
  simp only [List.getD, List.getElem?_map]
  cases xs[i]? <;> simp
theorem putX_same (xs : List (List Nat)) {i : Nat} (x : Nat) (h : i < xs.length) : (putX xs i x).getD i [] = x :: xs.getD i [] := by
  simp [putX, List.getD, h]
theorem putX_far (xs : List (List Nat)) {i j : Nat} (x : Nat) (h : j ≠ i) : (putX xs i x).getD j [] = xs.getD j [] := by
  simp [putX, List.getD, List.getElem?_set, Ne.symm h]
theorem filter_none {l : List Nat} {x : Nat} (h : x ∉ l) : l.filter (fun y => y != x) = l := by
  rw [List.filter_eq_self]
  intro y hy
  simp
  rintro rfl
  exact h hy
theorem filter_mid {a b : List Nat} {x : Nat} (h : (a ++ x :: b).Nodup) : (a ++ x :: b).filter (fun y => y != x) = a ++ b := by
  have h2 := List.nodup_append.1 h
  have hxb : x ∉ b := (List.nodup_cons.1 h2.2.1).1
  have hxa : x ∉ a := fun hx => h2.2.2 x hx x (by simp) rfl
  rw [List.filter_append, List.filter_cons, filter_none hxa, filter_none hxb]
  simp
theorem outX_none {xs : List (List Nat)} {x : Nat} (h : ∀ i, x ∉ xs.getD i []) : outX xs x = xs := by
  unfold outX
  have : ∀ l ∈ xs, l.filter (fun y => y != x) = l := fun l hl => by
    obtain ⟨i, hi, e⟩ := List.getElem_of_mem hl
    refine filter_none ?_
    have := h i
    simp only [List.getD, List.getElem?_eq_getElem hi, Option.getD_some, e] at this
    exact this
  rw [List.map_congr_left this]
  simp
theorem whX_zero : ∀ {xs : List (List Nat)} {x : Nat}, whX xs x = 0 ↔ ∀ i, x ∉ xs.getD i []
  | [], x => by simp [whX]
  | l :: xs, x => by
    have ih := whX_zero (xs := xs) (x := x)
    unfold whX
    constructor
    · intro h
      split at h
      · cases h
      · rename_i hc
        split at h
        · rename_i h0
          intro i
          cases i with
          | zero => simpa using hc
          | succ i => simpa using ih.1 h0 i
        · cases h
    · intro h
      rw [if_neg (by simpa using h 0), if_pos]
      exact ih.2 fun i => by simpa using h (i + 1)
theorem whX_some : ∀ {xs : List (List Nat)} {x : Nat}, whX xs x ≠ 0 → whX xs x - 1 < xs.length ∧ x ∈ xs.getD (whX xs x - 1) []
  | [], x, h => absurd rfl h
  | l :: xs, x, h => by
    have ih := whX_some (xs := xs) (x := x)
    unfold whX at h ⊢
    split
    · rename_i hc
      exact ⟨by simp, by simpa using hc⟩
    · rename_i hc
      rw [if_neg hc] at h
      split
      · rename_i h0
        rw [if_pos h0] at h
        exact absurd rfl h
      · rename_i h0
        obtain ⟨h1, h2⟩ := ih h0
        refine ⟨by simp; omega, ?_⟩
        obtain ⟨m, hm⟩ : ∃ m, whX xs x = m + 1 := ⟨whX xs x - 1, by omega⟩
        rw [hm] at h2 ⊢
        simpa using h2

/-- The circles tell these lists. -/
structure Rep (n : Nat) (A B C len : Nat → Nat) (xs : List (List Nat)) : Prop where
  ch : ∀ i, i < xs.length → Ch A B (cir (n + i) (xs.getD i []))
  nd : ∀ i, (xs.getD i []).Nodup
  lt : ∀ i x, x ∈ xs.getD i [] → x < n
  c1 : ∀ i x, x ∈ xs.getD i [] → C x = i + 1
  c0 : ∀ x, x < n → C x ≠ 0 → C x - 1 < xs.length ∧ x ∈ xs.getD (C x - 1) []
  ln : ∀ i, i < xs.length → len i = (xs.getD i []).length
section
variable {n : Nat} {A B C len : Nat → Nat} {xs : List (List Nat)}
theorem Rep.wh (h : Rep n A B C len xs) {x : Nat} (hx : x < n) : whX xs x = C x := by
  by_cases h0 : whX xs x = 0
  · rw [h0]
    by_cases h1 : C x = 0
    · exact h1.symm
    · exact absurd (h.c0 x hx h1).2 (whX_zero.1 h0 _)
  · have h1 := h.c1 _ _ (whX_some h0).2
    omega
theorem Rep.first (h : Rep n A B C len xs) {i : Nat} (hi : i < xs.length) : B (n + i) = (xs.getD i [] ++ [n + i]).headD 0 := by
  have := h.ch i hi
  unfold cir at this
  cases e : xs.getD i [] ++ [n + i] with
  | nil => simp at e
  | cons v t => rw [e] at this; exact this.1
theorem last_of_ch {e : Nat} : ∀ {l : List Nat} {u : Nat}, Ch A B (u :: (l ++ [e])) → A e = (u :: l).getLast (by simp)
  | [], u, h => h.2.1
  | y :: l, u, h => by
    rw [List.getLast_cons (by simp)]
    exact last_of_ch (l := l) (u := y) h.2.2
theorem Rep.last (h : Rep n A B C len xs) {i : Nat} (hi : i < xs.length) : A (n + i) = ((n + i) :: xs.getD i []).getLast (by simp) := last_of_ch (h.ch i hi)
theorem Rep.apart (h : Rep n A B C len xs) {i j x : Nat} (h1 : x ∈ xs.getD i []) (h2 : x ∈ xs.getD j []) : i = j := by
  have := h.c1 i x h1
  have := h.c1 j x h2
  omega
theorem Rep.put (h : Rep n A B C len xs) {i x b : Nat} (hi : i < xs.length) (hx : x < n) (hc : C x = 0) (hb : B (n + i) = b) :
    Rep n (updN (updN A b x) x (n + i)) (updN (updN B x b) (n + i) x) (updN C x (i + 1)) (updN len i (len i + 1)) (putX xs i x) := by
  have hno : ∀ j, x ∉ xs.getD j [] := fun j hj => by have := h.c1 j x hj; omega
  have hlt := h.lt i
  have hf := h.first hi
  rw [hb] at hf
  have hbm : b ∈ xs.getD i [] ++ [n + i] := by
    rw [hf]
    cases e : xs.getD i [] ++ [n + i] with
    | nil => simp at e
    | cons v t => simp
  refine ⟨fun j hj => ?_, fun j => ?_, fun j y hy => ?_, fun j y hy => ?_, fun y hy hC => ?_, fun j hj => ?_⟩
  · rw [putX_len] at hj
    by_cases hji : j = i
    · subst hji
      rw [putX_same _ _ hj]
      have hch := h.ch j hj
      have hnd := h.nd j
      have hxl := hno j
      generalize xs.getD j [] = l at *
      unfold cir at hch ⊢
      obtain ⟨v, t, hvt⟩ : ∃ v t, l ++ [n + j] = v :: t := by
        cases e : l ++ [n + j] with
        | nil => simp at e
        | cons v t => exact ⟨v, t, rfl⟩
      rw [hvt] at hf hch hbm
      have hbv : b = v := hf
      subst hbv
      have hnd2 : (l ++ [n + j]).Nodup := by
        rw [List.nodup_append]
        refine ⟨hnd, by simp, fun a ha c hc' => ?_⟩
        simp at hc'
        have := hlt a ha
        omega
      rw [List.cons_append, hvt]
      rw [hvt] at hnd2
      have hdl : (b :: t).dropLast = l := by rw [← hvt]; simp
      have h1 := ch_join (A := A) (B := B) (s := []) (u := x) (v := b) (t := t) trivial hch.2.2 (by simp) (List.nodup_cons.1 hnd2).1 (by simp) (by rw [hdl]; exact hxl)
      have hxvt : x ∉ b :: t := by
        rw [← hvt]
        simp
        exact ⟨hxl, by omega⟩
      have h2 := ch_join (s := []) (u := n + j) (v := x) (t := b :: t) trivial h1 (by simp) hxvt (by simp) (by
        rw [List.dropLast_cons_of_ne_nil (by simp), hdl]
        simp
        exact ⟨by omega, fun hm => by have := hlt _ hm; omega⟩)
      exact h2
    · rw [putX_far _ _ hji]
      have hbj : b ∉ xs.getD j [] ++ [n + j] := by
        intro hm
        rcases List.mem_append.1 hbm with h1 | h1 <;> rcases List.mem_append.1 hm with h2 | h2
        · exact hji (h.apart h2 h1)
        · simp at h2
          have := h.lt _ _ h1
          omega
        · simp at h1
          have := h.lt _ _ h2
          omega
        · simp at h1 h2
          omega
      refine ch_far (ch_far (h.ch j hj) ?_ ?_) ?_ ?_
      · rw [cir_tail]; exact hbj
      · rw [cir_drop]; simp; exact ⟨by omega, hno j⟩
      · rw [cir_tail]; simp; exact ⟨hno j, by omega⟩
      · rw [cir_drop]; simp; exact ⟨by omega, fun hm => by have := h.lt _ _ hm; omega⟩
  · by_cases hji : j = i
    · subst hji
      rw [putX_same _ _ hi]
      exact List.nodup_cons.2 ⟨hno j, h.nd j⟩
    · rw [putX_far _ _ hji]
      exact h.nd j
  · by_cases hji : j = i
    · subst hji
      rw [putX_same _ _ hi] at hy
      rcases List.mem_cons.1 hy with rfl | hy
      · exact hx
      · exact h.lt _ _ hy
    · rw [putX_far _ _ hji] at hy
      exact h.lt _ _ hy
  · by_cases hji : j = i
    · subst hji
      rw [putX_same _ _ hi] at hy
      rcases List.mem_cons.1 hy with rfl | hy
      · exact updN_same _ _ _
      · rw [updN_far _ _ (fun e : y = x => hno j (e ▸ hy))]
        exact h.c1 _ _ hy
    · rw [putX_far _ _ hji] at hy
      rw [updN_far _ _ (fun e : y = x => hno j (e ▸ hy))]
      exact h.c1 _ _ hy
  · rw [putX_len]
    by_cases hyx : y = x
    · subst hyx
      rw [updN_same]
      refine ⟨by omega, ?_⟩
      rw [show i + 1 - 1 = i by omega, putX_same _ _ hi]
      simp
    · rw [updN_far _ _ hyx] at hC ⊢
      obtain ⟨h1, h2⟩ := h.c0 y hy hC
      refine ⟨h1, ?_⟩
      by_cases hji : C y - 1 = i
      · rw [hji] at h2 ⊢
        rw [putX_same _ _ hi]
        exact List.mem_cons_of_mem _ h2
      · rw [putX_far _ _ hji]
        exact h2
  · rw [putX_len] at hj
    by_cases hji : j = i
    · subst hji
      rw [putX_same _ _ hi, updN_same, h.ln j hi]
      simp
    · rw [putX_far _ _ hji, updN_far _ _ hji]
      exact h.ln j hj
theorem Rep.out (h : Rep n A B C len xs) {i x a b : Nat} (hi : i < xs.length) (hx : x ∈ xs.getD i []) (ha : A x = a) (hb : B x = b) :
    Rep n (updN A b a) (updN B a b) (updN C x 0) (updN len i (len i - 1)) (outX xs x) ∧ a < n + xs.length ∧ b < n + xs.length := by
  have hxn := h.lt i x hx
  have hcx := h.c1 i x hx
  obtain ⟨p, q, hpq⟩ := List.append_of_mem hx
  have hch := h.ch i hi
  have hnd := h.nd i
  have hlt := h.lt i
  have hout : (outX xs x).getD i [] = p ++ q := by rw [outX_getD, hpq, filter_mid (hpq ▸ hnd)]
  have hfar : ∀ j, j ≠ i → (outX xs x).getD j [] = xs.getD j [] := fun j hj => by
    rw [outX_getD, filter_none (fun hm => hj (h.apart hm hx))]
  rw [hpq] at hch hnd hlt
  obtain ⟨s, u, hsu⟩ : ∃ s u, (n + i) :: p = s ++ [u] := ⟨_, _, (List.dropLast_concat_getLast (l := (n + i) :: p) (by simp)).symm⟩
  obtain ⟨v, t, hvt⟩ : ∃ v t, q ++ [n + i] = v :: t := by
    cases e : q ++ [n + i] with
    | nil => simp at e
    | cons v t => exact ⟨v, t, rfl⟩
  have e1 : cir (n + i) (p ++ x :: q) = s ++ u :: x :: v :: t := by
    unfold cir
    rw [List.append_assoc, List.cons_append, hvt, ← List.cons_append, hsu]
    simp
  have e2 : cir (n + i) (p ++ q) = s ++ u :: v :: t := by
    unfold cir
    rw [List.append_assoc, hvt, ← List.cons_append, hsu]
    simp
  rw [e1] at hch
  have hr := ch_right hch
  have hau : a = u := ha.symm.trans hr.2.1
  have hbv : b = v := hb.symm.trans hr.2.2.1
  subst hau hbv
  obtain ⟨hnp, hnq, hne⟩ := List.nodup_append.1 hnd
  have hnq2 := List.nodup_cons.1 hnq
  have hdisj : ∀ y, y ∈ p → y ∈ q → False := fun y h1 h2 => hne y h1 y (List.mem_cons_of_mem _ h2) rfl
  have hep : n + i ∉ p := fun hm => by have := hlt _ (List.mem_append_left _ hm); omega
  have heq : n + i ∉ q := fun hm => by have := hlt _ (List.mem_append_right _ (List.mem_cons_of_mem _ hm)); omega
  have ham : a = n + i ∨ a ∈ p := by
    have : a ∈ (n + i) :: p := by rw [hsu]; simp
    simpa using this
  have hbm : b ∈ q ∨ b = n + i := by
    have : b ∈ q ++ [n + i] := by rw [hvt]; simp
    simpa using this
  have hnds : (s ++ [a]).Nodup := by rw [← hsu]; exact List.nodup_cons.2 ⟨hep, hnp⟩
  have hndt : (b :: t).Nodup := by
    rw [← hvt, List.nodup_append]
    refine ⟨hnq2.2, by simp, fun y hy z hz => ?_⟩
    simp at hz
    subst hz
    rintro rfl
    exact heq hy
  have hbig : ∀ y, (y = n + i ∨ y ∈ xs.getD i []) → y < n + xs.length := by
    rintro y (rfl | hy)
    · omega
    · have := h.lt _ _ hy; omega
  have ham2 : a = n + i ∨ a ∈ xs.getD i [] := ham.imp id fun hm => by rw [hpq]; exact List.mem_append_left _ hm
  have hbm2 : b = n + i ∨ b ∈ xs.getD i [] := hbm.symm.imp id fun hm => by rw [hpq]; exact List.mem_append_right _ (List.mem_cons_of_mem _ hm)
  refine ⟨⟨fun j hj => ?_, fun j => ?_, fun j y hy => ?_, fun j y hy => ?_, fun y hy hC => ?_, fun j hj => ?_⟩, hbig a ham2, hbig b hbm2⟩
  · rw [outX_len] at hj
    by_cases hji : j = i
    · subst hji
      rw [hout, e2]
      refine ch_join (ch_left hch) (hr.tl.tl) ?_ (List.nodup_cons.1 hndt).1 ?_ ?_
      · intro hm
        exact (List.nodup_append.1 hnds).2.2 a hm a (by simp) rfl
      · rw [← hsu]
        show b ∉ p
        intro hm
        rcases hbm with h1 | rfl
        · exact hdisj _ hm h1
        · exact hep hm
      · rw [← hvt, List.dropLast_concat]
        intro hm
        rcases ham with rfl | h1
        · exact heq hm
        · exact hdisj _ h1 hm
    · rw [hfar j hji]
      refine ch_far (h.ch j hj) ?_ ?_
      · rw [cir_tail]
        intro hm
        rcases List.mem_append.1 hm with h1 | h1
        · rcases hbm2 with rfl | h2
          · have := h.lt _ _ h1; omega
          · exact hji (h.apart h1 h2)
        · simp at h1
          rcases hbm2 with rfl | h2
          · omega
          · have := h.lt _ _ h2; omega
      · rw [cir_drop]
        intro hm
        rcases List.mem_cons.1 hm with h1 | h1
        · rcases ham2 with rfl | h2
          · omega
          · have := h.lt _ _ h2; omega
        · rcases ham2 with rfl | h2
          · have := h.lt _ _ h1; omega
          · exact hji (h.apart h1 h2)
  · rw [outX_getD]
    exact (h.nd j).filter _
  · rw [outX_getD] at hy
    exact h.lt _ _ (List.mem_filter.1 hy).1
  · rw [outX_getD] at hy
    obtain ⟨h1, h2⟩ := List.mem_filter.1 hy
    rw [updN_far _ _ (by simpa using h2)]
    exact h.c1 _ _ h1
  · rw [outX_len]
    by_cases hyx : y = x
    · subst hyx
      exact absurd (updN_same _ _ _) hC
    · rw [updN_far _ _ hyx] at hC ⊢
      obtain ⟨h1, h2⟩ := h.c0 y hy hC
      refine ⟨h1, ?_⟩
      rw [outX_getD]
      exact List.mem_filter.2 ⟨h2, by simpa using hyx⟩
  · rw [outX_len] at hj
    by_cases hji : j = i
    · subst hji
      rw [hout, updN_same, h.ln j hi, hpq]
      simp
    · rw [hfar j hji, updN_far _ _ hji]
      exact h.ln j hj
end

/-! What is told. -/
def hasL (xs : List (List Nat)) (i : Int) : Prop := 0 ≤ i ∧ i < xs.length
def hasN (n : Nat) (x : Int) : Prop := 0 ≤ x ∧ x < n
instance (xs : List (List Nat)) (i : Int) : Decidable (hasL xs i) := inferInstanceAs (Decidable (_ ∧ _))
instance (n : Nat) (x : Int) : Decidable (hasN n x) := inferInstanceAs (Decidable (_ ∧ _))
def pushE (n : Nat) (xs : List (List Nat)) (i x : Int) : Int := if ¬ hasL xs i ∨ ¬ hasN n x then 2 else if whX xs x.toNat ≠ 0 then 5 else 0
def pushX (n : Nat) (xs : List (List Nat)) (i x : Int) : List (List Nat) := if pushE n xs i x = 0 then putX (outX xs x.toNat) i.toNat x.toNat else xs
def outE (n : Nat) (xs : List (List Nat)) (x : Int) : Int := if ¬ hasN n x then 2 else if whX xs x.toNat = 0 then 4 else 0
def touchX (n : Nat) (xs : List (List Nat)) (x : Int) : List (List Nat) := if outE n xs x = 0 then putX (outX xs x.toNat) (whX xs x.toNat - 1) x.toNat else xs
def remX (n : Nat) (xs : List (List Nat)) (x : Int) : List (List Nat) := if outE n xs x = 0 then outX xs x.toNat else xs
def whV (n : Nat) (xs : List (List Nat)) (x : Int) : Int := if outE n xs x = 0 then (whX xs x.toNat : Int) - 1 else 0
def someE (xs : List (List Nat)) (i : Int) : Int := if ¬ hasL xs i then 2 else if xs.getD i.toNat [] = [] then 4 else 0
def oldV (xs : List (List Nat)) (i : Int) : Int := if someE xs i = 0 then ((xs.getD i.toNat []).getLastD 0 : Nat) else 0
def newV (xs : List (List Nat)) (i : Int) : Int := if someE xs i = 0 then ((xs.getD i.toNat []).headD 0 : Nat) else 0
def ofX (xs : List (List Nat)) (i : Int) : List Nat := if hasL xs i then xs.getD i.toNat [] else []
theorem pushX_len (n : Nat) (xs : List (List Nat)) (i x : Int) : (pushX n xs i x).length = xs.length := by unfold pushX; split <;> simp [putX_len, outX_len]
theorem touchX_len (n : Nat) (xs : List (List Nat)) (x : Int) : (touchX n xs x).length = xs.length := by unfold touchX; split <;> simp [putX_len, outX_len]
theorem remX_len (n : Nat) (xs : List (List Nat)) (x : Int) : (remX n xs x).length = xs.length := by unfold remX; split <;> simp [outX_len]
end Go.Proofs.Ythegbimolbhikaa
