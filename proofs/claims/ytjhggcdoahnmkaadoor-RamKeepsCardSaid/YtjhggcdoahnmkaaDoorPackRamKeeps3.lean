/- Texts of RamKeeps, packed. -/
import Derived.Test.YtjhggcdoahnmkaaDoorPackRamKeeps2
import Derived.Deep.QuietTactic
import Derived.BigQuiet
import Derived.Deep.DeepCutAuto
import Derived.Deep.RegionHeld3
import Derived.Deep.CutBlock
import Derived.Lib.Hide
import Derived.StringKeys
import Derived.Maps.Keyed
import Derived.Maps.OwnSet
import Derived.Maps.OwnOps
import Derived.Maps.RangeWalk
import Derived.Maps.Views
/- What follows of all that is given, as numbers: bytes, full pages, what a taking leaves. Nothing of the program is spoken of here. -/
namespace Go.Proofs.YtjhggcdoahnmkaaDoor
set_option linter.unusedVariables false
set_option linter.unusedSimpArgs false
def bytP (p : Pg) : Nat := pop p.2 * szN p.1
def totalP (ps : List Pg) : Nat := (ps.map bytP).sum
theorem pop_lt {p : Pg} (h : OkP p) : pop p.2 ≤ chN p.1 := by
  have hl := h.2.1
  have h32 := chN_pos h.1
  have key : ∀ m, ((List.range m).filter (fun i => p.2.testBit i)).length ≤ min m (chN p.1) := by
    intro m
    induction m with
    | zero => simp
    | succ m ih =>
      rw [List.range_succ, List.filter_append, List.length_append]
      by_cases e : m < chN p.1
      · have : (List.filter (fun i => p.2.testBit i) [m]).length ≤ 1 := List.length_filter_le _ _
        omega
      · have : (List.filter (fun i => p.2.testBit i) [m]).length = 0 := by
          rw [List.filter_cons_of_neg (by rw [tb_high hl (show chN p.1 ≤ m by omega)]; decide)]
          rfl
        omega
  have := key 32
  unfold pop
  omega
theorem byt_le {p : Pg} (h : OkP p) : bytP p ≤ 1024 := by
  have h1 := pop_lt h
  have h2 := (chN_div h.1).2.2
  unfold bytP
  have := Nat.mul_le_mul_right (szN p.1) h1
  rw [Nat.mul_comm (chN p.1)] at this
  omega
theorem total_le : ∀ {ps : List Pg}, InvP ps → totalP ps ≤ 1024 * ps.length
  | [], _ => by simp [totalP]
  | a :: ps, h => by
    have h1 := byt_le (h a (by simp))
    have h2 := total_le (ps := ps) (fun p hp => h p (by simp [hp]))
    unfold totalP at *
    simp only [List.map_cons, List.sum_cons, List.length_cons]
    omega
theorem Given.total {ps : List Pg} {n : Int} {a : Nat} (h : Given ps n a) (hi : InvP ps) : totalP (giveX ps n) = totalP ps + szN (clsK n) := by
  have h1 := sum_set bytP ps a (clsK n, (ps.getD a pg0).2 ||| 2 ^ fst0 (ps.getD a pg0).2) h.lt
  rw [← h.x] at h1
  have h2 : bytP (clsK n, (ps.getD a pg0).2 ||| 2 ^ fst0 (ps.getD a pg0).2) = (pop (ps.getD a pg0).2 + 1) * szN (clsK n) := by
    show pop ((ps.getD a pg0).2 ||| 2 ^ fst0 (ps.getD a pg0).2) * szN (clsK n) = _
    rw [pop_or h.pl32 h.new]
  rw [h2, Nat.add_mul, Nat.one_mul] at h1
  unfold totalP
  rcases h.old with h0 | h0
  · have h3 : bytP (ps.getD a pg0) = 0 := by unfold bytP; rw [h0, pop_zero, Nat.zero_mul]
    rw [h3, h0, pop_zero, Nat.zero_mul] at h1
    omega
  · have h3 : bytP (ps.getD a pg0) = pop (ps.getD a pg0).2 * szN (clsK n) := by unfold bytP; rw [h0]
    rw [h3] at h1
    omega
theorem mem_get {ps : List Pg} {p : Pg} (h : p ∈ ps) : ∃ i, i < ps.length ∧ ps.getD i pg0 = p := by
  obtain ⟨i, hi, e⟩ := List.getElem_of_mem h
  exact ⟨i, hi, by simp [List.getD, List.getElem?_eq_getElem hi, e]⟩
/-- All pages of the class are full, none is free. -/
theorem full_all {ps : List Pg} {k : Nat} (h1 : ∀ i, i < ps.length → roomB k (ps.getD i pg0) = false) (h2 : ∀ i, i < ps.length → freeB (ps.getD i pg0) = false) : freeP ps = 0 ∧ usedP k ps = pagesP k ps * chN k := by
  have g1 : ∀ p, p ∈ ps → roomB k p = false := fun p hp => by obtain ⟨i, hi, e⟩ := mem_get hp; rw [← e]; exact h1 i hi
  have g2 : ∀ p, p ∈ ps → freeB p = false := fun p hp => by obtain ⟨i, hi, e⟩ := mem_get hp; rw [← e]; exact h2 i hi
  refine ⟨?_, ?_⟩
  · unfold freeP
    rw [List.length_eq_zero_iff, List.filter_eq_nil_iff]
    exact fun p hp => by rw [g2 p hp]; decide
  · unfold usedP pagesP
    have key : ∀ qs : List Pg, (∀ p, p ∈ qs → hasP k p = true ∧ pop p.2 = chN k) → (qs.map (fun p => pop p.2)).sum = qs.length * chN k := by
      intro qs
      induction qs with
      | nil => intro _; simp
      | cons a qs ih =>
        intro h
        have := ih (fun p hp => h p (by simp [hp]))
        simp only [List.map_cons, List.sum_cons, List.length_cons, this, (h a (by simp)).2, Nat.add_mul, Nat.one_mul]
        omega
    refine key _ fun p hp => ?_
    obtain ⟨hm, hh⟩ := List.mem_filter.1 hp
    refine ⟨hh, ?_⟩
    have := g1 p hm
    unfold roomB at this
    rw [hh] at this
    have hk : p.1 = k := by unfold hasP at hh; simp at hh; exact hh.2
    rw [← hk]
    simpa using this
/-- Behind a taking. -/
theorem take_find {ps : List Pg} {x : Int} (hx : findE ps x = 0) (c : Int) : (findE (takeX ps x) c = 0 ↔ findE ps c = 0 ∧ c ≠ x) ∧ findE (takeX ps x) x = 4 := by
  have hX : takeX ps x = ps.set (x / 32).toNat (clrP (ps.getD (x / 32).toNat pg0) (x % 32).toNat) := by unfold takeX; rw [if_pos hx]
  obtain ⟨a, p, rfl, hp, ha, ht, e1, e2, _⟩ := find_ok hx
  rw [hX, e1, e2]
  have hbit : ∀ i, (clrP (ps.getD a pg0) p).2.testBit i = ((ps.getD a pg0).2.testBit i && decide (i ≠ p)) := fun i => by
    unfold clrP
    have key : ((ps.getD a pg0).2 ^^^ 2 ^ p).testBit i = ((ps.getD a pg0).2.testBit i && decide (i ≠ p)) := by
      rw [xor_tb]
      by_cases e : p = i
      · subst e; rw [ht]; simp
      · simp [e, Ne.symm e]
    by_cases h0 : (ps.getD a pg0).2 ^^^ 2 ^ p = 0
    · rw [if_pos h0, ← key, h0]
    · rw [if_neg h0]; exact key
  have hself : ∀ q : Nat, q < 32 → findE (ps.set a (clrP (ps.getD a pg0) p)) ((a * 32 + q : Nat) : Int) = if ((ps.getD a pg0).2.testBit q && decide (q ≠ p)) then 0 else 4 := fun q hq => by
    rw [findE_at _ a q hq (by simpa using ha), getD_set_self _ ha, hbit]
  refine ⟨⟨fun h => ?_, fun ⟨h, hne⟩ => ?_⟩, by rw [hself p hp]; simp⟩
  · obtain ⟨b, q, rfl, hq, hb, hb2, _⟩ := find_ok h
    simp only [List.length_set] at hb
    by_cases e : a = b
    · subst e
      rw [hself q hq] at h
      rw [findE_at _ a q hq ha]
      by_cases e2 : q = p
      · subst e2; simp at h
      · have hbq : (ps.getD a pg0).2.testBit q = true := by
          cases hv : (ps.getD a pg0).2.testBit q with
          | true => rfl
          | false => rw [hv] at h; simp at h
        rw [hbq]
        exact ⟨rfl, by omega⟩
    · rw [getD_set_ne _ e] at hb2
      rw [findE_at _ b q hq hb, hb2]
      exact ⟨rfl, by omega⟩
  · obtain ⟨b, q, rfl, hq, hb, hb2, _⟩ := find_ok h
    by_cases e : a = b
    · subst e
      have : q ≠ p := by rintro rfl; exact hne rfl
      rw [hself q hq, hb2]
      simp [this]
    · rw [findE_at _ b q hq (by simpa using hb), getD_set_ne _ e, hb2]
      rfl
/-- Nothing is given any more: all pages are free. -/
theorem all_free {ps : List Pg} (hi : InvP ps) (h : ∀ c : Int, findE ps c ≠ 0) : freeP ps = ps.length := by
  unfold freeP
  rw [List.filter_eq_self.2 fun p hp => ?_]
  obtain ⟨i, hil, e⟩ := mem_get hp
  have ho := hi p hp
  have hc := (chN_pos ho.1).2
  unfold freeB
  refine decide_eq_true (eq_zero_tb fun q => ?_)
  by_cases hq : q < 32
  · have h1 := h ((i * 32 + q : Nat) : Int)
    rw [findE_at _ i q hq hil, e] at h1
    cases hv : p.2.testBit q with
    | false => rfl
    | true => rw [hv] at h1; simp at h1
  · exact tb_high ho.2.1 (by omega)
end Go.Proofs.YtjhggcdoahnmkaaDoor

/- Numbers in lists, told by circles of places: the pure side. -/
namespace Go.Proofs.YtjhggcdoahnmkaaDoor
set_option linter.unusedVariables false
set_option linter.unusedSimpArgs false

def updN (f : Nat → Nat) (i v : Nat) : Nat → Nat := fun j => if j = i then v else f j
theorem updN_same (f : Nat → Nat) (i v : Nat) : updN f i v i = v := if_pos rfl
theorem updN_far (f : Nat → Nat) {i j : Nat} (v : Nat) (h : j ≠ i) : updN f i v j = f j := if_neg h

/-- Each place stands right ahead of the next one. -/
def Ch (A B : Nat → Nat) : List Nat → Prop
  | u :: v :: t => B u = v ∧ A v = u ∧ Ch A B (v :: t)
  | _ => True
section
variable {A B A' B' : Nat → Nat}
theorem Ch.congr : ∀ {ps : List Nat}, Ch A B ps → (∀ p ∈ ps.dropLast, B' p = B p) → (∀ p ∈ ps.tail, A' p = A p) → Ch A' B' ps
  | [], _, _, _ => trivial
  | [_], _, _, _ => trivial
  | u :: v :: t, h, hb, ha => by
    refine ⟨(hb u (by simp)).trans h.1, (ha v (by simp)).trans h.2.1, Ch.congr h.2.2 (fun p hp => hb p (by simp [List.dropLast] at hp ⊢; exact .inr hp)) fun p hp => ha p (by simp at hp ⊢; exact .inr hp)⟩
theorem ch_app : ∀ {s t : List Nat} {u v : Nat}, Ch A B (s ++ [u]) → Ch A B (v :: t) → B u = v → A v = u → Ch A B (s ++ u :: v :: t)
  | [], t, u, v, _, h2, h3, h4 => ⟨h3, h4, h2⟩
  | [y], t, u, v, h1, h2, h3, h4 => ⟨h1.1, h1.2.1, h3, h4, h2⟩
  | y :: z :: s, t, u, v, h1, h2, h3, h4 => ⟨h1.1, h1.2.1, ch_app (s := z :: s) h1.2.2 h2 h3 h4⟩
theorem ch_left : ∀ {s t : List Nat} {u : Nat}, Ch A B (s ++ u :: t) → Ch A B (s ++ [u])
  | [], t, u, _ => trivial
  | [y], t, u, h => ⟨h.1, h.2.1, trivial⟩
  | y :: z :: s, t, u, h => ⟨h.1, h.2.1, ch_left (s := z :: s) h.2.2⟩
theorem Ch.tl : ∀ {t : List Nat} {u : Nat}, Ch A B (u :: t) → Ch A B t
  | [], _, _ => trivial
  | _ :: _, _, h => h.2.2
theorem ch_right : ∀ {s t : List Nat}, Ch A B (s ++ t) → Ch A B t
  | [], t, h => h
  | y :: s, t, h => ch_right (s := s) h.tl
theorem ch_far {ps : List Nat} {u v a b : Nat} (h : Ch A B ps) (hv : v ∉ ps.tail) (hu : u ∉ ps.dropLast) : Ch (updN A v a) (updN B u b) ps :=
  h.congr (fun p hp => updN_far _ _ (fun e => hu (e ▸ hp))) (fun p hp => updN_far _ _ (fun e => hv (e ▸ hp)))
theorem ch_join {s t : List Nat} {u v : Nat} (h1 : Ch A B (s ++ [u])) (h2 : Ch A B (v :: t)) (hus : u ∉ s) (hvt : v ∉ t) (hv : v ∉ (s ++ [u]).tail) (hu : u ∉ (v :: t).dropLast) : Ch (updN A v u) (updN B u v) (s ++ u :: v :: t) :=
  ch_app (ch_far h1 hv (by simpa using hus)) (ch_far h2 (by simpa using hvt) hu) (updN_same _ _ _) (updN_same _ _ _)
end
abbrev cir (e : Nat) (l : List Nat) : List Nat := e :: (l ++ [e])
theorem cir_drop (e : Nat) (l : List Nat) : (cir e l).dropLast = e :: l := by show ((e :: l) ++ [e]).dropLast = _; rw [List.dropLast_concat]
theorem cir_tail (e : Nat) (l : List Nat) : (cir e l).tail = l ++ [e] := rfl

/-- The lists without a number; with a number that is the newest of one; where a number stands (one more than the list; 0: in none). -/
def outX (xs : List (List Nat)) (x : Nat) : List (List Nat) := xs.map fun l => l.filter fun y => y != x
def putX (xs : List (List Nat)) (i x : Nat) : List (List Nat) := xs.set i (x :: xs.getD i [])
def whX : List (List Nat) → Nat → Nat
  | [], _ => 0
  | l :: xs, x => if l.contains x then 1 else if whX xs x = 0 then 0 else whX xs x + 1
theorem outX_len (xs : List (List Nat)) (x : Nat) : (outX xs x).length = xs.length := by simp [outX]
theorem putX_len (xs : List (List Nat)) (i x : Nat) : (putX xs i x).length = xs.length := by simp [putX]
theorem outX_getD (xs : List (List Nat)) (x i : Nat) : (outX xs x).getD i [] = (xs.getD i []).filter fun y => y != x := by
  unfold outX
  simp only [List.getD, List.getElem?_map]
  cases xs[i]? <;> simp
theorem putX_same (xs : List (List Nat)) {i : Nat} (x : Nat) (h : i < xs.length) : (putX xs i x).getD i [] = x :: xs.getD i [] := by
  simp [putX, List.getD, h]
theorem putX_far (xs : List (List Nat)) {i j : Nat} (x : Nat) (h : j ≠ i) : (putX xs i x).getD j [] = xs.getD j [] := by
  simp [putX, List.getD, List.getElem?_set, Ne.symm h]
theorem filter_none {l : List Nat} {x : Nat} (h : x ∉ l) : l.filter (fun y => y != x) = l := by
  rw [List.filter_eq_self]
  intro y hy
  simp
  rintro rfl
  exact h hy
theorem filter_mid {a b : List Nat} {x : Nat} (h : (a ++ x :: b).Nodup) : (a ++ x :: b).filter (fun y => y != x) = a ++ b := by
  have h2 := List.nodup_append.1 h
  have hxb : x ∉ b := (List.nodup_cons.1 h2.2.1).1
  have hxa : x ∉ a := fun hx => h2.2.2 x hx x (by simp) rfl
  rw [List.filter_append, List.filter_cons, filter_none hxa, filter_none hxb]
  simp
theorem outX_none {xs : List (List Nat)} {x : Nat} (h : ∀ i, x ∉ xs.getD i []) : outX xs x = xs := by
  unfold outX
  have : ∀ l ∈ xs, l.filter (fun y => y != x) = l := fun l hl => by
    obtain ⟨i, hi, e⟩ := List.getElem_of_mem hl
    refine filter_none ?_
    have := h i
    simp only [List.getD, List.getElem?_eq_getElem hi, Option.getD_some, e] at this
    exact this
  rw [List.map_congr_left this]
  simp
theorem whX_zero : ∀ {xs : List (List Nat)} {x : Nat}, whX xs x = 0 ↔ ∀ i, x ∉ xs.getD i []
  | [], x => by simp [whX]
  | l :: xs, x => by
    have ih := whX_zero (xs := xs) (x := x)
    unfold whX
    constructor
    · intro h
      split at h
      · cases h
      · rename_i hc
        split at h
        · rename_i h0
          intro i
          cases i with
          | zero => simpa using hc
          | succ i => simpa using ih.1 h0 i
        · cases h
    · intro h
      rw [if_neg (by simpa using h 0), if_pos]
      exact ih.2 fun i => by simpa using h (i + 1)
theorem whX_some : ∀ {xs : List (List Nat)} {x : Nat}, whX xs x ≠ 0 → whX xs x - 1 < xs.length ∧ x ∈ xs.getD (whX xs x - 1) []
  | [], x, h => absurd rfl h
  | l :: xs, x, h => by
    have ih := whX_some (xs := xs) (x := x)
    unfold whX at h ⊢
    split
    · rename_i hc
      exact ⟨by simp, by simpa using hc⟩
    · rename_i hc
      rw [if_neg hc] at h
      split
      · rename_i h0
        rw [if_pos h0] at h
        exact absurd rfl h
      · rename_i h0
        obtain ⟨h1, h2⟩ := ih h0
        refine ⟨by simp; omega, ?_⟩
        obtain ⟨m, hm⟩ : ∃ m, whX xs x = m + 1 := ⟨whX xs x - 1, by omega⟩
        rw [hm] at h2 ⊢
        simpa using h2

/-- The circles tell these lists. -/
structure Rep (n : Nat) (A B C len : Nat → Nat) (xs : List (List Nat)) : Prop where
  ch : ∀ i, i < xs.length → Ch A B (cir (n + i) (xs.getD i []))
  nd : ∀ i, (xs.getD i []).Nodup
  lt : ∀ i x, x ∈ xs.getD i [] → x < n
  c1 : ∀ i x, x ∈ xs.getD i [] → C x = i + 1
  c0 : ∀ x, x < n → C x ≠ 0 → C x - 1 < xs.length ∧ x ∈ xs.getD (C x - 1) []
  ln : ∀ i, i < xs.length → len i = (xs.getD i []).length
section
variable {n : Nat} {A B C len : Nat → Nat} {xs : List (List Nat)}
theorem Rep.wh (h : Rep n A B C len xs) {x : Nat} (hx : x < n) : whX xs x = C x := by
  by_cases h0 : whX xs x = 0
  · rw [h0]
    by_cases h1 : C x = 0
    · exact h1.symm
    · exact absurd (h.c0 x hx h1).2 (whX_zero.1 h0 _)
  · have h1 := h.c1 _ _ (whX_some h0).2
    omega
theorem Rep.first (h : Rep n A B C len xs) {i : Nat} (hi : i < xs.length) : B (n + i) = (xs.getD i [] ++ [n + i]).headD 0 := by
  have := h.ch i hi
  unfold cir at this
  cases e : xs.getD i [] ++ [n + i] with
  | nil => simp at e
  | cons v t => rw [e] at this; exact this.1
theorem last_of_ch {e : Nat} : ∀ {l : List Nat} {u : Nat}, Ch A B (u :: (l ++ [e])) → A e = (u :: l).getLast (by simp)
  | [], u, h => h.2.1
  | y :: l, u, h => by
    rw [List.getLast_cons (by simp)]
    exact last_of_ch (l := l) (u := y) h.2.2
theorem Rep.last (h : Rep n A B C len xs) {i : Nat} (hi : i < xs.length) : A (n + i) = ((n + i) :: xs.getD i []).getLast (by simp) := last_of_ch (h.ch i hi)
theorem Rep.apart (h : Rep n A B C len xs) {i j x : Nat} (h1 : x ∈ xs.getD i []) (h2 : x ∈ xs.getD j []) : i = j := by
  have := h.c1 i x h1
  have := h.c1 j x h2
  omega
theorem Rep.put (h : Rep n A B C len xs) {i x b : Nat} (hi : i < xs.length) (hx : x < n) (hc : C x = 0) (hb : B (n + i) = b) :
    Rep n (updN (updN A b x) x (n + i)) (updN (updN B x b) (n + i) x) (updN C x (i + 1)) (updN len i (len i + 1)) (putX xs i x) := by
  have hno : ∀ j, x ∉ xs.getD j [] := fun j hj => by have := h.c1 j x hj; omega
  have hlt := h.lt i
  have hf := h.first hi
  rw [hb] at hf
  have hbm : b ∈ xs.getD i [] ++ [n + i] := by
    rw [hf]
    cases e : xs.getD i [] ++ [n + i] with
    | nil => simp at e
    | cons v t => simp
  refine ⟨fun j hj => ?_, fun j => ?_, fun j y hy => ?_, fun j y hy => ?_, fun y hy hC => ?_, fun j hj => ?_⟩
  · rw [putX_len] at hj
    by_cases hji : j = i
    · subst hji
      rw [putX_same _ _ hj]
      have hch := h.ch j hj
      have hnd := h.nd j
      have hxl := hno j
      generalize xs.getD j [] = l at *
      unfold cir at hch ⊢
      obtain ⟨v, t, hvt⟩ : ∃ v t, l ++ [n + j] = v :: t := by
        cases e : l ++ [n + j] with
        | nil => simp at e
        | cons v t => exact ⟨v, t, rfl⟩
      rw [hvt] at hf hch hbm
      have hbv : b = v := hf
      subst hbv
      have hnd2 : (l ++ [n + j]).Nodup := by
        rw [List.nodup_append]
        refine ⟨hnd, by simp, fun a ha c hc' => ?_⟩
        simp at hc'
        have := hlt a ha
        omega
      rw [List.cons_append, hvt]
      rw [hvt] at hnd2
      have hdl : (b :: t).dropLast = l := by rw [← hvt]; simp
      have h1 := ch_join (A := A) (B := B) (s := []) (u := x) (v := b) (t := t) trivial hch.2.2 (by simp) (List.nodup_cons.1 hnd2).1 (by simp) (by rw [hdl]; exact hxl)
      have hxvt : x ∉ b :: t := by
        rw [← hvt]
        simp
        exact ⟨hxl, by omega⟩
      have h2 := ch_join (s := []) (u := n + j) (v := x) (t := b :: t) trivial h1 (by simp) hxvt (by simp) (by
        rw [List.dropLast_cons_of_ne_nil (by simp), hdl]
        simp
        exact ⟨by omega, fun hm => by have := hlt _ hm; omega⟩)
      exact h2
    · rw [putX_far _ _ hji]
      have hbj : b ∉ xs.getD j [] ++ [n + j] := by
        intro hm
        rcases List.mem_append.1 hbm with h1 | h1 <;> rcases List.mem_append.1 hm with h2 | h2
        · exact hji (h.apart h2 h1)
        · simp at h2
          have := h.lt _ _ h1
          omega
        · simp at h1
          have := h.lt _ _ h2
          omega
        · simp at h1 h2
          omega
      refine ch_far (ch_far (h.ch j hj) ?_ ?_) ?_ ?_
      · rw [cir_tail]; exact hbj
      · rw [cir_drop]; simp; exact ⟨by omega, hno j⟩
      · rw [cir_tail]; simp; exact ⟨hno j, by omega⟩
      · rw [cir_drop]; simp; exact ⟨by omega, fun hm => by have := h.lt _ _ hm; omega⟩
  · by_cases hji : j = i
    · subst hji
      rw [putX_same _ _ hi]
      exact List.nodup_cons.2 ⟨hno j, h.nd j⟩
    · rw [putX_far _ _ hji]
      exact h.nd j
  · by_cases hji : j = i
    · subst hji
      rw [putX_same _ _ hi] at hy
      rcases List.mem_cons.1 hy with rfl | hy
      · exact hx
      · exact h.lt _ _ hy
    · rw [putX_far _ _ hji] at hy
      exact h.lt _ _ hy
  · by_cases hji : j = i
    · subst hji
      rw [putX_same _ _ hi] at hy
      rcases List.mem_cons.1 hy with rfl | hy
      · exact updN_same _ _ _
      · rw [updN_far _ _ (fun e : y = x => hno j (e ▸ hy))]
        exact h.c1 _ _ hy
    · rw [putX_far _ _ hji] at hy
      rw [updN_far _ _ (fun e : y = x => hno j (e ▸ hy))]
      exact h.c1 _ _ hy
  · rw [putX_len]
    by_cases hyx : y = x
    · subst hyx
      rw [updN_same]
      refine ⟨by omega, ?_⟩
      rw [show i + 1 - 1 = i by omega, putX_same _ _ hi]
      simp
    · rw [updN_far _ _ hyx] at hC ⊢
      obtain ⟨h1, h2⟩ := h.c0 y hy hC
      refine ⟨h1, ?_⟩
      by_cases hji : C y - 1 = i
      · rw [hji] at h2 ⊢
        rw [putX_same _ _ hi]
        exact List.mem_cons_of_mem _ h2
      · rw [putX_far _ _ hji]
        exact h2
  · rw [putX_len] at hj
    by_cases hji : j = i
    · subst hji
      rw [putX_same _ _ hi, updN_same, h.ln j hi]
      simp
    · rw [putX_far _ _ hji, updN_far _ _ hji]
      exact h.ln j hj
theorem Rep.out (h : Rep n A B C len xs) {i x a b : Nat} (hi : i < xs.length) (hx : x ∈ xs.getD i []) (ha : A x = a) (hb : B x = b) :
    Rep n (updN A b a) (updN B a b) (updN C x 0) (updN len i (len i - 1)) (outX xs x) ∧ a < n + xs.length ∧ b < n + xs.length := by
  have hxn := h.lt i x hx
  have hcx := h.c1 i x hx
  obtain ⟨p, q, hpq⟩ := List.append_of_mem hx
  have hch := h.ch i hi
  have hnd := h.nd i
  have hlt := h.lt i
  have hout : (outX xs x).getD i [] = p ++ q := by rw [outX_getD, hpq, filter_mid (hpq ▸ hnd)]
  have hfar : ∀ j, j ≠ i → (outX xs x).getD j [] = xs.getD j [] := fun j hj => by
    rw [outX_getD, filter_none (fun hm => hj (h.apart hm hx))]
  rw [hpq] at hch hnd hlt
  obtain ⟨s, u, hsu⟩ : ∃ s u, (n + i) :: p = s ++ [u] := ⟨_, _, (List.dropLast_concat_getLast (l := (n + i) :: p) (by simp)).symm⟩
  obtain ⟨v, t, hvt⟩ : ∃ v t, q ++ [n + i] = v :: t := by
    cases e : q ++ [n + i] with
    | nil => simp at e
    | cons v t => exact ⟨v, t, rfl⟩
  have e1 : cir (n + i) (p ++ x :: q) = s ++ u :: x :: v :: t := by
    unfold cir
    rw [List.append_assoc, List.cons_append, hvt, ← List.cons_append, hsu]
    simp
  have e2 : cir (n + i) (p ++ q) = s ++ u :: v :: t := by
    unfold cir
    rw [List.append_assoc, hvt, ← List.cons_append, hsu]
    simp
  rw [e1] at hch
  have hr := ch_right hch
  have hau : a = u := ha.symm.trans hr.2.1
  have hbv : b = v := hb.symm.trans hr.2.2.1
  subst hau hbv
  obtain ⟨hnp, hnq, hne⟩ := List.nodup_append.1 hnd
  have hnq2 := List.nodup_cons.1 hnq
  have hdisj : ∀ y, y ∈ p → y ∈ q → False := fun y h1 h2 => hne y h1 y (List.mem_cons_of_mem _ h2) rfl
  have hep : n + i ∉ p := fun hm => by have := hlt _ (List.mem_append_left _ hm); omega
  have heq : n + i ∉ q := fun hm => by have := hlt _ (List.mem_append_right _ (List.mem_cons_of_mem _ hm)); omega
  have ham : a = n + i ∨ a ∈ p := by
    have : a ∈ (n + i) :: p := by rw [hsu]; simp
    simpa using this
  have hbm : b ∈ q ∨ b = n + i := by
    have : b ∈ q ++ [n + i] := by rw [hvt]; simp
    simpa using this
  have hnds : (s ++ [a]).Nodup := by rw [← hsu]; exact List.nodup_cons.2 ⟨hep, hnp⟩
  have hndt : (b :: t).Nodup := by
    rw [← hvt, List.nodup_append]
    refine ⟨hnq2.2, by simp, fun y hy z hz => ?_⟩
    simp at hz
    subst hz
    rintro rfl
    exact heq hy
  have hbig : ∀ y, (y = n + i ∨ y ∈ xs.getD i []) → y < n + xs.length := by
    rintro y (rfl | hy)
    · omega
    · have := h.lt _ _ hy; omega
  have ham2 : a = n + i ∨ a ∈ xs.getD i [] := ham.imp id fun hm => by rw [hpq]; exact List.mem_append_left _ hm
  have hbm2 : b = n + i ∨ b ∈ xs.getD i [] := hbm.symm.imp id fun hm => by rw [hpq]; exact List.mem_append_right _ (List.mem_cons_of_mem _ hm)
  refine ⟨⟨fun j hj => ?_, fun j => ?_, fun j y hy => ?_, fun j y hy => ?_, fun y hy hC => ?_, fun j hj => ?_⟩, hbig a ham2, hbig b hbm2⟩
  · rw [outX_len] at hj
    by_cases hji : j = i
    · subst hji
      rw [hout, e2]
      refine ch_join (ch_left hch) (hr.tl.tl) ?_ (List.nodup_cons.1 hndt).1 ?_ ?_
      · intro hm
        exact (List.nodup_append.1 hnds).2.2 a hm a (by simp) rfl
      · rw [← hsu]
        show b ∉ p
        intro hm
        rcases hbm with h1 | rfl
        · exact hdisj _ hm h1
        · exact hep hm
      · rw [← hvt, List.dropLast_concat]
        intro hm
        rcases ham with rfl | h1
        · exact heq hm
        · exact hdisj _ h1 hm
    · rw [hfar j hji]
      refine ch_far (h.ch j hj) ?_ ?_
      · rw [cir_tail]
        intro hm
        rcases List.mem_append.1 hm with h1 | h1
        · rcases hbm2 with rfl | h2
          · have := h.lt _ _ h1; omega
          · exact hji (h.apart h1 h2)
        · simp at h1
          rcases hbm2 with rfl | h2
          · omega
          · have := h.lt _ _ h2; omega
      · rw [cir_drop]
        intro hm
        rcases List.mem_cons.1 hm with h1 | h1
        · rcases ham2 with rfl | h2
          · omega
          · have := h.lt _ _ h2; omega
        · rcases ham2 with rfl | h2
          · have := h.lt _ _ h1; omega
          · exact hji (h.apart h1 h2)
  · rw [outX_getD]
    exact (h.nd j).filter _
  · rw [outX_getD] at hy
    exact h.lt _ _ (List.mem_filter.1 hy).1
  · rw [outX_getD] at hy
    obtain ⟨h1, h2⟩ := List.mem_filter.1 hy
    rw [updN_far _ _ (by simpa using h2)]
    exact h.c1 _ _ h1
  · rw [outX_len]
    by_cases hyx : y = x
    · subst hyx
      exact absurd (updN_same _ _ _) hC
    · rw [updN_far _ _ hyx] at hC ⊢
      obtain ⟨h1, h2⟩ := h.c0 y hy hC
      refine ⟨h1, ?_⟩
      rw [outX_getD]
      exact List.mem_filter.2 ⟨h2, by simpa using hyx⟩
  · rw [outX_len] at hj
    by_cases hji : j = i
    · subst hji
      rw [hout, updN_same, h.ln j hi, hpq]
      simp
    · rw [hfar j hji, updN_far _ _ hji]
      exact h.ln j hj
end

/-! What is told. -/
def hasL (xs : List (List Nat)) (i : Int) : Prop := 0 ≤ i ∧ i < xs.length
def hasN (n : Nat) (x : Int) : Prop := 0 ≤ x ∧ x < n
instance (xs : List (List Nat)) (i : Int) : Decidable (hasL xs i) := inferInstanceAs (Decidable (_ ∧ _))
instance (n : Nat) (x : Int) : Decidable (hasN n x) := inferInstanceAs (Decidable (_ ∧ _))
def pushE (n : Nat) (xs : List (List Nat)) (i x : Int) : Int := if ¬ hasL xs i ∨ ¬ hasN n x then 2 else if whX xs x.toNat ≠ 0 then 5 else 0
def pushX (n : Nat) (xs : List (List Nat)) (i x : Int) : List (List Nat) := if pushE n xs i x = 0 then putX (outX xs x.toNat) i.toNat x.toNat else xs
def outE (n : Nat) (xs : List (List Nat)) (x : Int) : Int := if ¬ hasN n x then 2 else if whX xs x.toNat = 0 then 4 else 0
def touchX (n : Nat) (xs : List (List Nat)) (x : Int) : List (List Nat) := if outE n xs x = 0 then putX (outX xs x.toNat) (whX xs x.toNat - 1) x.toNat else xs
def remX (n : Nat) (xs : List (List Nat)) (x : Int) : List (List Nat) := if outE n xs x = 0 then outX xs x.toNat else xs
def whV (n : Nat) (xs : List (List Nat)) (x : Int) : Int := if outE n xs x = 0 then (whX xs x.toNat : Int) - 1 else 0
def someE (xs : List (List Nat)) (i : Int) : Int := if ¬ hasL xs i then 2 else if xs.getD i.toNat [] = [] then 4 else 0
def oldV (xs : List (List Nat)) (i : Int) : Int := if someE xs i = 0 then ((xs.getD i.toNat []).getLastD 0 : Nat) else 0
def newV (xs : List (List Nat)) (i : Int) : Int := if someE xs i = 0 then ((xs.getD i.toNat []).headD 0 : Nat) else 0
def ofX (xs : List (List Nat)) (i : Int) : List Nat := if hasL xs i then xs.getD i.toNat [] else []
theorem pushX_len (n : Nat) (xs : List (List Nat)) (i x : Int) : (pushX n xs i x).length = xs.length := by unfold pushX; split <;> simp [putX_len, outX_len]
theorem touchX_len (n : Nat) (xs : List (List Nat)) (x : Int) : (touchX n xs x).length = xs.length := by unfold touchX; split <;> simp [putX_len, outX_len]
theorem remX_len (n : Nat) (xs : List (List Nat)) (x : Int) : (remX n xs x).length = xs.length := by unfold remX; split <;> simp [outX_len]
end Go.Proofs.YtjhggcdoahnmkaaDoor

/- Package octet: what clone, put and a Reader's calls answer, and what becomes of memory. -/
namespace Go.Proofs.YtjhggcdoahnmkaaDoor
open Go.RowKit
set_option linter.unusedVariables false

theorem info_u8 : (Tryd.prog.info? 5).map (fun i => (i.zero, i.size, i.bytes)) = some (some (.int .u8 0), 1, 1) := by kernel_rfl
theorem size_u8 : (Tryd.prog.info? 5).map (·.size) = some 1 := by kernel_rfl

/-- A block of bytes. -/
abbrev ArrU (w : World) (g : Nat) (xs : List Int) : Prop := Arr (Value.int .u8) w g 5 xs

theorem one_u8 (xs : List Int) : ∀ v ∈ xs.map (Value.int .u8), v.oneCell' = true := by
  intro v hv
  obtain ⟨x, _, rfl⟩ := List.mem_map.1 hv
  rfl

theorem splice_all {α : Type} (L cs : List α) (h : L.length = cs.length) : splice L 0 cs = cs := by
  unfold splice
  rw [List.drop_eq_nil_of_le (by omega)]
  simp

theorem quiet_draw {P : Program} {f : FuncId} {args : Array Value} {w : World} {n : Nat} {v : Value}
    (h : Calls P f args (w.drewN n) fun e w' => e = .returned v ∧ ∃ k, (w.drewN n).drewN k = w') : Calls P f args (w.drewN n) fun e w'' => e = .returned v ∧ ∃ m, w'' = w.drewN m :=
  h.mono fun _ _ ⟨he, k, hm⟩ => ⟨he, n + k, by rw [← hm, World.drewN_drewN]⟩

/-- The source of a copy, as the law asks it. -/
theorem row_src {w : World} {S : Nat → Prop} {A : Option Addr} {n : Nat} {xs : List Int} (h : RowI .u8 w S A n xs) (hn : 0 < n) :
    ∃ ad, A = some ad ∧ ∀ j v, (xs.map (Value.int .u8))[j]? = some v → w.cell? (ad.add j) = some v := by
  obtain ⟨b, off, e, _, hc⟩ := h.2 hn
  refine ⟨_, e, fun j v hv => ?_⟩
  have hl := h.1
  have hj : j < xs.length := by
    rcases Nat.lt_or_ge j xs.length with h | h
    · exact h
    · rw [List.getElem?_eq_none (by simpa using h)] at hv; cases hv
  rw [add_plain, hc j (by omega)]
  simpa [List.getD, List.getElem?_eq_getElem hj] using hv

end Go.Proofs.YtjhggcdoahnmkaaDoor

/- Items: their bytes cloned; what they are charged for; which may be. -/
namespace Go.Proofs.YtjhggcdoahnmkaaDoor
open Go.RowKit
attribute [local go_sem] Oper.semAt_some
set_option linter.unusedVariables false
set_option linter.unusedSimpArgs false
set_option maxRecDepth 100000

def CloneT (A : Option Addr) (n : Nat) (xs : List Int) (w : World) (e : Ending) (w' : World) : Prop :=
  ∃ A' c', e = .returned (.slice A' n c') ∧ (A' = none → c' = 0) ∧ n ≤ c' ∧ RowI .u8 w' (fun b => w.heap.size ≤ b ∧ b < w'.heap.size) A' n xs ∧ Below w.heap.size w w'


theorem eql_nil_u8 (A : Option Addr) (n c : Nat) (w : World) : (binOp .eql 36 (.slice A n c) (.slice none 0 0)).run Tryd.prog w = .ok (.bool A.isNone) w := by
  have h := run_equal_slice_nil (P := Tryd.prog) w 36 5 A n c Tryd.underlying36
  simp [go_sem, binOp, h]
theorem clone_b (A : Option Addr) (n c : Nat) (xs : List Int) (S : Nat → Prop) (w : World) (hx : RowI .u8 w S A n xs) (hS : ∀ b, S b → b < w.heap.size) (hnil : A = none → c = 0) (hn : n ≤ 140737488351232) :
    Calls Tryd.prog 62 #[.slice A n c] w (CloneT A n xs w) := by
  obtain ⟨i0, hi, hz0, hz1, hz2⟩ := info_parts info_u8
  have heq := eql_nil_u8
  rcases A with _ | ad
  · have h0 : n = 0 := by
      rcases Nat.eq_zero_or_pos n with h0 | h0
      · exact h0
      · obtain ⟨_, _, h1, _⟩ := hx.2 h0
        cases h1
    subst h0
    have hc := hnil rfl
    subst hc
    have hx0 : xs = [] := List.eq_nil_of_length_eq_zero hx.1
    subst hx0
    go_enter Tryd.func62, Tryd.ntmps62
    go_wp2
    (first | go_ret | go_ret2)
    exact ⟨none, 0, rfl, fun _ => rfl, Nat.le_refl _, RowG.nil _ _ _ _ _, Below.refl _ _⟩
  · have HX := Lib.hid hx
    have HS := Lib.hid hS
    clear hx hS hnil
    have hown0 := Lib.hid (own_empty w 5)
    have HX1 := Lib.hid (HX.out.keep (w' := w.alloc (.cells #[] 5)) fun p hp => World.cell?_alloc_lt w _ p (HS.out _ hp))
    have HB := Lib.hid ((Below.refl w.heap.size w).alloc (Nat.le_refl _) (.cells #[] 5))
    go_enter Tryd.func62, Tryd.ntmps62
    go_wp2_with (at_builtin; refine wpList_append_rowG (mk := Value.int .u8) (d := 0) rfl (.tmp 5) (.tmp 6) 36 rfl w.heap.size 5 i0 (.int .u8 0) 1 Tryd.underlying36 hi hz0 hz1 hz2 rfl (fun _ => rfl) _ 0 [] rfl hown0.out S (some ad) n c xs rfl HX1.out (fun h => by cases h) (by unfold maxLen; omega) (by omega) (by simp) ?_; intro v' w5 hown' hgrow' hf'; have HO5 := Lib.hid hown'; have HG5 := Lib.hid hgrow'; have HF5 := Lib.hid hf'; clear hown' hgrow' hf')
    (first | go_ret | go_ret2)
    have ho := HO5.out
    rw [List.nil_append, Nat.zero_add] at ho
    obtain ⟨A1, c1, rfl, hc1, hn1, hr1⟩ := rowG_own 0 ho
    exact ⟨A1, c1, rfl, hn1, hc1, hr1.more (fun b h => ⟨h.1, h.2.1⟩), HB.out.grown HG5.out (by simp) (fun g h => by have h' : w.heap.size = g := (by injection h); omega)⟩
/-- An item. -/
structure It where
  key : List Int
  val : List Int
  fl : Int
  ex : Int
  sq : Int
  dy : Bool
abbrev itC (A : Option Addr) (n c : Nat) (B : Option Addr) (m d : Nat) (fl ex sq : Int) (dy : Bool) : List Value := [.slice A n c, .slice B m d, .int .u32 fl, .int .u32 ex, .int .u64 sq, .bool dy]
abbrev itV (A : Option Addr) (n c : Nat) (B : Option Addr) (m d : Nat) (fl ex sq : Int) (dy : Bool) : Value := .agg (itC A n c B m d fl ex sq dy).toArray
theorem size_item : (Tryd.prog.info? 40).map (·.size) = some 6 := by kernel_rfl
theorem one_item (A : Option Addr) (n c : Nat) (B : Option Addr) (m d : Nat) (fl ex sq : Int) (dy : Bool) : (itC A n c B m d fl ex sq dy).toArray.all (·.oneCell') = true := by simp [Value.oneCell']
/-- An item whose lists lie in new memory. -/
def CopT (n m : Nat) (fl ex sq : Int) (dy : Bool) (xs ys : List Int) (w : World) (e : Ending) (w' : World) : Prop :=
  ∃ A1 c1 A2 c2, e = .returned (itV A1 n c1 A2 m c2 fl ex sq dy) ∧ ((A1 = none → c1 = 0) ∧ (A2 = none → c2 = 0) ∧ n ≤ c1 ∧ m ≤ c2) ∧
    RowI .u8 w' (fun b => w.heap.size ≤ b ∧ b < w'.heap.size) A1 n xs ∧ RowI .u8 w' (fun b => w.heap.size ≤ b ∧ b < w'.heap.size) A2 m ys ∧ Below w.heap.size w w'
abbrev cp0 : Oper := { dst := some 3, op := Go.Op.fieldAddr 40 (Go.Operand.tmp 1) 0, type := 0, pos := "ram.go:163", after := #[], guard := none }
abbrev cp1 : Oper := { dst := some 4, op := Go.Op.load 36 (Go.Operand.tmp 3), type := 36, pos := "ram.go:163", after := #[{ on := 0, ground := Go.Ground.data }], guard := none }
abbrev cp2 : Oper := { dst := some 5, op := Go.Op.call { callee := Go.Callee.value (Go.Operand.func 62), args := #[Go.Operand.tmp 4], argTypes := #[36] }, type := 36, pos := "ram.go:163", after := #[{ on := 1, ground := Go.Ground.data }], guard := none }
abbrev cp3 : Oper := { dst := some 6, op := Go.Op.fieldAddr 40 (Go.Operand.tmp 1) 1, type := 0, pos := "ram.go:163", after := #[], guard := none }
abbrev cp4 : Oper := { dst := some 7, op := Go.Op.load 36 (Go.Operand.tmp 6), type := 36, pos := "ram.go:163", after := #[{ on := 3, ground := Go.Ground.data }], guard := none }
abbrev cp5 : Oper := { dst := some 8, op := Go.Op.call { callee := Go.Callee.value (Go.Operand.func 62), args := #[Go.Operand.tmp 7], argTypes := #[36] }, type := 36, pos := "ram.go:163", after := #[{ on := 4, ground := Go.Ground.data }, { on := 2, ground := Go.Ground.chain }], guard := none }
abbrev cp6 : Oper := { dst := some 9, op := Go.Op.fieldAddr 40 (Go.Operand.tmp 1) 0, type := 0, pos := "ram.go:163", after := #[{ on := 0, ground := Go.Ground.phase }, { on := 1, ground := Go.Ground.phase }, { on := 2, ground := Go.Ground.phase }, { on := 3, ground := Go.Ground.phase }, { on := 4, ground := Go.Ground.phase }, { on := 5, ground := Go.Ground.textOnly Go.Departure.lateStoresUnsure }], guard := none }
abbrev cp7 : Oper := { dst := none, op := Go.Op.store 36 (Go.Operand.tmp 9) (Go.Operand.tmp 5), type := 0, pos := "ram.go:163", after := #[{ on := 6, ground := Go.Ground.data }, { on := 2, ground := Go.Ground.data }, { on := 5, ground := Go.Ground.chain }, { on := 0, ground := Go.Ground.phase }, { on := 1, ground := Go.Ground.phase }, { on := 2, ground := Go.Ground.phase }, { on := 3, ground := Go.Ground.phase }, { on := 4, ground := Go.Ground.phase }, { on := 5, ground := Go.Ground.textOnly Go.Departure.lateStoresUnsure }], guard := none }
abbrev cp8 : Oper := { dst := some 10, op := Go.Op.fieldAddr 40 (Go.Operand.tmp 1) 1, type := 0, pos := "ram.go:163", after := #[{ on := 0, ground := Go.Ground.phase }, { on := 1, ground := Go.Ground.phase }, { on := 2, ground := Go.Ground.phase }, { on := 3, ground := Go.Ground.phase }, { on := 4, ground := Go.Ground.phase }, { on := 5, ground := Go.Ground.phase }, { on := 6, ground := Go.Ground.phase }, { on := 7, ground := Go.Ground.phase }], guard := none }
abbrev cp9 : Oper := { dst := none, op := Go.Op.store 36 (Go.Operand.tmp 10) (Go.Operand.tmp 8), type := 0, pos := "ram.go:163", after := #[{ on := 8, ground := Go.Ground.data }, { on := 5, ground := Go.Ground.data }, { on := 7, ground := Go.Ground.chain }, { on := 0, ground := Go.Ground.phase }, { on := 1, ground := Go.Ground.phase }, { on := 2, ground := Go.Ground.phase }, { on := 3, ground := Go.Ground.phase }, { on := 4, ground := Go.Ground.phase }, { on := 5, ground := Go.Ground.phase }, { on := 6, ground := Go.Ground.phase }, { on := 7, ground := Go.Ground.phase }], guard := none }
set_option maxHeartbeats 4000000 in
theorem copied_it (A : Option Addr) (n c : Nat) (B : Option Addr) (m d : Nat) (fl ex sq : Int) (dy : Bool) (xs ys : List Int) (w : World) (hx : RowI .u8 w (fun b => b < w.heap.size) A n xs) (hy : RowI .u8 w (fun b => b < w.heap.size) B m ys)
    (hnA : A = none → c = 0) (hnB : B = none → d = 0) (hn : n ≤ 140737488351232) (hm : m ≤ 140737488351232) :
    Calls Tryd.prog 40 #[itV A n c B m d fl ex sq dy] w (CopT n m fl ex sq dy xs ys w) := by
  obtain ⟨w1, hw1⟩ : ∃ w1, w1 = (w.alloc (.cells (itC A n c B m d fl ex sq dy).toArray 40)).alloc (.cells (itC none 0 0 none 0 0 0 0 0 false).toArray 40) := ⟨_, rfl⟩
  have HB1 := Lib.hid (show Blk w1 w.heap.size 40 (itC A n c B m d fl ex sq dy).toArray by rw [hw1]; exact (Blk.new w _ _).alloc _)
  have HR1 := Lib.hid (show Blk w1 (w.heap.size + 1) 40 (itC none 0 0 none 0 0 0 0 0 false).toArray by rw [hw1]; exact blk_new2 w _ _ _)
  have HW1 := Lib.hid (show w.heap.size + 2 ≤ w1.heap.size by rw [hw1]; simp)
  have HBL1 := Lib.hid (show Below w.heap.size w w1 by rw [hw1]; exact ((Below.refl _ _).alloc (Nat.le_refl _) _).alloc (by simp) _)
  have HX := Lib.hid (hx.below HBL1.out (fun b h => h))
  have HY := Lib.hid (hy.below HBL1.out (fun b h => h))
  have HC0 := Lib.hid (show w1.cell? ⟨w.heap.size, 0, none⟩ = some (.slice A n c) from HB1.out.cell 0)
  have HC1 := Lib.hid (show w1.cell? ⟨w.heap.size, 1, none⟩ = some (.slice B m d) from HB1.out.cell 1)
  have HE := Lib.hid (show ∀ (u : World), Below w1.heap.size w1 u → Calls Tryd.prog 62 #[.slice A n c] u (CloneT A n xs u) from fun u hu => clone_b A n c xs _ u (HX.out.below hu (fun b h => Nat.lt_of_lt_of_le h (by have := HW1.out; omega))) (fun b h => by have := hu.size; have := HW1.out; omega) hnA hn)
  have HF := Lib.hid (show ∀ (u : World), Below w1.heap.size w1 u → Calls Tryd.prog 62 #[.slice B m d] u (CloneT B m ys u) from fun u hu => clone_b B m d ys _ u (HY.out.below hu (fun b h => Nat.lt_of_lt_of_le h (by have := HW1.out; omega))) (fun b h => by have := hu.size; have := HW1.out; omega) hnB hm)
  have HW0 := Lib.hid hw1
  clear hx hy hw1 hnA hnB hn hm
  go_enter Tryd.func40, Tryd.ntmps40
  go_upto_region 1 with fail
  rw [← HW0.out]
  go_cut [2] (fun t wx => t = .pointer (some ⟨w.heap.size + 1, 0, none⟩) ∧ ∃ A1 c1 A2 c2, Blk wx w.heap.size 40 (itC A1 n c1 A2 m c2 fl ex sq dy).toArray ∧ Blk wx (w.heap.size + 1) 40 (itC none 0 0 none 0 0 0 0 0 false).toArray ∧
    ((A1 = none → c1 = 0) ∧ (A2 = none → c2 = 0) ∧ n ≤ c1 ∧ m ≤ c2) ∧ RowI .u8 wx (fun b => w1.heap.size ≤ b ∧ b < wx.heap.size) A1 n xs ∧ RowI .u8 wx (fun b => w1.heap.size ≤ b ∧ b < wx.heap.size) A2 m ys ∧ Below w.heap.size w wx)
  case first =>
    refine wp_region_noPanic ?_
    refine Tillst.region (fun W => W.cell? ⟨w.heap.size, 0, none⟩ = some (.slice A n c) ∧ W.cell? ⟨w.heap.size, 1, none⟩ = some (.slice B m d)) [7, 8, 9] (by kernel_rfl) ⟨HC0.out, HC1.out⟩ (fun hHeld => ?_)
    have HBW := Lib.hid ((Below.refl w1.heap.size w1).drew)
    generalize w1.drew = vd at *
    have HKC := Lib.hid (show ∀ W, Below w1.heap.size w1 W → W.cell? ⟨w.heap.size, 0, none⟩ = some (.slice A n c) ∧ W.cell? ⟨w.heap.size, 1, none⟩ = some (.slice B m d) from fun W h => ⟨(h.cell (show w.heap.size < w1.heap.size by have := HW1.out; omega)).trans HC0.out, (h.cell (show w.heap.size < w1.heap.size by have := HW1.out; omega)).trans HC1.out⟩)
    refine Tillst.take (i := 0) (oi := cp0) (v := ?_) rfl (by kernel_rfl) (by kernel_rfl) (by kernel_rfl) (by kernel_rfl) (fun _ _ _ h => h) (by rfl) ?_ hHeld ?_
    rotate_left
    · intro W hSW; obtain ⟨hS4, hS5⟩ := hSW; go_simp; with_reducible rfl
    simp only [cp0, Act.put, List.setIfInBounds_toArray, List.set_cons_zero, List.set_cons_succ]
    refine Tillst.take (i := 1) (oi := cp1) (v := ?_) rfl (by kernel_rfl) (by kernel_rfl) (by kernel_rfl) (by kernel_rfl) (fun _ _ _ h => h) (by rfl) ?_ hHeld ?_
    rotate_left
    · intro W hSW; obtain ⟨hS4, hS5⟩ := hSW; go_simp; with_reducible rfl
    simp only [cp1, Act.put, List.setIfInBounds_toArray, List.set_cons_zero, List.set_cons_succ]
    refine Tillst.take (i := 3) (oi := cp3) (v := ?_) rfl (by kernel_rfl) (by kernel_rfl) (by kernel_rfl) (by kernel_rfl) (fun _ _ _ h => h) (by rfl) ?_ hHeld ?_
    rotate_left
    · intro W hSW; obtain ⟨hS4, hS5⟩ := hSW; go_simp; with_reducible rfl
    simp only [cp3, Act.put, List.setIfInBounds_toArray, List.set_cons_zero, List.set_cons_succ]
    refine Tillst.take (i := 4) (oi := cp4) (v := ?_) rfl (by kernel_rfl) (by kernel_rfl) (by kernel_rfl) (by kernel_rfl) (fun _ _ _ h => h) (by rfl) ?_ hHeld ?_
    rotate_left
    · intro W hSW; obtain ⟨hS4, hS5⟩ := hSW; go_simp; with_reducible rfl
    simp only [cp4, Act.put, List.setIfInBounds_toArray, List.set_cons_zero, List.set_cons_succ]
    refine Tillst.one (i := 2) (o := cp2) (by kernel_rfl) rfl ?_
    intro K hK
    refine step_call 62 #[.tmp 4] #[36] rfl rfl Tryd.func62 rfl rfl [.slice A n c] rfl ((HE.out _ HBW.out).mono ?_)
    rintro e va ⟨A1, c1, rfl, hA1, hc1, hr1, hb1⟩
    refine ⟨_, rfl, ?_⟩
    have HVD := Lib.hid HBW.out.size
    have HBW := Lib.hid (HBW.out.trans (hb1.mono HBW.out.size))
    have HR2 := Lib.hid (hr1.more (fun b h => (⟨Nat.le_trans HVD.out h.1, h.2⟩ : w1.heap.size ≤ b ∧ b < va.heap.size)))
    have HN1 := Lib.hid (And.intro hA1 hc1)
    clear hA1 hc1 hr1 hb1
    simp only [cp2, Act.put, List.setIfInBounds_toArray, List.set_cons_zero, List.set_cons_succ]
    refine hK.out _ _ (fun _ => HKC.out _ HBW.out) (fun hHeld => ?_)
    replace hHeld := hHeld (by decide)
    clear hK K
    refine Tillst.take (i := 6) (oi := cp6) (v := ?_) rfl (by kernel_rfl) (by kernel_rfl) (by kernel_rfl) (by kernel_rfl) (fun _ _ _ h => h) (by rfl) ?_ hHeld ?_
    rotate_left
    · intro W hSW; obtain ⟨hS4, hS5⟩ := hSW; go_simp; with_reducible rfl
    simp only [cp6, Act.put, List.setIfInBounds_toArray, List.set_cons_zero, List.set_cons_succ]
    refine Tillst.one (i := 5) (o := cp5) (by kernel_rfl) rfl ?_
    intro K hK
    refine step_call 62 #[.tmp 7] #[36] rfl rfl Tryd.func62 rfl rfl [.slice B m d] rfl ((HF.out _ HBW.out).mono ?_)
    rintro e vb ⟨A2, c2, rfl, hA2, hc2, hr2, hb2⟩
    refine ⟨_, rfl, ?_⟩
    have HR2 := Lib.hid ((HR2.out.below hb2 (fun b h => h.2)).more (fun b h => (⟨h.1, Nat.lt_of_lt_of_le h.2 hb2.size⟩ : w1.heap.size ≤ b ∧ b < vb.heap.size)))
    have HZV := Lib.hid (show va.heap.size ≤ vb.heap.size from hb2.size)
    have HR3 := Lib.hid (hr2.more (fun b h => (⟨by have := HBW.out.size; omega, h.2⟩ : w1.heap.size ≤ b ∧ b < vb.heap.size)))
    have HBW := Lib.hid (HBW.out.trans (hb2.mono HBW.out.size))
    have HN2 := Lib.hid (And.intro hA2 hc2)
    clear hA2 hc2 hr2 hb2
    simp only [cp5, Act.put, List.setIfInBounds_toArray, List.set_cons_zero, List.set_cons_succ]
    refine hK.out _ _ (fun _ => HKC.out _ HBW.out) (fun hHeld => ?_)
    replace hHeld := hHeld (by decide)
    clear hK K
    have hrc := HB1.out.below HBW.out (show w.heap.size < w1.heap.size by have := HW1.out; omega)
    have q0 := hrc.cell 0
    have q1 := hrc.frozen 0
    simp only [List.getElem?_toArray, List.getElem?_cons_zero, List.getElem?_cons_succ] at q0
    refine Tillst.one (i := 7) (o := cp7) (by kernel_rfl) rfl ?_
    intro K hK
    go_simp
    clear q0 q1
    refine hK.out _ _ (fun h => by cases h) (fun _ => ?_)
    clear hK K
    refine Tillst.one (i := 8) (o := cp8) (by kernel_rfl) rfl ?_
    intro K hK
    go_simp
    refine hK.out _ _ (fun h => by cases h) (fun _ => ?_)
    clear hK K
    have hrc2 := hrc.set_ 0 (.slice A1 n c1)
    have q0 := hrc2.cell 1
    have q1 := hrc2.frozen 1
    have q0 : (vb.setCell ⟨w.heap.size, 0, none⟩ (.slice A1 n c1)).cell? ⟨w.heap.size, 1, none⟩ = some (.slice B m d) := q0
    refine Tillst.one (i := 9) (o := cp9) (by kernel_rfl) rfl ?_
    intro K hK
    go_simp
    clear q0 q1
    refine hK.out _ _ (fun h => by cases h) (fun _ => ?_)
    clear hK K
    refine Tillst.done (by kernel_rfl) ?_ _
    refine NoPanic.normal ?_
    go_wp2_with fail
    go_meet
    have hfar : ∀ p : Addr, p.block ≠ w.heap.size → ((vb.setCell ⟨w.heap.size, 0, none⟩ (.slice A1 n c1)).setCell ⟨w.heap.size, 1, none⟩ (.slice A2 m c2)).cell? p = vb.cell? p := fun p hp => (World.cell?_setCell_other _ _ _ _ (by rintro rfl; exact hp rfl)).trans (World.cell?_setCell_other _ _ _ _ (by rintro rfl; exact hp rfl))
    exact ⟨rfl, A1, c1, A2, c2, hrc2.set_ 1 _, (((HR1.out.below HBW.out (by have := HW1.out; omega)).far (by show w.heap.size + 1 ≠ w.heap.size; omega) _).far (by show w.heap.size + 1 ≠ w.heap.size; omega) _), ⟨HN1.out.1, HN2.out.1, HN1.out.2, HN2.out.2⟩,
      (HR2.out.keep (fun p hp => hfar p (by have := hp.1; have := HW1.out; omega))).more (fun b hb => ⟨hb.1, by simpa using hb.2⟩), (HR3.out.keep (fun p hp => hfar p (by have := hp.1; have := HW1.out; omega))).more (fun b hb => ⟨hb.1, by simpa using hb.2⟩), ((HBL1.out.trans (HBW.out.mono (by have := HW1.out; omega))).setCell (Nat.le_refl _) _).setCell (Nat.le_refl _) _⟩
  case rest =>
    obtain ⟨rfl, A1, c1, A2, c2, hrc, hrs, hn, hr1, hr2, hbl⟩ := hcut
    have HRC2 := Lib.hid hrc
    have HRS2 := Lib.hid hrs
    have HR1 := Lib.hid hr1
    have HR2 := Lib.hid hr2
    have HN := Lib.hid hn
    have HBL := Lib.hid hbl
    clear hrc hrs hr1 hr2 hn hbl
    go_wp2_with (first
      | (refine wpList_load_rowB (.tmp 1) 40 rfl rfl w.heap.size rfl 40 (itC A1 n c1 A2 m c2 fl ex sq dy) _ Tryd.underlying40 rfl size_item HRC2.out ?_)
      | (refine wpList_store_rowB (.tmp 2) (.tmp 11) 40 rfl rfl (w.heap.size + 1) (itC A1 n c1 A2 m c2 fl ex sq dy).toArray rfl rfl 40 _ HRS2.out size_item rfl (one_item _ _ _ _ _ _ _ _ _ _) ?_)
      | (with_reducible refine halt_end ?_))
    have hst := setRow_heap _ _ _ (itC A1 n c1 A2 m c2 fl ex sq dy).toArray _ _ HRS2.out
    refine Halt.ret (results_row1 rfl _ _ (w.heap.size + 1) 40 (itC A1 n c1 A2 m c2 fl ex sq dy).toArray _ rfl hst Tryd.underlying40 rfl size_item) rfl ⟨A1, c1, A2, c2, rfl, HN.out, ?_, ?_, below_setRow HBL.out (by omega) _⟩
    · exact (HR1.out.keep (fun p hp => World.cell?_of_block (setRow_other _ _ _ _ (by have := hp.1; have := HW1.out; omega)))).more (fun b hb => ⟨by have := hb.1; have := HW1.out; omega, by have := hb.2; simpa [World.setRow] using this⟩)
    · exact (HR2.out.keep (fun p hp => World.cell?_of_block (setRow_other _ _ _ _ (by have := hp.1; have := HW1.out; omega)))).more (fun b hb => ⟨by have := hb.1; have := HW1.out; omega, by have := hb.2; simpa [World.setRow] using this⟩)
end Go.Proofs.YtjhggcdoahnmkaaDoor

/- What an item is charged for; which items may be; keys as strings. -/
namespace Go.Proofs.YtjhggcdoahnmkaaDoor
open Go.RowKit Go.ChangeMaps
attribute [local go_sem] Oper.semAt_some
set_option linter.unusedVariables false
set_option linter.unusedSimpArgs false
set_option maxRecDepth 100000
section
variable (A : Option Addr) (n c : Nat) (B : Option Addr) (m d : Nat) (fl ex sq : Int) (dy : Bool) (w : World)
theorem charge_it (hn : n ≤ 140737488351232) (hm : m ≤ 140737488351232) : Calls Tryd.prog 38 #[itV A n c B m d fl ex sq dy] w fun e w' => e = .returned (.int .i64 ((24 + n + m : Nat) : Int)) ∧ Below w.heap.size w w' := by
  have HB := Lib.hid ((Below.refl w.heap.size w).alloc (Nat.le_refl _) (.cells (itC A n c B m d fl ex sq dy).toArray 40))
  have h1 : wrap64 (24 + (n : Int)) = 24 + n := IntWalk.wrap64_in _ (by omega)
  have h2 : wrap64 (24 + (n : Int) + m) = 24 + n + m := IntWalk.wrap64_in _ (by omega)
  go_enter Tryd.func38, Tryd.ntmps38
  go_wp2
  (first | go_ret | go_ret2)
  exact ⟨rfl, HB.out⟩
def mayB (n m : Nat) (sq : Int) : Bool := decide (0 < n) && decide (n ≤ 250) && decide (m ≤ 512) && decide (0 < sq)
theorem mayBe_it : Calls Tryd.prog 34 #[itV A n c B m d fl ex sq dy] w fun e w' => e = .returned (.bool (mayB n m sq)) ∧ Below w.heap.size w w' := by
  have HB := Lib.hid ((Below.refl w.heap.size w).alloc (Nat.le_refl _) (.cells (itC A n c B m d fl ex sq dy).toArray 40))
  unfold mayB
  by_cases h1 : 0 < n
  case neg =>
    have e1 : n = 0 := by omega
    subst e1
    clear h1
    go_enter Tryd.func34, Tryd.ntmps34
    go_wp2
    (first | go_ret | go_ret2)
    exact ⟨rfl, HB.out⟩
  by_cases h2 : n ≤ 250
  case neg =>
    go_enter Tryd.func34, Tryd.ntmps34
    go_wp2
    (first | go_ret | go_ret2)
    exact ⟨by simp [h1, h2], HB.out⟩
  by_cases h3 : m ≤ 512
  case neg =>
    go_enter Tryd.func34, Tryd.ntmps34
    go_wp2
    (first | go_ret | go_ret2)
    exact ⟨by simp [h1, h2, h3], HB.out⟩
  go_enter Tryd.func34, Tryd.ntmps34
  go_wp2
  (first | go_ret | go_ret2)
  exact ⟨by simp [h1, h2, h3], HB.out⟩
end
/-- A key as a string, and as the map's. -/
abbrev keyS (xs : List Int) : ByteArray := strOfNums xs
def keyK (xs : List Int) : Lit := .string (keyS xs).data.toList
theorem keyK_inj {xs ys : List Int} (hx : Bytes xs) (hy : Bytes ys) (h : keyK xs = keyK ys) : xs = ys := by
  unfold keyK keyS at h
  rw [strOfNums_data, strOfNums_data] at h
  injection h with h
  have hl : xs.length = ys.length := by simpa using congrArg List.length h
  refine List.ext_getElem hl fun i h1 h2 => ?_
  have e := congrArg (fun l => l[i]?) h
  simp only [List.getElem?_map, List.getElem?_eq_getElem h1, List.getElem?_eq_getElem h2, Option.map_some, Option.some.injEq] at e
  have bx := hx i
  have by_ := hy i
  simp only [List.getD, List.getElem?_eq_getElem h1, List.getElem?_eq_getElem h2, Option.getD_some] at bx by_
  have e2 := congrArg UInt8.toNat e
  simp only [UInt8.toNat_ofNat'] at e2
  omega
theorem keyK_key (xs : List Int) : WideAt.IsKeyLit (keyK xs) := trivial
theorem keyS_size (xs : List Int) : (keyS xs).size = xs.length := by
  have := congrArg List.length (strOfNums_data xs)
  simpa using this
theorem keyOf_key {xs : List Int} (h : xs.length ≤ 140737488351232) : keyOf Tryd.prog 9 (.string (keyS xs)) = some (keyK xs) :=
  WideMaps.keyOf_string_mk Tryd.underlying9 (by rw [keyS_size]; unfold maxLen; omega)
theorem RowG.inHeap {α : Type} {mk : α → Value} {d : α} {S : Nat → Prop} {w : World} {A : Option Addr} {n : Nat} {xs : List α} (h : RowG mk d w S A n xs) : RowG mk d w (fun b => S b ∧ b < w.heap.size) A n xs := by
  refine ⟨h.1, fun h0 => ?_⟩
  obtain ⟨b, off, e, hb, hc⟩ := h.2 h0
  refine ⟨b, off, e, ⟨hb, ?_⟩, hc⟩
  have h1 := hc 0 h0
  by_cases h2 : b < w.heap.size
  · exact h2
  · have : w.heap[b]? = none := by simp; omega
    simp [World.cell?, this] at h1
theorem keyS_nums (s : ByteArray) : keyS (nums s) = s := by
  have h : (keyS (nums s)).data.toList = s.data.toList := by
    rw [strOfNums_data]
    unfold nums
    rw [List.map_map]
    conv => rhs; rw [← List.map_id s.data.toList]
    refine List.map_congr_left fun x _ => ?_
    simp
  have h2 : (keyS (nums s)).data = s.data := Array.toList_inj.1 h
  cases s
  cases hk : keyS (nums _) with | mk d => rw [hk] at h2; simp at h2; rw [h2]
theorem conv_key {S : Nat → Prop} {A : Option Addr} {n : Nat} (c : Nat) {xs : List Int} (w : World) (hr : RowI .u8 w S A n xs) (hb : Bytes xs) : (convert 36 9 (.slice A n c)).run Tryd.prog w = .ok (.string (keyS xs)) w := by
  obtain ⟨s, h1, h2⟩ := conv_string (P := Tryd.prog) w 36 9 5 Tryd.underlying36 Tryd.underlying5 Tryd.underlying9 (B := w.heap.size) c (hr.inHeap.more (T := (· < w.heap.size)) (fun b hb => hb.2)) hb
  rw [h1, ← h2, keyS_nums]
end Go.Proofs.YtjhggcdoahnmkaaDoor

/- A map in memory as the list of what stands in it: each element is told as the value that it is. -/
namespace Go.Proofs.YtjhggcdoahnmkaaDoor
open Go.RowKit Go.Maps Go.WideShapes Go.ChangeMaps Go.MapKept
set_option linter.unusedVariables false
set_option linter.unusedSimpArgs false

noncomputable abbrev RH : Value → Option (DataW Value × List MemPlace) := fun v => some (.held v, [])
section
variable {α : Type} {kf : α → Lit} {vf : α → Value}
/-- D holds just these. -/
structure AgD (kf : α → Lit) (vf : α → Value) (D : DataW Value) (es : List α) : Prop where
  tidy : Tidy D
  has : ∀ k, has D k = true ↔ ∃ e, e ∈ es ∧ kf e = k
  at_ : ∀ e, e ∈ es → ∀ z, D.atKey (kf e) z = .held (vf e)
  nd : (es.map kf).Nodup
  size : size D = es.length
  key : ∀ e, e ∈ es → WideAt.IsKeyLit (kf e)
theorem AgD.start (kf : α → Lit) (vf : α → Value) : AgD kf vf (.map []) [] :=
  ⟨tidy_empty, fun k => by simp [Maps.has], (fun e he => by cases he), List.nodup_nil, rfl, (fun e he => by cases he)⟩
theorem AgD.perm {D : DataW Value} {es es' : List α} (h : AgD kf vf D es) (hp : es'.Perm es) : AgD kf vf D es' :=
  ⟨h.tidy, fun k => (h.has k).trans ⟨fun ⟨e, h1, h2⟩ => ⟨e, hp.mem_iff.2 h1, h2⟩, fun ⟨e, h1, h2⟩ => ⟨e, hp.mem_iff.1 h1, h2⟩⟩, fun e he => h.at_ e (hp.mem_iff.1 he), (hp.map kf).nodup_iff.2 h.nd, h.size.trans hp.length_eq.symm, fun e he => h.key e (hp.mem_iff.1 he)⟩
theorem AgD.hasNo {D : DataW Value} {es : List α} (h : AgD kf vf D es) {k : Lit} (hk : ∀ e, e ∈ es → kf e ≠ k) : Maps.has D k = false := by
  cases hh : Maps.has D k
  · rfl
  · obtain ⟨e, he, e2⟩ := (h.has k).1 hh
    exact absurd e2 (hk e he)
theorem AgD.hasYes {D : DataW Value} {es : List α} (h : AgD kf vf D es) {e : α} (he : e ∈ es) : Maps.has D (kf e) = true := (h.has _).2 ⟨e, he, rfl⟩
theorem AgD.put {D : DataW Value} {es : List α} (h : AgD kf vf D es) (e : α) (hk : WideAt.IsKeyLit (kf e)) (hno : ∀ x, x ∈ es → kf x ≠ kf e) : AgD kf vf (D.put (kf e) (.held (vf e))) (e :: es) := by
  refine ⟨h.tidy.put hk _, fun k => ?_, fun x hx z => ?_, ?_, ?_, fun x hx => ?_⟩
  · by_cases e1 : k = kf e
    · subst e1
      rw [has_put_same h.tidy.isMap hk]
      simp
    · rw [has_put_other e1, h.has]
      constructor
      · rintro ⟨x, h1, h2⟩
        exact ⟨x, List.mem_cons_of_mem _ h1, h2⟩
      · rintro ⟨x, h1, h2⟩
        rcases List.mem_cons.1 h1 with rfl | h1
        · exact absurd h2.symm e1
        · exact ⟨x, h1, h2⟩
  · rcases List.mem_cons.1 hx with rfl | hx
    · exact atKey_put_same h.tidy.isMap hk _ _
    · rw [atKey_put_other (hno x hx)]
      exact h.at_ x hx z
  · rw [List.map_cons, List.nodup_cons]
    refine ⟨fun hm => ?_, h.nd⟩
    obtain ⟨x, hx, ex⟩ := List.mem_map.1 hm
    exact hno x hx ex
  · rw [size_put h.tidy, h.hasNo hno, h.size]
    rfl
  · rcases List.mem_cons.1 hx with rfl | hx
    · exact hk
    · exact h.key x hx
theorem nodup_inj {β : Type} {f : α → β} : ∀ {l : List α}, (l.map f).Nodup → ∀ {x y : α}, x ∈ l → y ∈ l → f x = f y → x = y
  | [], _, _, _, h, _, _ => by cases h
  | z :: l, hn, x, y, hx, hy, he => by
    rw [List.map_cons, List.nodup_cons] at hn
    rcases List.mem_cons.1 hx with rfl | hx'
    · rcases List.mem_cons.1 hy with rfl | hy'
      · rfl
      · exact absurd (List.mem_map.2 ⟨y, hy', he.symm⟩) hn.1
    · rcases List.mem_cons.1 hy with rfl | hy'
      · exact absurd (List.mem_map.2 ⟨x, hx', he⟩) hn.1
      · exact nodup_inj hn.2 hx' hy' he
/-- What stands at a key that is there is laid anew. -/
theorem AgD.again {D : DataW Value} {es : List α} (h : AgD kf vf D es) {e : α} (he : e ∈ es) (v : Value) (g : α → α) (hg : ∀ x, kf (g x) = kf x) (h1 : vf (g e) = v) (h2 : ∀ x, x ∈ es → kf x ≠ kf e → vf (g x) = vf x) : AgD kf vf (D.put (kf e) (.held v)) (es.map g) := by
  have hk := h.key e he
  have hinj : ∀ x, x ∈ es → kf x = kf e → x = e := fun x hx hxe => nodup_inj h.nd hx he hxe
  refine ⟨h.tidy.put hk _, fun k => ?_, fun x hx z => ?_, ?_, ?_, fun x hx => ?_⟩
  · by_cases e1 : k = kf e
    · subst e1
      rw [has_put_same h.tidy.isMap hk]
      exact ⟨fun _ => ⟨g e, List.mem_map.2 ⟨e, he, rfl⟩, hg e⟩, fun _ => rfl⟩
    · rw [has_put_other e1, h.has]
      constructor
      · rintro ⟨x, h1, h2⟩
        exact ⟨g x, List.mem_map.2 ⟨x, h1, rfl⟩, (hg x).trans h2⟩
      · rintro ⟨x, h1, h2⟩
        obtain ⟨y, hy, rfl⟩ := List.mem_map.1 h1
        exact ⟨y, hy, (hg y).symm.trans h2⟩
  · obtain ⟨y, hy, rfl⟩ := List.mem_map.1 hx
    rw [hg]
    by_cases e1 : kf y = kf e
    · obtain rfl := hinj y hy e1
      rw [atKey_put_same h.tidy.isMap hk, h1]
    · rw [atKey_put_other e1, h2 y hy e1]
      exact h.at_ y hy z
  · rw [List.map_map, show kf ∘ g = kf from funext hg]
    exact h.nd
  · rw [size_put h.tidy, h.hasYes he, h.size, List.length_map]
    rfl
  · obtain ⟨y, hy, rfl⟩ := List.mem_map.1 hx
    rw [hg]
    exact h.key y hy
theorem nodup_filter1 {β : Type} (f : α → β) (p : α → Bool) (e : α) : ∀ {l : List α}, (l.map f).Nodup → e ∈ l → (∀ x, x ∈ l → (p x = true ↔ f x ≠ f e)) → (l.filter p).length + 1 = l.length
  | [], _, h, _ => by cases h
  | y :: l, hn, he, hp => by
    rw [List.map_cons, List.nodup_cons] at hn
    by_cases e1 : f y = f e
    · have hy : p y = false := by
        cases h : p y
        · rfl
        · exact absurd e1 ((hp y (by simp)).1 h)
      rw [List.filter_cons, hy]
      have hall : ∀ x ∈ l, p x = true := fun x hx => (hp x (by simp [hx])).2 (fun h => hn.1 (by rw [e1, ← h]; exact List.mem_map.2 ⟨x, hx, rfl⟩))
      rw [List.filter_eq_self.2 hall]
      simp
    · have hy : p y = true := (hp y (by simp)).2 e1
      rw [List.filter_cons, if_pos hy]
      have he' : e ∈ l := by
        rcases List.mem_cons.1 he with rfl | h
        · exact absurd rfl e1
        · exact h
      have := nodup_filter1 f p e hn.2 he' (fun x hx => hp x (by simp [hx]))
      simp only [List.length_cons]
      omega
theorem AgD.del {D : DataW Value} {es : List α} (h : AgD kf vf D es) {e : α} (he : e ∈ es) (p : α → Bool) (hp : ∀ x, x ∈ es → (p x = true ↔ kf x ≠ kf e)) : AgD kf vf (D.del (kf e)) (es.filter p) := by
  refine ⟨h.tidy.del _, fun k => ?_, fun x hx z => ?_, h.nd.sublist (List.filter_sublist.map kf), ?_, fun x hx => h.key x ((List.mem_filter.1 hx).1)⟩
  · by_cases e1 : k = kf e
    · subst e1
      rw [has_del_same]
      constructor
      · intro h; cases h
      · rintro ⟨x, h1, h2⟩
        obtain ⟨h3, h4⟩ := List.mem_filter.1 h1
        exact absurd h2 ((hp x h3).1 h4)
    · rw [has_del_other e1, h.has]
      constructor
      · rintro ⟨x, h1, h2⟩
        exact ⟨x, List.mem_filter.2 ⟨h1, (hp x h1).2 (fun h => e1 (h2.symm.trans h))⟩, h2⟩
      · rintro ⟨x, h1, h2⟩
        exact ⟨x, (List.mem_filter.1 h1).1, h2⟩
  · obtain ⟨h3, h4⟩ := List.mem_filter.1 hx
    rw [atKey_del_other ((hp x h3).1 h4)]
    exact h.at_ x h3 z
  · have h1 := size_del (k := kf e) h.tidy
    have h2 := nodup_filter1 kf p e h.nd he hp
    rw [h.hasYes he, h.size] at h1
    simp only [if_true] at h1
    omega

/-- The map in block b holds just these. -/
def MapE (P : Program) (K : TypeId) (kf : α → Lit) (vf : α → Value) (w : World) (b : Nat) (es : List α) : Prop := ∃ D : DataW Value, w.ownsMap P K RH b es.length D ∧ AgD kf vf D es
section
variable {P : Program} {K : TypeId} {w w' : World} {b : Nat} {es : List α}
theorem own_tight {D : DataW Value} {n : Nat} (h : w.ownsMap P K RH b n D) {m : Nat} (hm : size D = m) : w.ownsMap P K RH b m D := by
  obtain ⟨xs, clock, hb, F, hs, rfl⟩ := h
  refine ⟨xs, clock, hb, F, ?_, rfl⟩
  simp only [Maps.size, length_sorted, List.length_map, Array.length_toList] at hm
  omega
theorem MapE.lt (h : MapE P K kf vf w b es) : b < w.heap.size := by obtain ⟨D, h1, h2⟩ := h; exact h1.lt
theorem MapE.stay (h : MapE P K kf vf w b es) (hb : w'.heap[b]? = w.heap[b]?) : MapE P K kf vf w' b es := by
  obtain ⟨D, ⟨xs, clock, h1, h2⟩, h3⟩ := h
  exact ⟨D, ⟨xs, clock, hb.trans h1, h2⟩, h3⟩
theorem MapE.kept {S : Nat → Prop} (h : MapE P K kf vf w b es) (hk : Kept S w w') (hS : S b) : MapE P K kf vf w' b es := h.stay (hk.block b hS)
theorem MapE.below {B : Nat} (h : MapE P K kf vf w b es) (hk : Below B w w') (hS : b < B) : MapE P K kf vf w' b es := h.stay (hk.block b hS)
theorem MapE.perm (h : MapE P K kf vf w b es) {es' : List α} (hp : es'.Perm es) : MapE P K kf vf w b es' := by
  obtain ⟨D, h1, h2⟩ := h
  exact ⟨D, by rw [hp.length_eq]; exact h1, h2.perm hp⟩
/-- A map's block is no block of cells. -/
theorem MapE.ne {g : Nat} {t : TypeId} {cs : Array Value} (h : MapE P K kf vf w b es) (hb : Blk w g t cs) : g ≠ b := by
  rintro rfl
  obtain ⟨D, ⟨xs, clock, hm, _⟩, _⟩ := h
  rw [show w.heap[g]? = _ from hb] at hm
  cases hm
theorem MapE.noCell (h : MapE P K kf vf w b es) {p : Addr} {v : Value} (hp : w.cell? p = some v) : p.block ≠ b := by
  obtain ⟨D, ⟨xs, clock, hm, _⟩, _⟩ := h
  intro e
  subst e
  simp [World.cell?, hm] at hp
theorem MapE.made (w : World) : MapE P K kf vf (w.alloc (.map #[] 0)) w.heap.size [] := ⟨_, World.ownsMap_made _ _ _ _, AgD.start kf vf⟩
theorem kept_turned (h : w.mapTurned w' b) : Kept (fun k => k < w.heap.size ∧ k ≠ b) w w' :=
  ⟨h.grown.os, h.grown.tape, h.grown.output, h.grown.size, fun k hk => h.grown.block k hk.1 (by simp; exact hk.2)⟩
theorem turned_size (h : w.mapTurned w' b) : w'.heap.size = w.heap.size := by
  obtain ⟨es, clock, es', clock', hb, rfl⟩ := h
  simp [setBlock]
variable {t e : TypeId} (KK : Keyed P K) (ht : P.underlying t = some (.map K e))
include KK ht
/-- What is looked up. -/
theorem MapE.look {z : Value} (h : MapE P K kf vf w b es) (hz : (zeroValue e).run P w = .ok z w) {x : α} (hx : x ∈ es) {key : Value} (hkey : keyOf P K key = some (kf x)) :
    (Instr.lookup t (.map (some b)) key true).run P w = .ok (.tuple #[vf x, .bool true]) w ∧ (Instr.lookup t (.map (some b)) key false).run P w = .ok (vf x) w := by
  obtain ⟨D, h1, h2⟩ := h
  obtain ⟨v, ps, hrun, hv⟩ := h1.look_ok KK ht hz (zd := .held z) (zp := []) rfl hkey
  obtain ⟨v', ps', hrun', hv'⟩ := h1.lookup KK ht hz (zd := .held z) (zp := []) rfl hkey
  rw [h2.at_ x hx] at hv hv'
  injection hv with hv
  injection hv with hv _
  injection hv with hv
  injection hv' with hv'
  injection hv' with hv' _
  injection hv' with hv'
  rw [h2.hasYes hx] at hrun
  subst hv hv'
  exact ⟨hrun, hrun'⟩
theorem MapE.lookNo {z : Value} (h : MapE P K kf vf w b es) (hz : (zeroValue e).run P w = .ok z w) {k : Lit} (hx : ∀ x, x ∈ es → kf x ≠ k) {key : Value} (hkey : keyOf P K key = some k) :
    (Instr.lookup t (.map (some b)) key true).run P w = .ok (.tuple #[z, .bool false]) w ∧ (Instr.lookup t (.map (some b)) key false).run P w = .ok z w := by
  obtain ⟨D, h1, h2⟩ := h
  obtain ⟨v, ps, hrun, hv⟩ := h1.look_ok KK ht hz (zd := .held z) (zp := []) rfl hkey
  obtain ⟨v', ps', hrun', hv'⟩ := h1.lookup KK ht hz (zd := .held z) (zp := []) rfl hkey
  rw [atKey_of_not_has (h2.hasNo hx)] at hv hv'
  injection hv with hv
  injection hv with hv _
  injection hv with hv
  injection hv' with hv'
  injection hv' with hv' _
  injection hv' with hv'
  rw [h2.hasNo hx] at hrun
  subst hv hv'
  exact ⟨hrun, hrun'⟩
theorem MapE.drop (h : MapE P K kf vf w b es) {x : α} (hx : x ∈ es) {key : Value} (hkey : keyOf P K key = some (kf x)) (p : α → Bool) (hp : ∀ y, y ∈ es → (p y = true ↔ kf y ≠ kf x)) (ty : TypeId) :
    ∃ w', (Builtin.delete_ #[t, K] ty #[.map (some b), key]).run P w = .ok (.tuple #[]) w' ∧ MapE P K kf vf w' b (es.filter p) ∧ w.mapTurned w' b := by
  obtain ⟨D, h1, h2⟩ := h
  obtain ⟨w', hrun, r1, r2⟩ := h1.drop KK ht hkey ty
  have h3 := h2.del hx p hp
  exact ⟨w', hrun, ⟨_, own_tight r1 h3.size, h3⟩, r2⟩
theorem MapE.store (h : MapE P K kf vf w b es) (hn : es.length < 140737488351232) (x : α) (hk : WideAt.IsKeyLit (kf x)) (hno : ∀ y, y ∈ es → kf y ≠ kf x) {key : Value} (hkey : keyOf P K key = some (kf x)) :
    ∃ w', (Instr.mapUpdate t (.map (some b)) key (vf x)).run P w = .ok () w' ∧ MapE P K kf vf w' b (x :: es) ∧ w.mapTurned w' b := by
  obtain ⟨D, h1, h2⟩ := h
  obtain ⟨w', hrun, r1, r2⟩ := h1.store KK ht (by unfold maxLen; omega) hkey (val := vf x) (d := .held (vf x)) (ps := []) rfl
  have h3 := h2.put x hk hno
  exact ⟨w', hrun, ⟨_, own_tight r1 h3.size, h3⟩, r2⟩
theorem MapE.again (h : MapE P K kf vf w b es) (hn : es.length < 140737488351232) {x : α} (hx : x ∈ es) (v : Value) (g : α → α) (hg : ∀ y, kf (g y) = kf y) (h1 : vf (g x) = v) (h2 : ∀ y, y ∈ es → kf y ≠ kf x → vf (g y) = vf y) {key : Value} (hkey : keyOf P K key = some (kf x)) :
    ∃ w', (Instr.mapUpdate t (.map (some b)) key v).run P w = .ok () w' ∧ MapE P K kf vf w' b (es.map g) ∧ w.mapTurned w' b := by
  obtain ⟨D, ho, ha⟩ := h
  obtain ⟨w', hrun, r1, r2⟩ := ho.store KK ht (by unfold maxLen; omega) hkey (val := v) (d := .held v) (ps := []) rfl
  have h3 := ha.again hx v g hg h1 h2
  exact ⟨w', hrun, ⟨_, own_tight r1 h3.size, h3⟩, r2⟩
omit KK in
theorem MapE.len (h : MapE P K kf vf w b es) (ty : TypeId) : (Builtin.len_ #[t] ty #[.map (some b)]).run P w = .ok (.int .i64 es.length) w := by
  obtain ⟨D, h1, h2⟩ := h
  rw [h1.len ht ty, h2.size]
end
end
end Go.Proofs.YtjhggcdoahnmkaaDoor

/- Memory, the pure side: the pages, and the entries, the newest first. -/
namespace Go.Proofs.YtjhggcdoahnmkaaDoor
set_option linter.unusedVariables false
set_option linter.unusedSimpArgs false
/-- An entry: the item, its chunk, and where its lists lie. -/
structure En where
  it : It
  ch : Nat
  ka : Option Addr
  kc : Nat
  va : Option Addr
  vc : Nat
def chg (t : It) : Nat := 24 + t.key.length + t.val.length
def cls (t : It) : Nat := clsK (chg t : Int)
def RightI (t : It) : Prop := (1 ≤ t.key.length ∧ t.key.length ≤ 250 ∧ t.val.length ≤ 512 ∧ 0 < t.sq) ∧ Bytes t.key ∧ Bytes t.val
theorem cls_lt (t : It) : cls t < 8 := clsK_lt _
theorem RightI.chg (t : It) (h : RightI t) : 25 ≤ chg t ∧ chg t ≤ 786 := by
  obtain ⟨⟨h1, h2, h3, _⟩, _⟩ := h
  unfold Go.Proofs.YtjhggcdoahnmkaaDoor.chg
  omega
theorem clsE_chg (t : It) (h : RightI t) : clsE (chg t : Int) = 0 := by
  have := h.chg
  unfold clsE
  rw [if_neg (by omega), if_pos (by omega)]
theorem szN_ge {n : Int} (h : clsE n = 0) : n ≤ (szN (clsK n) : Nat) := by
  unfold clsE at h
  have h0 : ¬ n < 0 := fun h0 => by rw [if_pos h0] at h; cases h
  rw [if_neg h0] at h
  have h1 : n ≤ 1024 := Decidable.byContradiction fun h1 => by rw [if_neg h1] at h; cases h
  unfold clsK szN
  repeat' split
  all_goals simp <;> omega
structure InvR (ps : List Pg) (es : List En) : Prop where
  right : ∀ e, e ∈ es → RightI e.it
  keys : (es.map fun e => e.it.key).Nodup
  chs : (es.map En.ch).Nodup
  found : ∀ e, e ∈ es → findE ps (e.ch : Nat) = 0 ∧ whereK ps (e.ch : Nat) = cls e.it
  tot : totalP ps = (es.map fun e => szN (cls e.it)).sum
  inv : InvP ps
def outC (es : List En) (c : Nat) : List En := es.filter fun e => e.ch != c
def listC (es : List En) (k : Nat) : List Nat := (es.filter fun e => cls e.it == k).map En.ch
def listsC (es : List En) : List (List Nat) := (List.range 8).map (listC es)
theorem listsC_len (es : List En) : (listsC es).length = 8 := by simp [listsC]
theorem listsC_get (es : List En) {k : Nat} (h : k < 8) : (listsC es).getD k [] = listC es k := by
  simp [listsC, List.getD, List.getElem?_map, List.getElem?_range h]
theorem listsC_out (es : List En) (c : Nat) : listsC (outC es c) = outX (listsC es) c := by
  unfold listsC outX
  rw [List.map_map]
  refine List.map_congr_left fun k _ => ?_
  show listC (outC es c) k = (listC es k).filter fun y => y != c
  unfold listC outC
  rw [List.filter_map, List.filter_filter, List.filter_filter]
  congr 1
  refine List.filter_congr fun e _ => ?_
  simp [Bool.and_comm]
theorem listsC_cons (e : En) (es : List En) : listsC (e :: es) = putX (listsC es) (cls e.it) e.ch := by
  apply List.ext_getElem
  · simp [listsC, putX]
  · intro k h1 h2
    have hk : k < 8 := by simpa [listsC] using h1
    have e1 : (listsC (e :: es))[k] = listC (e :: es) k := by simp [listsC]
    have e2 : (putX (listsC es) (cls e.it) e.ch)[k] = (putX (listsC es) (cls e.it) e.ch).getD k [] := by simp [List.getD, h2]
    refine (e1.trans ?_).trans e2.symm
    by_cases ek : k = cls e.it
    · subst ek
      rw [putX_same _ _ (by rw [listsC_len]; exact hk), listsC_get _ hk]
      simp [listC]
    · rw [putX_far _ _ ek, listsC_get _ hk]
      simp [listC, Ne.symm ek]
theorem mem_listC {es : List En} {k c : Nat} : c ∈ listC es k ↔ ∃ e, e ∈ es ∧ cls e.it = k ∧ e.ch = c := by
  unfold listC
  simp [List.mem_map, List.mem_filter, and_assoc]
section
variable {ps : List Pg} {es : List En}
theorem InvR.by_ch (h : InvR ps es) {e f : En} (he : e ∈ es) (hf : f ∈ es) (hc : e.ch = f.ch) : e = f := nodup_inj h.chs he hf hc
theorem InvR.whX (h : InvR ps es) {e : En} (he : e ∈ es) : whX (listsC es) e.ch = cls e.it + 1 := by
  have h0 : Go.Proofs.YtjhggcdoahnmkaaDoor.whX (listsC es) e.ch ≠ 0 := fun h0 => by
    have := whX_zero.1 h0 (cls e.it)
    rw [listsC_get _ (cls_lt _)] at this
    exact this (mem_listC.2 ⟨e, he, rfl, rfl⟩)
  obtain ⟨h1, h2⟩ := whX_some h0
  rw [listsC_len] at h1
  rw [listsC_get _ h1] at h2
  obtain ⟨f, hf, e1, e2⟩ := mem_listC.1 h2
  obtain rfl := h.by_ch hf he e2
  omega
theorem whX_not {c : Nat} (hno : ∀ e, e ∈ es → e.ch ≠ c) : whX (listsC es) c = 0 := by
  rw [whX_zero]
  intro i hi
  by_cases h : i < 8
  · rw [listsC_get _ h] at hi
    obtain ⟨e, he, _, e2⟩ := mem_listC.1 hi
    exact hno e he e2
  · rw [List.getD, List.getElem?_eq_none (by rw [listsC_len]; omega)] at hi
    cases hi
theorem take_total {ps : List Pg} {c : Int} (h : findE ps c = 0) : totalP (takeX ps c) + szN (whereK ps c) = totalP ps := by
  obtain ⟨a, p, rfl, hp, ha, ht, e1, e2, _⟩ := find_ok h
  have hX : takeX ps ((a * 32 + p : Nat) : Int) = ps.set a (clrP (ps.getD a pg0) p) := by unfold takeX; rw [if_pos h, e1, e2]
  rw [hX, whereK_at ps a p hp ha ht]
  have h1 := sum_set bytP ps a (clrP (ps.getD a pg0) p) ha
  have h2 : bytP (ps.getD a pg0) = bytP (clrP (ps.getD a pg0) p) + szN (ps.getD a pg0).1 := by
    unfold bytP clrP
    have hx := pop_xor hp ht
    by_cases h0 : (ps.getD a pg0).2 ^^^ 2 ^ p = 0
    · rw [if_pos h0, hx, h0, pop_zero]
      simp [pop_zero]
    · rw [if_neg h0, hx, Nat.add_mul, Nat.one_mul]
  unfold totalP
  omega
theorem clr_cls13 {q : Pg} {p i : Nat} (h : (clrP q p).2.testBit i = true) : (clrP q p).1 = q.1 := by
  unfold clrP at *
  by_cases h0 : q.2 ^^^ 2 ^ p = 0
  · rw [if_pos h0] at h; simp at h
  · rw [if_neg h0]
theorem take_where {ps : List Pg} {x c : Int} (hx : findE ps x = 0) (hc : findE (takeX ps x) c = 0) : whereK (takeX ps x) c = whereK ps c := by
  have h0 := ((take_find hx c).1.1 hc).1
  obtain ⟨a, p, rfl, hp, ha, ht, e1, e2, _⟩ := find_ok hx
  have hX : takeX ps ((a * 32 + p : Nat) : Int) = ps.set a (clrP (ps.getD a pg0) p) := by unfold takeX; rw [if_pos hx, e1, e2]
  rw [hX] at hc ⊢
  obtain ⟨b, q, rfl, hq, hb, hb2, _⟩ := find_ok hc
  obtain ⟨b', q', e3, hq', hb', hb2', _⟩ := find_ok h0
  simp only [List.length_set] at hb
  have eb : b' = b := by omega
  have eq : q' = q := by omega
  subst eb eq
  rw [whereK_at _ b' q' hq (by simpa using hb) hb2, whereK_at _ b' q' hq hb hb2']
  by_cases e : a = b'
  · subst e
    rw [getD_set_self _ ha] at hb2 ⊢
    exact clr_cls13 hb2
  · rw [getD_set_ne _ e]
theorem take_len (ps : List Pg) (c : Int) : (takeX ps c).length = ps.length := by unfold takeX; split <;> simp
theorem OkP.clr_ {ps : List Pg} (hi : InvP ps) (c : Int) : InvP (takeX ps c) := by
  by_cases h : findE ps c = 0
  · obtain ⟨a, p, rfl, hp, ha, ht, e1, e2, _⟩ := find_ok h
    unfold takeX
    rw [if_pos h, e1, e2]
    exact hi.set ((hi.get a).clr hp ht)
  · unfold takeX; rw [if_neg h]; exact hi
theorem sum_out {f : En → Nat} : ∀ {es : List En} {e : En}, (es.map En.ch).Nodup → e ∈ es → ((outC es e.ch).map f).sum + f e = (es.map f).sum
  | [], _, _, h => by cases h
  | x :: es, e, hn, he => by
    rw [List.map_cons, List.nodup_cons] at hn
    by_cases hx : x.ch = e.ch
    · have hxe : x = e := by
        rcases List.mem_cons.1 he with rfl | h
        · rfl
        · exact absurd (List.mem_map.2 ⟨e, h, hx.symm⟩) hn.1
      subst hxe
      have hno : outC (x :: es) x.ch = es := by
        unfold outC
        rw [List.filter_cons, if_neg (by simp), List.filter_eq_self.2 fun y hy => ?_]
        have : y.ch ≠ x.ch := fun h => hn.1 (by rw [← h]; exact List.mem_map.2 ⟨y, hy, rfl⟩)
        simpa using this
      rw [hno]
      simp; omega
    · have he' : e ∈ es := by
        rcases List.mem_cons.1 he with rfl | h
        · exact absurd rfl hx
        · exact h
      have h1 := sum_out (f := f) hn.2 he'
      have h2 : outC (x :: es) e.ch = x :: outC es e.ch := by unfold outC; rw [List.filter_cons, if_pos (by simpa using hx)]
      rw [h2]
      simp only [List.map_cons, List.sum_cons]
      omega
theorem mem_outC {c : Nat} {e : En} : e ∈ outC es c ↔ e ∈ es ∧ e.ch ≠ c := by unfold outC; simp [List.mem_filter]
theorem InvR.out (h : InvR ps es) {e : En} (he : e ∈ es) : InvR (takeX ps (e.ch : Nat)) (outC es e.ch) := by
  have hf := h.found e he
  refine ⟨fun x hx => h.right x (mem_outC.1 hx).1, h.keys.sublist (List.filter_sublist.map _), h.chs.sublist (List.filter_sublist.map _), fun x hx => ?_, ?_, OkP.clr_ h.inv _⟩
  · obtain ⟨h1, h2⟩ := mem_outC.1 hx
    have h3 := h.found x h1
    have h4 := (take_find hf.1 (x.ch : Nat)).1.2 ⟨h3.1, by omega⟩
    exact ⟨h4, (take_where hf.1 h4).trans h3.2⟩
  · have h1 := take_total hf.1
    rw [hf.2, h.tot] at h1
    have h2 := sum_out (f := fun e => szN (cls e.it)) h.chs he
    omega
theorem InvR.put (h : InvR ps es) (e : En) (hr : RightI e.it) (hk : ∀ x, x ∈ es → x.it.key ≠ e.it.key) (hg : giveE ps (chg e.it : Nat) = 0) (hc : e.ch = giveN ps (chg e.it : Nat)) : InvR (giveX ps (chg e.it : Nat)) (e :: es) := by
  obtain ⟨a, hG⟩ := given_of h.inv hg
  obtain ⟨n1, n2, n3⟩ := hG.new_
  have hno : ∀ x, x ∈ es → x.ch ≠ e.ch := fun x hx hxe => by
    have := (h.found x hx).1
    rw [hxe, hc, n3] at this
    cases this
  refine ⟨fun x hx => ?_, ?_, ?_, fun x hx => ?_, ?_, hG.inv h.inv⟩
  · rcases List.mem_cons.1 hx with rfl | hx
    · exact hr
    · exact h.right x hx
  · rw [List.map_cons, List.nodup_cons]
    refine ⟨fun hm => ?_, h.keys⟩
    obtain ⟨x, hx, ex⟩ := List.mem_map.1 hm
    exact hk x hx ex
  · rw [List.map_cons, List.nodup_cons]
    refine ⟨fun hm => ?_, h.chs⟩
    obtain ⟨x, hx, ex⟩ := List.mem_map.1 hm
    exact hno x hx ex
  · rcases List.mem_cons.1 hx with rfl | hx
    · rw [hc]
      exact ⟨n1, n2⟩
    · have h1 := h.found x hx
      have h2 := hG.keeps h1.1
      exact ⟨h2.1, h2.2.trans h1.2⟩
  · rw [hG.total h.inv, h.tot]
    show _ + szN (cls e.it) = _
    simp only [List.map_cons, List.sum_cons]
    omega
theorem InvR.ch_lt (h : InvR ps es) {e : En} (he : e ∈ es) : e.ch < ps.length * 32 := by
  obtain ⟨a, p, e1, hp, ha, _⟩ := find_ok (h.found e he).1
  omega
theorem InvR.start (n : Nat) : InvR (List.replicate n pg0) [] := by
  refine ⟨(fun e he => by cases he), List.nodup_nil, List.nodup_nil, (fun e he => by cases he), ?_, InvP.rep n⟩
  unfold totalP
  simp [bytP, pg0, pop_zero]
theorem sum_zero : ∀ {l : List Nat} {x : Nat}, l.sum = 0 → x ∈ l → x = 0
  | [], _, _, h => by cases h
  | y :: l, x, hs, h => by
    simp only [List.sum_cons] at hs
    rcases List.mem_cons.1 h with rfl | h
    · omega
    · exact sum_zero (by omega) h
/-- If nothing can be given something is there. -/
theorem InvR.some (h : InvR ps es) (hp : 0 < ps.length) {n : Int} (hg : giveE ps n = 6) : es ≠ [] := by
  rintro rfl
  have ht : totalP ps = 0 := by rw [h.tot]; rfl
  rcases giveE_cases ps n with h0 | ⟨h0, h1⟩ | ⟨_, _, _, h3⟩
  · rw [h0] at hg; cases hg
  · rw [h1] at hg
    unfold clsE at hg
    split at hg
    · cases hg
    · split at hg <;> cases hg
  · have h4 := h3 0 hp
    have hm : ps.getD 0 pg0 ∈ ps := by
      rw [List.getD, List.getElem?_eq_getElem hp, Option.getD_some]
      exact List.getElem_mem hp
    have h5 : bytP (ps.getD 0 pg0) = 0 := sum_zero (l := ps.map bytP) ht (List.mem_map.2 ⟨_, hm, rfl⟩)
    have ho := h.inv _ hm
    have h6 : pop (ps.getD 0 pg0).2 = 0 := by
      unfold bytP at h5
      rcases Nat.mul_eq_zero.1 h5 with h6 | h6
      · exact h6
      · exact absurd h6 (chN_div ho.1).2.1
    have h7 : (ps.getD 0 pg0).2 = 0 := eq_zero_tb fun q => by
      by_cases hq : q < 32
      · cases hv : (ps.getD 0 pg0).2.testBit q with
        | false => rfl
        | true => have := pop_pos hq hv; omega
      · exact tb_high ho.2.1 (by have := (chN_pos ho.1).2; omega)
    unfold freeB at h4
    rw [h7] at h4
    cases h4
/-- Charges never pass the pages' bytes. -/
theorem InvR.charges (h : InvR ps es) : (es.map fun e => chg e.it).sum ≤ 1024 * ps.length := by
  refine Nat.le_trans ?_ (total_le h.inv)
  rw [h.tot]
  have : ∀ l : List En, (∀ e, e ∈ l → RightI e.it) → (l.map fun e => chg e.it).sum ≤ (l.map fun e => szN (cls e.it)).sum := by
    intro l
    induction l with
    | nil => intro _; simp
    | cons x l ih =>
      intro hl
      have h1 := ih fun e he => hl e (by simp [he])
      have h2 := szN_ge (clsE_chg x.it (hl x (by simp)))
      simp only [List.map_cons, List.sum_cons]
      unfold cls
      unfold cls at h1
      omega
  exact this es h.right
end
end Go.Proofs.YtjhggcdoahnmkaaDoor

/- Lists in memory: a block of 67 cells, and one of the places, in pieces of 192 cells. -/
namespace Go.Proofs.YtjhggcdoahnmkaaDoor
open Go.RowKit
attribute [local go_sem] Oper.semAt_some
set_option linter.unusedVariables false
set_option linter.unusedSimpArgs false
set_option maxRecDepth 100000

def pcN (A B C : Nat → Nat) (i : Nat) : Nat :=
  if i % 192 < 64 then A (i / 192 * 64 + i % 192) else if i % 192 < 128 then B (i / 192 * 64 + (i % 192 - 64)) else C (i / 192 * 64 + (i % 192 - 128))
def pcC (A B C : Nat → Nat) (k : Nat) : Array Value := (Array.range (k * 192)).map fun i => .int .i64 (pcN A B C i : Nat)
def hdC (n L : Nat) (len : Nat → Nat) (p k : Nat) : Array Value :=
  (Array.range 67).map fun i => if i = 0 then .int .i64 (n : Nat) else if i = 1 then .int .i64 (L : Nat) else if i = 66 then .slice (some ⟨p, 0, none⟩) k k else .int .i64 (len (i - 2) : Nat)
abbrev aC (a : Nat) : Nat := a / 64 * 192 + a % 64
theorem pcC_size (A B C : Nat → Nat) (k : Nat) : (pcC A B C k).size = k * 192 := by simp [pcC]
theorem pcC_get (A B C : Nat → Nat) {k i : Nat} (h : i < k * 192) : (pcC A B C k)[i]? = some (.int .i64 (pcN A B C i : Nat)) := by simp [pcC, h]
theorem pcN_a (A B C : Nat → Nat) (a : Nat) : pcN A B C (aC a) = A a := by
  unfold pcN aC
  rw [if_pos (by omega)]
  congr 1; omega
theorem pcN_b (A B C : Nat → Nat) (a : Nat) : pcN A B C (aC a + 64) = B a := by
  unfold pcN aC
  rw [if_neg (by omega), if_pos (by omega)]
  congr 1; omega
theorem pcN_c (A B C : Nat → Nat) (a : Nat) : pcN A B C (aC a + 128) = C a := by
  unfold pcN aC
  rw [if_neg (by omega), if_neg (by omega)]
  congr 1; omega
theorem pcC_setG {A B C A' B' C' : Nat → Nat} {k i v : Nat} (h1 : pcN A' B' C' i = v) (h2 : ∀ j, j ≠ i → pcN A' B' C' j = pcN A B C j) : (pcC A B C k).setIfInBounds i (.int .i64 (v : Nat)) = pcC A' B' C' k := by
  apply Array.ext
  · simp [pcC]
  · intro j hj1 hj2
    simp only [pcC, Array.size_setIfInBounds, Array.size_map, Array.size_range] at hj1
    rw [Array.getElem_setIfInBounds (by simpa [pcC] using hj1)]
    by_cases h : i = j
    · subst h; simp [pcC, h1]
    · simp [pcC, h, h2 j (fun e => h e.symm)]
theorem pcC_a (A B C : Nat → Nat) (k a v : Nat) : (pcC A B C k).setIfInBounds (aC a) (.int .i64 (v : Nat)) = pcC (updN A a v) B C k :=
  pcC_setG (by rw [pcN_a, updN_same]) fun j hj => by
    unfold pcN aC at *
    split
    · exact updN_far _ _ (by omega)
    · rfl
theorem pcC_b (A B C : Nat → Nat) (k a v : Nat) : (pcC A B C k).setIfInBounds (aC a + 64) (.int .i64 (v : Nat)) = pcC A (updN B a v) C k :=
  pcC_setG (by rw [pcN_b, updN_same]) fun j hj => by
    unfold pcN aC at *
    split
    · rfl
    · split
      · exact updN_far _ _ (by omega)
      · rfl
theorem pcC_c (A B C : Nat → Nat) (k a v : Nat) : (pcC A B C k).setIfInBounds (aC a + 128) (.int .i64 (v : Nat)) = pcC A B (updN C a v) k :=
  pcC_setG (by rw [pcN_c, updN_same]) fun j hj => by
    unfold pcN aC at *
    split
    · rfl
    · split
      · rfl
      · exact updN_far _ _ (by omega)
theorem hdC_size (n L : Nat) (len : Nat → Nat) (p k : Nat) : (hdC n L len p k).size = 67 := by simp [hdC]
theorem hdC_get (n L : Nat) (len : Nat → Nat) (p k : Nat) {i : Nat} (h : i < 67) : (hdC n L len p k)[i]? = some (if i = 0 then .int .i64 (n : Nat) else if i = 1 then .int .i64 (L : Nat) else if i = 66 then .slice (some ⟨p, 0, none⟩) k k else .int .i64 (len (i - 2) : Nat)) := by simp [hdC, h]
theorem hdC_set (n L : Nat) (len : Nat → Nat) (p k : Nat) {i : Nat} (v : Nat) (h : i < 64) : (hdC n L len p k).setIfInBounds (2 + i) (.int .i64 (v : Nat)) = hdC n L (updN len i v) p k := by
  apply Array.ext
  · simp [hdC]
  · intro j hj1 hj2
    simp only [hdC, Array.size_setIfInBounds, Array.size_map, Array.size_range] at hj1
    rw [Array.getElem_setIfInBounds (by simpa [hdC] using hj1)]
    by_cases e : 2 + i = j
    · subst e
      rw [if_pos rfl]
      simp only [hdC, Array.getElem_map, Array.getElem_range]
      rw [if_neg (by omega), if_neg (by omega), if_neg (by omega), show 2 + i - 2 = i by omega, updN_same]
    · rw [if_neg e]
      simp only [hdC, Array.getElem_map, Array.getElem_range]
      split
      · rfl
      · split
        · rfl
        · split
          · rfl
          · rw [updN_far _ _ (by omega)]

/-- Lists lie at x, their places at p. -/
structure LrM (w : World) (x p n L : Nat) (A B C len : Nat → Nat) : Prop where
  n1 : 1 ≤ n
  n2 : n ≤ 65536
  l1 : 1 ≤ L
  l2 : L ≤ 64
  hd : Blk w x 111 (hdC n L len p ((n + L + 63) / 64))
  pc : Blk w p 129 (pcC A B C ((n + L + 63) / 64))
section
variable {w w' : World} {x p n L : Nat} {A B C len : Nat → Nat}
theorem LrM.ne (h : LrM w x p n L A B C len) : x ≠ p := Blk.ne_ h.hd h.pc (by decide)
theorem LrM.lt (h : LrM w x p n L A B C len) : x < w.heap.size ∧ p < w.heap.size := ⟨h.hd.lt, h.pc.lt⟩
theorem LrM.cn (h : LrM w x p n L A B C len) : w.cell? ⟨x, 0, none⟩ = some (.int .i64 (n : Nat)) := by rw [h.hd.cell, hdC_get _ _ _ _ _ (by omega)]; rfl
theorem LrM.cl (h : LrM w x p n L A B C len) : w.cell? ⟨x, 1, none⟩ = some (.int .i64 (L : Nat)) := by rw [h.hd.cell, hdC_get _ _ _ _ _ (by omega)]; rfl
theorem LrM.cp (h : LrM w x p n L A B C len) : w.cell? ⟨x, 66, none⟩ = some (.slice (some ⟨p, 0, none⟩) ((n + L + 63) / 64) ((n + L + 63) / 64)) := by rw [h.hd.cell, hdC_get _ _ _ _ _ (by omega)]; rfl
theorem LrM.ce (h : LrM w x p n L A B C len) {i : Nat} (hi : i < 64) : w.cell? ⟨x, 2 + i, none⟩ = some (.int .i64 (len i : Nat)) := by
  rw [h.hd.cell, hdC_get _ _ _ _ _ (by omega), if_neg (by omega), if_neg (by omega), if_neg (by omega), show 2 + i - 2 = i by omega]
theorem LrM.ca (h : LrM w x p n L A B C len) {a : Nat} (ha : a < n + L) : w.cell? ⟨p, aC a, none⟩ = some (.int .i64 (A a : Nat)) := by
  rw [h.pc.cell, pcC_get _ _ _ (by unfold aC; omega), pcN_a]
theorem LrM.cb (h : LrM w x p n L A B C len) {a : Nat} (ha : a < n + L) : w.cell? ⟨p, aC a + 64, none⟩ = some (.int .i64 (B a : Nat)) := by
  rw [h.pc.cell, pcC_get _ _ _ (by unfold aC; omega), pcN_b]
theorem LrM.cc (h : LrM w x p n L A B C len) {a : Nat} (ha : a < n + L) : w.cell? ⟨p, aC a + 128, none⟩ = some (.int .i64 (C a : Nat)) := by
  rw [h.pc.cell, pcC_get _ _ _ (by unfold aC; omega), pcN_c]
theorem LrM.setA (h : LrM w x p n L A B C len) (a v : Nat) : LrM (w.setCell ⟨p, aC a, none⟩ (.int .i64 (v : Nat))) x p n L (updN A a v) B C len :=
  ⟨h.n1, h.n2, h.l1, h.l2, h.hd.far h.ne _, by have := h.pc.set_ (aC a) (.int .i64 (v : Nat)); rwa [pcC_a] at this⟩
theorem LrM.setB (h : LrM w x p n L A B C len) (a v : Nat) : LrM (w.setCell ⟨p, aC a + 64, none⟩ (.int .i64 (v : Nat))) x p n L A (updN B a v) C len :=
  ⟨h.n1, h.n2, h.l1, h.l2, h.hd.far h.ne _, by have := h.pc.set_ (aC a + 64) (.int .i64 (v : Nat)); rwa [pcC_b] at this⟩
theorem LrM.setC (h : LrM w x p n L A B C len) (a v : Nat) : LrM (w.setCell ⟨p, aC a + 128, none⟩ (.int .i64 (v : Nat))) x p n L A B (updN C a v) len :=
  ⟨h.n1, h.n2, h.l1, h.l2, h.hd.far h.ne _, by have := h.pc.set_ (aC a + 128) (.int .i64 (v : Nat)); rwa [pcC_c] at this⟩
theorem LrM.setE (h : LrM w x p n L A B C len) {i : Nat} (v : Nat) (hi : i < 64) : LrM (w.setCell ⟨x, 2 + i, none⟩ (.int .i64 (v : Nat))) x p n L A B C (updN len i v) :=
  ⟨h.n1, h.n2, h.l1, h.l2, by have := h.hd.set_ (2 + i) (.int .i64 (v : Nat)); rwa [hdC_set _ _ _ _ _ _ hi] at this, h.pc.far (fun e => h.ne e.symm) _⟩
theorem LrM.drew (h : LrM w x p n L A B C len) : LrM w.drew x p n L A B C len := ⟨h.n1, h.n2, h.l1, h.l2, h.hd, h.pc⟩
theorem LrM.drewN (h : LrM w x p n L A B C len) (k : Nat) : LrM (w.drewN k) x p n L A B C len := ⟨h.n1, h.n2, h.l1, h.l2, h.hd, h.pc⟩
theorem LrM.kept {S : Nat → Prop} (h : LrM w x p n L A B C len) (hb : Kept S w w') (hx : S x) (hp : S p) : LrM w' x p n L A B C len := ⟨h.n1, h.n2, h.l1, h.l2, h.hd.kept hb hx, h.pc.kept hb hp⟩
theorem LrM.below {D : Nat} (h : LrM w x p n L A B C len) (hb : Below D w w') (hx : x < D) (hp : p < D) : LrM w' x p n L A B C len := ⟨h.n1, h.n2, h.l1, h.l2, h.hd.below hb hx, h.pc.below hb hp⟩

/-! What only reads. -/
theorem end_any (h : LrM w x p n L A B C len) (i : Nat) (hi : i < L) : Calls Tryd.prog 53 #[.pointer (some ⟨x, 0, none⟩), .int .i64 (i : Nat)] w fun e w' => e = .returned (.int .i64 ((n + i : Nat) : Int)) ∧ w' = w := by
  have h1 := h.cn
  have h2 := h.n2
  have h3 := h.l2
  have HX := Lib.hid h
  clear h
  go_enter Tryd.func53, Tryd.ntmps53
  go_wp2
  go_ret
  exact ⟨by simp, rfl⟩
theorem ahead_any (h : LrM w x p n L A B C len) (a : Nat) (ha : a < n + L) : Calls Tryd.prog 73 #[.pointer (some ⟨x, 0, none⟩), .int .i64 (a : Nat)] w fun e w' => e = .returned (.pointer (some ⟨p, aC a, none⟩)) ∧ w' = w := by
  have h1 := h.cp
  have h2 := h.n2
  have h3 := h.l2
  have HX := Lib.hid h
  clear h
  go_enter Tryd.func73, Tryd.ntmps73
  go_wp2
  go_ret
  exact ⟨rfl, rfl⟩
end
end Go.Proofs.YtjhggcdoahnmkaaDoor

/- Lists in memory: the small functions, and how a number comes and goes. -/
namespace Go.Proofs.YtjhggcdoahnmkaaDoor
open Go.RowKit
attribute [local go_sem] Oper.semAt_some
set_option linter.unusedVariables false
set_option linter.unusedSimpArgs false
set_option maxRecDepth 100000
section
variable {w w' : World} {x p n L : Nat} {A B C len : Nat → Nat}
theorem behind_any (h : LrM w x p n L A B C len) (a : Nat) (ha : a < n + L) : Calls Tryd.prog 72 #[.pointer (some ⟨x, 0, none⟩), .int .i64 (a : Nat)] w fun e w' => e = .returned (.pointer (some ⟨p, aC a + 64, none⟩)) ∧ w' = w := by
  have h1 := h.cp
  have h2 := h.n2
  have h3 := h.l2
  have HX := Lib.hid h
  clear h
  go_enter Tryd.func72, Tryd.ntmps72
  go_wp2
  go_ret
  exact ⟨by simp [aC], rfl⟩
theorem plist_any (h : LrM w x p n L A B C len) (a : Nat) (ha : a < n + L) : Calls Tryd.prog 82 #[.pointer (some ⟨x, 0, none⟩), .int .i64 (a : Nat)] w fun e w' => e = .returned (.pointer (some ⟨p, aC a + 128, none⟩)) ∧ w' = w := by
  have h1 := h.cp
  have h2 := h.n2
  have h3 := h.l2
  have HX := Lib.hid h
  clear h
  go_enter Tryd.func82, Tryd.ntmps82
  go_wp2
  go_ret
  exact ⟨by simp [aC], rfl⟩
theorem hasList_any (h : LrM w x p n L A B C len) (i : Int) : Calls Tryd.prog 80 #[.pointer (some ⟨x, 0, none⟩), .int .i64 i] w fun e w' => e = .returned (.bool (decide (0 ≤ i ∧ i < L))) ∧ w' = w := by
  have h1 := h.cl
  have HX := Lib.hid h
  clear h
  go_enter Tryd.func80, Tryd.ntmps80
  by_cases q1 : 0 ≤ i
  · by_cases q2 : i < L
    · go_wp2
      go_ret
      exact ⟨ret_bool (by simp [q1, q2]), rfl⟩
    · go_wp2
      go_ret
      exact ⟨ret_bool (by simp [q1, q2]), rfl⟩
  · go_wp2
    go_ret
    exact ⟨ret_bool (by simp; omega), rfl⟩
theorem hasList_nil (w : World) (i : Int) : Calls Tryd.prog 80 #[.pointer none, .int .i64 i] w fun e w' => e = .returned (.bool false) ∧ w' = w := by
  go_enter Tryd.func80, Tryd.ntmps80
  go_wp2
  go_ret
  exact ⟨rfl, rfl⟩
theorem hasNumber_any (h : LrM w x p n L A B C len) (i : Int) : Calls Tryd.prog 81 #[.pointer (some ⟨x, 0, none⟩), .int .i64 i] w fun e w' => e = .returned (.bool (decide (hasN n i))) ∧ w' = w := by
  have h1 := h.cn
  have HX := Lib.hid h
  clear h
  unfold hasN
  go_enter Tryd.func81, Tryd.ntmps81
  by_cases q1 : 0 ≤ i
  · by_cases q2 : i < n
    · go_wp2
      go_ret
      exact ⟨ret_bool (by simp [q1, q2]), rfl⟩
    · go_wp2
      go_ret
      exact ⟨ret_bool (by simp [q1, q2]), rfl⟩
  · go_wp2
    go_ret
    exact ⟨ret_bool (decide_eq_false (by omega)).symm, rfl⟩
theorem join_any (h : LrM w x p n L A B C len) (u v : Nat) (hu : u < n + L) (hv : v < n + L) : Calls Tryd.prog 52 #[.pointer (some ⟨x, 0, none⟩), .int .i64 (u : Nat), .int .i64 (v : Nat)] w
    fun e w' => e = .returned (.tuple #[]) ∧ LrM w' x p n L (updN A v u) (updN B u v) C len ∧ Kept (fun b => b ≠ x ∧ b ≠ p) w w' := by
  have h1 := h.cb hu
  have h2 := h.ca hv
  have f1 := h.pc.frozen (aC u + 64)
  have f2 := h.pc.frozen (aC v)
  have HX := Lib.hid h
  have HB := Lib.hid (behind_any h u hu)
  have HA := Lib.hid (ahead_any h v hv)
  have HS := Lib.hid (h.setB u v)
  clear h hu hv
  obtain ⟨cu, hcu⟩ : ∃ cu, cu = aC u + 64 := ⟨_, rfl⟩
  obtain ⟨cv, hcv⟩ : ∃ cv, cv = aC v := ⟨_, rfl⟩
  have HS2 := Lib.hid (HS.out.setA v u)
  rw [← hcu] at h1 f1 HB HS2
  rw [← hcv] at h2 f2 HA HS2
  have hne : cu ≠ cv := by rw [hcu, hcv]; unfold aC; omega
  have HC := Lib.hid hcu
  clear hcu hcv
  go_enter Tryd.func52, Tryd.ntmps52
  go_wp2_with fail
  refine HB.out.mono ?_
  rintro e w2 ⟨rfl, rfl⟩
  go_wp2_with fail
  refine HA.out.mono ?_
  rintro e w2 ⟨rfl, rfl⟩
  go_wp2
  (first | go_ret | go_ret2 | go_end0)
  exact ⟨rfl, HS2.out, ((Kept.refl _ _).setCell (by simp) _).setCell (by simp) _⟩
end
end Go.Proofs.YtjhggcdoahnmkaaDoor

/- Lists in memory: a number is put in, and taken out. -/
namespace Go.Proofs.YtjhggcdoahnmkaaDoor
open Go.RowKit
attribute [local go_sem] Oper.semAt_some
set_option linter.unusedVariables false
set_option linter.unusedSimpArgs false
set_option maxRecDepth 100000
section
variable {w w' : World} {x p n L : Nat} {A B C len : Nat → Nat}
set_option maxHeartbeats 1000000 in
theorem putIn_any (h : LrM w x p n L A B C len) (i k b : Nat) (hi : i < L) (hk : k < n) (hb : B (n + i) = b) (hb2 : b < n + L) (hl : len i ≤ n) : Calls Tryd.prog 68 #[.pointer (some ⟨x, 0, none⟩), .int .i64 (i : Nat), .int .i64 (k : Nat)] w
    fun e w' => e = .returned (.tuple #[]) ∧ LrM w' x p n L (updN (updN A b k) k (n + i)) (updN (updN B k b) (n + i) k) (updN C k (i + 1)) (updN len i (len i + 1)) ∧ Kept (fun b => b ≠ x ∧ b ≠ p) w w' := by
  have q1 := h.n2
  have q2 := h.l2
  have hiL : n + i < n + L := by omega
  have HE := Lib.hid (end_any h i hi)
  have HB := Lib.hid (behind_any h (n + i) hiL)
  have hcb := h.cb hiL
  rw [hb] at hcb
  have HJ := Lib.hid (join_any h k b (by omega) hb2)
  have HX := Lib.hid h
  clear h hb
  obtain ⟨en, hen⟩ : ∃ en, en = n + i := ⟨_, rfl⟩
  rw [← hen] at HE HB hcb hiL ⊢
  have q3 : en < 65600 := by omega
  clear hen
  go_enter Tryd.func68, Tryd.ntmps68
  go_wp2_with fail
  refine HE.out.mono ?_
  rintro e w2 ⟨rfl, rfl⟩
  go_wp2_with fail
  refine HB.out.mono ?_
  rintro e w2 ⟨rfl, rfl⟩
  go_wp2_with fail
  refine HJ.out.mono ?_
  rintro e w3 ⟨rfl, hM, hK⟩
  have HM := Lib.hid hM
  have HK := Lib.hid hK
  have HJ2 := Lib.hid (join_any hM en k hiL (by omega))
  clear hM hK hcb
  go_wp2_with fail
  refine HJ2.out.mono ?_
  rintro e w4 ⟨rfl, hM, hK⟩
  have HM2 := Lib.hid hM
  have HK2 := Lib.hid (HK.out.trans hK fun _ h => h)
  have HP := Lib.hid (plist_any hM k (by omega))
  have hcc := hM.cc (a := k) (by omega)
  have f1 := hM.pc.frozen (aC k + 128)
  have HM3 := Lib.hid (hM.setC k (i + 1))
  clear hM hK HK HM
  obtain ⟨ck, hck⟩ : ∃ ck, ck = aC k + 128 := ⟨_, rfl⟩
  rw [← hck] at HP hcc f1 HM3
  clear hck
  go_wp2_with fail
  refine HP.out.mono ?_
  rintro e w5 ⟨rfl, rfl⟩
  go_upto_region 4 with fail
  have HK3 := Lib.hid (HK2.out.setCell (p := ⟨p, ck, none⟩) (by simp) (.int .i64 ((i + 1 : Nat) : Int)))
  rw [show ((i + 1 : Nat) : Int) = (i : Int) + 1 by omega] at HK3 HM3
  generalize w5.setCell ⟨p, ck, none⟩ (.int .i64 ((i : Int) + 1)) = w6 at *
  have hce := HM3.out.ce (i := i) (by omega)
  have f2 := HM3.out.hd.frozen (2 + i)
  have HM4 := Lib.hid (HM3.out.setE (i := i) (len i + 1) (by omega))
  rw [show ((len i + 1 : Nat) : Int) = (len i : Int) + 1 by omega] at HM4
  go_region
  all_goals go_wp2
  all_goals (first | go_ret | go_ret2 | go_end0)
  all_goals exact ⟨rfl, HM4.out.drew, (HK3.out.setCell (by simp) _).drew⟩
set_option maxHeartbeats 1000000 in
theorem takeOut_any (h : LrM w x p n L A B C len) (i k a b l : Nat) (hi : i < L) (hk : k < n) (ha : A k = a) (hb : B k = b) (ha2 : a < n + L) (hb2 : b < n + L) (hl : len i = l) (hl2 : 1 ≤ l ∧ l ≤ n) : Calls Tryd.prog 67 #[.pointer (some ⟨x, 0, none⟩), .int .i64 (i : Nat), .int .i64 (k : Nat)] w
    fun e w' => e = .returned (.tuple #[]) ∧ LrM w' x p n L (updN A b a) (updN B a b) (updN C k 0) (updN len i (l - 1)) ∧ Kept (fun b => b ≠ x ∧ b ≠ p) w w' := by
  have q1 := h.n2
  have q2 := h.l2
  have HA := Lib.hid (fun (W : World) (hW : LrM W x p n L A B C len) => ahead_any hW k (by omega))
  have HB := Lib.hid (fun (W : World) (hW : LrM W x p n L A B C len) => behind_any hW k (by omega))
  have hca := h.ca (a := k) (by omega)
  have hcb := h.cb (a := k) (by omega)
  rw [ha] at hca
  rw [hb] at hcb
  have HJ := Lib.hid (fun (W : World) (hW : LrM W x p n L A B C len) => join_any hW a b ha2 hb2)
  have HX := Lib.hid h
  clear h hb ha
  go_enter Tryd.func67, Tryd.ntmps67
  go_upto_region 0 with fail
  go_cut [17] (fun s wx => s = .tuple #[] ∧ LrM wx x p n L (updN A b a) (updN B a b) C len ∧ Kept (fun b => b ≠ x ∧ b ≠ p) w wx)
  case first =>
    go_region_with (first
      | (go_at_call 73; refine (HA.out _ HX.out.drew).mono ?_; rintro e w2 ⟨rfl, rfl⟩)
      | (go_at_call 72; refine (HB.out _ HX.out.drew).mono ?_; rintro e w2 ⟨rfl, rfl⟩)
      | (go_at_call 52; refine (HJ.out _ HX.out.drew).mono ?_; rintro e w3 ⟨rfl, hM, hK⟩))
    all_goals
      go_wp2_with fail
      go_meet
      exact ⟨rfl, hM, (Kept.refl _ w).drew.trans hK fun _ h => h⟩
  case rest =>
    obtain ⟨rfl, hM, hK⟩ := hcut
    have HM2 := Lib.hid hM
    have HK2 := Lib.hid hK
    have HP := Lib.hid (plist_any hM k (by omega))
    have hcc := hM.cc (a := k) (by omega)
    have f1 := hM.pc.frozen (aC k + 128)
    have HM3 := Lib.hid (hM.setC k 0)
    clear hM hK hca hcb
    obtain ⟨ck, hck⟩ : ∃ ck, ck = aC k + 128 := ⟨_, rfl⟩
    rw [← hck] at HP hcc f1 HM3
    clear hck
    go_wp2_with fail
    refine HP.out.mono ?_
    rintro e w5 ⟨rfl, rfl⟩
    go_upto_region 2 with fail
    have HK3 := Lib.hid (HK2.out.setCell (p := ⟨p, ck, none⟩) (by simp) (.int .i64 0))
    rw [show ((0 : Nat) : Int) = 0 from rfl] at HM3
    generalize w5.setCell ⟨p, ck, none⟩ (.int .i64 0) = w6 at *
    have hce := HM3.out.ce (i := i) (by omega)
    rw [hl] at hce
    have f2 := HM3.out.hd.frozen (2 + i)
    have HM4 := Lib.hid (HM3.out.setE (i := i) (l - 1) (by omega))
    rw [show ((l - 1 : Nat) : Int) = (l : Int) - 1 by omega] at HM4
    clear hl
    go_region
    all_goals go_wp2
    all_goals (first | go_ret | go_ret2 | go_end0)
    all_goals exact ⟨rfl, HM4.out.drew, (HK3.out.setCell (by simp) _).drew⟩
end
end Go.Proofs.YtjhggcdoahnmkaaDoor

/- Lists in memory: what is told, and what is done, by the lists alone. -/
namespace Go.Proofs.YtjhggcdoahnmkaaDoor
open Go.RowKit
attribute [local go_sem] Oper.semAt_some
set_option linter.unusedVariables false
set_option linter.unusedSimpArgs false
set_option maxRecDepth 100000

/-- These lists lie at x, their places at p. -/
def LrV (w : World) (x p n : Nat) (xs : List (List Nat)) : Prop := ∃ A B C len, LrM w x p n xs.length A B C len ∧ Rep n A B C len xs
section
variable {w w' : World} {x p n : Nat} {xs : List (List Nat)}
theorem LrV.ne (h : LrV w x p n xs) : x ≠ p := by obtain ⟨A, B, C, len, h1, h2⟩ := h; exact h1.ne
theorem LrV.lt (h : LrV w x p n xs) : x < w.heap.size ∧ p < w.heap.size := by obtain ⟨A, B, C, len, h1, h2⟩ := h; exact h1.lt
theorem LrV.nums (h : LrV w x p n xs) : 1 ≤ n ∧ n ≤ 65536 ∧ 1 ≤ xs.length ∧ xs.length ≤ 64 := by obtain ⟨A, B, C, len, h1, h2⟩ := h; exact ⟨h1.n1, h1.n2, h1.l1, h1.l2⟩
theorem LrV.nd (h : LrV w x p n xs) (i : Nat) : (xs.getD i []).Nodup := by obtain ⟨A, B, C, len, h1, h2⟩ := h; exact h2.nd i
theorem LrV.small (h : LrV w x p n xs) {i k : Nat} (hk : k ∈ xs.getD i []) : k < n := by obtain ⟨A, B, C, len, h1, h2⟩ := h; exact h2.lt i k hk
theorem LrV.apart (h : LrV w x p n xs) {i j k : Nat} (hi : k ∈ xs.getD i []) (hj : k ∈ xs.getD j []) : i = j := by obtain ⟨A, B, C, len, h1, h2⟩ := h; exact h2.apart hi hj
theorem LrV.drew (h : LrV w x p n xs) : LrV w.drew x p n xs := by obtain ⟨A, B, C, len, h1, h2⟩ := h; exact ⟨A, B, C, len, h1.drew, h2⟩
theorem LrV.drewN (h : LrV w x p n xs) (k : Nat) : LrV (w.drewN k) x p n xs := by obtain ⟨A, B, C, len, h1, h2⟩ := h; exact ⟨A, B, C, len, h1.drewN k, h2⟩
theorem LrV.kept {S : Nat → Prop} (h : LrV w x p n xs) (hb : Kept S w w') (hx : S x) (hp : S p) : LrV w' x p n xs := by obtain ⟨A, B, C, len, h1, h2⟩ := h; exact ⟨A, B, C, len, h1.kept hb hx hp, h2⟩
theorem LrV.below {D : Nat} (h : LrV w x p n xs) (hb : Below D w w') (hx : x < D) (hp : p < D) : LrV w' x p n xs := by obtain ⟨A, B, C, len, h1, h2⟩ := h; exact ⟨A, B, C, len, h1.below hb hx hp, h2⟩
theorem nodup_len : ∀ {n : Nat} {l : List Nat}, l.Nodup → (∀ a ∈ l, a < n) → l.length ≤ n
  | 0, l, _, hlt => by
    cases l with
    | nil => simp
    | cons a l => have := hlt a (by simp); omega
  | n + 1, l, hnd, hlt => by
    have h1 := nodup_len (n := n) (hnd.erase n) (fun a ha => by
      have h2 := (hnd.mem_erase_iff).1 ha
      have := hlt a h2.2
      omega)
    rw [List.length_erase] at h1
    split at h1 <;> omega
theorem LrV.len (h : LrV w x p n xs) (i : Nat) : (xs.getD i []).length ≤ n := nodup_len (h.nd i) fun a ha => h.small ha

theorem where_any_l (h : LrV w x p n xs) (k : Int) : Calls Tryd.prog 66 #[.pointer (some ⟨x, 0, none⟩), .int .i64 k] w fun e w' => e = .returned (.tuple #[.int .i64 (whV n xs k), .int .i64 (outE n xs k)]) ∧ w' = w := by
  obtain ⟨A, B, C, len, hM, hR⟩ := h
  have HN := Lib.hid (hasNumber_any hM k)
  by_cases hk : hasN n k
  · obtain ⟨k, rfl⟩ : ∃ m : Nat, k = (m : Int) := ⟨k.toNat, by have := hk.1; omega⟩
    have hk2 : k < n := by have := hk.2; omega
    have hw := hR.wh hk2
    have hcc := hM.cc (a := k) (by omega)
    rw [← hw] at hcc
    have HP := Lib.hid (plist_any hM k (by omega))
    have e0 : outE n xs (k : Int) = if whX xs k = 0 then 4 else 0 := by unfold outE; rw [if_neg (by simpa using hk)]; simp
    have e1 : whV n xs (k : Int) = if whX xs k = 0 then 0 else (whX xs k : Int) - 1 := by unfold whV; rw [e0]; split <;> simp
    rw [e0, e1]
    have hc64 : whX xs k ≤ 64 := by
      have := hM.l2
      by_cases h0 : whX xs k = 0
      · omega
      · have := (whX_some h0).1
        omega
    rw [decide_eq_true hk] at HN
    clear hM hR hw e0 e1 hk hk2
    generalize whX xs k = c at *
    go_enter Tryd.func66, Tryd.ntmps66
    by_cases h0 : c = 0
    · subst h0
      go_wp2_with (first | (go_at_call 81; refine HN.out.mono ?_; rintro e w2 ⟨rfl, rfl⟩) | (go_at_call 82; refine HP.out.mono ?_; rintro e w2 ⟨rfl, rfl⟩))
      (first | go_ret | go_ret2)
      exact ⟨rfl, rfl⟩
    · have h0' : ((c : Int) = 0) = False := by simp; exact h0
      rw [if_neg h0, if_neg h0]
      go_wp2_with (first | (go_at_call 81; refine HN.out.mono ?_; rintro e w2 ⟨rfl, rfl⟩) | (go_at_call 82; refine HP.out.mono ?_; rintro e w2 ⟨rfl, rfl⟩))
      (first | go_ret | go_ret2)
      exact ⟨by first | rfl | simp, rfl⟩
  · have e0 : outE n xs k = 2 := by unfold outE; rw [if_pos hk]
    have e1 : whV n xs k = 0 := by unfold whV; rw [e0]; rfl
    rw [e0, e1]
    rw [decide_eq_false hk] at HN
    clear hM hR e0 e1 hk
    go_enter Tryd.func66, Tryd.ntmps66
    go_wp2_with (first | (go_at_call 81; refine HN.out.mono ?_; rintro e w2 ⟨rfl, rfl⟩))
    (first | go_ret | go_ret2)
    exact ⟨rfl, rfl⟩

theorem some_any (h : LrV w x p n xs) (i : Int) : Calls Tryd.prog 91 #[.pointer (some ⟨x, 0, none⟩), .int .i64 i] w fun e w' => e = .returned (.int .i64 (someE xs i)) ∧ w' = w := by
  have hlen := h.len i.toNat
  obtain ⟨A, B, C, len, hM, hR⟩ := h
  have HH := Lib.hid (hasList_any hM i)
  by_cases hi : hasL xs i
  · obtain ⟨i, rfl⟩ : ∃ m : Nat, i = (m : Int) := ⟨i.toNat, by have := hi.1; omega⟩
    have hi2 : i < xs.length := by have := hi.2; omega
    have hl := hR.ln i hi2
    have h64 := hM.l2
    have h65 := hM.n2
    have hce := hM.ce (i := i) (by omega)
    rw [hl] at hce
    have e0 : someE xs (i : Int) = if (xs.getD i []).length = 0 then 4 else 0 := by
      unfold someE; rw [if_neg (by simpa using hi)]; simp
    rw [e0]
    rw [decide_eq_true (show 0 ≤ (i : Int) ∧ (i : Int) < (xs.length : Nat) from hi)] at HH
    have h66 : i < 64 := by omega
    have h67 : (xs.getD i []).length ≤ 65536 := by simpa using Nat.le_trans hlen h65
    clear hM hR hl hlen h64 h65 e0 hi hi2
    generalize (xs.getD i []).length = c at *
    go_enter Tryd.func91, Tryd.ntmps91
    by_cases h0 : c = 0
    · subst h0
      go_wp2_with (first | (go_at_call 80; refine HH.out.mono ?_; rintro e w2 ⟨rfl, rfl⟩))
      (first | go_ret | go_ret2)
      exact ⟨rfl, rfl⟩
    · have h0' : ((c : Int) = 0) = False := by simp; exact h0
      rw [if_neg h0]
      go_wp2_with (first | (go_at_call 80; refine HH.out.mono ?_; rintro e w2 ⟨rfl, rfl⟩))
      (first | go_ret | go_ret2)
      exact ⟨rfl, rfl⟩
  · have e0 : someE xs i = 2 := by unfold someE; rw [if_pos hi]
    rw [e0]
    rw [decide_eq_false (show ¬ (0 ≤ i ∧ i < (xs.length : Nat)) from hi)] at HH
    clear hM hR e0 hi hlen
    go_enter Tryd.func91, Tryd.ntmps91
    go_wp2_with (first | (go_at_call 80; refine HH.out.mono ?_; rintro e w2 ⟨rfl, rfl⟩))
    (first | go_ret | go_ret2)
    exact ⟨rfl, rfl⟩
/-- The first and the last one of a list that has some, as its circle tells them. -/
theorem ends_of (h : LrV w x p n xs) {i : Nat} (hi : i < xs.length) (hne : xs.getD i [] ≠ []) :
    w.cell? ⟨p, aC (n + i), none⟩ = some (.int .i64 ((xs.getD i []).getLastD 0 : Nat)) ∧ w.cell? ⟨p, aC (n + i) + 64, none⟩ = some (.int .i64 ((xs.getD i []).headD 0 : Nat)) := by
  obtain ⟨A, B, C, len, hM, hR⟩ := h
  have h1 := hM.ca (a := n + i) (by omega)
  have h2 := hM.cb (a := n + i) (by omega)
  rw [hR.last hi] at h1
  rw [hR.first hi] at h2
  cases e : xs.getD i [] with
  | nil => exact absurd e hne
  | cons y l =>
    rw [e] at h2
    refine ⟨?_, h2⟩
    rw [h1]
    simp only [e]
    rw [List.getLast_cons (by simp), List.getLastD_eq_getLast?, List.getLast?_eq_some_getLast (by simp)]
    rfl
theorem oldest_lr (h : LrV w x p n xs) (i : Int) : Calls Tryd.prog 79 #[.pointer (some ⟨x, 0, none⟩), .int .i64 i] w fun e w' => e = .returned (.tuple #[.int .i64 (oldV xs i), .int .i64 (someE xs i)]) ∧ w' = w := by
  have HS := Lib.hid (some_any h i)
  have hends := fun (j : Nat) (hj : j < xs.length) (hne : xs.getD j [] ≠ []) => (ends_of h hj hne).1
  obtain ⟨A, B, C, len, hM, hR⟩ := h
  by_cases he : someE xs i = 0
  · have hi : hasL xs i := by unfold someE at he; split at he; cases he; rename_i h; exact Decidable.not_not.1 h
    have hne : xs.getD i.toNat [] ≠ [] := by unfold someE at he; rw [if_neg (by simpa using hi)] at he; intro e; rw [if_pos e] at he; cases he
    obtain ⟨i, rfl⟩ : ∃ m : Nat, i = (m : Int) := ⟨i.toNat, by have := hi.1; omega⟩
    have hi2 : i < xs.length := by have := hi.2; omega
    rw [show (i : Int).toNat = i by simp] at hne
    have hc := hends i hi2 hne
    have e1 : oldV xs (i : Int) = ((xs.getD i []).getLastD 0 : Nat) := by unfold oldV; rw [if_pos he]; simp
    have HE := Lib.hid (end_any hM i hi2)
    have HA := Lib.hid (ahead_any hM (n + i) (by omega))
    rw [e1, he]
    rw [he] at HS
    clear hM hR hends e1 he hi hne
    generalize (xs.getD i []).getLastD 0 = v at *
    generalize aC (n + i) = c at *
    go_enter Tryd.func79, Tryd.ntmps79
    go_wp2_with (first | (go_at_call 91; refine HS.out.mono ?_; rintro e w2 ⟨rfl, rfl⟩) | (go_at_call 53; refine HE.out.mono ?_; rintro e w2 ⟨rfl, rfl⟩) | (go_at_call 73; refine HA.out.mono ?_; rintro e w2 ⟨rfl, rfl⟩))
    (first | go_ret | go_ret2)
    exact ⟨rfl, rfl⟩
  · have e1 : oldV xs i = 0 := by unfold oldV; rw [if_neg he]
    rw [e1]
    clear hM hR hends e1
    generalize someE xs i = v at *
    go_enter Tryd.func79, Tryd.ntmps79
    go_wp2_with (first | (go_at_call 91; refine HS.out.mono ?_; rintro e w2 ⟨rfl, rfl⟩))
    (first | go_ret | go_ret2)
    exact ⟨rfl, rfl⟩
end
end Go.Proofs.YtjhggcdoahnmkaaDoor

/- Lists in memory: Push, Touch, Remove. -/
namespace Go.Proofs.YtjhggcdoahnmkaaDoor
open Go.RowKit
attribute [local go_sem] Oper.semAt_some
set_option linter.unusedVariables false
set_option linter.unusedSimpArgs false
set_option maxRecDepth 100000
section
variable {w w' : World} {x p n : Nat} {xs : List (List Nat)}
/-- putIn, takeOut, by the lists alone. -/
theorem put_lr (h : LrV w x p n xs) (i k : Nat) (hi : i < xs.length) (hk : k < n) (h0 : whX xs k = 0) : Calls Tryd.prog 68 #[.pointer (some ⟨x, 0, none⟩), .int .i64 (i : Nat), .int .i64 (k : Nat)] w
    fun e w' => e = .returned (.tuple #[]) ∧ LrV w' x p n (putX xs i k) ∧ Kept (fun b => b ≠ x ∧ b ≠ p) w w' := by
  have hlen := h.len i
  obtain ⟨A, B, C, len, hM, hR⟩ := h
  have hw := hR.wh hk
  have hb : B (n + i) < n + xs.length := by
    rw [hR.first hi]
    cases e : xs.getD i [] with
    | nil => simp; exact hi
    | cons y l => have := hR.lt i y (by rw [e]; simp); simp; omega
  refine (putIn_any hM i k _ hi hk rfl hb (by rw [hR.ln i hi]; exact hlen)).mono ?_
  rintro e w2 ⟨rfl, h2, h3⟩
  exact ⟨rfl, ⟨_, _, _, _, by rw [putX_len]; exact h2, hR.put hi hk (by omega) rfl⟩, h3⟩
theorem out_lr (h : LrV w x p n xs) (k i : Nat) (hi : whX xs k = i + 1) : Calls Tryd.prog 67 #[.pointer (some ⟨x, 0, none⟩), .int .i64 (i : Nat), .int .i64 (k : Nat)] w
    fun e w' => e = .returned (.tuple #[]) ∧ LrV w' x p n (outX xs k) ∧ Kept (fun b => b ≠ x ∧ b ≠ p) w w' := by
  have hlen := h.len i
  obtain ⟨A, B, C, len, hM, hR⟩ := h
  obtain ⟨h1, h2⟩ := whX_some (xs := xs) (x := k) (by omega)
  rw [hi, Nat.add_sub_cancel] at h1 h2
  have hk := hR.lt i k h2
  obtain ⟨r1, r2, r3⟩ := hR.out h1 h2 rfl rfl
  have hpos : 1 ≤ (xs.getD i []).length := by
    cases e : xs.getD i [] with
    | nil => rw [e] at h2; cases h2
    | cons y l => simp
  have hl := hR.ln i h1
  rw [hl] at r1
  refine (takeOut_any hM i k _ _ _ h1 hk rfl rfl r2 r3 hl ⟨hpos, hlen⟩).mono ?_
  rintro e w2 ⟨rfl, h2, h3⟩
  exact ⟨rfl, ⟨_, _, _, _, by rw [outX_len]; exact h2, r1⟩, h3⟩
theorem whX_out (xs : List (List Nat)) (k : Nat) : whX (outX xs k) k = 0 := by
  rw [whX_zero]
  intro i
  rw [outX_getD]
  simp
theorem ofE {n : Nat} {xs : List (List Nat)} {k : Int} (h : outE n xs k = 0) : ∃ (m i : Nat), k = m ∧ m < n ∧ whX xs m = i + 1 := by
  unfold outE at h
  split at h
  · cases h
  · rename_i hn
    split at h
    · cases h
    · rename_i h0
      have hn := Decidable.not_not.1 hn
      exact ⟨k.toNat, whX xs k.toNat - 1, by have := hn.1; omega, by have := hn.1; have := hn.2; omega, by omega⟩
theorem remove_lr (h : LrV w x p n xs) (k : Int) : Calls Tryd.prog 54 #[.pointer (some ⟨x, 0, none⟩), .int .i64 k] w
    fun e w' => e = .returned (.int .i64 (outE n xs k)) ∧ LrV w' x p n (remX n xs k) ∧ Kept (fun b => b ≠ x ∧ b ≠ p) w w' := by
  have HW := Lib.hid (where_any_l h k)
  have HX := Lib.hid h
  by_cases he : outE n xs k = 0
  · obtain ⟨m, i, rfl, hm, hi⟩ := ofE he
    have HO := Lib.hid (out_lr h m i hi)
    have e1 : whV n xs (m : Int) = (i : Int) := by unfold whV; rw [if_pos he]; simp [hi]
    have e2 : remX n xs (m : Int) = outX xs m := by unfold remX; rw [if_pos he]; simp
    rw [he, e2]
    rw [e1, he] at HW
    clear h e1 e2 he hi
    go_enter Tryd.func54, Tryd.ntmps54
    go_wp2_with fail
    refine HW.out.mono ?_
    rintro e w2 ⟨rfl, rfl⟩
    go_wp2_with fail
    refine HO.out.mono ?_
    rintro e w3 ⟨rfl, h2, h3⟩
    have H2 := Lib.hid h2
    have H3 := Lib.hid h3
    clear h2 h3
    go_wp2
    (first | go_ret | go_ret2)
    exact ⟨rfl, H2.out, H3.out⟩
  · have e1 : whV n xs k = 0 := by unfold whV; rw [if_neg he]
    have e2 : remX n xs k = xs := by unfold remX; rw [if_neg he]
    rw [e2]
    rw [e1] at HW
    clear h e1 e2
    generalize outE n xs k = v at *
    go_enter Tryd.func54, Tryd.ntmps54
    go_wp2_with fail
    refine HW.out.mono ?_
    rintro e w2 ⟨rfl, rfl⟩
    go_wp2
    (first | go_ret | go_ret2)
    exact ⟨rfl, HX.out, Kept.refl _ _⟩
theorem touch_lr (h : LrV w x p n xs) (k : Int) : Calls Tryd.prog 45 #[.pointer (some ⟨x, 0, none⟩), .int .i64 k] w
    fun e w' => e = .returned (.int .i64 (outE n xs k)) ∧ LrV w' x p n (touchX n xs k) ∧ Kept (fun b => b ≠ x ∧ b ≠ p) w w' := by
  have HW := Lib.hid (where_any_l h k)
  have HX := Lib.hid h
  by_cases he : outE n xs k = 0
  · obtain ⟨m, i, rfl, hm, hi⟩ := ofE he
    have hil := (whX_some (xs := xs) (x := m) (by omega)).1
    rw [hi, Nat.add_sub_cancel] at hil
    have HO := Lib.hid (out_lr h m i hi)
    have HP := Lib.hid (fun (W : World) (hW : LrV W x p n (outX xs m)) => put_lr hW i m (by rw [outX_len]; exact hil) hm (whX_out xs m))
    have e1 : whV n xs (m : Int) = (i : Int) := by unfold whV; rw [if_pos he]; simp [hi]
    have e2 : touchX n xs (m : Int) = putX (outX xs m) i m := by unfold touchX; rw [if_pos he]; simp [hi]
    rw [he, e2]
    rw [e1, he] at HW
    clear h e1 e2 he hi
    go_enter Tryd.func45, Tryd.ntmps45
    go_wp2_with fail
    refine HW.out.mono ?_
    rintro e w2 ⟨rfl, rfl⟩
    go_wp2_with fail
    refine HO.out.mono ?_
    rintro e w3 ⟨rfl, h2, h3⟩
    have HP2 := Lib.hid (HP.out _ h2)
    have H3 := Lib.hid h3
    clear h2 h3
    go_wp2_with fail
    refine HP2.out.mono ?_
    rintro e w4 ⟨rfl, h2, h3⟩
    have H2 := Lib.hid h2
    have H4 := Lib.hid (H3.out.trans h3 fun _ h => h)
    clear h2 h3
    go_wp2
    (first | go_ret | go_ret2)
    exact ⟨rfl, H2.out, H4.out⟩
  · have e1 : whV n xs k = 0 := by unfold whV; rw [if_neg he]
    have e2 : touchX n xs k = xs := by unfold touchX; rw [if_neg he]
    rw [e2]
    rw [e1] at HW
    clear h e1 e2
    generalize outE n xs k = v at *
    go_enter Tryd.func45, Tryd.ntmps45
    go_wp2_with fail
    refine HW.out.mono ?_
    rintro e w2 ⟨rfl, rfl⟩
    go_wp2
    (first | go_ret | go_ret2)
    exact ⟨rfl, HX.out, Kept.refl _ _⟩
theorem push_lr (h : LrV w x p n xs) (i k : Int) : Calls Tryd.prog 61 #[.pointer (some ⟨x, 0, none⟩), .int .i64 i, .int .i64 k] w
    fun e w' => e = .returned (.int .i64 (pushE n xs i k)) ∧ LrV w' x p n (pushX n xs i k) ∧ Kept (fun b => b ≠ x ∧ b ≠ p) w w' := by
  have HX := Lib.hid h
  have hput := fun i k => put_lr h i k
  obtain ⟨A, B, C, len, hM, hR⟩ := h
  have HH := Lib.hid (hasList_any hM i)
  have HN := Lib.hid (hasNumber_any hM k)
  by_cases hi : hasL xs i
  · rw [decide_eq_true (show 0 ≤ i ∧ i < (xs.length : Nat) from hi)] at HH
    by_cases hk : hasN n k
    · rw [decide_eq_true hk] at HN
      obtain ⟨i, rfl⟩ : ∃ m : Nat, i = (m : Int) := ⟨i.toNat, by have := hi.1; omega⟩
      obtain ⟨k, rfl⟩ : ∃ m : Nat, k = (m : Int) := ⟨k.toNat, by have := hk.1; omega⟩
      have hi2 : i < xs.length := by have := hi.2; omega
      have hk2 : k < n := by have := hk.2; omega
      have hcc := hM.cc (a := k) (by omega)
      rw [← hR.wh hk2] at hcc
      have HP := Lib.hid (plist_any hM k (by omega))
      have e0 : pushE n xs (i : Int) (k : Int) = if whX xs k = 0 then 0 else 5 := by unfold pushE; rw [if_neg (by simp [hi, hk])]; by_cases h0 : whX xs k = 0 <;> simp [h0]
      by_cases h0 : whX xs k = 0
      · have e1 : pushX n xs (i : Int) (k : Int) = putX xs i k := by
          unfold pushX; rw [e0, if_pos h0, if_pos rfl]
          simp only [Int.toNat_natCast]
          rw [outX_none (whX_zero.1 h0)]
        rw [e0, e1, if_pos h0]
        rw [h0] at hcc
        have HPI := Lib.hid (hput i k hi2 hk2 h0)
        clear hM hR e0 e1 hi hk hput h0
        go_enter Tryd.func61, Tryd.ntmps61
        go_wp2_with (first | (go_at_call 80; refine HH.out.mono ?_; rintro e w2 ⟨rfl, rfl⟩) | (go_at_call 81; refine HN.out.mono ?_; rintro e w2 ⟨rfl, rfl⟩) | (go_at_call 82; refine HP.out.mono ?_; rintro e w2 ⟨rfl, rfl⟩) | (go_at_call 68; refine HPI.out.mono ?_; rintro e w3 ⟨rfl, h2, h3⟩; have H2 := Lib.hid h2; have H3 := Lib.hid h3; clear h2 h3))
        (first | go_ret | go_ret2)
        exact ⟨rfl, H2.out, H3.out⟩
      · have e1 : pushX n xs (i : Int) (k : Int) = xs := by unfold pushX; rw [e0, if_neg h0, if_neg (by decide)]
        rw [e0, e1, if_neg h0]
        have h0' : ((whX xs k : Int) != 0) = true := by simp; exact h0
        clear hM hR e0 e1 hi hk hput h0
        generalize whX xs k = c at *
        go_enter Tryd.func61, Tryd.ntmps61
        go_wp2_with (first | (go_at_call 80; refine HH.out.mono ?_; rintro e w2 ⟨rfl, rfl⟩) | (go_at_call 81; refine HN.out.mono ?_; rintro e w2 ⟨rfl, rfl⟩) | (go_at_call 82; refine HP.out.mono ?_; rintro e w2 ⟨rfl, rfl⟩))
        (first | go_ret | go_ret2)
        exact ⟨rfl, HX.out, Kept.refl _ _⟩
    · rw [decide_eq_false hk] at HN
      have e0 : pushE n xs i k = 2 := by unfold pushE; rw [if_pos (.inr hk)]
      have e1 : pushX n xs i k = xs := by unfold pushX; rw [e0, if_neg (by decide)]
      rw [e0, e1]
      clear hM hR e0 e1 hi hk hput
      go_enter Tryd.func61, Tryd.ntmps61
      go_wp2_with (first | (go_at_call 80; refine HH.out.mono ?_; rintro e w2 ⟨rfl, rfl⟩) | (go_at_call 81; refine HN.out.mono ?_; rintro e w2 ⟨rfl, rfl⟩))
      (first | go_ret | go_ret2)
      exact ⟨rfl, HX.out, Kept.refl _ _⟩
  · rw [decide_eq_false (show ¬ (0 ≤ i ∧ i < (xs.length : Nat)) from hi)] at HH
    have e0 : pushE n xs i k = 2 := by unfold pushE; rw [if_pos (.inl hi)]
    have e1 : pushX n xs i k = xs := by unfold pushX; rw [e0, if_neg (by decide)]
    rw [e0, e1]
    clear hM hR e0 e1 hi hput
    go_enter Tryd.func61, Tryd.ntmps61
    go_wp2_with (first | (go_at_call 80; refine HH.out.mono ?_; rintro e w2 ⟨rfl, rfl⟩))
    (first | go_ret | go_ret2)
    exact ⟨rfl, HX.out, Kept.refl _ _⟩
end
end Go.Proofs.YtjhggcdoahnmkaaDoor
