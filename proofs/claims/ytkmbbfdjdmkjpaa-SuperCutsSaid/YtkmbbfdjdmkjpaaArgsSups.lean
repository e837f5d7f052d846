/- Slices of what is known of a disk, coming in. -/
import Derived.Test.YtkmbbfdjdmkjpaaArgsSup
import Derived.Test.YtkmbbfdjdmkjpaaBks
namespace Go.Proofs.Ytkmbbfdjdmkjpaa
open Go.RowKit Go.ChangeShapes Go.WideShapes Go.Deep Go.Joins
set_option linter.unusedVariables false

/-- What is known of a disk, as six numbers. -/
structure Sup where
  a : Int
  b : Int
  g : Int
  r : Int
  v : Int
  f : Int
def Sup.zero : Sup := ⟨0, 0, 0, 0, 0, 0⟩
def Sup.c (s : Sup) : Array Value := supC s.a s.b s.g s.r s.v s.f
def Sup.In (s : Sup) : Prop := InS s.a s.b s.g s.r s.v s.f
theorem Sup.size (s : Sup) : s.c.toList.length = 6 := rfl

/-- A slice of them that came in. -/
def IsSups (w : World) (a : Option Addr) (len cap : Nat) (zs : List Sup) : Prop :=
  (a = none ∧ len = 0 ∧ cap = 0 ∧ zs = []) ∨
  ∃ x : Addr, a = some x ∧ len ≤ cap ∧ cap ≤ maxLen ∧ zs.length = cap ∧ ∀ i, i < cap → (zs.getD i Sup.zero).In ∧ ∀ j, j < 6 → w.cell? (x.add (i * 6 + j)) = (zs.getD i Sup.zero).c.toList[j]?

section
variable {H : Type} {enc : TypeId × Value → H} {w : World} {held : Bool} {base : Nat}

theorem open_sups {t : TypeId} {fuel : Nat} {cs : List Value} {x : DataW H × List MemPlace} (ht : Try.prog.underlying t = some (.slice 24))
    (h : DataW.trod enc Try.prog w 0 (fun _ => true) held fuel t cs = some x) :
    ∃ a len cap zs, cs = [.slice a len cap] ∧ IsSups w a len cap zs ∧ (cap = 0 ∨ ∃ el sp : List (DataW H), x.1 = .slice el sp ∧ el.length + sp.length = cap) := by
  have hc6 : Try.prog.cellsOf 24 = 6 := by kernel_rfl
  rcases open_slice ht h with ⟨rfl, _⟩ | ⟨a, len, cap, m, n, D, Pl, rfl, hb, hl, hm, hmm, rfl, hi⟩
  · exact ⟨none, 0, 0, [], rfl, .inl ⟨rfl, rfl, rfl, rfl⟩, .inl rfl⟩
  · simp only [if_true] at hmm
    subst hmm
    have key : ∀ i, i < m → ∃ z : Sup, z.In ∧ ∀ j, j < 6 → w.cell? (a.add (i * 6 + j)) = z.c.toList[j]? := by
      intro i him
      obtain ⟨cs', hc, ht'⟩ := hi i him
      rw [hc6] at hc
      obtain ⟨_, hcl, hat⟩ := World.cells?_some hc
      obtain ⟨a', b, g, r, v, f, rfl, hin⟩ := trod_sup hcl ht'
      refine ⟨⟨a', b, g, r, v, f⟩, hin, fun j hj => ?_⟩
      have h1 := hat j hj
      rw [Go.Deep.add_add] at h1
      exact h1
    have : ∀ k, k ≤ m → ∃ zs : List Sup, zs.length = k ∧ ∀ i, i < k → (zs.getD i Sup.zero).In ∧ ∀ j, j < 6 → w.cell? (a.add (i * 6 + j)) = (zs.getD i Sup.zero).c.toList[j]? := by
      intro k
      induction k with
      | zero => intro _; exact ⟨[], rfl, fun i hi => by omega⟩
      | succ k ih =>
        intro hk
        obtain ⟨zs, hzl, hz⟩ := ih (by omega)
        obtain ⟨z, h1, h2⟩ := key k (by omega)
        refine ⟨zs ++ [z], by simp [hzl], fun i hi => ?_⟩
        by_cases e : i < k
        · have e2 : (zs ++ [z]).getD i Sup.zero = zs.getD i Sup.zero := by simp [List.getD, List.getElem?_append_left (show i < zs.length by omega)]
          rw [e2]
          exact hz i e
        · obtain rfl : i = k := by omega
          have e2 : (zs ++ [z]).getD i Sup.zero = z := by simp [List.getD, List.getElem?_append_right (show zs.length ≤ i by omega), hzl]
          rw [e2]
          exact ⟨h1, h2⟩
    obtain ⟨zs, hzl, hz⟩ := this m (Nat.le_refl _)
    exact ⟨some a, len, m, zs, rfl, .inr ⟨a, rfl, hl, hm, hzl, hz⟩, .inr ⟨_, _, rfl, by simp; omega⟩⟩
end

/-- A slice of them that reads as a list; its block is in S. -/
def RowS (w : World) (S : Nat → Prop) (A : Option Addr) (n : Nat) (zs : List Sup) : Prop :=
  zs.length = n ∧ (0 < n → ∃ b off, A = some ⟨b, off, none⟩ ∧ S b ∧ ∀ i, i < n → w.rangeAt b (off + i * 6) (zs.getD i Sup.zero).c.toList)
theorem RowS.keep {w w' : World} {S : Nat → Prop} {A : Option Addr} {n : Nat} {zs : List Sup} (h : RowS w S A n zs) (hk : ∀ p : Addr, S p.block → w'.cell? p = w.cell? p) : RowS w' S A n zs :=
  ⟨h.1, fun hn => by
    obtain ⟨b, off, e, hb, hc⟩ := h.2 hn
    exact ⟨b, off, e, hb, fun i hi j v hv => by rw [hk _ hb]; exact hc i hi j v hv⟩⟩
theorem sups_of {w : World} {a : Option Addr} {len cap : Nat} {zs : List Sup} (h : IsSups w a len cap zs) :
    RowS w (· < w.heap.size) a len (zs.take len) ∧ (∀ i, i < len → ((zs.take len).getD i Sup.zero).In) ∧ len ≤ cap ∧ (a = none → cap = 0) ∧ len ≤ maxLen := by
  rcases h with ⟨rfl, rfl, rfl, rfl⟩ | ⟨x, rfl, hl, hm, hz, hc⟩
  · exact ⟨⟨rfl, fun h => absurd h (by omega)⟩, fun i hi => absurd hi (by omega), Nat.le_refl _, fun _ => rfl, Nat.zero_le _⟩
  · have hget : ∀ i, i < len → (zs.take len).getD i Sup.zero = zs.getD i Sup.zero := fun i hi => by simp [List.getD, List.getElem?_take, hi]
    refine ⟨⟨by simp; omega, fun hn => ?_⟩, fun i hi => ?_, hl, (by intro h; cases h), by omega⟩
    · obtain ⟨b, off, spot⟩ := x
      have h0 := (hc 0 (by omega)).2 0 (by omega)
      have h0' : w.cell? ⟨b, off, spot⟩ = some (.int .i64 (zs.getD 0 Sup.zero).a) := by simpa [Addr.add, Sup.c, supC] using h0
      have hspot : spot = none := World.cell?_spot h0'
      subst hspot
      refine ⟨b, off, rfl, block_lt_of_cell h0', fun i hi j v hv => ?_⟩
      rw [hget i hi] at hv
      have hj : j < 6 := by
        have := (List.getElem?_eq_some_iff.1 hv).1
        rwa [Sup.size] at this
      have h2 := (hc i (by omega)).2 j hj
      rw [add_plain] at h2
      rw [Nat.add_assoc, h2, hv]
    · rw [hget i hi]
      exact (hc i (by omega)).1

end Go.Proofs.Ytkmbbfdjdmkjpaa
