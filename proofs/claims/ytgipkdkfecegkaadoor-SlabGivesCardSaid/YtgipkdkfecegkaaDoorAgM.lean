/- Two rows of numbers of the call's own, beside an arena. -/
import Derived.Test.YtgipkdkfecegkaaDoorWakes11
import Derived.Test.YtgipkdkfecegkaaDoorAgP
import Derived.Test.YtgipkdkfecegkaaDoorArgs
namespace Go.Proofs.YtgipkdkfecegkaaDoor
open Go.RowKit Go.Shelf PgM
set_option linter.unusedVariables false
set_option linter.unusedSimpArgs false
theorem info_int : (Tryd.prog.info? 3).map (fun i => (i.zero, i.size, i.bytes)) = some (some (.int .i64 0), 1, 8) := by kernel_rfl
theorem kept_grown {w w' : World} {g : Nat} (h : Kept (fun b => b < w.heap.size ∧ b ≠ g) w w') : w.grownBy w' (some g) :=
  ⟨h.os, h.tape, h.output, h.size, fun k hk hne => h.block k ⟨hk, fun e => hne (by rw [e])⟩⟩
theorem ArM.page {w : World} {x g : Nat} {ps : List Pg} (h : ArM w x g ps) : ∃ cs, Blk w g 60 cs := by
  obtain ⟨⟨cap, X, h1, h2⟩, _⟩ := h
  exact ⟨_, h2⟩
theorem ArM.grown {w w' : World} {x g : Nat} {ps : List Pg} {B n : Nat} {v : Value} {xs : List Value} (h : ArM w x g ps) (ho : w.ownsRow B 3 1 v n xs) (hB : 0 < B) (hg : w.grownBy w' v.ownBlock) : ArM w' x g ps := by
  obtain ⟨⟨cap, X, h1, h2⟩, h3, h4, h5, h6, h7⟩ := h
  have hne : ∀ {b : Nat} {t : TypeId} {cs : Array Value}, Blk w b t cs → 3 ≠ t → some b ≠ v.ownBlock := fun hb ht e => own_blk_ne ho hb ht e.symm
  refine ⟨⟨cap, X, h1.grown hg (hne h1 (by decide)), h2.grown hg (hne h2 (by decide))⟩, h3, h4, h5, h6.keep hg.size (fun p hp => World.cell?_of_block (hg.block p.block (by rw [hp]; exact h6.1) (fun e => ?_))), h7⟩
  obtain ⟨cur, hc, hb⟩ := ownsRow_block ho e.symm
  omega
/-- The row that is numbers, and the other one; they lie apart. -/
structure ApO (B : Nat) (v u : Value) (cs os : List Int) (W : World) : Prop where
  o7 : W.ownsRow B 3 1 v cs.length (cs.map (Value.int .i64))
  o8 : W.ownsRow B 3 1 u os.length (os.map (Value.int .i64))
  ds : ∀ g, v.ownBlock = some g → u.ownBlock ≠ some g
theorem ApO.grown {B : Nat} {v u : Value} {cs os : List Int} {W W' : World} {row : Option Nat} (h : ApO B v u cs os W) (hg : W.grownBy W' row) (h7 : v.ownBlock = none ∨ v.ownBlock ≠ row) (h8 : u.ownBlock = none ∨ u.ownBlock ≠ row) : ApO B v u cs os W' :=
  ⟨h.o7.kept hg h7, h.o8.kept hg h8, h.ds⟩
theorem ApO.kept {B : Nat} {v u : Value} {cs os : List Int} {W W' : World} {x g : Nat} {ps : List Pg} (h : ApO B v u cs os W) (ha : ArM W x g ps) (hk : Kept (fun b => b < W.heap.size ∧ b ≠ g) W W') : ApO B v u cs os W' := by
  obtain ⟨cs', hp⟩ := ha.page
  exact h.grown (kept_grown hk) (.inr (own_blk_ne h.o7 hp (by decide))) (.inr (own_blk_ne h.o8 hp (by decide)))
theorem ApO.belowAll {B : Nat} {v u : Value} {cs os : List Int} {W W' : World} (h : ApO B v u cs os W) (hb : Below W.heap.size W W') : ApO B v u cs os W' :=
  h.grown (row := none) (below_grown hb) (by cases hv : v.ownBlock <;> simp) (by cases hv : u.ownBlock <;> simp)
theorem ApO.start (B : Nat) (W : World) : ApO B (.slice none 0 0) (.slice none 0 0) [] [] W := ⟨World.ownsRow_nil W B _ _, World.ownsRow_nil W B _ _, fun g h => by cases h⟩
/-- Behind an append to the first. -/
theorem ApO.one {B : Nat} {v v' u : Value} {cs os : List Int} {c : Int} {W W' : World} (h : ApO B v u cs os W) (ho : W'.ownsRow B 3 1 v' (cs.length + 1) (cs.map (Value.int .i64) ++ [c].map (Value.int .i64))) (hg : W.grownBy W' v.ownBlock) (hf : v'.ownBlock = v.ownBlock ∨ v'.ownBlock = some W.heap.size) : ApO B v' u (cs ++ [c]) os W' := by
  refine ⟨by simpa using ho, h.o8.kept hg ?_, fun g hv hu => ?_⟩
  · cases hu : u.ownBlock with
    | none => exact .inl rfl
    | some k => exact .inr fun e => h.ds k e.symm hu
  · rcases hf with e | e
    · exact h.ds g (by rw [← e]; exact hv) hu
    · rw [e] at hv
      have := (h.o8.lt g hu).2
      injection hv with hv
      omega
/-- Behind an append to the second. -/
theorem ApO.two {B : Nat} {v u u' : Value} {cs os : List Int} {c : Int} {W W' : World} (h : ApO B v u cs os W) (ho : W'.ownsRow B 3 1 u' (os.length + 1) (os.map (Value.int .i64) ++ [c].map (Value.int .i64))) (hg : W.grownBy W' u.ownBlock) (hf : u'.ownBlock = u.ownBlock ∨ u'.ownBlock = some W.heap.size) : ApO B v u' cs (os ++ [c]) W' := by
  refine ⟨h.o7.kept hg ?_, by simpa using ho, fun g hv hu => ?_⟩
  · cases hv : v.ownBlock with
    | none => exact .inl rfl
    | some k => exact .inr fun e => h.ds k hv e.symm
  · rcases hf with e | e
    · exact h.ds g hv (by rw [← e]; exact hu)
    · rw [e] at hu
      have := (h.o7.lt g hv).2
      injection hu with hu
      omega
/-- An element of such a row. -/
theorem own_cell {B : Nat} {v : Value} {cs : List Int} {W : World} (h : W.ownsRow B 3 1 v cs.length (cs.map (Value.int .i64))) {j : Nat} (hj : j < cs.length) :
    ∃ g cap, v = .slice (some ⟨g, 0, none⟩) cs.length cap ∧ W.cell? ⟨g, j, none⟩ = some (.int .i64 (cs.getD j 0)) := by
  obtain ⟨A, cap, rfl, _, _, hr⟩ := rowG_own 0 h
  obtain ⟨b, off, rfl, _, hc⟩ := hr.2 (by omega)
  rcases h.2 with ⟨h0, _⟩ | ⟨g', cap', cur, h0, _⟩
  · cases h0
  · cases h0
    have := hc j hj
    rw [Nat.zero_add] at this
    exact ⟨_, _, rfl, this⟩
/-- What an argument that is a slice of ints gives. -/
theorem rowInt_of {w : World} {a : Option Addr} {len cap : Nat} {zs : List Int}
    (h : (a = none ∧ len = 0 ∧ cap = 0 ∧ zs = []) ∨
      ∃ x : Addr, a = some x ∧ len ≤ cap ∧ cap ≤ maxLen ∧ zs.length = cap ∧ (∀ i, i < zs.length → w.cell? (x.add i) = some (.int .i64 (zs.getD i 0))) ∧ ∀ n ∈ zs, (Lit.int .i64 n).wf = true) :
    RowI .i64 w (· < w.heap.size) a len (zs.take len) ∧ len ≤ 9223372036854775807 := by
  refine ⟨(row_of h (Nat.le_refl _)).toG, ?_⟩
  rcases h with ⟨_, rfl, _, _⟩ | ⟨_, _, hl, hm, _⟩
  · omega
  · unfold maxLen at hm; omega
/-- What was given, and how many bytes were asked. -/
structure AgI (ps : List Pg) (cs os : List Int) : Prop where
  len : cs.length = os.length
  all : ∀ j, j < cs.length → findE ps (cs.getD j 0) = 0 ∧ clsE (os.getD j 0) = 0 ∧ whereK ps (cs.getD j 0) = clsK (os.getD j 0)
theorem AgI.nil (ps : List Pg) : AgI ps [] [] := ⟨rfl, fun j h => absurd h (by simp)⟩
theorem AgI.give {ps : List Pg} {cs os : List Int} (h : AgI ps cs os) (hi : InvP ps) (n : Int) : AgI (giveX ps n) cs os := by
  by_cases he : giveE ps n = 0
  · obtain ⟨a, hg⟩ := given_of hi he
    refine ⟨h.len, fun j hj => ?_⟩
    obtain ⟨h1, h2, h3⟩ := h.all j hj
    obtain ⟨h4, h5⟩ := hg.keeps h1
    exact ⟨h4, h2, h5.trans h3⟩
  · rw [giveX_no he]; exact h
theorem AgI.add {ps : List Pg} {cs os : List Int} (h : AgI ps cs os) (hi : InvP ps) {n : Int} (he : giveE ps n = 0) : AgI (giveX ps n) (cs ++ [(giveN ps n : Int)]) (os ++ [n]) := by
  obtain ⟨a, hg⟩ := given_of hi he
  obtain ⟨n1, n2, _⟩ := hg.new_
  have hl := h.len
  refine ⟨by simp [hl], fun j hj => ?_⟩
  by_cases e : j < cs.length
  · have h9 := (h.give hi n).all j e
    have e1 : (cs ++ [(giveN ps n : Int)]).getD j 0 = cs.getD j 0 := by simp [List.getD, List.getElem?_append_left e]
    have e2 : (os ++ [n]).getD j 0 = os.getD j 0 := by simp [List.getD, List.getElem?_append_left (show j < os.length by omega)]
    rw [e1, e2]
    exact h9
  · have ej : j = cs.length := by simp at hj; omega
    have e1 : (cs ++ [(giveN ps n : Int)]).getD j 0 = (giveN ps n : Int) := by simp [List.getD, ej]
    have e2 : (os ++ [n]).getD j 0 = n := by simp [List.getD, ej, hl]
    rw [e1, e2]
    exact ⟨n1, hg.cls, n2⟩
theorem inv_give {ps : List Pg} (hi : InvP ps) (n : Int) : InvP (giveX ps n) ∧ (giveX ps n).length = ps.length := by
  by_cases he : giveE ps n = 0
  · obtain ⟨a, hg⟩ := given_of hi he
    exact ⟨hg.inv hi, hg.len⟩
  · rw [giveX_no he]; exact ⟨hi, rfl⟩
theorem find_wrap {ps : List Pg} (hl : ps.length ≤ 256) {c : Int} (h : findE ps c = 0) : wrap64 (c / 32) = c / 32 ∧ 0 ≤ c ∧ c < 8192 := by
  obtain ⟨a, p, rfl, hp, ha, _⟩ := find_ok h
  refine ⟨IntWalk.wrap64_in _ (by omega), by omega, by omega⟩
end Go.Proofs.YtgipkdkfecegkaaDoor
