/- Words for memory: blocks that are known whole, slices that read as lists of whatever one-cell elements, and worlds in which certain blocks are as they were. Nothing of the program is spoken of here. -/
import Derived.Test.YtighdflbmpkehaaBase
import Derived.Deep.OwnRows
import Derived.Deep.Draws
import Derived.Laws.Rows
import Derived.Laws.CopyOwn
import Derived.OwnWalk
namespace Go.Proofs.Ytighdflbmpkehaa
open Go.RowKit

theorem ret_bool {a b : Bool} (h : a = b) : Ending.returned (.bool a) = .returned (.bool b) := by rw [h]

theorem below_drewN {B : Nat} {a w : World} (h : Below B a w) (n : Nat) : Below B a (w.drewN n) := ⟨h.os, h.tape, h.output, h.size, h.block⟩

/-! Worlds: the blocks in S are as they were. -/

structure Kept (S : Nat → Prop) (w w' : World) : Prop where
  os : w'.os = w.os
  tape : w'.tape = w.tape
  output : w'.output = w.output
  size : w.heap.size ≤ w'.heap.size
  block : ∀ k, S k → w'.heap[k]? = w.heap[k]?

section
variable {S T : Nat → Prop} {a w w' w'' : World}
theorem Kept.refl (S : Nat → Prop) (w : World) : Kept S w w := ⟨rfl, rfl, rfl, Nat.le_refl _, fun _ _ => rfl⟩
theorem Kept.trans (h : Kept S w w') (k : Kept T w' w'') (hs : ∀ b, S b → T b) : Kept S w w'' :=
  ⟨k.os.trans h.os, k.tape.trans h.tape, k.output.trans h.output, Nat.le_trans h.size k.size, fun i hi => (k.block i (hs i hi)).trans (h.block i hi)⟩
theorem Kept.mono (h : Kept T w w') (hs : ∀ b, S b → T b) : Kept S w w' := ⟨h.os, h.tape, h.output, h.size, fun i hi => h.block i (hs i hi)⟩
theorem Kept.drew (h : Kept S a w) : Kept S a w.drew := ⟨h.os, h.tape, h.output, h.size, h.block⟩
theorem Kept.drewN (h : Kept S a w) (n : Nat) : Kept S a (w.drewN n) := ⟨h.os, h.tape, h.output, h.size, h.block⟩
theorem Kept.alloc (h : Kept S a w) (hs : ∀ b, S b → b < w.heap.size) (o : Obj) : Kept S a (w.alloc o) :=
  h.trans (T := S) ⟨rfl, rfl, rfl, by simp, fun k hk => Below.heap_alloc _ _ _ (hs k hk)⟩ fun _ h => h
theorem Kept.setCell (h : Kept S a w) {p : Addr} (hp : ¬ S p.block) (u : Value) : Kept S a (w.setCell p u) :=
  h.trans (T := S) ⟨rfl, rfl, rfl, by simp [World.setCell], fun k hk => Below.heap_setCell _ _ _ _ (fun e => hp (e ▸ hk))⟩ fun _ h => h
theorem Kept.setRow (h : Kept S a w) {g : Nat} (hp : ¬ S g) (cs : Array Value) : Kept S a (w.setRow g cs) :=
  h.trans (T := S) ⟨rfl, rfl, rfl, by simp [World.setRow], fun k hk => setRow_other w g k cs (fun e => hp (e ▸ hk))⟩ fun _ h => h
theorem Kept.grown {row : Option Nat} (h : Kept S a w) (hg : w.grownBy w' row) (hs : ∀ b, S b → b < w.heap.size) (hr : ∀ g, row = some g → ¬ S g) : Kept S a w' :=
  h.trans (T := S) ⟨hg.os, hg.tape, hg.output, hg.size, fun k hk => hg.block k (hs k hk) (fun e => hr k e.symm hk)⟩ fun _ h => h
theorem Kept.below {B : Nat} (h : Kept S a w) (hb : Below B w w') (hs : ∀ b, S b → b < B) : Kept S a w' :=
  h.trans (T := S) ⟨hb.os, hb.tape, hb.output, hb.size, fun k hk => hb.block k (hs k hk)⟩ fun _ h => h
theorem Kept.of_below {B : Nat} (hb : Below B w w') (hs : ∀ b, S b → b < B) : Kept S w w' := (Kept.refl S w).below hb hs
theorem Kept.to_below {B : Nat} (h : Kept S w w') (hs : ∀ b, b < B → S b) : Below B w w' := ⟨h.os, h.tape, h.output, h.size, fun k hk => h.block k (hs k hk)⟩
theorem Kept.cell (h : Kept S w w') {p : Addr} (hp : S p.block) : w'.cell? p = w.cell? p := World.cell?_of_block (w := w) (h.block p.block hp)
theorem Kept.frozen (h : Kept S w w') {p : Addr} (hp : S p.block) : w'.frozen? p = w.frozen? p := World.frozen?_of_block (w := w) (h.block p.block hp)
end

/-! A block that is known whole. -/

def Blk (w : World) (g : Nat) (t : TypeId) (cs : Array Value) : Prop := w.heap[g]? = some (.cells cs t (0, 0))

section
variable {w w' : World} {g : Nat} {t : TypeId} {cs : Array Value}
theorem Blk.lt (h : Blk w g t cs) : g < w.heap.size := by
  rcases Nat.lt_or_ge g w.heap.size with hlt | hge
  · exact hlt
  · unfold Blk at h; rw [Array.getElem?_eq_none hge] at h; cases h
theorem Blk.cell (h : Blk w g t cs) (i : Nat) : w.cell? ⟨g, i, none⟩ = cs[i]? := cell_of_row w g i cs t (0, 0) h
theorem Blk.frozen (h : Blk w g t cs) (i : Nat) : w.frozen? ⟨g, i, none⟩ = false := by
  unfold Blk at h
  simp [World.frozen?, h]
theorem Blk.new (w : World) (t : TypeId) (cs : Array Value) : Blk (w.alloc (.cells cs t)) w.heap.size t cs := heap_alloc_new w _
theorem Blk.drewN (h : Blk w g t cs) (n : Nat) : Blk (w.drewN n) g t cs := h
theorem Blk.drew (h : Blk w g t cs) : Blk w.drew g t cs := h
theorem Blk.alloc (h : Blk w g t cs) (o : Obj) : Blk (w.alloc o) g t cs := (Below.heap_alloc w o g h.lt).trans h
theorem Blk.set_ (h : Blk w g t cs) (i : Nat) (u : Value) : Blk (w.setCell ⟨g, i, none⟩ u) g t (cs.setIfInBounds i u) := by
  unfold Blk at h ⊢
  simp [World.setCell, Array.getElem?_modify, h]
theorem Blk.far (h : Blk w g t cs) {p : Addr} (hp : g ≠ p.block) (u : Value) : Blk (w.setCell p u) g t cs := (Below.heap_setCell w p u g hp).trans h
theorem Blk.below {B : Nat} (h : Blk w g t cs) (hb : Below B w w') (hg : g < B) : Blk w' g t cs := (hb.block g hg).trans h
theorem Blk.kept {S : Nat → Prop} (h : Blk w g t cs) (hb : Kept S w w') (hg : S g) : Blk w' g t cs := (hb.block g hg).trans h
theorem Blk.grown {row : Option Nat} (h : Blk w g t cs) (hb : w.grownBy w' row) (hg : some g ≠ row) : Blk w' g t cs := (hb.block g h.lt hg).trans h
theorem Blk.ne_ {g' : Nat} {t' : TypeId} {cs' : Array Value} (h : Blk w g t cs) (h' : Blk w g' t' cs') (hne : t ≠ t') : g ≠ g' := by
  rintro rfl
  unfold Blk at h h'
  rw [h] at h'
  injection h' with h'
  injection h' with _ ht
  exact hne ht
theorem own_blk_ne {base : Nat} {e : TypeId} {size n : Nat} {v : Value} {xs : List Value} (h : w.ownsRow base e size v n xs) (hg : Blk w g t cs) (hne : e ≠ t) : v.ownBlock ≠ some g := by
  rcases h.2 with ⟨rfl, _⟩ | ⟨g', cap, cur, rfl, _, hh, _⟩
  · simp [Value.ownBlock]
  · intro he
    have : g' = g := by simpa [Value.ownBlock] using he
    subst this
    exact Blk.ne_ (t := e) hh hg hne rfl
end

/-! A slice of one-cell elements that reads as a list: 'mk' lays an element down; where there is any, its cells lie in a block of S. -/

def RowG {α : Type} (mk : α → Value) (d : α) (w : World) (S : Nat → Prop) (A : Option Addr) (n : Nat) (xs : List α) : Prop :=
  xs.length = n ∧ (0 < n → ∃ b off, A = some ⟨b, off, none⟩ ∧ S b ∧ ∀ j, j < n → w.cell? ⟨b, off + j, none⟩ = some (mk (xs.getD j d)))

abbrev RowI (k : IntKind) := RowG (Value.int k) 0
abbrev RowB := RowG Value.bool false

section
variable {α : Type} {mk : α → Value} {d : α} {w w' : World} {S T : Nat → Prop} {A : Option Addr} {n : Nat} {xs : List α}
theorem RowG.nil (mk : α → Value) (d : α) (w : World) (S : Nat → Prop) (A : Option Addr) : RowG mk d w S A 0 [] := ⟨rfl, fun h => absurd h (by omega)⟩
theorem RowG.keep (h : RowG mk d w S A n xs) (hk : ∀ p : Addr, S p.block → w'.cell? p = w.cell? p) : RowG mk d w' S A n xs :=
  ⟨h.1, fun hn => by
    obtain ⟨b, off, e, hb, hc⟩ := h.2 hn
    exact ⟨b, off, e, hb, fun j hj => (hk _ hb).trans (hc j hj)⟩⟩
theorem RowG.more (h : RowG mk d w S A n xs) (hs : ∀ b, S b → T b) : RowG mk d w T A n xs :=
  ⟨h.1, fun hn => by
    obtain ⟨b, off, e, hb, hc⟩ := h.2 hn
    exact ⟨b, off, e, hs b hb, hc⟩⟩
theorem RowG.kept (h : RowG mk d w S A n xs) (hb : Kept T w w') (hs : ∀ b, S b → T b) : RowG mk d w' S A n xs := h.keep fun _ hp => hb.cell (hs _ hp)
theorem RowG.below {B : Nat} (h : RowG mk d w S A n xs) (hb : Below B w w') (hs : ∀ b, S b → b < B) : RowG mk d w' S A n xs := h.keep fun _ hp => hb.cell (hs _ hp)
theorem RowG.take (h : RowG mk d w S A n xs) (k : Nat) (hk : k ≤ n) : RowG mk d w S A k (xs.take k) := by
  have hl := h.1
  refine ⟨by simp; omega, fun h0 => ?_⟩
  obtain ⟨b, off, e, hb, hc⟩ := h.2 (by omega)
  refine ⟨b, off, e, hb, fun j hj => ?_⟩
  rw [hc j (by omega)]
  simp [List.getD, List.getElem?_take, hj]
theorem RowG.drawn (h : RowG mk d w S A n xs) (k : Nat) : RowG mk d (w.drewN k) S A n xs := h
/-- Only what stands at the places below n is asked. -/
theorem RowG.congr {ys : List α} (h : RowG mk d w S A n xs) (hl : ys.length = n) (he : ∀ j, j < n → ys.getD j d = xs.getD j d) : RowG mk d w S A n ys :=
  ⟨hl, fun hn => by
    obtain ⟨b, off, e, hb, hc⟩ := h.2 hn
    exact ⟨b, off, e, hb, fun j hj => by rw [hc j hj, he j hj]⟩⟩
end

theorem Row.toG {k : IntKind} {w : World} {B : Nat} {A : Option Addr} {n : Nat} {xs : List Int} (h : Row k w B A n xs) : RowI k w (· < B) A n xs := h
theorem RowG.toRow {k : IntKind} {w : World} {B : Nat} {A : Option Addr} {n : Nat} {xs : List Int} (h : RowI k w (· < B) A n xs) : Row k w B A n xs := h

/-! A block that is just a list of one-cell elements. -/

def Arr {α : Type} (mk : α → Value) (w : World) (g : Nat) (t : TypeId) (xs : List α) : Prop := Blk w g t (xs.map mk).toArray

section
variable {α : Type} {mk : α → Value} {w w' : World} {g : Nat} {t : TypeId} {xs : List α}
theorem Arr.lt (h : Arr mk w g t xs) : g < w.heap.size := Blk.lt h
theorem Arr.cell (h : Arr mk w g t xs) {i : Nat} (hi : i < xs.length) (d : α) : w.cell? ⟨g, i, none⟩ = some (mk (xs.getD i d)) := by
  rw [Blk.cell h]
  simp [List.getD, List.getElem?_eq_getElem hi]
theorem Arr.frozen (h : Arr mk w g t xs) (i : Nat) : w.frozen? ⟨g, i, none⟩ = false := Blk.frozen h i
theorem Arr.set (h : Arr mk w g t xs) (i : Nat) (u : α) : Arr mk (w.setCell ⟨g, i, none⟩ (mk u)) g t (xs.set i u) := by
  have := Blk.set_ h i (mk u)
  unfold Arr
  rw [show ((xs.set i u).map mk).toArray = ((xs.map mk).toArray).setIfInBounds i (mk u) by simp [List.map_set]]
  exact this
theorem Arr.row (h : Arr mk w g t xs) (d : α) {S : Nat → Prop} (hs : S g) : RowG mk d w S (some ⟨g, 0, none⟩) xs.length xs :=
  ⟨rfl, fun _ => ⟨g, 0, rfl, hs, fun j hj => by rw [Nat.zero_add, h.cell hj d]⟩⟩
theorem Arr.made (w : World) (z : α) (n : Nat) (t : TypeId) : Arr mk (w.alloc (.cells (madeCells #[mk z] n) t)) w.heap.size t (List.replicate n z) := by
  unfold Arr
  rw [show ((List.replicate n z).map mk).toArray = madeCells #[mk z] n from ?_]
  · exact Blk.new w t _
  · apply Array.ext
    · simp [size_madeCells]
    · intro i h1 h2
      simp [madeCells, Nat.mod_one]
theorem Arr.kept {S : Nat → Prop} (h : Arr mk w g t xs) (hb : Kept S w w') (hg : S g) : Arr mk w' g t xs := Blk.kept h hb hg
theorem Arr.below {B : Nat} (h : Arr mk w g t xs) (hb : Below B w w') (hg : g < B) : Arr mk w' g t xs := Blk.below h hb hg
end

/-- A slice that lies at the head of a row of the call's own reads as a list; and it can be written. -/
theorem rowG_own {α : Type} {mk : α → Value} (d : α) {w : World} {base : Nat} {e : TypeId} {v : Value} {n : Nat} {xs : List α} (ho : w.ownsRow base e 1 v n (xs.map mk)) :
    ∃ A cap, v = .slice A n cap ∧ n ≤ cap ∧ (A = none → cap = 0) ∧ RowG mk d w (fun b => base ≤ b ∧ b < w.heap.size ∧ v.ownBlock = some b) A n xs := by
  have hl : xs.length = n := by simpa using ho.1
  have hlt := ho.lt
  rcases ho.2 with ⟨rfl, rfl⟩ | ⟨g, cap, cur, rfl, hg, hh, hnc, hc⟩
  · exact ⟨none, 0, rfl, by omega, fun _ => rfl, hl, fun h => absurd h (by omega)⟩
  · refine ⟨_, cap, rfl, hnc, (fun h => by cases h), hl, fun _ => ⟨g, 0, rfl, ⟨hg, (hlt g rfl).2, by simp [Value.ownBlock]⟩, fun j hj => ?_⟩⟩
    rw [Nat.zero_add, ho.cellAt j (by omega)]
    simp [List.getD, List.getElem?_eq_getElem (show j < xs.length by omega)]

/-- 'clear(s)' of a slice that is a whole block. -/
theorem run_clear_arr {α : Type} {mk : α → Value} {P : Program} {w : World} {g : Nat} {t : TypeId} {xs : List α} (h : Arr mk w g t xs) (z : α) (sT ty : TypeId)
    (hu : P.underlying sT = some (.slice t)) (hv : ∀ w, (zeroValue t).run P w = .ok (mk z) w) (hz1 : (mk z).cells = #[mk z]) (h1 : (mk z).oneCell' = true) (n c : Nat) (hn : xs.length = n) (hpos : 0 < n) :
    (Builtin.clear_ #[sT] ty #[.slice (some ⟨g, 0, none⟩) n c]).run P w = .ok (.tuple #[]) (w.setRow g ((List.replicate n z).map mk).toArray) := by
  have hlist : (Builtin.zeroCells (mk z).cells n).toList = List.replicate n (mk z) := by
    rw [hz1]
    simp [Builtin.zeroCells]
    apply List.ext_getElem
    · simp
    · intro j h1 h2
      simp [Nat.mod_one]
  have hst := run_storeCells_at P g 0 t (List.replicate n (mk z)) 0 (xs.map mk).toArray w h (by simp [hn]) (by intro v hv; rw [List.eq_of_mem_replicate hv]; exact h1)
  have he : (List.take (0 + 0) (xs.map mk).toArray.toList ++ List.replicate n (mk z) ++ List.drop (0 + 0 + (List.replicate n (mk z)).length) (xs.map mk).toArray.toList).toArray = ((List.replicate n z).map mk).toArray := by
    rw [show List.drop (0 + 0 + (List.replicate n (mk z)).length) (xs.map mk).toArray.toList = [] from List.drop_eq_nil_of_le (by simp [hn])]
    simp
  rw [he] at hst
  obtain ⟨k, rfl⟩ : ∃ k, n = k + 1 := ⟨n - 1, by omega⟩
  simp [Builtin.clear_, run_underlying hu, hv, hlist, hst]

theorem Arr.setRow {α : Type} {mk : α → Value} {w : World} {g : Nat} {t : TypeId} {xs : List α} (h : Arr mk w g t xs) (ys : List α) : Arr mk (w.setRow g (ys.map mk).toArray) g t ys :=
  setRow_heap w g _ _ t _ h

end Go.Proofs.Ytighdflbmpkehaa
