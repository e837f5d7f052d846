/- An index in memory: a block of 8202 cells, each a number. -/
import Derived.Test.YtfgmbkflpdobcaaTill
import Derived.Lib.Hide
namespace Go.Proofs.Ytfgmbkflpdobcaa
open Go.RowKit
set_option linter.unusedVariables false
set_option linter.unusedSimpArgs false

/-- The kind of the number at a cell: slots, entries, 1025 fingers, 1025 addresses, 1025 next, 1024 chains, free, 1025 later, 1025 earlier. -/
def kindX (i : Nat) : IntKind := if i < 2 then .i64 else if i < 1027 then .u32 else if i < 4102 ∧ i % 3 = 2 then .u64 else .i64
theorem kind_lo {i : Nat} (h : i < 2) : kindX i = .i64 := by unfold kindX; rw [if_pos h]
theorem kind_fing {i : Nat} (h : i < 1025) : kindX (2 + i) = .u32 := by unfold kindX; rw [if_neg (by omega), if_pos (by omega)]
theorem kind_adr0 {i : Nat} (h : i < 1025) : kindX (1027 + i * 3) = .i64 := by unfold kindX; rw [if_neg (by omega), if_neg (by omega), if_neg (by omega)]
theorem kind_adr1 {i : Nat} (h : i < 1025) : kindX (1027 + i * 3 + 1) = .u64 := by unfold kindX; rw [if_neg (by omega), if_neg (by omega), if_pos (by omega)]
theorem kind_adr2 {i : Nat} (h : i < 1025) : kindX (1027 + i * 3 + 2) = .i64 := by unfold kindX; rw [if_neg (by omega), if_neg (by omega), if_neg (by omega)]
theorem kind_hi {i : Nat} (h : 4102 ≤ i) : kindX i = .i64 := by unfold kindX; rw [if_neg (by omega), if_neg (by omega), if_neg (by omega)]

def cellsX (c : Nat → Int) : Array Value := (Array.range 8202).map fun i => .int (kindX i) (c i)
theorem cellsX_size (c : Nat → Int) : (cellsX c).size = 8202 := by simp [cellsX]
theorem cellsX_get (c : Nat → Int) {i : Nat} (h : i < 8202) : (cellsX c)[i]? = some (.int (kindX i) (c i)) := by
  simp [cellsX, h]
def upd (c : Nat → Int) (i : Nat) (v : Int) : Nat → Int := fun j => if j = i then v else c j
theorem upd_same (c : Nat → Int) (i : Nat) (v : Int) : upd c i v i = v := if_pos rfl
theorem upd_far (c : Nat → Int) {i j : Nat} (v : Int) (h : j ≠ i) : upd c i v j = c j := if_neg h
theorem cellsX_set (c : Nat → Int) {i : Nat} (v : Int) : (cellsX c).setIfInBounds i (.int (kindX i) v) = cellsX (upd c i v) := by
  apply Array.ext
  · simp [cellsX]
  · intro j h1 h2
    simp only [cellsX, Array.size_setIfInBounds, Array.size_map, Array.size_range] at h1
    rw [Array.getElem_setIfInBounds (by simpa [cellsX] using h1)]
    unfold upd
    by_cases h : i = j
    · subst h; simp [cellsX]
    · have h' : ¬ j = i := fun e => h e.symm
      simp [cellsX, h, h']

/-- An index lies at x; its cells hold the numbers c. -/
def IxM (w : World) (x : Nat) (c : Nat → Int) : Prop := Blk w x 62 (cellsX c)
section
variable {w w' : World} {x : Nat} {c : Nat → Int}
theorem IxM.lt (h : IxM w x c) : x < w.heap.size := Blk.lt h
theorem IxM.cell (h : IxM w x c) {i : Nat} (hi : i < 8202) : w.cell? ⟨x, i, none⟩ = some (.int (kindX i) (c i)) := by rw [Blk.cell h, cellsX_get c hi]
theorem IxM.frozen (h : IxM w x c) (i : Nat) : w.frozen? ⟨x, i, none⟩ = false := Blk.frozen h i
theorem IxM.fing (h : IxM w x c) {i : Nat} (hi : i < 1025) : w.cell? ⟨x, 2 + i, none⟩ = some (.int .u32 (c (2 + i))) := by rw [h.cell (by omega), kind_fing hi]
theorem IxM.adr0 (h : IxM w x c) {i : Nat} (hi : i < 1025) : w.cell? ⟨x, 1027 + i * 3, none⟩ = some (.int .i64 (c (1027 + i * 3))) := by rw [h.cell (by omega), kind_adr0 hi]
theorem IxM.adr1 (h : IxM w x c) {i : Nat} (hi : i < 1025) : w.cell? ⟨x, 1027 + i * 3 + 1, none⟩ = some (.int .u64 (c (1027 + i * 3 + 1))) := by rw [h.cell (by omega), kind_adr1 hi]
theorem IxM.adr2 (h : IxM w x c) {i : Nat} (hi : i < 1025) : w.cell? ⟨x, 1027 + i * 3 + 2, none⟩ = some (.int .i64 (c (1027 + i * 3 + 2))) := by rw [h.cell (by omega), kind_adr2 hi]
theorem IxM.hi (h : IxM w x c) {i : Nat} (h1 : 4102 ≤ i) (hi : i < 8202) : w.cell? ⟨x, i, none⟩ = some (.int .i64 (c i)) := by rw [h.cell hi, kind_hi h1]
theorem IxM.lo (h : IxM w x c) {i : Nat} (hi : i < 2) : w.cell? ⟨x, i, none⟩ = some (.int .i64 (c i)) := by rw [h.cell (by omega), kind_lo hi]
theorem IxM.set (h : IxM w x c) {i : Nat} {k : IntKind} (hk : kindX i = k) (v : Int) : IxM (w.setCell ⟨x, i, none⟩ (.int k v)) x (upd c i v) := by
  have := Blk.set_ h i (.int k v)
  rw [← hk, cellsX_set] at this
  rw [← hk]
  exact this
theorem IxM.drew (h : IxM w x c) : IxM w.drew x c := h
theorem IxM.drewN (h : IxM w x c) (n : Nat) : IxM (w.drewN n) x c := h
theorem IxM.kept {S : Nat → Prop} (h : IxM w x c) (hb : Kept S w w') (hg : S x) : IxM w' x c := Blk.kept h hb hg
theorem IxM.below {B : Nat} (h : IxM w x c) (hb : Below B w w') (hg : x < B) : IxM w' x c := Blk.below h hb hg
end

theorem len_ix {w : World} {x : Nat} {c : Nat → Int} (h : IxM w x c) :
    Calls Try.prog 16 #[.pointer (some ⟨x, 0, none⟩)] w fun e w' => e = .returned (.int .i64 (c 1)) ∧ w' = w := by
  have h1 := h.lo (i := 1) (by omega)
  go_enter Try.func16, Try.ntmps16
  go_wp2
  go_ret
  exact ⟨rfl, rfl⟩
end Go.Proofs.Ytfgmbkflpdobcaa
