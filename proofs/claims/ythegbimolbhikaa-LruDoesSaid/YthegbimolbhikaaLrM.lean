/- Lists in memory: a block of 67 cells, and one of the places, in pieces of 192 cells. -/
import Derived.Test.YthegbimolbhikaaLrP
import Derived.Test.YthegbimolbhikaaTill
import Derived.Deep.RegionHeld3
import Derived.Lib.Hide
namespace Go.Proofs.Ythegbimolbhikaa
open Go.RowKit
attribute [local go_sem] Oper.semAt_some
set_option linter.unusedVariables false
set_option linter.unusedSimpArgs false
set_option maxRecDepth 100000

def pcN (A B C : Nat → Nat) (i : Nat) : Nat :=
  if i % 192 < 64 then A (i / 192 * 64 + i % 192) else if i % 192 < 128 then B (i / 192 * 64 + (i % 192 - 64)) else C (i / 192 * 64 + (i % 192 - 128))
def pcC (A B C : Nat → Nat) (k : Nat) : Array Value := (Array.range (k * 192)).map fun i => .int .i64 (pcN A B C i : Nat)
def hdC (n L : Nat) (len : Nat → Nat) (p k : Nat) : Array Value :=
  (Array.range 67).map fun i => if i = 0 then .int .i64 (n : Nat) else if i = 1 then .int .i64 (L : Nat) else if i = 66 then .slice (some ⟨p, 0, none⟩) k k else .int .i64 (len (i - 2) : Nat)
abbrev aC (a : Nat) : Nat := a / 64 * 192 + a % 64
theorem pcC_size (A B C : Nat → Nat) (k : Nat) : (pcC A B C k).size = k * 192 := by simp [pcC]
theorem pcC_get (A B C : Nat → Nat) {k i : Nat} (h : i < k * 192) : (pcC A B C k)[i]? = some (.int .i64 (pcN A B C i : Nat)) := by simp [pcC, h]
theorem pcN_a (A B C : Nat → Nat) (a : Nat) : pcN A B C (aC a) = A a := by
  unfold pcN aC
  rw [if_pos (by omega)]
  congr 1; omega
theorem pcN_b (A B C : Nat → Nat) (a : Nat) : pcN A B C (aC a + 64) = B a := by
  unfold pcN aC
  rw [if_neg (by omega), if_pos (by omega)]
  congr 1; omega
theorem pcN_c (A B C : Nat → Nat) (a : Nat) : pcN A B C (aC a + 128) = C a := by
  unfold pcN aC
  rw [if_neg (by omega), if_neg (by omega)]
  congr 1; omega
theorem pcC_setG {A B C A' B' C' : Nat → Nat} {k i v : Nat} (h1 : pcN A' B' C' i = v) (h2 : ∀ j, j ≠ i → pcN A' B' C' j = pcN A B C j) : (pcC A B C k).setIfInBounds i (.int .i64 (v : Nat)) = pcC A' B' C' k := by
  apply Array.ext
  · simp [pcC]
  · intro j hj1 hj2
    simp only [pcC, Array.size_setIfInBounds, Array.size_map, Array.size_range] at hj1
    rw [Array.getElem_setIfInBounds (by simpa [pcC] using hj1)]
    by_cases h : i = j
    · subst h; simp [pcC, h1]
    · simp [pcC, h, h2 j (fun e => h e.symm)]
theorem pcC_a (A B C : Nat → Nat) (k a v : Nat) : (pcC A B C k).setIfInBounds (aC a) (.int .i64 (v : Nat)) = pcC (updN A a v) B C k :=
  pcC_setG (by rw [pcN_a, updN_same]) fun j hj => by
    unfold pcN aC at *
    split
    · exact updN_far _ _ (by omega)
    · rfl
theorem pcC_b (A B C : Nat → Nat) (k a v : Nat) : (pcC A B C k).setIfInBounds (aC a + 64) (.int .i64 (v : Nat)) = pcC A (updN B a v) C k :=
  pcC_setG (by rw [pcN_b, updN_same]) fun j hj => by
    unfold pcN aC at *
    split
    · rfl
    · split
      · exact updN_far _ _ (by omega)
      · rfl
theorem pcC_c (A B C : Nat → Nat) (k a v : Nat) : (pcC A B C k).setIfInBounds (aC a + 128) (.int .i64 (v : Nat)) = pcC A B (updN C a v) k :=
  pcC_setG (by rw [pcN_c, updN_same]) fun j hj => by
    unfold pcN aC at *
    split
    · rfl
    · split
      · rfl
      · exact updN_far _ _ (by omega)
theorem hdC_size (n L : Nat) (len : Nat → Nat) (p k : Nat) : (hdC n L len p k).size = 67 := by simp [hdC]
theorem hdC_get (n L : Nat) (len : Nat → Nat) (p k : Nat) {i : Nat} (h : i < 67) : (hdC n L len p k)[i]? = some (if i = 0 then .int .i64 (n : Nat) else if i = 1 then .int .i64 (L : Nat) else if i = 66 then .slice (some ⟨p, 0, none⟩) k k else .int .i64 (len (i - 2) : Nat)) := by simp [hdC, h]
theorem hdC_set (n L : Nat) (len : Nat → Nat) (p k : Nat) {i : Nat} (v : Nat) (h : i < 64) : (hdC n L len p k).setIfInBounds (2 + i) (.int .i64 (v : Nat)) = hdC n L (updN len i v) p k := by
  apply Array.ext
  · simp [hdC]
  · intro j hj1 hj2
    simp only [hdC, Array.size_setIfInBounds, Array.size_map, Array.size_range] at hj1
    rw [Array.getElem_setIfInBounds (by simpa [hdC] using hj1)]
    by_cases e : 2 + i = j
    · subst e
      rw [if_pos rfl]
      simp only [hdC, Array.getElem_map, Array.getElem_range]
      rw [if_neg (by omega), if_neg (by omega), if_neg (by omega), show 2 + i - 2 = i by omega, updN_same]
    · rw [if_neg e]
      simp only [hdC, Array.getElem_map, Array.getElem_range]
      split
      · rfl
      · split
        · rfl
        · split
          · rfl
          · rw [updN_far _ _ (by omega)]

/-- Lists lie at x, their places at p. -/
structure LrM (w : World) (x p n L : Nat) (A B C len : Nat → Nat) : Prop where
  n1 : 1 ≤ n
  n2 : n ≤ 65536
  l1 : 1 ≤ L
  l2 : L ≤ 64
  hd : Blk w x 64 (hdC n L len p ((n + L + 63) / 64))
  pc : Blk w p 75 (pcC A B C ((n + L + 63) / 64))
section
variable {w w' : World} {x p n L : Nat} {A B C len : Nat → Nat}
theorem LrM.ne (h : LrM w x p n L A B C len) : x ≠ p := Blk.ne_ h.hd h.pc (by decide)
theorem LrM.lt (h : LrM w x p n L A B C len) : x < w.heap.size ∧ p < w.heap.size := ⟨h.hd.lt, h.pc.lt⟩
theorem LrM.cn (h : LrM w x p n L A B C len) : w.cell? ⟨x, 0, none⟩ = some (.int .i64 (n : Nat)) := by rw [h.hd.cell, hdC_get _ _ _ _ _ (by omega)]; rfl
theorem LrM.cl (h : LrM w x p n L A B C len) : w.cell? ⟨x, 1, none⟩ = some (.int .i64 (L : Nat)) := by rw [h.hd.cell, hdC_get _ _ _ _ _ (by omega)]; rfl
theorem LrM.cp (h : LrM w x p n L A B C len) : w.cell? ⟨x, 66, none⟩ = some (.slice (some ⟨p, 0, none⟩) ((n + L + 63) / 64) ((n + L + 63) / 64)) := by rw [h.hd.cell, hdC_get _ _ _ _ _ (by omega)]; rfl
theorem LrM.ce (h : LrM w x p n L A B C len) {i : Nat} (hi : i < 64) : w.cell? ⟨x, 2 + i, none⟩ = some (.int .i64 (len i : Nat)) := by
  rw [h.hd.cell, hdC_get _ _ _ _ _ (by omega), if_neg (by omega), if_neg (by omega), if_neg (by omega), show 2 + i - 2 = i by omega]
theorem LrM.ca (h : LrM w x p n L A B C len) {a : Nat} (ha : a < n + L) : w.cell? ⟨p, aC a, none⟩ = some (.int .i64 (A a : Nat)) := by
  rw [h.pc.cell, pcC_get _ _ _ (by unfold aC; omega), pcN_a]
theorem LrM.cb (h : LrM w x p n L A B C len) {a : Nat} (ha : a < n + L) : w.cell? ⟨p, aC a + 64, none⟩ = some (.int .i64 (B a : Nat)) := by
  rw [h.pc.cell, pcC_get _ _ _ (by unfold aC; omega), pcN_b]
theorem LrM.cc (h : LrM w x p n L A B C len) {a : Nat} (ha : a < n + L) : w.cell? ⟨p, aC a + 128, none⟩ = some (.int .i64 (C a : Nat)) := by
  rw [h.pc.cell, pcC_get _ _ _ (by unfold aC; omega), pcN_c]
theorem LrM.setA (h : LrM w x p n L A B C len) (a v : Nat) : LrM (w.setCell ⟨p, aC a, none⟩ (.int .i64 (v : Nat))) x p n L (updN A a v) B C len :=
  ⟨h.n1, h.n2, h.l1, h.l2, h.hd.far h.ne _, by have := h.pc.set_ (aC a) (.int .i64 (v : Nat)); rwa [pcC_a] at this⟩
theorem LrM.setB (h : LrM w x p n L A B C len) (a v : Nat) : LrM (w.setCell ⟨p, aC a + 64, none⟩ (.int .i64 (v : Nat))) x p n L A (updN B a v) C len :=
  ⟨h.n1, h.n2, h.l1, h.l2, h.hd.far h.ne _, by have := h.pc.set_ (aC a + 64) (.int .i64 (v : Nat)); rwa [pcC_b] at this⟩
theorem LrM.setC (h : LrM w x p n L A B C len) (a v : Nat) : LrM (w.setCell ⟨p, aC a + 128, none⟩ (.int .i64 (v : Nat))) x p n L A B (updN C a v) len :=
  ⟨h.n1, h.n2, h.l1, h.l2, h.hd.far h.ne _, by have := h.pc.set_ (aC a + 128) (.int .i64 (v : Nat)); rwa [pcC_c] at this⟩
theorem LrM.setE (h : LrM w x p n L A B C len) {i : Nat} (v : Nat) (hi : i < 64) : LrM (w.setCell ⟨x, 2 + i, none⟩ (.int .i64 (v : Nat))) x p n L A B C (updN len i v) :=
  ⟨h.n1, h.n2, h.l1, h.l2, by have := h.hd.set_ (2 + i) (.int .i64 (v : Nat)); rwa [hdC_set _ _ _ _ _ _ hi] at this, h.pc.far (fun e => h.ne e.symm) _⟩
theorem LrM.drew (h : LrM w x p n L A B C len) : LrM w.drew x p n L A B C len := ⟨h.n1, h.n2, h.l1, h.l2, h.hd, h.pc⟩
theorem LrM.drewN (h : LrM w x p n L A B C len) (k : Nat) : LrM (w.drewN k) x p n L A B C len := ⟨h.n1, h.n2, h.l1, h.l2, h.hd, h.pc⟩
theorem LrM.kept {S : Nat → Prop} (h : LrM w x p n L A B C len) (hb : Kept S w w') (hx : S x) (hp : S p) : LrM w' x p n L A B C len := ⟨h.n1, h.n2, h.l1, h.l2, h.hd.kept hb hx, h.pc.kept hb hp⟩
theorem LrM.below {D : Nat} (h : LrM w x p n L A B C len) (hb : Below D w w') (hx : x < D) (hp : p < D) : LrM w' x p n L A B C len := ⟨h.n1, h.n2, h.l1, h.l2, h.hd.below hb hx, h.pc.below hb hp⟩

/-! What only reads. -/
theorem end_any (h : LrM w x p n L A B C len) (i : Nat) (hi : i < L) : Calls Try.prog 28 #[.pointer (some ⟨x, 0, none⟩), .int .i64 (i : Nat)] w fun e w' => e = .returned (.int .i64 ((n + i : Nat) : Int)) ∧ w' = w := by
  have h1 := h.cn
  have h2 := h.n2
  have h3 := h.l2
  have HX := Lib.hid h
  clear h
  go_enter Try.func28, Try.ntmps28
  go_wp2
  go_ret
  exact ⟨by simp, rfl⟩
theorem ahead_any (h : LrM w x p n L A B C len) (a : Nat) (ha : a < n + L) : Calls Try.prog 45 #[.pointer (some ⟨x, 0, none⟩), .int .i64 (a : Nat)] w fun e w' => e = .returned (.pointer (some ⟨p, aC a, none⟩)) ∧ w' = w := by
  have h1 := h.cp
  have h2 := h.n2
  have h3 := h.l2
  have HX := Lib.hid h
  clear h
  go_enter Try.func45, Try.ntmps45
  go_wp2
  go_ret
  exact ⟨rfl, rfl⟩
end
end Go.Proofs.Ythegbimolbhikaa
