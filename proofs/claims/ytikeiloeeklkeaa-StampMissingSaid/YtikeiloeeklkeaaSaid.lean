/- Package stamp: said. -/
import Derived.Test.YtikeiloeeklkeaaPack
import Derived.Deep.RegionHeld3
namespace Go.Proofs.Ytikeiloeeklkeaa
open Go.RowKit
set_option linter.unusedVariables false

/-- Raw of more bytes than are left: none. -/
theorem raw_short (w : World) (r g : Nat) (xs : List Int) (pos n : Nat) (h : Rd w r g xs pos 0) (hn : xs.length - pos < n) :
    Calls Try.prog 37 #[.pointer (some ⟨r, 0, none⟩), .int .i64 n] w fun e w' => ∃ b, e = .returned (.slice (some ⟨b, 0, none⟩) 0 0) ∧ w.heap.size ≤ b ∧
      b < w'.heap.size ∧ Kept (fun b => b < w.heap.size ∧ b ≠ r) w w' := by
  have H := Lib.hid h
  clear h
  go_enter Try.func37, Try.ntmps37
  go_wp2_with (first
    | (go_at_call 40; refine (take_short _ r g xs pos n H.out hn).mono ?_; rintro e w1 ⟨rfl, hrd, hk⟩; have HD := Lib.hid hrd; have HK := Lib.hid hk; clear hrd hk)
    | (go_at_call 38; refine (clone_any none 0 0 [] (fun _ => False) _ (RowG.nil _ _ _ _ _) (fun _ h => h.elim) (by omega)).mono ?_; rintro e w2 ⟨rfl, ha, hb⟩; have HA := Lib.hid ha; have HB := Lib.hid hb; clear ha hb))
  go_ret
  exact ⟨_, rfl, HK.out.size, HA.out.lt, HK.out.below HB.out (fun b h => Nat.lt_of_lt_of_le h.1 HK.out.size)⟩

/-! What a sector says of itself. -/
def genOf (xs : List Int) : Int := numOf (xs.take 8)
def posOf (xs : List Int) : Int := numOf ((xs.drop 8).take 4)
def fillOf (xs : List Int) : Nat := (numOf ((xs.drop 12).take 2)).toNat
def twoOf (xs : List Int) : Int := numOf ((xs.drop 14).take 2)
def meantOf (xs : List Int) : List Int := if fillOf xs ≤ 48 then (xs.drop 16).take (fillOf xs) else []

theorem bytes_part {xs : List Int} (hb : Bytes xs) (k n : Nat) : Bytes ((xs.drop k).take n) := by
  have : Bytes (xs.drop k) := fun j => by have := hb (k + j); simpa [List.getD, List.getElem?_drop] using this
  exact this.take n
theorem fill_eq {xs : List Int} (hb : Bytes xs) : numOf ((xs.drop 12).take 2) = (fillOf xs : Int) := by
  have := (numOf_bounds _ (bytes_part hb 12 2)).1
  unfold fillOf
  omega
theorem fill_lt {xs : List Int} (hb : Bytes xs) : fillOf xs ≤ 65535 := by
  have h := (numOf_bounds _ (bytes_part hb 12 2)).2
  have h2 : ((xs.drop 12).take 2).length ≤ 2 := by simp; omega
  have h3 : (256 ^ ((xs.drop 12).take 2).length : Nat) ≤ 256 ^ 2 := Nat.pow_le_pow_right (by omega) h2
  unfold fillOf
  omega
theorem gen_bounds {xs : List Int} (hb : Bytes xs) (hl : xs.length = 64) : 0 ≤ genOf xs ∧ genOf xs ≤ 18446744073709551615 := by
  have h := numOf_bounds _ (hb.take 8)
  rw [List.length_take, hl] at h
  exact ⟨h.1, Int.le_of_lt_add_one h.2⟩
theorem pos_bounds {xs : List Int} (hb : Bytes xs) (hl : xs.length = 64) : 0 ≤ posOf xs ∧ posOf xs ≤ 4294967295 := by
  have h := numOf_bounds _ (bytes_part hb 8 4)
  rw [List.length_take, List.length_drop, hl] at h
  exact ⟨h.1, Int.le_of_lt_add_one h.2⟩
theorem meant_le (xs : List Int) : (meantOf xs).length ≤ 48 := by
  unfold meantOf
  split
  · simp; omega
  · simp

/-- Raw of the fill. -/
theorem raw_meant (w : World) (r g : Nat) (xs : List Int) (h : Rd w r g xs 16 0) (hl : xs.length = 64) :
    Calls Try.prog 37 #[.pointer (some ⟨r, 0, none⟩), .int .i64 (fillOf xs)] w fun e w' => ∃ b, e = .returned (.slice (some ⟨b, 0, none⟩) (meantOf xs).length (meantOf xs).length) ∧
      RowI .u8 w' (fun b => w.heap.size ≤ b ∧ b < w'.heap.size) (some ⟨b, 0, none⟩) (meantOf xs).length (meantOf xs) ∧ Kept (fun b => b < w.heap.size ∧ b ≠ r) w w' := by
  by_cases hf : fillOf xs ≤ 48
  · have hm : meantOf xs = (xs.drop 16).take (fillOf xs) := if_pos hf
    have hml : (meantOf xs).length = fillOf xs := by rw [hm]; simp; omega
    refine (raw_ok w r g xs 16 (fillOf xs) h (by omega)).mono ?_
    rintro e w' ⟨b, rfl, hb, ha, hk⟩
    rw [← hm] at ha
    refine ⟨b, by rw [hml], ha.row 0 ⟨hb, ha.lt⟩, hk⟩
  · have hm : meantOf xs = [] := if_neg hf
    refine (raw_short w r g xs 16 (fillOf xs) h (by omega)).mono ?_
    rintro e w' ⟨b, rfl, hb, hlt, hk⟩
    rw [hm]
    exact ⟨b, rfl, RowG.nil _ _ _ _ _, hk⟩

/-- A stamp by value. -/
def stampV (xs : List Int) : Value := .agg #[.int .u64 (genOf xs), .int .u32 (posOf xs), .int .i64 (fillOf xs)]
def SaidTold (xs : List Int) (w : World) (e : Ending) (w' : World) : Prop :=
  ∃ A c, e = .returned (.tuple #[.agg #[.int .u64 (genOf xs), .int .u32 (posOf xs), .int .i64 (fillOf xs)], .slice A (meantOf xs).length c]) ∧
    RowI .u8 w' (fun b => w.heap.size ≤ b ∧ b < w'.heap.size) A (meantOf xs).length (meantOf xs) ∧ Below w.heap.size w w' ∧ (A = none → c = 0)

theorem Rd.far {w : World} {r g : Nat} {xs : List Int} {pos : Nat} {err : Int} (h : Rd w r g xs pos err) {p : Addr} (h1 : p.block ≠ r) (h2 : p.block ≠ g) (u : Value) : Rd (w.setCell p u) r g xs pos err :=
  ⟨h.1.far (fun e => h1 e.symm) u, Blk.far h.2.1 (fun e => h2 e.symm) u, h.2.2⟩

/-- How far 'said' has come: pos bytes read, and A, B, C laid in its stamp. -/
structure Saying (w wi : World) (r : Nat) (xs : List Int) (pos : Nat) (A B C : Value) : Prop where
  rd : Rd wi r (w.heap.size + 3) xs pos 0
  lo : w.heap.size + 3 < r
  zero : Blk wi (w.heap.size + 1) 34 #[.int .u64 0, .int .u32 0, .int .i64 0]
  st : Blk wi (w.heap.size + 1 + 1) 34 #[A, B, C]
  bel : Below w.heap.size w wi

theorem Saying.cells {w wi w' : World} {r : Nat} {xs : List Int} {pos : Nat} {A B C : Value} (h : Saying w wi r xs pos A B C) (hk : Kept (fun b => b < wi.heap.size ∧ b ≠ r) wi w') :
    (w'.cell? ⟨w.heap.size + 1 + 1, 0, none⟩ = some A ∧ w'.cell? ⟨w.heap.size + 1 + 1, 1, none⟩ = some B ∧ w'.cell? ⟨w.heap.size + 1 + 1, 2, none⟩ = some C) ∧ Blk w' (w.heap.size + 1) 34 #[.int .u64 0, .int .u32 0, .int .i64 0] := by
  have hs := h.st.kept hk ⟨h.st.lt, by have := h.lo; omega⟩
  exact ⟨⟨hs.cell 0, hs.cell 1, hs.cell 2⟩, h.zero.kept hk ⟨h.zero.lt, by have := h.lo; omega⟩⟩
theorem Saying.drew {w wi : World} {r : Nat} {xs : List Int} {pos : Nat} {A B C : Value} (h : Saying w wi r xs pos A B C) : Saying w wi.drew r xs pos A B C := ⟨h.rd, h.lo, h.zero, h.st, h.bel.drew⟩
theorem Saying.read {w wi w' : World} {r : Nat} {xs : List Int} {pos pos' : Nat} {A B C : Value} (h : Saying w wi r xs pos A B C) (hr : Rd w' r (w.heap.size + 3) xs pos' 0) (hk : Kept (fun b => b < wi.heap.size ∧ b ≠ r) wi w') : Saying w w' r xs pos' A B C :=
  ⟨hr, h.lo, h.zero.kept hk ⟨h.zero.lt, by have := h.lo; omega⟩, h.st.kept hk ⟨h.st.lt, by have := h.lo; omega⟩, h.bel.trans (hk.to_below fun b hb => ⟨Nat.lt_of_lt_of_le hb h.bel.size, by have := h.lo; omega⟩)⟩
theorem Saying.set {w wi : World} {r : Nat} {xs : List Int} {pos : Nat} {A B C A' B' C' : Value} (h : Saying w wi r xs pos A B C) (i : Nat) (u : Value) (hu : (#[A, B, C] : Array Value).setIfInBounds i u = #[A', B', C']) :
    Saying w (wi.setCell ⟨w.heap.size + 1 + 1, i, none⟩ u) r xs pos A' B' C' :=
  ⟨h.rd.far (by have := h.lo; show w.heap.size + 1 + 1 ≠ r; omega) (by show w.heap.size + 1 + 1 ≠ w.heap.size + 3; omega) u, h.lo, h.zero.far (by show w.heap.size + 1 ≠ w.heap.size + 1 + 1; omega) u, hu ▸ h.st.set_ i u, h.bel.setCell (by show w.heap.size ≤ w.heap.size + 1 + 1; omega) u⟩

set_option maxHeartbeats 1000000 in
theorem said_any (xs : List Int) (w : World) (hl : xs.length = 64) (hb : Bytes xs) :
    Calls Try.prog 28 #[.agg (cells8 xs)] w (SaidTold xs w) := by
  have HBY := Lib.hid hb
  have HL := Lib.hid hl
  clear hb hl
  go_enter Try.func28, Try.ntmps28
  go_wp2_with fail
  generalize hw1 : ((w.alloc _).alloc _).alloc _ = w1
  have HBL1 := Lib.hid (show Below w.heap.size w w1 by rw [← hw1]; exact (((Below.refl _ _).alloc (Nat.le_refl _) _).alloc (by simp) _).alloc (by simp; omega) _)
  have HS1 := Lib.hid (show w1.heap.size = w.heap.size + 3 by rw [← hw1]; simp)
  have HX1 := Lib.hid (show ArrB w1 w.heap.size xs by rw [← hw1]; exact ((Blk.new w _ _).alloc _).alloc _)
  have HZ1 := Lib.hid (show Blk w1 (w.heap.size + 1) 34 #[.int .u64 0, .int .u32 0, .int .i64 0] by rw [← hw1]; have := (Blk.new (w.alloc (.cells (cells8 xs) 27)) 34 #[.int .u64 0, .int .u32 0, .int .i64 0]).alloc (.cells #[.int .u64 0, .int .u32 0, .int .i64 0] 34); simpa using this)
  have HT1 := Lib.hid (show Blk w1 (w.heap.size + 1 + 1) 34 #[.int .u64 0, .int .u32 0, .int .i64 0] by rw [← hw1]; have := Blk.new ((w.alloc (.cells (cells8 xs) 27)).alloc (.cells #[.int .u64 0, .int .u32 0, .int .i64 0] 34)) 34 #[.int .u64 0, .int .u32 0, .int .i64 0]; simpa using this)
  clear hw1
  refine (read_any _ 64 64 xs (· = w.heap.size) w1 (HX1.out.rowN 0 HL.out rfl) (fun b h => by have := HS1.out; omega) (by omega)).mono ?_
  rintro e w2 ⟨r, rfl, hr, hrd, hb⟩
  have HY2 := Lib.hid (show Saying w w2 r xs 0 (.int .u64 0) (.int .u32 0) (.int .i64 0) from
    ⟨by rw [← HS1.out]; exact hrd, by have := HS1.out; omega, HZ1.out.below hb (by have := HS1.out; omega), HT1.out.below hb (by have := HS1.out; omega), HBL1.out.trans (hb.mono HBL1.out.size)⟩)
  clear hr hrd hb
  go_wp2_with fail
  refine (u64_ok w2 r _ xs 0 HY2.out.rd (by have := HL.out; omega) HBY.out).mono ?_
  rintro e w3 ⟨rfl, hrd, hk⟩
  rw [List.drop_zero]
  have HY3 := Lib.hid ((HY2.out.read hrd hk).set 0 (.int .u64 (genOf xs)) rfl)
  have hc := (HY2.out.read hrd hk).st.cell 0
  have hf := (HY2.out.read hrd hk).st.frozen 0
  clear hrd hk
  go_wp2_with fail
  refine (u32_ok _ r _ xs 8 HY3.out.rd (by have := HL.out; omega) HBY.out).mono ?_
  rintro e w4 ⟨rfl, hrd, hk⟩
  have HY4 := Lib.hid ((HY3.out.read hrd hk).set 1 (.int .u32 (posOf xs)) rfl)
  have hc := (HY3.out.read hrd hk).st.cell 1
  have hf := (HY3.out.read hrd hk).st.frozen 1
  clear hrd hk
  go_wp2_with fail
  refine (u16_ok _ r _ xs 12 HY4.out.rd (by have := HL.out; omega) HBY.out).mono ?_
  rintro e w5 ⟨rfl, hrd, hk⟩
  rw [fill_eq HBY.out]
  have HY5 := Lib.hid ((HY4.out.read hrd hk).set 2 (.int .i64 (fillOf xs)) rfl)
  have hc := (HY4.out.read hrd hk).st.cell 2
  have hf := (HY4.out.read hrd hk).st.frozen 2
  have hfl := fill_lt HBY.out
  clear hrd hk
  go_wp2_with fail
  refine (u16_ok _ r _ xs 14 HY5.out.rd (by have := HL.out; omega) HBY.out).mono ?_
  rintro e w6 ⟨rfl, hrd, hk⟩
  have HY6 := Lib.hid (HY5.out.read hrd hk)
  clear hrd hk
  go_wp2_with fail
  have c0 := HY6.out.st.cell 0
  have c1 := HY6.out.st.cell 1
  have c2 := HY6.out.st.cell 2
  simp only [List.getElem?_toArray, List.getElem?_cons_zero, List.getElem?_cons_succ] at c0 c1 c2
  go_region_held3 (fun W => W.cell? ⟨w.heap.size + 1 + 1, 0, none⟩ = some (.int .u64 (genOf xs)) ∧ W.cell? ⟨w.heap.size + 1 + 1, 1, none⟩ = some (.int .u32 (posOf xs)) ∧ W.cell? ⟨w.heap.size + 1 + 1, 2, none⟩ = some (.int .i64 (fillOf xs)))
    (first | exact ⟨c0, c1, c2⟩ | exact ⟨d0, d1, d2⟩ | exact ⟨e0, e1, e2⟩)
    (first
      | (go_at_call 37; refine (raw_meant _ r (w.heap.size + 3) xs ?_ ?_).mono ?_; exact HY6.out.rd; exact HL.out; rintro e w7 ⟨b7, rfl, hrow, hk⟩; have HROW := Lib.hid hrow; have HK7 := Lib.hid hk; clear hrow hk; have hcz := HY6.out.drew.cells HK7.out; obtain ⟨⟨d0, d1, d2⟩, hz⟩ := hcz; have HZ7 := Lib.hid hz; have z0 := hz.cell 0; have z1 := hz.cell 1; have z2 := hz.cell 2; have y0 := hz.frozen 0; have y1 := hz.frozen 1; have y2 := hz.frozen 2; have e0 := (cell_far3 w7 (w.heap.size + 1) (.int .u64 (genOf xs)) (.int .u32 (posOf xs)) (.int .i64 (fillOf xs)) (show w.heap.size + 1 + 1 ≠ w.heap.size + 1 by omega)).trans d0; have e1 := (cell_far3 w7 (w.heap.size + 1) (.int .u64 (genOf xs)) (.int .u32 (posOf xs)) (.int .i64 (fillOf xs)) (show w.heap.size + 1 + 1 ≠ w.heap.size + 1 by omega)).trans d1; have e2 := (cell_far3 w7 (w.heap.size + 1) (.int .u64 (genOf xs)) (.int .u32 (posOf xs)) (.int .i64 (fillOf xs)) (show w.heap.size + 1 + 1 ≠ w.heap.size + 1 by omega)).trans d2; clear hz; simp only [List.getElem?_toArray, List.getElem?_cons_zero, List.getElem?_cons_succ] at z0 z1 z2))
  clear c0 c1 c2 d0 d1 d2 z0 z1 z2 y0 y1 y2 e0 e1 e2
  go_wp2_with (with_reducible refine halt_end ?_)
  have hz := HZ7.out.set3 (.int .u64 (genOf xs)) (.int .u32 (posOf xs)) (.int .i64 (fillOf xs))
  refine Halt.ret (results_row2 rfl _ _ (w.heap.size + 1) 34 _ _ rfl hz Try.underlying34 rfl size_stamp) rfl ⟨_, _, rfl, ?_, ?_, fun h => by cases h⟩
  · have hb7 := HY6.out.bel.size
    have hs1 := HY6.out.st.lt
    refine (HROW.out.keep (fun p hp => cell_far3 w7 (w.heap.size + 1) _ _ _ ?_)).more (fun b hb => ⟨?_, ?_⟩)
    · have := hp.1
      have h6 : w6.drew.heap.size = w6.heap.size := rfl
      omega
    · have h6 : w6.drew.heap.size = w6.heap.size := rfl
      omega
    · simpa using hb.2
  · exact below_set3 (HY6.out.drew.bel.trans (HK7.out.to_below fun b hb => ⟨Nat.lt_of_lt_of_le hb HY6.out.drew.bel.size, by have := HY6.out.lo; omega⟩)) (by omega) _ _ _

end Go.Proofs.Ytikeiloeeklkeaa
