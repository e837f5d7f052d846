/- Texts of LogOpens, packed. -/
import Derived.Test.YtodcohkblgjfeaaGreatPackLogOpens1
import Derived.Deep.RegionHeld3
import Derived.IntWalk
set_option linter.unusedVariables false
set_option linter.unusedSimpArgs false
namespace Go.Proofs.YtodcohkblgjfeaaGreat
set_option maxRecDepth 100000
open Go.RowKit
set_option linter.unusedVariables false
theorem raw_short (w : World) (r g : Nat) (xs : List Int) (pos n : Nat) (h : Rd w r g xs pos 0) (hn : xs.length - pos < n) :
    Calls Tryz.prog 151 #[.pointer (some ⟨r, 0, none⟩), .int .i64 n] w fun e w' => ∃ b, e = .returned (.slice (some ⟨b, 0, none⟩) 0 0) ∧ w.heap.size ≤ b ∧
      b < w'.heap.size ∧ Kept (fun b => b < w.heap.size ∧ b ≠ r) w w' := by
  have H := Lib.hid h
  clear h
  go_enter Tryz.func151, Tryz.ntmps151
  go_wp2_with (first
    | (go_at_call 167; refine (take_short _ r g xs pos n H.out hn).mono ?_; rintro e w1 ⟨rfl, hrd, hk⟩; have HD := Lib.hid hrd; have HK := Lib.hid hk; clear hrd hk)
    | (go_at_call 164; refine (clone_any none 0 0 [] (fun _ => False) _ (RowG.nil _ _ _ _ _) (fun _ h => h.elim) (by omega)).mono ?_; rintro e w2 ⟨rfl, ha, hb⟩; have HA := Lib.hid ha; have HB := Lib.hid hb; clear ha hb))
  go_ret
  exact ⟨_, rfl, HK.out.size, HA.out.lt, HK.out.below HB.out (fun b h => Nat.lt_of_lt_of_le h.1 HK.out.size)⟩
def genOf (xs : List Int) : Int := numOf (xs.take 8)
def posOf (xs : List Int) : Int := numOf ((xs.drop 8).take 4)
def fillOf (xs : List Int) : Nat := (numOf ((xs.drop 12).take 2)).toNat
def twoOf (xs : List Int) : Int := numOf ((xs.drop 14).take 2)
def meantOf (xs : List Int) : List Int := if fillOf xs ≤ 48 then (xs.drop 16).take (fillOf xs) else []
theorem fill_eq {xs : List Int} (hb : Bytes xs) : numOf ((xs.drop 12).take 2) = (fillOf xs : Int) := by
  have := (numOf_bounds _ (bytes_part hb 12 2)).1
  unfold fillOf
  omega
theorem fill_lt {xs : List Int} (hb : Bytes xs) : fillOf xs ≤ 65535 := by
  have h := (numOf_bounds _ (bytes_part hb 12 2)).2
  have h2 : ((xs.drop 12).take 2).length ≤ 2 := by simp; omega
  have h3 : (256 ^ ((xs.drop 12).take 2).length : Nat) ≤ 256 ^ 2 := Nat.pow_le_pow_right (by omega) h2
  unfold fillOf
  omega
theorem gen_bounds {xs : List Int} (hb : Bytes xs) (hl : xs.length = 64) : 0 ≤ genOf xs ∧ genOf xs ≤ 18446744073709551615 := by
  have h := numOf_bounds _ (hb.take 8)
  rw [List.length_take, hl] at h
  exact ⟨h.1, Int.le_of_lt_add_one h.2⟩
theorem pos_bounds {xs : List Int} (hb : Bytes xs) (hl : xs.length = 64) : 0 ≤ posOf xs ∧ posOf xs ≤ 4294967295 := by
  have h := numOf_bounds _ (bytes_part hb 8 4)
  rw [List.length_take, List.length_drop, hl] at h
  exact ⟨h.1, Int.le_of_lt_add_one h.2⟩
theorem meant_le (xs : List Int) : (meantOf xs).length ≤ 48 := by
  unfold meantOf
  split
  · simp; omega
  · simp
theorem raw_meant (w : World) (r g : Nat) (xs : List Int) (h : Rd w r g xs 16 0) (hl : xs.length = 64) :
    Calls Tryz.prog 151 #[.pointer (some ⟨r, 0, none⟩), .int .i64 (fillOf xs)] w fun e w' => ∃ b, e = .returned (.slice (some ⟨b, 0, none⟩) (meantOf xs).length (meantOf xs).length) ∧
      RowI .u8 w' (fun b => w.heap.size ≤ b ∧ b < w'.heap.size) (some ⟨b, 0, none⟩) (meantOf xs).length (meantOf xs) ∧ Kept (fun b => b < w.heap.size ∧ b ≠ r) w w' := by
  by_cases hf : fillOf xs ≤ 48
  · have hm : meantOf xs = (xs.drop 16).take (fillOf xs) := if_pos hf
    have hml : (meantOf xs).length = fillOf xs := by rw [hm]; simp; omega
    refine (raw_ok w r g xs 16 (fillOf xs) h (by omega)).mono ?_
    rintro e w' ⟨b, rfl, hb, ha, hk⟩
    rw [← hm] at ha
    refine ⟨b, by rw [hml], ha.row 0 ⟨hb, ha.lt⟩, hk⟩
  · have hm : meantOf xs = [] := if_neg hf
    refine (raw_short w r g xs 16 (fillOf xs) h (by omega)).mono ?_
    rintro e w' ⟨b, rfl, hb, hlt, hk⟩
    rw [hm]
    exact ⟨b, rfl, RowG.nil _ _ _ _ _, hk⟩
def stampV (xs : List Int) : Value := .agg #[.int .u64 (genOf xs), .int .u32 (posOf xs), .int .i64 (fillOf xs)]
def SaidTold (xs : List Int) (w : World) (e : Ending) (w' : World) : Prop :=
  ∃ A c, e = .returned (.tuple #[.agg #[.int .u64 (genOf xs), .int .u32 (posOf xs), .int .i64 (fillOf xs)], .slice A (meantOf xs).length c]) ∧
    RowI .u8 w' (fun b => w.heap.size ≤ b ∧ b < w'.heap.size) A (meantOf xs).length (meantOf xs) ∧ Below w.heap.size w w' ∧ (A = none → c = 0)
def SaidTold2 (xs : List Int) (w : World) (e : Ending) (w' : World) : Prop :=
  ∃ A c, e = .returned (.tuple #[.agg #[.int .u64 (genOf xs), .int .u32 (posOf xs), .int .i64 (fillOf xs)], .slice A (meantOf xs).length c]) ∧
    RowI .u8 w' (fun b => w.heap.size ≤ b ∧ b < w'.heap.size) A (meantOf xs).length (meantOf xs) ∧ Below w.heap.size w w' ∧ (A = none → c = 0) ∧ (meantOf xs).length ≤ c
structure Saying (w wi : World) (r : Nat) (xs : List Int) (pos : Nat) (A B C : Value) : Prop where
  rd : Rd wi r (w.heap.size + 3) xs pos 0
  lo : w.heap.size + 3 < r
  zero : Blk wi (w.heap.size + 1) 147 #[.int .u64 0, .int .u32 0, .int .i64 0]
  st : Blk wi (w.heap.size + 1 + 1) 147 #[A, B, C]
  bel : Below w.heap.size w wi
theorem Saying.cells {w wi w' : World} {r : Nat} {xs : List Int} {pos : Nat} {A B C : Value} (h : Saying w wi r xs pos A B C) (hk : Kept (fun b => b < wi.heap.size ∧ b ≠ r) wi w') :
    (w'.cell? ⟨w.heap.size + 1 + 1, 0, none⟩ = some A ∧ w'.cell? ⟨w.heap.size + 1 + 1, 1, none⟩ = some B ∧ w'.cell? ⟨w.heap.size + 1 + 1, 2, none⟩ = some C) ∧ Blk w' (w.heap.size + 1) 147 #[.int .u64 0, .int .u32 0, .int .i64 0] := by
  have hs := h.st.kept hk ⟨h.st.lt, by have := h.lo; omega⟩
  exact ⟨⟨hs.cell 0, hs.cell 1, hs.cell 2⟩, h.zero.kept hk ⟨h.zero.lt, by have := h.lo; omega⟩⟩
theorem Saying.drew {w wi : World} {r : Nat} {xs : List Int} {pos : Nat} {A B C : Value} (h : Saying w wi r xs pos A B C) : Saying w wi.drew r xs pos A B C := ⟨h.rd, h.lo, h.zero, h.st, h.bel.drew⟩
theorem Saying.read {w wi w' : World} {r : Nat} {xs : List Int} {pos pos' : Nat} {A B C : Value} (h : Saying w wi r xs pos A B C) (hr : Rd w' r (w.heap.size + 3) xs pos' 0) (hk : Kept (fun b => b < wi.heap.size ∧ b ≠ r) wi w') : Saying w w' r xs pos' A B C :=
  ⟨hr, h.lo, h.zero.kept hk ⟨h.zero.lt, by have := h.lo; omega⟩, h.st.kept hk ⟨h.st.lt, by have := h.lo; omega⟩, h.bel.trans (hk.to_below fun b hb => ⟨Nat.lt_of_lt_of_le hb h.bel.size, by have := h.lo; omega⟩)⟩
theorem Saying.set {w wi : World} {r : Nat} {xs : List Int} {pos : Nat} {A B C A' B' C' : Value} (h : Saying w wi r xs pos A B C) (i : Nat) (u : Value) (hu : (#[A, B, C] : Array Value).setIfInBounds i u = #[A', B', C']) :
    Saying w (wi.setCell ⟨w.heap.size + 1 + 1, i, none⟩ u) r xs pos A' B' C' :=
  ⟨h.rd.far (by have := h.lo; show w.heap.size + 1 + 1 ≠ r; omega) (by show w.heap.size + 1 + 1 ≠ w.heap.size + 3; omega) u, h.lo, h.zero.far (by show w.heap.size + 1 ≠ w.heap.size + 1 + 1; omega) u, hu ▸ h.st.set_ i u, h.bel.setCell (by show w.heap.size ≤ w.heap.size + 1 + 1; omega) u⟩
set_option maxHeartbeats 1000000 in
theorem said_any2 (xs : List Int) (w : World) (hl : xs.length = 64) (hb : Bytes xs) :
    Calls Tryz.prog 157 #[.agg (cells8 xs)] w (SaidTold2 xs w) := by
  have HBY := Lib.hid hb
  have HL := Lib.hid hl
  clear hb hl
  go_enter Tryz.func157, Tryz.ntmps157
  go_wp2_with fail
  generalize hw1 : ((w.alloc _).alloc _).alloc _ = w1
  have HBL1 := Lib.hid (show Below w.heap.size w w1 by rw [← hw1]; exact (((Below.refl _ _).alloc (Nat.le_refl _) _).alloc (by simp) _).alloc (by simp; omega) _)
  have HS1 := Lib.hid (show w1.heap.size = w.heap.size + 3 by rw [← hw1]; simp)
  have HX1 := Lib.hid (show ArrB w1 w.heap.size xs by rw [← hw1]; exact ((Blk.new w _ _).alloc _).alloc _)
  have HZ1 := Lib.hid (show Blk w1 (w.heap.size + 1) 147 #[.int .u64 0, .int .u32 0, .int .i64 0] by rw [← hw1]; have := (Blk.new (w.alloc (.cells (cells8 xs) 84)) 147 #[.int .u64 0, .int .u32 0, .int .i64 0]).alloc (.cells #[.int .u64 0, .int .u32 0, .int .i64 0] 147); simpa using this)
  have HT1 := Lib.hid (show Blk w1 (w.heap.size + 1 + 1) 147 #[.int .u64 0, .int .u32 0, .int .i64 0] by rw [← hw1]; have := Blk.new ((w.alloc (.cells (cells8 xs) 84)).alloc (.cells #[.int .u64 0, .int .u32 0, .int .i64 0] 147)) 147 #[.int .u64 0, .int .u32 0, .int .i64 0]; simpa using this)
  clear hw1
  refine (read_any _ 64 64 xs (· = w.heap.size) w1 (HX1.out.rowN 0 HL.out rfl) (fun b h => by have := HS1.out; omega) (by omega)).mono ?_
  rintro e w2 ⟨r, rfl, hr, hrd, hb⟩
  have HY2 := Lib.hid (show Saying w w2 r xs 0 (.int .u64 0) (.int .u32 0) (.int .i64 0) from
    ⟨by rw [← HS1.out]; exact hrd, by have := HS1.out; omega, HZ1.out.below hb (by have := HS1.out; omega), HT1.out.below hb (by have := HS1.out; omega), HBL1.out.trans (hb.mono HBL1.out.size)⟩)
  clear hr hrd hb
  go_wp2_with fail
  refine (u64_ok w2 r _ xs 0 HY2.out.rd (by have := HL.out; omega) HBY.out).mono ?_
  rintro e w3 ⟨rfl, hrd, hk⟩
  rw [List.drop_zero]
  have HY3 := Lib.hid ((HY2.out.read hrd hk).set 0 (.int .u64 (genOf xs)) rfl)
  have hc := (HY2.out.read hrd hk).st.cell 0
  have hf := (HY2.out.read hrd hk).st.frozen 0
  clear hrd hk
  go_wp2_with fail
  refine (u32_ok _ r _ xs 8 HY3.out.rd (by have := HL.out; omega) HBY.out).mono ?_
  rintro e w4 ⟨rfl, hrd, hk⟩
  have HY4 := Lib.hid ((HY3.out.read hrd hk).set 1 (.int .u32 (posOf xs)) rfl)
  have hc := (HY3.out.read hrd hk).st.cell 1
  have hf := (HY3.out.read hrd hk).st.frozen 1
  clear hrd hk
  go_wp2_with fail
  refine (u16_ok _ r _ xs 12 HY4.out.rd (by have := HL.out; omega) HBY.out).mono ?_
  rintro e w5 ⟨rfl, hrd, hk⟩
  rw [fill_eq HBY.out]
  have HY5 := Lib.hid ((HY4.out.read hrd hk).set 2 (.int .i64 (fillOf xs)) rfl)
  have hc := (HY4.out.read hrd hk).st.cell 2
  have hf := (HY4.out.read hrd hk).st.frozen 2
  have hfl := fill_lt HBY.out
  clear hrd hk
  go_wp2_with fail
  refine (u16_ok _ r _ xs 14 HY5.out.rd (by have := HL.out; omega) HBY.out).mono ?_
  rintro e w6 ⟨rfl, hrd, hk⟩
  have HY6 := Lib.hid (HY5.out.read hrd hk)
  clear hrd hk
  go_wp2_with fail
  have c0 := HY6.out.st.cell 0
  have c1 := HY6.out.st.cell 1
  have c2 := HY6.out.st.cell 2
  simp only [List.getElem?_toArray, List.getElem?_cons_zero, List.getElem?_cons_succ] at c0 c1 c2
  go_region_held3 (fun W => W.cell? ⟨w.heap.size + 1 + 1, 0, none⟩ = some (.int .u64 (genOf xs)) ∧ W.cell? ⟨w.heap.size + 1 + 1, 1, none⟩ = some (.int .u32 (posOf xs)) ∧ W.cell? ⟨w.heap.size + 1 + 1, 2, none⟩ = some (.int .i64 (fillOf xs)))
    (first | exact ⟨c0, c1, c2⟩ | exact ⟨d0, d1, d2⟩ | exact ⟨e0, e1, e2⟩)
    (first
      | (go_at_call 151; refine (raw_meant _ r (w.heap.size + 3) xs ?_ ?_).mono ?_; exact HY6.out.rd; exact HL.out; rintro e w7 ⟨b7, rfl, hrow, hk⟩; have HROW := Lib.hid hrow; have HK7 := Lib.hid hk; clear hrow hk; have hcz := HY6.out.drew.cells HK7.out; obtain ⟨⟨d0, d1, d2⟩, hz⟩ := hcz; have HZ7 := Lib.hid hz; have z0 := hz.cell 0; have z1 := hz.cell 1; have z2 := hz.cell 2; have y0 := hz.frozen 0; have y1 := hz.frozen 1; have y2 := hz.frozen 2; have e0 := (cell_far3 w7 (w.heap.size + 1) (.int .u64 (genOf xs)) (.int .u32 (posOf xs)) (.int .i64 (fillOf xs)) (show w.heap.size + 1 + 1 ≠ w.heap.size + 1 by omega)).trans d0; have e1 := (cell_far3 w7 (w.heap.size + 1) (.int .u64 (genOf xs)) (.int .u32 (posOf xs)) (.int .i64 (fillOf xs)) (show w.heap.size + 1 + 1 ≠ w.heap.size + 1 by omega)).trans d1; have e2 := (cell_far3 w7 (w.heap.size + 1) (.int .u64 (genOf xs)) (.int .u32 (posOf xs)) (.int .i64 (fillOf xs)) (show w.heap.size + 1 + 1 ≠ w.heap.size + 1 by omega)).trans d2; clear hz; simp only [List.getElem?_toArray, List.getElem?_cons_zero, List.getElem?_cons_succ] at z0 z1 z2))
  clear c0 c1 c2 d0 d1 d2 z0 z1 z2 y0 y1 y2 e0 e1 e2
  go_wp2_with (with_reducible refine halt_end ?_)
  have hz := HZ7.out.set3 (.int .u64 (genOf xs)) (.int .u32 (posOf xs)) (.int .i64 (fillOf xs))
  refine Halt.ret (results_row2 rfl _ _ (w.heap.size + 1) 147 _ _ rfl hz Tryz.underlying147 rfl size_stamp) rfl ⟨_, _, rfl, ?_, ?_, (fun h => by cases h), Nat.le_refl _⟩
  · have hb7 := HY6.out.bel.size
    have hs1 := HY6.out.st.lt
    refine (HROW.out.keep (fun p hp => cell_far3 w7 (w.heap.size + 1) _ _ _ ?_)).more (fun b hb => ⟨?_, ?_⟩)
    · have := hp.1
      have h6 : w6.drew.heap.size = w6.heap.size := rfl
      omega
    · have h6 : w6.drew.heap.size = w6.heap.size := rfl
      omega
    · simpa using hb.2
  · exact below_set3 (HY6.out.drew.bel.trans (HK7.out.to_below fun b hb => ⟨Nat.lt_of_lt_of_le hb HY6.out.drew.bel.size, by have := HY6.out.lo; omega⟩)) (by omega) _ _ _
theorem said_any (xs : List Int) (w : World) (hl : xs.length = 64) (hb : Bytes xs) : Calls Tryz.prog 157 #[.agg (cells8 xs)] w (SaidTold xs w) :=
  (said_any2 xs w hl hb).mono fun _ _ ⟨A, c, h1, h2, h3, h4, _⟩ => ⟨A, c, h1, h2, h3, h4⟩
end Go.Proofs.YtodcohkblgjfeaaGreat

namespace Go.Proofs.YtodcohkblgjfeaaGreat
set_option maxRecDepth 100000
open Go.RowKit
set_option linter.unusedVariables false
def stamped (xs : List Int) : Bool := decide (1 ≤ genOf xs) && (packL (genOf xs) (posOf xs) (meantOf xs) == xs)
def ReadTold (xs : List Int) (w : World) (e : Ending) (w' : World) : Prop :=
  ∃ A c, e = .returned (.tuple #[.agg #[.int .u64 (genOf xs), .int .u32 (posOf xs), .int .i64 (fillOf xs)], .slice A (meantOf xs).length c, .int .i64 0]) ∧
    RowI .u8 w' (fun b => w.heap.size ≤ b ∧ b < w'.heap.size) A (meantOf xs).length (meantOf xs) ∧ Below w.heap.size w w' ∧ (A = none → c = 0)
def ReadTold2 (xs : List Int) (w : World) (e : Ending) (w' : World) : Prop :=
  ∃ A c, e = .returned (.tuple #[.agg #[.int .u64 (genOf xs), .int .u32 (posOf xs), .int .i64 (fillOf xs)], .slice A (meantOf xs).length c, .int .i64 0]) ∧
    RowI .u8 w' (fun b => w.heap.size ≤ b ∧ b < w'.heap.size) A (meantOf xs).length (meantOf xs) ∧ Below w.heap.size w w' ∧ (A = none → c = 0) ∧ (meantOf xs).length ≤ c
set_option maxHeartbeats 1000000 in
theorem read_ok2 (xs : List Int) (w : World) (hl : xs.length = 64) (hb : Bytes xs) (hst : stamped xs = true) :
    Calls Tryz.prog 124 #[.agg (cells8 xs)] w (ReadTold2 xs w) := by
  have hgb := gen_bounds hb hl
  have hpb := pos_bounds hb hl
  have hml := meant_le xs
  have hpk := packL_length (genOf xs) (posOf xs) (meantOf xs) hml
  have hg1 : 1 ≤ genOf xs := by simp [stamped] at hst; exact hst.1
  have hsame : (packL (genOf xs) (posOf xs) (meantOf xs) == xs) = true := by simp [stamped] at hst; simpa using hst.2
  have HBY := Lib.hid hb
  have HL := Lib.hid hl
  have HGB := Lib.hid hgb
  have HPB := Lib.hid hpb
  have HPK := Lib.hid hpk
  have HSAME := Lib.hid hsame
  have HX0 := Lib.hid (show ArrB ((w.alloc (.cells (cells8 xs) 84)).alloc (.cells #[.int .u64 0, .int .u32 0, .int .i64 0] 147)) w.heap.size xs from (Blk.new w _ _).alloc _)
  clear hb hl hst hgb hpb hpk hsame
  go_enter Tryz.func124, Tryz.ntmps124
  go_wp2_with (refine wpList_load_blk (.tmp 1) rfl rfl w.heap.size 0 rfl xs HL.out HX0.out.range ?_)
  generalize hw1 : (w.alloc _).alloc _ = w1 at *
  have HZ1 := Lib.hid (show Blk w1 (w.heap.size + 1) 147 #[.int .u64 0, .int .u32 0, .int .i64 0] by rw [← hw1]; have := Blk.new (w.alloc (.cells (cells8 xs) 84)) 147 #[.int .u64 0, .int .u32 0, .int .i64 0]; simpa using this)
  have HB1 := Lib.hid (show Below w.heap.size w w1 by rw [← hw1]; exact ((Below.refl _ _).alloc (Nat.le_refl _) _).alloc (by simp) _)
  clear hw1
  refine (said_any2 xs w1 HL.out HBY.out).mono ?_
  rintro e w2 ⟨A, c, rfl, hrow, hb, hnil, hcap⟩
  have HNIL := Lib.hid (And.intro hnil hcap)
  clear hnil hcap
  have HR2 := Lib.hid hrow
  have HB2 := Lib.hid hb
  have HZ2 := Lib.hid (HZ1.out.below hb HZ1.out.lt)
  have HX2 := Lib.hid (HX0.out.below hb HX0.out.lt)
  clear hrow hb
  go_wp2_with fail
  generalize hw3 : w2.alloc _ = w3 at *
  have hb3 : Below w2.heap.size w2 w3 := by rw [← hw3]; exact (Below.refl _ _).alloc (Nat.le_refl _) _
  have HS3 := Lib.hid (show Blk w3 w2.heap.size 147 #[.int .u64 (genOf xs), .int .u32 (posOf xs), .int .i64 (fillOf xs)] by rw [← hw3]; exact Blk.new w2 _ _)
  have HB3 := Lib.hid hb3
  have HR3 := Lib.hid (HR2.out.below hb3 (fun b h => h.2))
  clear hw3 hb3
  refine (pack_ok (genOf xs) (posOf xs) A (meantOf xs).length c (meantOf xs) _ w3 HR3.out (fun b h => Nat.lt_of_lt_of_le h.2 HB3.out.size) hg1 HGB.out.2 HPB.out.1 HPB.out.2 hml).mono ?_
  rintro e w4 ⟨rfl, hb⟩
  have HB4 := Lib.hid hb
  have HX4 := Lib.hid ((HX2.out.below HB3.out HX2.out.lt).below hb (Nat.lt_of_lt_of_le HX2.out.lt HB3.out.size))
  have HZ4 := Lib.hid ((HZ2.out.below HB3.out HZ2.out.lt).below hb (Nat.lt_of_lt_of_le HZ2.out.lt HB3.out.size))
  have HS4 := Lib.hid (HS3.out.below hb HS3.out.lt)
  have HR4 := Lib.hid (HR3.out.below hb (fun b h => Nat.lt_of_lt_of_le h.2 HB3.out.size))
  obtain ⟨w5, hw5⟩ : ∃ w5, w5 = w4.alloc (.cells (cells8 (packL (genOf xs) (posOf xs) (meantOf xs))) 84) := ⟨_, rfl⟩
  have HX5 := Lib.hid (show ArrB w5 w.heap.size xs by rw [hw5]; exact HX4.out.alloc _)
  have HP5 := Lib.hid (show ArrB w5 w4.heap.size (packL (genOf xs) (posOf xs) (meantOf xs)) by rw [hw5]; exact Blk.new w4 _ _)
  have HS5 := Lib.hid (show Blk w5 w2.heap.size 147 #[.int .u64 (genOf xs), .int .u32 (posOf xs), .int .i64 (fillOf xs)] by rw [hw5]; exact HS4.out.alloc _)
  have HZ5 := Lib.hid (show Blk w5 (w.heap.size + 1) 147 #[.int .u64 0, .int .u32 0, .int .i64 0] by rw [hw5]; exact HZ4.out.alloc _)
  have HR5 := Lib.hid (HR4.out.below (w' := w5) (B := w4.heap.size) (by rw [hw5]; exact (Below.refl _ _).alloc (Nat.le_refl _) _) (fun b h => Nat.lt_of_lt_of_le h.2 (Nat.le_trans HB3.out.size HB4.out.size)))
  have HB5 := Lib.hid (show Below w4.heap.size w4 w5 by rw [hw5]; exact (Below.refl _ _).alloc (Nat.le_refl _) _)
  have HW5 := Lib.hid hw5
  clear hw5
  have c0 := HS5.out.cell 0
  have c1 := HS5.out.cell 1
  have c2 := HS5.out.cell 2
  have z0 := HZ5.out.cell 0
  have z1 := HZ5.out.cell 1
  have z2 := HZ5.out.cell 2
  have y0 := HZ5.out.frozen 0
  have y1 := HZ5.out.frozen 1
  have y2 := HZ5.out.frozen 2
  simp only [List.getElem?_toArray, List.getElem?_cons_zero, List.getElem?_cons_succ] at c0 c1 c2 z0 z1 z2
  clear hb
  go_wp2_with (first
    | (with_reducible refine halt_end ?_)
    | (refine wpList_alloc_blk rfl rfl ?_)
    | (refine wpList_store_new _ _ rfl rfl w4 (packL (genOf xs) (posOf xs) (meantOf xs)) rfl rfl (noughts 64) rfl (noughts_length 64) HPK.out ?_; rw [← HW5.out])
    | (refine wpList_load_blk (.tmp 7) rfl rfl w4.heap.size 0 rfl _ HPK.out HP5.out.range ?_)
    | (refine wpList_load_blk (.tmp 1) rfl rfl w.heap.size 0 rfl _ HL.out HX5.out.range ?_)
    | (refine wpList_neq_blk (.tmp 26) (.tmp 27) _ rfl rfl _ _ rfl rfl HPK.out HL.out ?_; rw [HSAME.out]))
  have hz := HZ5.out.set3 (.int .u64 (genOf xs)) (.int .u32 (posOf xs)) (.int .i64 (fillOf xs))
  have hs1 := HB1.out.size
  have hs2 := HB2.out.size
  have hs3 := HB3.out.size
  have hs4 := HB4.out.size
  have hs5 := HB5.out.size
  have hz1 := HZ1.out.lt
  refine Halt.ret (results_row3 rfl _ _ (w.heap.size + 1) 147 _ _ rfl hz Tryz.underlying147 rfl size_stamp) rfl ⟨_, _, rfl, ?_, ?_, HNIL.out.1, HNIL.out.2⟩
  · refine (HR5.out.keep (fun p hp => cell_far3 w5 (w.heap.size + 1) _ _ _ ?_)).more (fun b hb => ⟨?_, ?_⟩)
    · have := hp.1
      omega
    · omega
    · have := hb.2
      simp
      omega
  · exact below_set3 ((((HB1.out.trans (HB2.out.mono (by omega))).trans (HB3.out.mono (by omega))).trans (HB4.out.mono (by omega))).trans (HB5.out.mono (by omega))) (by omega) _ _ _
theorem read_ok_s5 (xs : List Int) (w : World) (hl : xs.length = 64) (hb : Bytes xs) (hst : stamped xs = true) : Calls Tryz.prog 124 #[.agg (cells8 xs)] w (ReadTold xs w) :=
  (read_ok2 xs w hl hb hst).mono fun _ _ ⟨A, c, h1, h2, h3, h4, _⟩ => ⟨A, c, h1, h2, h3, h4⟩
set_option maxHeartbeats 1000000 in
theorem read_bad (xs : List Int) (w : World) (hl : xs.length = 64) (hb : Bytes xs) (hst : stamped xs = false) :
    Calls Tryz.prog 124 #[.agg (cells8 xs)] w fun e w' => e = .returned (.tuple #[.agg #[.int .u64 0, .int .u32 0, .int .i64 0], .slice none 0 0, .int .i64 150]) ∧ Below w.heap.size w w' := by
  have hgb := gen_bounds hb hl
  have hpb := pos_bounds hb hl
  have hml := meant_le xs
  have hpk := packL_length (genOf xs) (posOf xs) (meantOf xs) hml
  have HBY := Lib.hid hb
  have HL := Lib.hid hl
  have HGB := Lib.hid hgb
  have HPB := Lib.hid hpb
  have HPK := Lib.hid hpk
  have HST := Lib.hid hst
  have HX0 := Lib.hid (show ArrB ((w.alloc (.cells (cells8 xs) 84)).alloc (.cells #[.int .u64 0, .int .u32 0, .int .i64 0] 147)) w.heap.size xs from (Blk.new w _ _).alloc _)
  clear hb hl hst hgb hpb hpk
  go_enter Tryz.func124, Tryz.ntmps124
  go_wp2_with (refine wpList_load_blk (.tmp 1) rfl rfl w.heap.size 0 rfl xs HL.out HX0.out.range ?_)
  generalize hw1 : (w.alloc _).alloc _ = w1 at *
  have HZ1 := Lib.hid (show Blk w1 (w.heap.size + 1) 147 #[.int .u64 0, .int .u32 0, .int .i64 0] by rw [← hw1]; have := Blk.new (w.alloc (.cells (cells8 xs) 84)) 147 #[.int .u64 0, .int .u32 0, .int .i64 0]; simpa using this)
  have HB1 := Lib.hid (show Below w.heap.size w w1 by rw [← hw1]; exact ((Below.refl _ _).alloc (Nat.le_refl _) _).alloc (by simp) _)
  clear hw1
  refine (said_any xs w1 HL.out HBY.out).mono ?_
  rintro e w2 ⟨A, c, rfl, hrow, hb, hnil⟩
  have HNIL := Lib.hid hnil
  clear hnil
  have HR2 := Lib.hid hrow
  have HB2 := Lib.hid hb
  have HZ2 := Lib.hid (HZ1.out.below hb HZ1.out.lt)
  have HX2 := Lib.hid (HX0.out.below hb HX0.out.lt)
  clear hrow hb
  by_cases hg1 : 1 ≤ genOf xs
  · have HNE := Lib.hid (show (packL (genOf xs) (posOf xs) (meantOf xs) == xs) = false by
      have h := HST.out
      unfold stamped at h
      rw [decide_eq_true hg1, Bool.true_and] at h
      exact h)
    go_wp2_with fail
    generalize hw3 : w2.alloc _ = w3 at *
    have hb3 : Below w2.heap.size w2 w3 := by rw [← hw3]; exact (Below.refl _ _).alloc (Nat.le_refl _) _
    have HB3 := Lib.hid hb3
    have HR3 := Lib.hid (HR2.out.below hb3 (fun b h => h.2))
    clear hw3 hb3
    refine (pack_ok (genOf xs) (posOf xs) A (meantOf xs).length c (meantOf xs) _ w3 HR3.out (fun b h => Nat.lt_of_lt_of_le h.2 HB3.out.size) hg1 HGB.out.2 HPB.out.1 HPB.out.2 hml).mono ?_
    rintro e w4 ⟨rfl, hb⟩
    have HB4 := Lib.hid hb
    have HX4 := Lib.hid ((HX2.out.below HB3.out HX2.out.lt).below hb (Nat.lt_of_lt_of_le HX2.out.lt HB3.out.size))
    have HZ4 := Lib.hid ((HZ2.out.below HB3.out HZ2.out.lt).below hb (Nat.lt_of_lt_of_le HZ2.out.lt HB3.out.size))
    obtain ⟨w5, hw5⟩ : ∃ w5, w5 = w4.alloc (.cells (cells8 (packL (genOf xs) (posOf xs) (meantOf xs))) 84) := ⟨_, rfl⟩
    have HX5 := Lib.hid (show ArrB w5 w.heap.size xs by rw [hw5]; exact HX4.out.alloc _)
    have HP5 := Lib.hid (show ArrB w5 w4.heap.size (packL (genOf xs) (posOf xs) (meantOf xs)) by rw [hw5]; exact Blk.new w4 _ _)
    have HZ5 := Lib.hid (show Blk w5 (w.heap.size + 1) 147 #[.int .u64 0, .int .u32 0, .int .i64 0] by rw [hw5]; exact HZ4.out.alloc _)
    have HB5 := Lib.hid (show Below w4.heap.size w4 w5 by rw [hw5]; exact (Below.refl _ _).alloc (Nat.le_refl _) _)
    have HW5 := Lib.hid hw5
    clear hw5
    have z0 := HZ5.out.cell 0
    have z1 := HZ5.out.cell 1
    have z2 := HZ5.out.cell 2
    have y0 := HZ5.out.frozen 0
    have y1 := HZ5.out.frozen 1
    have y2 := HZ5.out.frozen 2
    simp only [List.getElem?_toArray, List.getElem?_cons_zero, List.getElem?_cons_succ] at z0 z1 z2
    clear hb
    go_wp2_with (first
      | (with_reducible refine halt_end ?_)
      | (refine wpList_alloc_blk rfl rfl ?_)
      | (refine wpList_store_new _ _ rfl rfl w4 (packL (genOf xs) (posOf xs) (meantOf xs)) rfl rfl (noughts 64) rfl (noughts_length 64) HPK.out ?_; rw [← HW5.out])
      | (refine wpList_load_blk (.tmp 7) rfl rfl w4.heap.size 0 rfl _ HPK.out HP5.out.range ?_)
      | (refine wpList_load_blk (.tmp 1) rfl rfl w.heap.size 0 rfl _ HL.out HX5.out.range ?_)
      | (refine wpList_neq_blk (.tmp 26) (.tmp 27) _ rfl rfl _ _ rfl rfl HPK.out HL.out ?_; rw [HNE.out]))
    have hz := HZ5.out.set3 (.int .u64 0) (.int .u32 0) (.int .i64 0)
    have hs1 := HB1.out.size
    have hs2 := HB2.out.size
    have hs3 := HB3.out.size
    have hs4 := HB4.out.size
    have hs5 := HB5.out.size
    refine Halt.ret (results_row3 rfl _ _ (w.heap.size + 1) 147 _ _ rfl hz Tryz.underlying147 rfl size_stamp) rfl ⟨rfl, ?_⟩
    exact below_set3 ((((HB1.out.trans (HB2.out.mono (by omega))).trans (HB3.out.mono (by omega))).trans (HB4.out.mono (by omega))).trans (HB5.out.mono (by omega))) (by omega) _ _ _
  · have HG := Lib.hid (show genOf xs = 0 by have := HGB.out; omega)
    go_wp2_with fail
    generalize hw3 : w2.alloc _ = w3 at *
    have hb3 : Below w2.heap.size w2 w3 := by rw [← hw3]; exact (Below.refl _ _).alloc (Nat.le_refl _) _
    have HB3 := Lib.hid hb3
    rw [HG.out]
    clear hw3 hb3
    refine (pack_zero (posOf xs) A (meantOf xs).length c w3).mono ?_
    rintro e w4 ⟨rfl, hb⟩
    have HB4 := Lib.hid hb
    have HZ4 := Lib.hid ((HZ2.out.below HB3.out HZ2.out.lt).below hb (Nat.lt_of_lt_of_le HZ2.out.lt HB3.out.size))
    obtain ⟨w5, hw5⟩ : ∃ w5, w5 = w4.alloc (.cells (cells8 (noughts 64)) 84) := ⟨_, rfl⟩
    have HZ5 := Lib.hid (show Blk w5 (w.heap.size + 1) 147 #[.int .u64 0, .int .u32 0, .int .i64 0] by rw [hw5]; exact HZ4.out.alloc _)
    have HB5 := Lib.hid (show Below w4.heap.size w4 w5 by rw [hw5]; exact (Below.refl _ _).alloc (Nat.le_refl _) _)
    have HW5 := Lib.hid hw5
    clear hw5
    have z0 := HZ5.out.cell 0
    have z1 := HZ5.out.cell 1
    have z2 := HZ5.out.cell 2
    have y0 := HZ5.out.frozen 0
    have y1 := HZ5.out.frozen 1
    have y2 := HZ5.out.frozen 2
    simp only [List.getElem?_toArray, List.getElem?_cons_zero, List.getElem?_cons_succ] at z0 z1 z2
    clear hb
    go_wp2_with (first
      | (with_reducible refine halt_end ?_)
      | (refine wpList_alloc_blk rfl rfl ?_)
      | (refine wpList_store_new _ _ rfl rfl w4 (noughts 64) rfl rfl (noughts 64) rfl (noughts_length 64) (noughts_length 64) ?_; rw [← HW5.out]))
    have hz := HZ5.out.set3 (.int .u64 0) (.int .u32 0) (.int .i64 0)
    have hs1 := HB1.out.size
    have hs2 := HB2.out.size
    have hs3 := HB3.out.size
    have hs4 := HB4.out.size
    have hs5 := HB5.out.size
    refine Halt.ret (results_row3 rfl _ _ (w.heap.size + 1) 147 _ _ rfl hz Tryz.underlying147 rfl size_stamp) rfl ⟨rfl, ?_⟩
    exact below_set3 ((((HB1.out.trans (HB2.out.mono (by omega))).trans (HB3.out.mono (by omega))).trans (HB4.out.mono (by omega))).trans (HB5.out.mono (by omega))) (by omega) _ _ _
end Go.Proofs.YtodcohkblgjfeaaGreat

namespace Go.Proofs.YtodcohkblgjfeaaGreat
set_option maxRecDepth 100000
open Go.RowKit
set_option linter.unusedVariables false
theorem five_parts (xs : List Int) (hl : xs.length = 64) : xs = (((xs.take 8 ++ (xs.drop 8).take 4) ++ (xs.drop 12).take 2) ++ (xs.drop 14).take 2) ++ xs.drop 16 := by
  apply getD_ext
  · simp; omega
  · intro j hj
    simp only [List.getD, List.getElem?_append, List.getElem?_take, List.getElem?_drop, List.length_append, List.length_take, List.length_drop, hl]
    by_cases h1 : j < 8
    · simp [h1, show j < 10 by omega, show j < 12 by omega, show j < 14 by omega, show j < 16 by omega]
    · by_cases h2 : j < 12
      · simp [h1, h2, show j < 14 by omega, show j < 16 by omega, show j - 8 < 4 by omega, show 8 + (j - 8) = j by omega]
      · by_cases h3 : j < 14
        · simp [h1, h2, h3, show j < 16 by omega, show j - 12 < 2 by omega, show 12 + (j - 12) = j by omega]
        · by_cases h4 : j < 16
          · simp [h1, h2, h3, h4, show j - 14 < 2 by omega, show 14 + (j - 14) = j by omega]
          · simp [h1, h2, h3, h4, show 16 + (j - 16) = j by omega]
def Right (xs : List Int) : Prop := 1 ≤ genOf xs ∧ fillOf xs ≤ 48 ∧ xs.getD 14 0 = 0 ∧ xs.getD 15 0 = 0 ∧ ∀ i, 16 + fillOf xs ≤ i → i < 64 → xs.getD i 0 = 0
theorem pack_same (xs : List Int) (hl : xs.length = 64) (hb : Bytes xs) :
    packL (genOf xs) (posOf xs) (meantOf xs) = xs ↔ beBytes (meantOf xs).length 2 = (xs.drop 12).take 2 ∧ beBytes 0 2 = (xs.drop 14).take 2 ∧ meantOf xs ++ noughts (48 - (meantOf xs).length) = xs.drop 16 := by
  have h1 : beBytes (genOf xs) 8 = xs.take 8 := be_num 8 _ (hb.take 8) (by simp; omega)
  have h2 : beBytes (posOf xs) 4 = (xs.drop 8).take 4 := be_num 4 _ (bytes_part hb 8 4) (by simp; omega)
  have h5 := five_parts xs hl
  constructor
  · intro h
    rw [h5] at h
    conv at h => lhs; rw [← h5]
    unfold packL headL at h
    rw [h1, h2, List.append_assoc] at h
    have a1 := List.append_inj h (by simp [beBytes_length]; omega)
    have a2 := List.append_inj a1.1 (by simp [beBytes_length]; omega)
    have a3 := List.append_inj a2.1 (by simp)
    exact ⟨a3.2, a2.2, a1.2⟩
  · rintro ⟨e1, e2, e3⟩
    unfold packL headL
    rw [h1, h2, e1, e2, List.append_assoc, e3]
    exact h5.symm
theorem two_parts (xs : List Int) (hl : xs.length = 64) : (xs.drop 14).take 2 = [xs.getD 14 0, xs.getD 15 0] := by
  apply getD_ext
  · simp; omega
  · intro j hj
    have hj : j < 2 := by simp at hj; omega
    match j, hj with
    | 0, _ => simp [List.getD]
    | 1, _ => simp [List.getD]
theorem stamped_iff (xs : List Int) (hl : xs.length = 64) (hb : Bytes xs) : stamped xs = true ↔ Right xs := by
  unfold stamped Right
  rw [Bool.and_eq_true, decide_eq_true_eq, beq_iff_eq, pack_same xs hl hb]
  have hz : beBytes 0 2 = [0, 0] := rfl
  rw [hz, two_parts xs hl]
  refine and_congr_right fun hg => ?_
  have hfe := fill_eq hb
  constructor
  · rintro ⟨e1, e2, e3⟩
    have hm : ((meantOf xs).length : Int) = (fillOf xs : Int) := by
      rw [← hfe, ← e1, num_be 2 _ (by omega) (by have := meant_le xs; simp; omega)]
    have hf : fillOf xs ≤ 48 := by have := meant_le xs; omega
    injection e2 with e20 e21
    injection e21 with e21 _
    refine ⟨hf, e20.symm, e21.symm, fun i h1 h2 => ?_⟩
    have : xs.getD i 0 = (xs.drop 16).getD (i - 16) 0 := by simp [List.getD, List.getElem?_drop, show 16 + (i - 16) = i by omega]
    rw [this, ← e3, List.getD, List.getElem?_append_right (by omega)]
    exact noughts_get _ _
  · rintro ⟨hf, e14, e15, e5⟩
    have hm : meantOf xs = (xs.drop 16).take (fillOf xs) := if_pos hf
    have hml : (meantOf xs).length = fillOf xs := by rw [hm]; simp; omega
    refine ⟨?_, by rw [e14, e15], ?_⟩
    · rw [hml, ← hfe]
      exact be_num 2 _ (bytes_part hb 12 2) (by simp; omega)
    · apply getD_ext
      · rw [List.length_append, hml, noughts_length]; simp; omega
      · intro j hj
        rw [List.length_append, hml, noughts_length] at hj
        by_cases h : j < fillOf xs
        · rw [List.getD, List.getElem?_append_left (by omega), hm]
          simp [List.getD, List.getElem?_take, h]
        · rw [List.getD, List.getElem?_append_right (by omega)]
          have := e5 (16 + j) (by omega) (by omega)
          rw [show (xs.drop 16).getD j 0 = xs.getD (16 + j) 0 by simp [List.getD, List.getElem?_drop], this]
          exact noughts_get _ _
theorem pack_bytes (g p : Int) (pay : List Int) (hb : Bytes pay) : Bytes (packL g p pay) := by
  have key : ∀ a b : List Int, Bytes a → Bytes b → Bytes (a ++ b) := by
    intro a b ha hb j
    by_cases h : j < a.length
    · have := ha j; simpa [List.getD, List.getElem?_append_left h] using this
    · have := hb (j - a.length); simpa [List.getD, List.getElem?_append_right (Nat.le_of_not_lt h)] using this
  exact key _ _ (key _ _ (key _ _ (key _ _ (key _ _ (beBytes_bytes _ _) (beBytes_bytes _ _)) (beBytes_bytes _ _)) (beBytes_bytes _ _)) hb) (noughts_bytes _)
theorem pack_said (g p : Int) (pay : List Int) (hg : 0 ≤ g) (hg2 : g ≤ 18446744073709551615) (hp : 0 ≤ p) (hp2 : p ≤ 4294967295) (hl : pay.length ≤ 48) :
    genOf (packL g p pay) = g ∧ posOf (packL g p pay) = p ∧ fillOf (packL g p pay) = pay.length ∧ meantOf (packL g p pay) = pay := by
  have e1 : (packL g p pay).take 8 = beBytes g 8 := by
    unfold packL headL
    simp only [List.append_assoc]
    exact List.take_left' (beBytes_length _ _)
  have e2 : ((packL g p pay).drop 8).take 4 = beBytes p 4 := by
    unfold packL headL
    simp only [List.append_assoc]
    rw [List.drop_left' (beBytes_length _ _)]
    exact List.take_left' (beBytes_length _ _)
  have e3 : ((packL g p pay).drop 12).take 2 = beBytes pay.length 2 := by
    unfold packL headL
    simp only [List.append_assoc]
    rw [← List.append_assoc, List.drop_left' (by simp [beBytes_length])]
    exact List.take_left' (beBytes_length _ _)
  have e4 : (packL g p pay).drop 16 = pay ++ noughts (48 - pay.length) := by
    unfold packL
    rw [List.append_assoc]
    exact List.drop_left' (headL_length _ _ _)
  have hf : fillOf (packL g p pay) = pay.length := by
    unfold fillOf
    rw [e3, num_be 2 _ (by omega) (by simp; omega)]
    omega
  refine ⟨?_, ?_, hf, ?_⟩
  · unfold genOf
    rw [e1, num_be 8 _ hg (by simp; omega)]
  · unfold posOf
    rw [e2, num_be 4 _ hp (by simp; omega)]
  · unfold meantOf
    rw [if_pos (by omega), hf, e4]
    exact List.take_left' rfl
theorem pack_stamped (g p : Int) (pay : List Int) (hg : 1 ≤ g) (hg2 : g ≤ 18446744073709551615) (hp : 0 ≤ p) (hp2 : p ≤ 4294967295) (hl : pay.length ≤ 48) : stamped (packL g p pay) = true := by
  obtain ⟨e1, e2, e3, e4⟩ := pack_said g p pay (by omega) hg2 hp hp2 hl
  unfold stamped
  rw [e1, e2, e4, decide_eq_true hg]
  simp
end Go.Proofs.YtodcohkblgjfeaaGreat

namespace Go.Proofs.YtodcohkblgjfeaaGreat
set_option maxRecDepth 100000
open Go.RowKit
set_option linter.unusedVariables false
def cntOf (n : Nat) : Nat := (n - 1) / 48 + 1
theorem cnt_bounds (n : Nat) (h : n ≤ 16384) : 1 ≤ cntOf n ∧ cntOf n ≤ 342 ∧ n ≤ 48 * cntOf n ∧ 48 * (cntOf n - 1) ≤ n := by unfold cntOf; omega
theorem sectors_any (n : Nat) (w : World) (hn : n ≤ 140737488351232) : Calls Tryz.prog 143 #[.int .i64 n] w fun e w' => e = .returned (.int .i64 (cntOf n)) ∧ w = w' := by
  by_cases h : n = 0
  · subst h
    go_enter Tryz.func143, Tryz.ntmps143
    go_wp2
    go_ret
    exact ⟨rfl, rfl⟩
  · have h0 : ¬ (n : Int) < 0 := by omega
    have h1 : ((n : Int) == 0) = false := by simp; omega
    have h2 : 1 ≤ (n : Int) := by omega
    have h3 : (n : Int) ≤ 140737488351232 := by omega
    go_enter Tryz.func143, Tryz.ntmps143
    go_wp2
    go_ret
    exact ⟨ret_int (by unfold cntOf; omega), rfl⟩
theorem sectors_neg (x : Int) (w : World) (hx : x < 0) : Calls Tryz.prog 143 #[.int .i64 x] w fun e w' => e = .returned (.int .i64 0) ∧ w = w' := by
  go_enter Tryz.func143, Tryz.ntmps143
  go_wp2
  go_ret
  exact ⟨rfl, rfl⟩
def partOf (xs : List Int) (k : Nat) : List Int := (xs.drop (48 * k)).take 48
def splitL (gen pos : Int) (xs : List Int) : List (List Int) := (List.range (cntOf xs.length)).map fun (k : Nat) => packL gen (pos + (k : Int)) (partOf xs k)
theorem part_le (xs : List Int) (k : Nat) : (partOf xs k).length ≤ 48 := by simp [partOf]; omega
theorem split_length (gen pos : Int) (xs : List Int) : (splitL gen pos xs).length = cntOf xs.length := by simp [splitL]
theorem split_get (gen pos : Int) (xs : List Int) (k : Nat) (h : k < cntOf xs.length) : (splitL gen pos xs).getD k [] = packL gen (pos + k) (partOf xs k) := by
  simp [splitL, List.getD, List.getElem?_range h]
theorem split_secs (gen pos : Int) (xs : List Int) : Secs (splitL gen pos xs) := by
  intro ys hy
  obtain ⟨k, _, rfl⟩ := List.mem_map.1 hy
  exact packL_length _ _ _ (part_le _ _)
theorem split_snoc (gen pos : Int) (xs : List Int) (k : Nat) (h : k < cntOf xs.length) : flat ((splitL gen pos xs).take (k + 1)) = flat ((splitL gen pos xs).take k) ++ packL gen (pos + k) (partOf xs k) := by
  have hl := split_length gen pos xs
  rw [List.take_succ_eq_append_getElem (by omega), flat_append, flat_one]
  congr 1
  have := split_get gen pos xs k h
  rw [← this]
  simp [List.getD, List.getElem?_eq_getElem (show k < (splitL gen pos xs).length by omega)]
theorem cut_row {w : World} {S : Nat → Prop} {A : Option Addr} {n cap : Nat} {xs : List Int} (hx : RowI .u8 w S A n xs) (hnil : A = none → cap = 0) (hc : n ≤ cap) (l h : Nat) (h1 : l ≤ h) (h2 : h ≤ n) :
    ∃ A' c', (∀ W, (Instr.slice 42 (.slice A n cap) (some (.int .i64 l)) (some (.int .i64 h)) none).run Tryz.prog W = .ok (.slice A' (h - l) c') W) ∧ RowI .u8 w S A' (h - l) ((xs.drop l).take (h - l)) ∧ (A' = none → c' = 0) ∧ h - l ≤ c' := by
  have hu : Tryz.prog.underlying 42 = some (.slice (Tryz.prog.elem 42)) := by kernel_rfl
  have he : Tryz.prog.elem 42 = 5 := by kernel_rfl
  have hl := hx.1
  have run := fun W => run_slice_lh (P := Tryz.prog) W 42 A n cap hu .i64 .i64 l h (by omega) (by omega) (by omega)
  have hrun : ∀ W, (Instr.slice 42 (.slice A n cap) (some (.int .i64 l)) (some (.int .i64 h)) none).run Tryz.prog W = .ok (sliced A l h cap 1) W := fun W => by
    rw [run W, he, Tryz.sizeOf5]
    simp [Result.andThen]
  refine ⟨_, _, hrun, ⟨by simp; omega, fun hpos => ?_⟩, fun hA => ?_, by omega⟩
  · obtain ⟨b, off, rfl, hb, hcell⟩ := hx.2 (by omega)
    refine ⟨b, off + l, by rw [if_neg (by omega)]; simp [add_plain], hb, fun j hj => ?_⟩
    rw [Nat.add_assoc, hcell (l + j) (by omega)]
    simp [List.getD, List.getElem?_take, List.getElem?_drop, hj]
  · split at hA
    · have := hnil hA; omega
    · have := hnil (by simpa using hA); omega
theorem cut_rowAt {w : World} {S : Nat → Prop} {A : Option Addr} {n cap : Nat} {xs : List Int} (hx : RowI .u8 w S A n xs) (hnil : A = none → cap = 0) (hc : n ≤ cap) (l h : Nat) (h1 : l ≤ h) (h2 : h ≤ n) (L H : Int) (hL : L = l) (hH : H = h) (m : Nat) (hm : m = h - l) :
    ∃ A' c', (∀ W, (Instr.slice 42 (.slice A n cap) (some (.int .i64 L)) (some (.int .i64 H)) none).run Tryz.prog W = .ok (.slice A' m c') W) ∧ RowI .u8 w S A' m ((xs.drop l).take m) ∧ (A' = none → c' = 0) ∧ m ≤ c' := by
  subst hL hH hm
  exact cut_row hx hnil hc l h h1 h2
end Go.Proofs.YtodcohkblgjfeaaGreat

namespace Go.Proofs.YtodcohkblgjfeaaGreat
set_option maxRecDepth 100000
open Go.RowKit
set_option linter.unusedVariables false
theorem set_sector (F ys : List Int) (c k : Nat) (hF : F.length = k * 64) (hk : k < c) : (F ++ noughts ((c - k) * 64)).take (k * 64) ++ ys ++ (F ++ noughts ((c - k) * 64)).drop (k * 64 + 64) = F ++ ys ++ noughts ((c - (k + 1)) * 64) := by
  rw [List.take_left' hF, List.drop_append, List.drop_eq_nil_of_le (by omega), List.nil_append, hF, show k * 64 + 64 - k * 64 = 64 by omega]
  unfold noughts
  rw [List.drop_replicate, show (c - k) * 64 - 64 = (c - (k + 1)) * 64 by omega]
theorem split_over (gen pos : Int) (A : Option Addr) (n cap : Nat) (w : World) (hn : n ≤ 16384) (hp : 0 ≤ pos) (hp2 : pos ≤ 4294967295) (h : 4294967296 < pos + cntOf n) :
    Calls Tryz.prog 102 #[.int .u64 gen, .int .u32 pos, .slice A n cap] w fun e w' => e = .returned (.tuple #[.slice none 0 0, .int .i64 2]) ∧ w = w' := by
  have hc := cnt_bounds n hn
  have h' : (4294967296 : Int) < pos + (cntOf n : Int) := h
  generalize hk : cntOf n = k at *
  have HK := Lib.hid hk
  clear hk h
  go_enter Tryz.func102, Tryz.ntmps102
  go_wp2_with fail
  refine (sectors_any n w (by omega)).mono ?_
  rintro e w' ⟨rfl, rfl⟩
  rw [HK.out]
  go_wp2_with fail
  go_ret2
  exact ⟨rfl, rfl⟩
set_option maxHeartbeats 2000000 in
theorem split_ok (gen pos : Int) (A : Option Addr) (n cap : Nat) (xs : List Int) (S : Nat → Prop) (w : World) (hx : RowI .u8 w S A n xs) (hS : ∀ b, S b → b < w.heap.size) (hnil : A = none → cap = 0) (hcap : n ≤ cap) (hn : n ≤ 16384)
    (hg : 1 ≤ gen) (hg2 : gen ≤ 18446744073709551615) (hp : 0 ≤ pos) (hp2 : pos ≤ 4294967295) (h : pos + cntOf n ≤ 4294967296) :
    Calls Tryz.prog 102 #[.int .u64 gen, .int .u32 pos, .slice A n cap] w fun e w' => e = .returned (.tuple #[.slice (some ⟨w.heap.size, 0, none⟩) (cntOf n) (cntOf n), .int .i64 0]) ∧
      ArrB w' w.heap.size (flat (splitL gen pos xs)) ∧ Below w.heap.size w w' := by
  have hc := cnt_bounds n hn
  have hl := hx.1
  have hsl := split_length gen pos xs
  have hsnoc := split_snoc gen pos xs
  rw [hl] at hsl hsnoc
  have h' : ¬ (4294967296 : Int) < pos + (cntOf n : Int) := by omega
  obtain ⟨i0, hi, hz0, hz1, hz2⟩ := info_parts info_blk
  generalize hk : cntOf n = c at *
  have HX := Lib.hid hx
  have HL := Lib.hid hl
  have HK := Lib.hid hk
  have HSL := Lib.hid hsl
  have HSN := Lib.hid hsnoc
  clear hk h hx hl hsl hsnoc
  go_enter Tryz.func102, Tryz.ntmps102
  go_wp2_with fail
  refine (sectors_any n w (by omega)).mono ?_
  rintro e w' ⟨rfl, rfl⟩
  rw [HK.out]
  go_wp2_with (refine wpList_make_secs _ _ rfl rfl _ _ c rfl rfl rfl rfl (by omega) ?_)
  generalize hw1 : w.alloc _ = w1
  have HA1 := Lib.hid (show ArrB w1 w.heap.size (noughts (c * 64)) by rw [← hw1]; exact Blk.new w _ _)
  have HB1 := Lib.hid (show Below w.heap.size w w1 by rw [← hw1]; exact (Below.refl _ _).alloc (Nat.le_refl _) _)
  clear hw1
  go_loopw [28] (fun i wr => ∃ k : Nat, k ≤ c ∧ i = .int .i64 k ∧ ArrB wr w.heap.size (flat ((splitL gen pos xs).take k) ++ noughts ((c - k) * 64)) ∧ Below w.heap.size w wr) (fun i _ => c - (intOf i).toNat)
  case atStart => exact ⟨0, by omega, rfl, by simpa [flat] using HA1.out, HB1.out⟩
  case round =>
    obtain ⟨k, hk, rfl, harr, hbel⟩ := hrel
    by_cases hlt : k < c
    · have hsn := HSN.out k hlt
      have hfl := flat_length ((split_secs gen pos xs).take k)
      rw [List.length_take, HSL.out, Nat.min_eq_left hk] at hfl
      have hpl := packL_length (gen) (pos + k) (partOf xs k) (part_le xs k)
      have hto : ∃ tto : Nat, tto = min (48 * k + 48) n := ⟨_, rfl⟩
      obtain ⟨tto, hto⟩ := hto
      have hk48 : 48 * k ≤ n := by
        have := hc.2.2.2
        have h2 : 48 * k ≤ 48 * (c - 1) := Nat.mul_le_mul_left _ (by omega)
        omega
      obtain ⟨m, hm⟩ : ∃ m, m = tto - 48 * k := ⟨_, rfl⟩
      obtain ⟨A', c', hcut, hrow, hnil', hc'⟩ := cut_rowAt (HX.out.below hbel hS) hnil hcap (48 * k) tto (by omega) (by omega) ((k : Int) * 48) (tto : Int) (by omega) rfl m hm
      have hpe : (xs.drop (48 * k)).take m = partOf xs k := by
        unfold partOf
        apply List.ext_getElem
        · simp
          have := HL.out
          omega
        · intro j h1 h2
          simp
      rw [hpe] at hrow
      have hkc : (k : Int) < c := by omega
      have hk342 : (k : Int) ≤ 342 := by omega
      have hpk : pos + (k : Int) ≤ 4294967295 := by omega
      have hml : m ≤ 48 := by omega
      have hset : (flat ((splitL gen pos xs).take k) ++ noughts ((c - k) * 64)).take (k * 64) ++ packL gen (pos + k) (partOf xs k) ++ (flat ((splitL gen pos xs).take k) ++ noughts ((c - k) * 64)).drop (k * 64 + 64) = flat ((splitL gen pos xs).take (k + 1)) ++ noughts ((c - (k + 1)) * 64) := by
        rw [hsn]
        exact set_sector _ _ _ _ hfl hlt
      have HSNK := Lib.hid hsn
      have HFL := Lib.hid hfl
      have HPL := Lib.hid hpl
      have HROW := Lib.hid hrow
      have HARR := Lib.hid harr
      have HBEL := Lib.hid hbel
      have HTO := Lib.hid hto
      have HSET := Lib.hid hset
      have HM := Lib.hid hm
      clear hsn hfl hpl hrow harr hbel hnil' hc' hpe h' hset hm
      by_cases hmin : 48 * k + 48 ≤ n
      · have ht2 : (tto : Int) = (k : Int) * 48 + 48 := by have := HTO.out; omega
        have hm2 : (k : Int) * 48 + 48 ≤ n := by omega
        rw [ht2] at hcut
        clear ht2 hto
        go_wp2_with fail
        refine (pack_ok gen (pos + k) A' m c' (partOf xs k) S wr HROW.out (fun b h => Nat.lt_of_lt_of_le (hS b h) HBEL.out.size) hg hg2 (by omega) hpk hml).mono ?_
        rintro e w2 ⟨rfl, hb⟩
        generalize packL gen (pos + k) (partOf xs k) = ys at *
        obtain ⟨w3, hw3⟩ : ∃ w3, w3 = w2.alloc (.cells (cells8 ys) 84) := ⟨_, rfl⟩
        have hb3 : Below w2.heap.size w2 w3 := by rw [hw3]; exact (Below.refl _ _).alloc (Nat.le_refl _) _
        have HY3 := Lib.hid (show ArrB w3 w2.heap.size ys by rw [hw3]; exact Blk.new w2 _ _)
        have HA3 := Lib.hid ((HARR.out.below hb HARR.out.lt).below hb3 (Nat.lt_of_lt_of_le HARR.out.lt hb.size))
        have HB3 := Lib.hid ((HBEL.out.trans (hb.mono HBEL.out.size)).trans (hb3.mono (Nat.le_trans HBEL.out.size hb.size)))
        have HW3 := Lib.hid hw3
        have hfit : k * 64 + 64 ≤ (flat ((splitL gen pos xs).take k) ++ noughts ((c - k) * 64)).length := by
          rw [List.length_append, HFL.out, noughts_length]
          omega
        have HFIT := Lib.hid hfit
        clear hb hb3 hw3 hfit
        go_wp2_with (first
          | (refine wpList_alloc_blk rfl rfl ?_)
          | (refine wpList_store_new (.tmp 13) (.tmp 49) rfl rfl w2 ys rfl rfl (noughts 64) rfl (noughts_length 64) HPL.out ?_; rw [← HW3.out])
          | (refine wpList_load_blk (.tmp 13) rfl rfl w2.heap.size 0 rfl ys HPL.out HY3.out.range ?_)
          | (refine wpList_store_sec (.tmp 57) (.tmp 56) rfl rfl w.heap.size (k * 64) ys rfl rfl 84 _ HA3.out HPL.out HFIT.out ?_; rw [HSET.out]))
        go_roundw
        case rel =>
          have hst := HA3.out.setRow (flat ((splitL gen pos xs).take (k + 1)) ++ noughts ((c - (k + 1)) * 64))
          rw [List.map_append] at hst
          exact ⟨k + 1, by omega, by go_num, hst, below_setRow HB3.out (Nat.le_refl _) _⟩
        case measure => (simp [intOf] <;> omega)
      · have ht2 : tto = n := by have := HTO.out; omega
        have hm2 : (n : Int) < (k : Int) * 48 + 48 := by omega
        rw [ht2] at hcut
        clear ht2 hto
        go_wp2_with fail
        refine (pack_ok gen (pos + k) A' m c' (partOf xs k) S wr HROW.out (fun b h => Nat.lt_of_lt_of_le (hS b h) HBEL.out.size) hg hg2 (by omega) hpk hml).mono ?_
        rintro e w2 ⟨rfl, hb⟩
        generalize packL gen (pos + k) (partOf xs k) = ys at *
        obtain ⟨w3, hw3⟩ : ∃ w3, w3 = w2.alloc (.cells (cells8 ys) 84) := ⟨_, rfl⟩
        have hb3 : Below w2.heap.size w2 w3 := by rw [hw3]; exact (Below.refl _ _).alloc (Nat.le_refl _) _
        have HY3 := Lib.hid (show ArrB w3 w2.heap.size ys by rw [hw3]; exact Blk.new w2 _ _)
        have HA3 := Lib.hid ((HARR.out.below hb HARR.out.lt).below hb3 (Nat.lt_of_lt_of_le HARR.out.lt hb.size))
        have HB3 := Lib.hid ((HBEL.out.trans (hb.mono HBEL.out.size)).trans (hb3.mono (Nat.le_trans HBEL.out.size hb.size)))
        have HW3 := Lib.hid hw3
        have hfit : k * 64 + 64 ≤ (flat ((splitL gen pos xs).take k) ++ noughts ((c - k) * 64)).length := by
          rw [List.length_append, HFL.out, noughts_length]
          omega
        have HFIT := Lib.hid hfit
        clear hb hb3 hw3 hfit
        go_wp2_with (first
          | (refine wpList_alloc_blk rfl rfl ?_)
          | (refine wpList_store_new (.tmp 13) (.tmp 49) rfl rfl w2 ys rfl rfl (noughts 64) rfl (noughts_length 64) HPL.out ?_; rw [← HW3.out])
          | (refine wpList_load_blk (.tmp 13) rfl rfl w2.heap.size 0 rfl ys HPL.out HY3.out.range ?_)
          | (refine wpList_store_sec (.tmp 57) (.tmp 56) rfl rfl w.heap.size (k * 64) ys rfl rfl 84 _ HA3.out HPL.out HFIT.out ?_; rw [HSET.out]))
        go_roundw
        case rel =>
          have hst := HA3.out.setRow (flat ((splitL gen pos xs).take (k + 1)) ++ noughts ((c - (k + 1)) * 64))
          rw [List.map_append] at hst
          exact ⟨k + 1, by omega, by go_num, hst, below_setRow HB3.out (Nat.le_refl _) _⟩
        case measure => (simp [intOf] <;> omega)
    · obtain rfl : k = c := by omega
      have he : flat ((splitL gen pos xs).take k) ++ noughts ((k - k) * 64) = flat (splitL gen pos xs) := by
        rw [List.take_of_length_le (by have := HSL.out; omega), Nat.sub_self]
        simp [noughts]
      rw [he] at harr
      have HARR := Lib.hid harr
      have HBEL := Lib.hid hbel
      clear harr hbel he
      go_wp2
      go_ret2
      exact ⟨rfl, HARR.out, HBEL.out⟩
set_option maxHeartbeats 1000000 in
theorem split_zero (pos : Int) (A : Option Addr) (n cap : Nat) (xs : List Int) (S : Nat → Prop) (w : World) (hx : RowI .u8 w S A n xs) (hS : ∀ b, S b → b < w.heap.size) (hnil : A = none → cap = 0) (hcap : n ≤ cap) (hn : n ≤ 16384)
    (hp : 0 ≤ pos) (hp2 : pos ≤ 4294967295) (h : pos + cntOf n ≤ 4294967296) :
    Calls Tryz.prog 102 #[.int .u64 0, .int .u32 pos, .slice A n cap] w fun e w' => e = .returned (.tuple #[.slice none 0 0, .int .i64 2]) ∧ Below w.heap.size w w' := by
  have hc := cnt_bounds n hn
  have h' : ¬ (4294967296 : Int) < pos + (cntOf n : Int) := by omega
  obtain ⟨i0, hi, hz0, hz1, hz2⟩ := info_parts info_blk
  generalize hk : cntOf n = c at *
  have HX := Lib.hid hx
  have HK := Lib.hid hk
  clear hk h hx
  go_enter Tryz.func102, Tryz.ntmps102
  go_wp2_with fail
  refine (sectors_any n w (by omega)).mono ?_
  rintro e w' ⟨rfl, rfl⟩
  rw [HK.out]
  go_wp2_with (refine wpList_make_secs _ _ rfl rfl _ _ c rfl rfl rfl rfl (by omega) ?_)
  generalize hw1 : w.alloc _ = w1
  have HB1 := Lib.hid (show Below w.heap.size w w1 by rw [← hw1]; exact (Below.refl _ _).alloc (Nat.le_refl _) _)
  clear hw1
  go_loopw [28] (fun i wr => i = .int .i64 0 ∧ wr = w1) (fun i _ => 0)
  case atStart => exact ⟨rfl, rfl⟩
  case round =>
    obtain ⟨rfl, rfl⟩ := hrel
    have hc0 : (0 : Int) < c := by omega
    obtain ⟨tto, hto⟩ : ∃ tto : Nat, tto = min 48 n := ⟨_, rfl⟩
    obtain ⟨A', c', hcut, hrow, hnil', hc'⟩ := cut_rowAt (HX.out.below HB1.out hS) hnil hcap 0 tto (by omega) (by omega) 0 (tto : Int) rfl rfl tto (by omega)
    have HTO := Lib.hid hto
    clear hrow hnil' hc' h' hto
    by_cases hmin : 48 ≤ n
    · have ht2 : tto = 48 := by have := HTO.out; omega
      subst ht2
      have hm2 : (48 : Int) ≤ n := by omega
      go_wp2_with fail
      refine (pack_zero pos _ _ _ _).mono ?_
      rintro e w2 ⟨rfl, hb⟩
      have HB2 := Lib.hid (HB1.out.trans (hb.mono HB1.out.size))
      clear hb
      go_wp2_with (first
        | (refine wpList_alloc_blk rfl rfl ?_)
        | (refine wpList_store_new (.tmp 13) (.tmp 49) rfl rfl w2 (noughts 64) rfl rfl (noughts 64) rfl (noughts_length 64) (noughts_length 64) ?_))
      go_ret2
      exact ⟨rfl, HB2.out.alloc HB2.out.size _⟩
    · have ht2 : tto = n := by have := HTO.out; omega
      subst ht2
      have hm2 : (tto : Int) < 48 := by omega
      go_wp2_with fail
      refine (pack_zero pos _ _ _ _).mono ?_
      rintro e w2 ⟨rfl, hb⟩
      have HB2 := Lib.hid (HB1.out.trans (hb.mono HB1.out.size))
      clear hb
      go_wp2_with (first
        | (refine wpList_alloc_blk rfl rfl ?_)
        | (refine wpList_store_new (.tmp 13) (.tmp 49) rfl rfl w2 (noughts 64) rfl rfl (noughts 64) rfl (noughts_length 64) (noughts_length 64) ?_))
      go_ret2
      exact ⟨rfl, HB2.out.alloc HB2.out.size _⟩
end Go.Proofs.YtodcohkblgjfeaaGreat
