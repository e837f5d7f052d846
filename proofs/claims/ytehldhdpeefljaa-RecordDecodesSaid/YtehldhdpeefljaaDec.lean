/- Package record: Decode. -/
import Derived.Test.YtehldhdpeefljaaNeed
import Derived.Deep.RegionHeld3
namespace Go.Proofs.Ytehldhdpeefljaa
open Go.RowKit
set_option linter.unusedVariables false

abbrev zeroC : Array Value := #[.int .i64 0, .int .u32 0, .int .u32 0, .int .u64 0, .slice none 0 0, .slice none 0 0]
theorem one_zero : zeroC.all (·.oneCell') = true := by simp [zeroC, Value.oneCell']

theorem dec_short (A : Option Addr) (n c : Nat) (w : World) (hn : n < 21) :
    Calls Try.prog 24 #[.slice A n c] w fun e w' => e = .returned (.tuple #[.agg #[.int .i64 0, .int .u32 0, .int .u32 0, .int .u64 0, .slice none 0 0, .slice none 0 0], .int .i64 0, .int .i64 9]) ∧ Below w.heap.size w w' := by
  go_enter Try.func24, Try.ntmps24
  go_wp2_with fail
  refine (need_short A n c _ hn).mono ?_
  rintro e w1 ⟨rfl, hb⟩
  have HB1 := Lib.hid (((Below.refl w.heap.size w).alloc (Nat.le_refl _) _).trans (hb.mono (by simp)))
  have hres := (Blk.new w 26 zeroC).below hb (by simp)
  have HRES := Lib.hid hres
  clear hb hres
  go_wp2_with (first
    | (refine wpList_store_rowB (.tmp 2) (.tmp 17) 26 rfl rfl w.heap.size zeroC rfl rfl 26 _ HRES.out size_rec rfl one_zero ?_)
    | (with_reducible refine halt_end ?_))
  exact Halt.ret (results_row3 (p := 2) (u := 3) (v := 4) rfl _ _ w.heap.size 26 zeroC _ rfl (setRow_heap _ _ _ zeroC _ _ HRES.out) Try.underlying26 rfl size_rec) rfl ⟨rfl, below_setRow HB1.out (Nat.le_refl _) _⟩

theorem dec_bad (A : Option Addr) (n c : Nat) (xs : List Int) (S : Nat → Prop) (w : World) (hx : RowI .u8 w S A n xs) (hS : ∀ b, S b → b < w.heap.size) (hb : Bytes xs) (hn : 21 ≤ n) (hc : n ≤ c) (hm : ¬ MayB xs) :
    Calls Try.prog 24 #[.slice A n c] w fun e w' => e = .returned (.tuple #[.agg #[.int .i64 0, .int .u32 0, .int .u32 0, .int .u64 0, .slice none 0 0, .slice none 0 0], .int .i64 0, .int .i64 160]) ∧ Below w.heap.size w w' := by
  have HX := Lib.hid (hx.keep (w' := w.alloc (.cells zeroC 26)) fun p hp => World.cell?_alloc_lt w _ p (hS _ hp))
  clear hx
  go_enter Try.func24, Try.ntmps24
  go_wp2_with fail
  refine (need_bad A n c xs S _ HX.out (fun b h => by have := hS b h; simp; omega) hb hn hc hm).mono ?_
  rintro e w1 ⟨rfl, hb⟩
  have HB1 := Lib.hid (((Below.refl w.heap.size w).alloc (Nat.le_refl _) _).trans (hb.mono (by simp)))
  have hres := (Blk.new w 26 zeroC).below hb (by simp)
  have HRES := Lib.hid hres
  clear hb hres
  go_wp2_with (first
    | (refine wpList_store_rowB (.tmp 2) (.tmp 17) 26 rfl rfl w.heap.size zeroC rfl rfl 26 _ HRES.out size_rec rfl one_zero ?_)
    | (with_reducible refine halt_end ?_))
  exact Halt.ret (results_row3 (p := 2) (u := 3) (v := 4) rfl _ _ w.heap.size 26 zeroC _ rfl (setRow_heap _ _ _ zeroC _ _ HRES.out) Try.underlying26 rfl size_rec) rfl ⟨rfl, below_setRow HB1.out (Nat.le_refl _) _⟩

theorem dec_cut (A : Option Addr) (n c : Nat) (xs : List Int) (S : Nat → Prop) (w : World) (hx : RowI .u8 w S A n xs) (hS : ∀ b, S b → b < w.heap.size) (hb : Bytes xs) (hn : 21 ≤ n) (hc : n ≤ c) (hm : MayB xs) (hlt : n < needOf xs) :
    Calls Try.prog 24 #[.slice A n c] w fun e w' => e = .returned (.tuple #[.agg #[.int .i64 0, .int .u32 0, .int .u32 0, .int .u64 0, .slice none 0 0, .slice none 0 0], .int .i64 0, .int .i64 9]) ∧ Below w.heap.size w w' := by
  have HX := Lib.hid (hx.keep (w' := w.alloc (.cells zeroC 26)) fun p hp => World.cell?_alloc_lt w _ p (hS _ hp))
  clear hx
  go_enter Try.func24, Try.ntmps24
  go_wp2_with fail
  refine (need_ok A n c xs S _ HX.out (fun b h => by have := hS b h; simp; omega) hb hn hc hm).mono ?_
  rintro e w1 ⟨rfl, hb⟩
  have HB1 := Lib.hid (((Below.refl w.heap.size w).alloc (Nat.le_refl _) _).trans (hb.mono (by simp)))
  have hres := (Blk.new w 26 zeroC).below hb (by simp)
  have HRES := Lib.hid hres
  have hlt' : decide ((n : Int) < (needOf xs : Int)) = true := by simp; omega
  generalize needOf xs = nd at *
  clear hb hres
  go_wp2_with (first
    | (refine wpList_store_rowB (.tmp 2) (.tmp 24) 26 rfl rfl w.heap.size zeroC rfl rfl 26 _ HRES.out size_rec rfl one_zero ?_)
    | (with_reducible refine halt_end ?_))
  exact Halt.ret (results_row3 (p := 2) (u := 3) (v := 4) rfl _ _ w.heap.size 26 zeroC _ rfl (setRow_heap _ _ _ zeroC _ _ HRES.out) Try.underlying26 rfl size_rec) rfl ⟨rfl, below_setRow HB1.out (Nat.le_refl _) _⟩

/-- Raw: the bytes in a block of their own; and the Reader stands behind them. -/
theorem raw_rd (w : World) (r g : Nat) (xs : List Int) (pos n : Nat) (h : Rd w r g xs pos 0) (hn : n ≤ xs.length - pos) :
    Calls Try.prog 37 #[.pointer (some ⟨r, 0, none⟩), .int .i64 n] w fun e w' => ∃ b, e = .returned (.slice (some ⟨b, 0, none⟩) n n) ∧ w.heap.size ≤ b ∧
      ArrU w' b ((xs.drop pos).take n) ∧ Rd w' r g xs (pos + n) 0 ∧ Kept (fun b => b < w.heap.size ∧ b ≠ r) w w' := by
  have H := Lib.hid h
  have hx := h.2.2.2.2
  clear h
  go_enter Try.func37, Try.ntmps37
  go_wp2_with (first
    | (go_at_call 47; refine (take_ok _ r g xs pos n H.out hn).mono ?_; rintro e w1 ⟨A, c, rfl, hr, hrd, hk⟩; have HR := Lib.hid hr; have HD := Lib.hid hrd; have HK := Lib.hid hk; clear hr hrd hk)
    | (go_at_call 42; refine (clone_any A n c _ (· = g) _ HR.out (fun b e => by rw [e]; exact HD.out.arr.lt) (by omega)).mono ?_; rintro e w2 ⟨rfl, ha, hb⟩; have HA := Lib.hid ha; have HB := Lib.hid hb; clear ha hb))
  go_ret
  exact ⟨_, rfl, HK.out.size, HA.out, HD.out.kept (Kept.of_below (S := fun b => b < w1.heap.size) HB.out (fun b h => h)) HD.out.blk.lt HD.out.arr.lt, HK.out.below HB.out (fun b h => Nat.lt_of_lt_of_le h.1 HK.out.size)⟩

def keyOf (xs : List Int) : List Int := (xs.drop 21).take (klenOf xs)
def valOf (xs : List Int) : List Int := (xs.drop (21 + klenOf xs)).take (vlenOf xs)

/-- Where Decode stands: its result, its head and its Reader. -/
structure Dec (w wi : World) (r g q : Nat) (zs : List Int) (pos : Nat) (cs : Array Value) : Prop where
  rd : Rd wi r g zs pos 0
  lo : w.heap.size < r
  res : Blk wi w.heap.size 26 zeroC
  hd : Blk wi q 51 cs
  far : q ≠ r ∧ q ≠ w.heap.size
  bel : Below w.heap.size w wi
theorem Dec.drew {w wi : World} {r g q : Nat} {zs : List Int} {pos : Nat} {cs : Array Value} (h : Dec w wi r g q zs pos cs) : Dec w wi.drew r g q zs pos cs := ⟨h.rd.drewN 1, h.lo, h.res, h.hd, h.far, h.bel.drew⟩
theorem Dec.read {w wi w' : World} {r g q : Nat} {zs : List Int} {pos pos' : Nat} {cs : Array Value} (h : Dec w wi r g q zs pos cs) (hr : Rd w' r g zs pos' 0) (hk : Kept (fun b => b < wi.heap.size ∧ b ≠ r) wi w') : Dec w w' r g q zs pos' cs :=
  ⟨hr, h.lo, h.res.kept hk ⟨h.res.lt, by have := h.lo; omega⟩, h.hd.kept hk ⟨h.hd.lt, h.far.1⟩, h.far, h.bel.trans (hk.to_below fun b hb => ⟨Nat.lt_of_lt_of_le hb h.bel.size, by have := h.lo; omega⟩)⟩
theorem cell_far6 (w : World) (g : Nat) (u0 u1 u2 u3 u4 u5 : Value) {p : Addr} (h : p.block ≠ g) : ((((((w.setCell ⟨g, 0, none⟩ u0).setCell ⟨g, 1, none⟩ u1).setCell ⟨g, 2, none⟩ u2).setCell ⟨g, 3, none⟩ u3).setCell ⟨g, 4, none⟩ u4).setCell ⟨g, 5, none⟩ u5).cell? p = w.cell? p := by
  have key : ∀ (w : World) (i : Nat) (u : Value), (w.setCell ⟨g, i, none⟩ u).cell? p = w.cell? p := fun w i u => World.cell?_setCell_other _ _ _ _ (by rintro rfl; exact h rfl)
  rw [key, key, key, key, key, key]
theorem Blk.set6 {w : World} {g : Nat} {t : TypeId} {a0 a1 a2 a3 a4 a5 : Value} (h : Blk w g t #[a0, a1, a2, a3, a4, a5]) (u0 u1 u2 u3 u4 u5 : Value) :
    Blk ((((((w.setCell ⟨g, 0, none⟩ u0).setCell ⟨g, 1, none⟩ u1).setCell ⟨g, 2, none⟩ u2).setCell ⟨g, 3, none⟩ u3).setCell ⟨g, 4, none⟩ u4).setCell ⟨g, 5, none⟩ u5) g t #[u0, u1, u2, u3, u4, u5] := (((((h.set_ 0 u0).set_ 1 u1).set_ 2 u2).set_ 3 u3).set_ 4 u4).set_ 5 u5
theorem Blk.far6 {w : World} {g g' : Nat} {t : TypeId} {cs : Array Value} (h : Blk w g' t cs) (hne : g' ≠ g) (u0 u1 u2 u3 u4 u5 : Value) :
    Blk ((((((w.setCell ⟨g, 0, none⟩ u0).setCell ⟨g, 1, none⟩ u1).setCell ⟨g, 2, none⟩ u2).setCell ⟨g, 3, none⟩ u3).setCell ⟨g, 4, none⟩ u4).setCell ⟨g, 5, none⟩ u5) g' t cs := (((((h.far hne u0).far hne u1).far hne u2).far hne u3).far hne u4).far hne u5
theorem below_set6 {B : Nat} {a w : World} (h : Below B a w) {g : Nat} (hg : B ≤ g) (u0 u1 u2 u3 u4 u5 : Value) :
    Below B a ((((((w.setCell ⟨g, 0, none⟩ u0).setCell ⟨g, 1, none⟩ u1).setCell ⟨g, 2, none⟩ u2).setCell ⟨g, 3, none⟩ u3).setCell ⟨g, 4, none⟩ u4).setCell ⟨g, 5, none⟩ u5) := (((((h.setCell hg u0).setCell hg u1).setCell hg u2).setCell hg u3).setCell hg u4).setCell hg u5

/-- What Decode leaves where it decodes. -/
def DecTold (xs : List Int) (w : World) (e : Ending) (w' : World) : Prop :=
  ∃ b1 b2, e = .returned (.tuple #[.agg #[.int .i64 (kindOf xs), .int .u32 (flagsOf xs), .int .u32 (expOf xs), .int .u64 (seqOf xs), .slice (some ⟨b1, 0, none⟩) (klenOf xs) (klenOf xs), .slice (some ⟨b2, 0, none⟩) (vlenOf xs) (vlenOf xs)], .int .i64 ((needOf xs : Nat) : Int), .int .i64 0]) ∧
    w.heap.size ≤ b1 ∧ w.heap.size ≤ b2 ∧ b1 ≠ b2 ∧ ArrU w' b1 (keyOf xs) ∧ ArrU w' b2 (valOf xs) ∧ Below w.heap.size w w'

set_option maxHeartbeats 4000000 in
theorem dec_ok (A : Option Addr) (n c : Nat) (xs : List Int) (S : Nat → Prop) (w : World) (hx : RowI .u8 w S A n xs) (hS : ∀ b, S b → b < w.heap.size) (hb : Bytes xs) (hn : 21 ≤ n) (hc : n ≤ c) (hm : MayB xs) (hle : needOf xs ≤ n) :
    Calls Try.prog 24 #[.slice A n c] w (DecTold xs w) := by
  obtain ⟨b0, o0, rfl, hb0, hc0⟩ := hx.2 (by omega)
  have hl := hx.1
  have HX := Lib.hid (hx.keep (w' := w.alloc (.cells zeroC 26)) fun p hp => World.cell?_alloc_lt w _ p (hS _ hp))
  have HBY := Lib.hid hb
  have hn1 := hm.2.2.1
  have hn2 := hm.2.2.2.1
  have hneed : needOf xs = 21 + klenOf xs + vlenOf xs := rfl
  clear hx hb hb0 hc0
  go_enter Try.func24, Try.ntmps24
  go_wp2_with fail
  refine (need_ok _ n c xs S _ HX.out (fun b h => by have := hS b h; simp; omega) HBY.out hn hc hm).mono ?_
  rintro e w1 ⟨rfl, hb⟩
  have HB1 := Lib.hid (((Below.refl w.heap.size w).alloc (Nat.le_refl _) _).trans (hb.mono (by simp)))
  have HX1 := Lib.hid (HX.out.below hb (fun b h => by have := hS b h; simp; omega))
  have HRES := Lib.hid ((Blk.new w 26 zeroC).below hb (by simp))
  have hlt1 : w.heap.size < w1.heap.size := HRES.out.lt
  have HLT1 := Lib.hid hlt1
  clear hb
  have hlt' : decide ((n : Int) < (needOf xs : Int)) = false := by simp; omega
  have hle0 : (0 : Int) ≤ (needOf xs : Int) := by omega
  have hlec : (needOf xs : Int) ≤ c := by omega
  have HND := Lib.hid hneed
  clear hneed
  generalize hnd : needOf xs = nd at *
  have HNN := Lib.hid hnd
  clear hnd
  go_wp2_with fail
  refine (read_any _ nd c (xs.take nd) S w1 (HX1.out.take nd hle) (fun b h => by have := hS b h; omega) (by have := HND.out; omega)).mono ?_
  rintro e w2 ⟨r, rfl, hr, hrd, hb⟩
  have HB2 := Lib.hid (HB1.out.trans (hb.mono HB1.out.size))
  have HRES2 := Lib.hid (HRES.out.below hb HLT1.out)
  have HD2 := Lib.hid hrd
  have HLR := Lib.hid (show w.heap.size < r by omega)
  clear hb hrd
  go_wp2_with fail
  refine (readHead_ok (xs.take nd) w2 r w1.heap.size HD2.out (by have := HND.out; simp; omega) (HBY.out.take nd) HD2.out.blk.lt HD2.out.arr.lt).mono ?_
  rintro e w3 ⟨rfl, hrd, hk⟩
  rw [kind_take _ _ (by have := HND.out; omega), flags_take _ _ (by have := HND.out; omega), exp_take _ _ (by have := HND.out; omega), seq_take _ _ (by have := HND.out; omega), klen_take _ _ (by have := HND.out; omega), vlen_take _ _ (by have := HND.out; omega)]
  have HB3 := Lib.hid (HB2.out.trans (hk.to_below (B := w.heap.size) fun b hb => ⟨by have := HB2.out.size; omega, by have := HLR.out; omega⟩))
  have HRES3 := Lib.hid (HRES2.out.kept hk ⟨HRES2.out.lt, by have := HLR.out; omega⟩)
  have HD3 := Lib.hid hrd
  clear hrd hk
  obtain ⟨w4, hw4⟩ : ∃ w4, w4 = w3.alloc (.cells #[.int .i64 (kindOf xs), .int .u32 (flagsOf xs), .int .u32 (expOf xs), .int .u64 (seqOf xs), .int .i64 (klenOf xs), .int .i64 (vlenOf xs)] 51) := ⟨_, rfl⟩
  have HY := Lib.hid (show Dec w w4 r w1.heap.size w3.heap.size (xs.take nd) 21 #[.int .i64 (kindOf xs), .int .u32 (flagsOf xs), .int .u32 (expOf xs), .int .u64 (seqOf xs), .int .i64 (klenOf xs), .int .i64 (vlenOf xs)] by
    rw [hw4]
    have hk : Kept (fun b => b < w3.heap.size) w3 (w3.alloc (.cells #[.int .i64 (kindOf xs), .int .u32 (flagsOf xs), .int .u32 (expOf xs), .int .u64 (seqOf xs), .int .i64 (klenOf xs), .int .i64 (vlenOf xs)] 51)) := (Kept.refl _ w3).alloc (fun b h => h) _
    exact ⟨HD3.out.kept hk HD3.out.blk.lt HD3.out.arr.lt, HLR.out, HRES3.out.alloc _, Blk.new w3 _ _, ⟨by have := HD3.out.blk.lt; omega, by have := HB3.out.size; have := HRES3.out.lt; omega⟩, HB3.out.alloc HB3.out.size _⟩)
  have HW4 := Lib.hid hw4
  clear hw4
  have hcap1 : klenOf xs ≤ (xs.take nd).length - 21 := by have := HND.out; simp; omega
  have hcap2 : vlenOf xs ≤ (xs.take nd).length - (21 + klenOf xs) := by have := HND.out; simp; omega
  have HCP1 := Lib.hid hcap1
  have HCP2 := Lib.hid hcap2
  have HK1 := Lib.hid (show ((xs.take nd).drop 21).take (klenOf xs) = keyOf xs from take_part _ _ _ _ (by have := HND.out; omega))
  have HK2 := Lib.hid (show ((xs.take nd).drop (21 + klenOf xs)).take (vlenOf xs) = valOf xs from take_part _ _ _ _ (by have := HND.out; omega))
  clear hcap1 hcap2
  go_wp2_with fail
  rw [← HW4.out]
  have HY := Lib.hid HY.out.drew
  have HYD := HY
  have c0 := HY.out.hd.cell 0
  have c1 := HY.out.hd.cell 1
  have c2 := HY.out.hd.cell 2
  have c3 := HY.out.hd.cell 3
  have c4 := HY.out.hd.cell 4
  have c5 := HY.out.hd.cell 5
  simp only [List.getElem?_toArray, List.getElem?_cons_zero, List.getElem?_cons_succ] at c0 c1 c2 c3 c4 c5
  go_region_held3 (fun W => W.cell? ⟨w3.heap.size, 0, none⟩ = some (.int .i64 (kindOf xs)) ∧ W.cell? ⟨w3.heap.size, 1, none⟩ = some (.int .u32 (flagsOf xs)) ∧ W.cell? ⟨w3.heap.size, 2, none⟩ = some (.int .u32 (expOf xs)) ∧ W.cell? ⟨w3.heap.size, 3, none⟩ = some (.int .u64 (seqOf xs)) ∧ W.cell? ⟨w3.heap.size, 4, none⟩ = some (.int .i64 (klenOf xs)) ∧ W.cell? ⟨w3.heap.size, 5, none⟩ = some (.int .i64 (vlenOf xs)))
    (first | with_reducible exact ⟨c0, c1, c2, c3, c4, c5⟩ | with_reducible exact ⟨e0, e1, e2, e3, e4, e5⟩)
    (first
      | (go_at_call 37; with_reducible refine (raw_rd _ r w1.heap.size (xs.take nd) 21 (klenOf xs) ?_ ?_).mono ?_; exact HY.out.rd; exact HCP1.out; rintro e w5 ⟨b5, rfl, hb5, ha5, hrd, hk⟩; rw [HK1.out] at ha5; have HA5 := Lib.hid ha5; have HB5 := Lib.hid (Nat.le_trans HY.out.bel.size hb5); have HY := Lib.hid (HY.out.read hrd hk); have HN5 := Lib.hid (show b5 ≠ r ∧ b5 ≠ w.heap.size from ⟨by have h := HYD.out.rd.blk.lt; omega, by have h := HYD.out.res.lt; omega⟩); clear ha5 hb5 hrd hk; have c0 := HY.out.hd.cell 0; have c1 := HY.out.hd.cell 1; have c2 := HY.out.hd.cell 2; have c3 := HY.out.hd.cell 3; have c4 := HY.out.hd.cell 4; have c5 := HY.out.hd.cell 5; simp only [List.getElem?_toArray, List.getElem?_cons_zero, List.getElem?_cons_succ] at c0 c1 c2 c3 c4 c5)
      | (go_at_call 37; with_reducible refine (raw_rd _ r w1.heap.size (xs.take nd) (21 + klenOf xs) (vlenOf xs) ?_ ?_).mono ?_; exact HY.out.rd; exact HCP2.out; rintro e w6 ⟨b6, rfl, hb6, ha6, hrd, hk⟩; rw [HK2.out] at ha6; have HA6 := Lib.hid ha6; have HB6 := Lib.hid (Nat.le_trans HY.out.bel.size hb6); have HN6 := Lib.hid (show b6 ≠ b5 ∧ b6 ≠ w.heap.size from ⟨by have h := HA5.out.lt; omega, by have h := HY.out.res.lt; omega⟩); have HA5' := Lib.hid (HA5.out.kept hk ⟨HA5.out.lt, HN5.out.1⟩); have HY := Lib.hid (HY.out.read hrd hk); clear ha6 hb6 hrd hk; have c0 := HY.out.hd.cell 0; have c1 := HY.out.hd.cell 1; have c2 := HY.out.hd.cell 2; have c3 := HY.out.hd.cell 3; have c4 := HY.out.hd.cell 4; have c5 := HY.out.hd.cell 5; simp only [List.getElem?_toArray, List.getElem?_cons_zero, List.getElem?_cons_succ] at c0 c1 c2 c3 c4 c5; have z0 := HY.out.res.cell 0; have y0 := HY.out.res.frozen 0; have z1 := HY.out.res.cell 1; have y1 := HY.out.res.frozen 1; have z2 := HY.out.res.cell 2; have y2 := HY.out.res.frozen 2; have z3 := HY.out.res.cell 3; have y3 := HY.out.res.frozen 3; have z4 := HY.out.res.cell 4; have y4 := HY.out.res.frozen 4; have z5 := HY.out.res.cell 5; have y5 := HY.out.res.frozen 5; simp only [List.getElem?_toArray, List.getElem?_cons_zero, List.getElem?_cons_succ] at z0 z1 z2 z3 z4 z5; have e0 := (cell_far6 w6 w.heap.size (.int .i64 (kindOf xs)) (.int .u32 (flagsOf xs)) (.int .u32 (expOf xs)) (.int .u64 (seqOf xs)) (.slice (some ⟨b5, 0, none⟩) (klenOf xs) (klenOf xs)) (.slice (some ⟨b6, 0, none⟩) (vlenOf xs) (vlenOf xs)) (p := ⟨w3.heap.size, 0, none⟩) HY.out.far.2).trans c0; have e1 := (cell_far6 w6 w.heap.size (.int .i64 (kindOf xs)) (.int .u32 (flagsOf xs)) (.int .u32 (expOf xs)) (.int .u64 (seqOf xs)) (.slice (some ⟨b5, 0, none⟩) (klenOf xs) (klenOf xs)) (.slice (some ⟨b6, 0, none⟩) (vlenOf xs) (vlenOf xs)) (p := ⟨w3.heap.size, 1, none⟩) HY.out.far.2).trans c1; have e2 := (cell_far6 w6 w.heap.size (.int .i64 (kindOf xs)) (.int .u32 (flagsOf xs)) (.int .u32 (expOf xs)) (.int .u64 (seqOf xs)) (.slice (some ⟨b5, 0, none⟩) (klenOf xs) (klenOf xs)) (.slice (some ⟨b6, 0, none⟩) (vlenOf xs) (vlenOf xs)) (p := ⟨w3.heap.size, 2, none⟩) HY.out.far.2).trans c2; have e3 := (cell_far6 w6 w.heap.size (.int .i64 (kindOf xs)) (.int .u32 (flagsOf xs)) (.int .u32 (expOf xs)) (.int .u64 (seqOf xs)) (.slice (some ⟨b5, 0, none⟩) (klenOf xs) (klenOf xs)) (.slice (some ⟨b6, 0, none⟩) (vlenOf xs) (vlenOf xs)) (p := ⟨w3.heap.size, 3, none⟩) HY.out.far.2).trans c3; have e4 := (cell_far6 w6 w.heap.size (.int .i64 (kindOf xs)) (.int .u32 (flagsOf xs)) (.int .u32 (expOf xs)) (.int .u64 (seqOf xs)) (.slice (some ⟨b5, 0, none⟩) (klenOf xs) (klenOf xs)) (.slice (some ⟨b6, 0, none⟩) (vlenOf xs) (vlenOf xs)) (p := ⟨w3.heap.size, 4, none⟩) HY.out.far.2).trans c4; have e5 := (cell_far6 w6 w.heap.size (.int .i64 (kindOf xs)) (.int .u32 (flagsOf xs)) (.int .u32 (expOf xs)) (.int .u64 (seqOf xs)) (.slice (some ⟨b5, 0, none⟩) (klenOf xs) (klenOf xs)) (.slice (some ⟨b6, 0, none⟩) (vlenOf xs) (vlenOf xs)) (p := ⟨w3.heap.size, 5, none⟩) HY.out.far.2).trans c5))
  clear c0 c1 c2 c3 c4 c5 e0 e1 e2 e3 e4 e5 z0 z1 z2 z3 z4 z5 y0 y1 y2 y3 y4 y5
  go_wp2_with (with_reducible refine halt_end ?_)
  have hz := HY.out.res.set6 (.int .i64 (kindOf xs)) (.int .u32 (flagsOf xs)) (.int .u32 (expOf xs)) (.int .u64 (seqOf xs)) (.slice (some ⟨b5, 0, none⟩) (klenOf xs) (klenOf xs)) (.slice (some ⟨b6, 0, none⟩) (vlenOf xs) (vlenOf xs))
  refine Halt.ret (results_row3 (p := 2) (u := 3) (v := 4) rfl _ _ w.heap.size 26 _ _ rfl hz Try.underlying26 rfl size_rec) rfl ⟨b5, b6, ?_, HB5.out, HB6.out, HN6.out.1.symm, Blk.far6 HA5'.out HN5.out.2 _ _ _ _ _ _, Blk.far6 HA6.out HN6.out.2 _ _ _ _ _ _, below_set6 HY.out.bel (Nat.le_refl _) _ _ _ _ _ _⟩
  rw [HNN.out]
  rfl

end Go.Proofs.Ytehldhdpeefljaa
