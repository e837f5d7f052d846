/- Package super: what a superblock says. -/
import Derived.Test.YtkmbbfdjdmkjpaaBlock
import Derived.Test.YtkmbbfdjdmkjpaaReader
namespace Go.Proofs.Ytkmbbfdjdmkjpaa
open Go.RowKit
set_option linter.unusedVariables false
set_option linter.unusedSimpArgs false

/-- Is the superblock right? It says what may be, and that makes just its bytes. -/
def rightS (xs : List Int) : Bool := decide (MayS (numAt xs 16 2) (numAt xs 18 2) (numAt xs 20 8) (numAt xs 28 8)) && (supL (numAt xs 16 2) (numAt xs 18 2) (numAt xs 20 8) (numAt xs 28 8) (numAt xs 36 8) (numAt xs 44 8) (numAt xs 8 8) == xs)

theorem num_in {xs : List Int} (hb : Bytes xs) (k : Nat) : 0 ≤ numAt xs k 8 ∧ numAt xs k 8 ≤ 18446744073709551615 := by
  have h := numOf_bounds _ (bytes_part hb k 8)
  have hl : ((xs.drop k).take 8).length ≤ 8 := by simp; omega
  have h2 : (256 ^ ((xs.drop k).take 8).length : Nat) ≤ 256 ^ 8 := Nat.pow_le_pow_right (by omega) hl
  have e8 : (256 ^ 8 : Nat) = 18446744073709551616 := by decide
  unfold numAt
  generalize (256 ^ ((xs.drop k).take 8).length : Nat) = q at *
  omega
theorem num_in2 {xs : List Int} (hb : Bytes xs) (k : Nat) : 0 ≤ numAt xs k 2 ∧ numAt xs k 2 ≤ 65535 := by
  have h := numOf_bounds _ (bytes_part hb k 2)
  have hl : ((xs.drop k).take 2).length ≤ 2 := by simp; omega
  have h2 : (256 ^ ((xs.drop k).take 2).length : Nat) ≤ 256 ^ 2 := Nat.pow_le_pow_right (by omega) hl
  have e8 : (256 ^ 2 : Nat) = 65536 := by decide
  unfold numAt
  generalize (256 ^ ((xs.drop k).take 2).length : Nat) = q at *
  omega
theorem num_part (xs : List Int) (p n : Nat) (h : p + n ≤ 48) : numOf ((((xs.drop 8).take 48).drop p).take n) = numAt xs (8 + p) n := by
  unfold numAt
  rw [List.drop_take, List.take_take, List.drop_drop, Nat.min_eq_left (by omega)]
theorem sup_inS {xs : List Int} (hb : Bytes xs) : InS (numAt xs 16 2) (numAt xs 18 2) (numAt xs 20 8) (numAt xs 28 8) (numAt xs 36 8) (numAt xs 44 8) := by
  have h1 := num_in2 hb 16
  have h2 := num_in2 hb 18
  have h3 := num_in hb 20
  have h4 := num_in hb 28
  have h5 := num_in hb 36
  have h6 := num_in hb 44
  unfold InS
  omega
/-- What the code makes right is right: a superblock is what is made of it. -/
theorem right_sup (a b g r v f t : Int) (h : MayS a b g r) (hin : InS a b g r v f) (ht : 0 ≤ t ∧ t ≤ 18446744073709551615) : rightS (supL a b g r v f t) = true := by
  obtain ⟨e0, e1, e2, e3, e4, e5, e6⟩ := sup_nums a b g r v f t hin (by have := h.1; have := h.2.1; omega) (by have := h.2.2.1; have := h.2.2.2.1; omega) ht
  unfold rightS
  rw [e0, e1, e2, e3, e4, e5, e6]
  simp [h]

theorem one_tur (a b g r v f t : Int) : (turC a b g r v f t).all (·.oneCell') = true := by simp [turC, Value.oneCell']
theorem Arr.part {w : World} {g : Nat} {t : TypeId} {xs : List Int} (h : Arr (Value.int .u8) w g t xs) (k n : Nat) (hk : k + n ≤ xs.length) {S : Nat → Prop} (hS : S g) : RowI .u8 w S (some ⟨g, k, none⟩) n ((xs.drop k).take n) := by
  refine ⟨by simp; omega, fun _ => ⟨g, k, rfl, hS, fun j hj => ?_⟩⟩
  rw [h.cell (i := k + j) (by omega) 0]
  simp [List.getD, List.getElem?_take, List.getElem?_drop, hj]

set_option maxHeartbeats 2000000 in
set_option maxRecDepth 100000 in
theorem read_ok (xs : List Int) (w : World) (hl : xs.length = 64) (hb : Bytes xs) (hr : rightS xs = true) :
    Calls Try.prog 69 #[.agg (cells8 xs)] w fun e w' => e = .returned (.tuple #[.agg (turC (numAt xs 16 2) (numAt xs 18 2) (numAt xs 20 8) (numAt xs 28 8) (numAt xs 36 8) (numAt xs 44 8) (numAt xs 8 8)), .int .i64 0]) ∧ Below w.heap.size w w' := by
  have hin := sup_inS hb
  have ht := num_in hb 8
  have hys : ((xs.drop 8).take 48).length = 48 := by simp [hl]
  have hyb := bytes_part hb 8 48
  have np := num_part xs
  have q0 := np 0 8 (by omega)
  have q1 := np 8 2 (by omega)
  have q2 := np 10 2 (by omega)
  have q3 := np 12 8 (by omega)
  have q4 := np 20 8 (by omega)
  have q5 := np 28 8 (by omega)
  have q6 := np 36 8 (by omega)
  simp only [Nat.reduceAdd] at q0 q1 q2 q3 q4 q5 q6
  generalize hnt : numAt xs 8 8 = nt at *
  generalize hna : numAt xs 16 2 = na at *
  generalize hnb : numAt xs 18 2 = nb at *
  generalize hng : numAt xs 20 8 = ng at *
  generalize hnr : numAt xs 28 8 = nr at *
  generalize hnv : numAt xs 36 8 = nv at *
  generalize hnf : numAt xs 44 8 = nf at *
  have hna2 := num_in2 hb 16
  have hnb2 := num_in2 hb 18
  rw [hna] at hna2
  rw [hnb] at hnb2
  have hwa : IntKind.i64.wrap na = na := IntWalk.i64_in _ ⟨by omega, by omega⟩
  have hwb : IntKind.i64.wrap nb = nb := IntWalk.i64_in _ ⟨by omega, by omega⟩
  have HQ0 := Lib.hid q0
  have HQ1 := Lib.hid q1
  have HQ2 := Lib.hid q2
  have HQ3 := Lib.hid q3
  have HQ4 := Lib.hid q4
  have HQ5 := Lib.hid q5
  have HQ6 := Lib.hid q6
  have HIN := Lib.hid hin
  have HTT := Lib.hid ht
  have HL := Lib.hid hl
  have HYL := Lib.hid hys
  have HYB := Lib.hid hyb
  have hmay : MayS na nb ng nr := by
    unfold rightS at hr; rw [hnt, hna, hnb, hng, hnr, hnv, hnf] at hr; simp at hr; exact hr.1
  have hsup : supL na nb ng nr nv nf nt = xs := by
    unfold rightS at hr; rw [hnt, hna, hnb, hng, hnr, hnv, hnf] at hr; simp at hr; exact hr.2
  have HMAY := Lib.hid hmay
  have HSUP := Lib.hid hsup
  clear hr hmay hsup
  clear q0 q1 q2 q3 q4 q5 q6 np hin ht hys hyb hl hb hnt hna hnb hng hnr hnv hnf hna2 hnb2
  go_enter Try.func69, Try.ntmps69
  go_upto_region 1 with fail
  have HX1 := Lib.hid (show ArrB ((w.alloc (.cells (cells8 xs) 26)).alloc (.cells (turC 0 0 0 0 0 0 0) 95)) w.heap.size xs from (Blk.new w _ _).alloc _)
  have HR1 := Lib.hid (show Blk ((w.alloc (.cells (cells8 xs) 26)).alloc (.cells (turC 0 0 0 0 0 0 0) 95)) (w.heap.size + 1) 95 (turC 0 0 0 0 0 0 0) from blk_new2 w _ _ _)
  have HBW := Lib.hid (show Below w.heap.size w ((w.alloc (.cells (cells8 xs) 26)).alloc (.cells (turC 0 0 0 0 0 0 0) 95)) from ((Below.refl _ _).alloc (Nat.le_refl _) _).alloc (by simp) _)
  generalize hw1 : ((w.alloc (.cells (cells8 xs) 26)).alloc (.cells (turC 0 0 0 0 0 0 0) 95)) = w1 at *
  clear hw1
  go_wp2_with fail
  refine (read_any (some ⟨w.heap.size, 8, none⟩) 48 56 ((xs.drop 8).take 48) (· = w.heap.size) _ (HX1.out.part 8 48 (by rw [HL.out]; omega) rfl) (fun b h => by rw [h]; exact HX1.out.lt) (by omega)).mono ?_
  rintro e u0 ⟨p, rfl, hpl, hrd, hbu⟩
  have HZ1 := Lib.hid (show w.heap.size + 1 < w1.heap.size from HR1.out.lt)
  have HP := Lib.hid hpl
  have HPU := Lib.hid (show p < u0.heap.size from hrd.blk.lt)
  have HRD0 := Lib.hid (show Rd (u0.alloc (.cells (turC 0 0 0 0 0 0 0) 95)) p w1.heap.size ((xs.drop 8).take 48) 0 0 from ⟨hrd.1.alloc _, Blk.alloc hrd.2.1 _, hrd.2.2⟩)
  have HT0 := Lib.hid (show Blk (u0.alloc (.cells (turC 0 0 0 0 0 0 0) 95)) u0.heap.size 95 (turC 0 0 0 0 0 0 0) from Blk.new u0 _ _)
  have HB0 := Lib.hid (show Below w1.heap.size w1 (u0.alloc (.cells (turC 0 0 0 0 0 0 0) 95)) from hbu.alloc hbu.size _)
  have HZU := Lib.hid (show u0.heap.size < (u0.alloc (.cells (turC 0 0 0 0 0 0 0) 95)).heap.size by simp)
  clear hrd hbu hpl
  go_wp2_with fail
  generalize hv0 : u0.alloc (.cells (turC 0 0 0 0 0 0 0) 95) = v0 at *
  clear hv0
  refine (u64_ok v0 p w1.heap.size ((xs.drop 8).take 48) 0 HRD0.out (by rw [HYL.out]; omega) HYB.out).mono ?_
  rintro e x0 ⟨rfl, hrd, hk⟩
  rw [HQ0.out]
  have hT := HT0.out.kept hk ⟨by have := HZU.out; have := HT0.out.lt; omega, by have := HPU.out; omega⟩
  have hz := hT.frozen 6
  have hc := hT.cell 6
  simp only [List.getElem?_toArray, List.getElem?_cons_zero, List.getElem?_cons_succ] at hc
  have HT1 := Lib.hid (show Blk (x0.setCell ⟨u0.heap.size, 6, none⟩ (.int .u64 nt)) u0.heap.size 95 (turC 0 0 0 0 0 0 nt) from hT.set_ 6 _)
  have HRD1 := Lib.hid (show Rd (x0.setCell ⟨u0.heap.size, 6, none⟩ (.int .u64 nt)) p w1.heap.size ((xs.drop 8).take 48) 8 0 from hrd.kept (S := fun b => b ≠ u0.heap.size) ((Kept.refl _ _).setCell (fun h => h rfl) _) (by have := HPU.out; omega) (by have := HP.out; have := HPU.out; omega))
  have HB1 := Lib.hid (show Below w1.heap.size w1 (x0.setCell ⟨u0.heap.size, 6, none⟩ (.int .u64 nt)) from ((HB0.out.trans (hk.to_below (B := w1.heap.size) (fun b h => ⟨Nat.lt_of_lt_of_le h HB0.out.size, by have := HP.out; omega⟩))).setCell (p := ⟨u0.heap.size, 6, none⟩) (by show w1.heap.size ≤ u0.heap.size; have := HP.out; have := HPU.out; omega) _))
  clear hT hrd hk
  go_wp2_with fail
  clear hz hc
  generalize hv1 : x0.setCell ⟨u0.heap.size, 6, none⟩ (.int .u64 nt) = v1 at *
  clear hv1
  refine (u16_ok v1 p w1.heap.size ((xs.drop 8).take 48) 8 HRD1.out (by rw [HYL.out]; omega) HYB.out).mono ?_
  rintro e x1 ⟨rfl, hrd, hk⟩
  rw [HQ1.out]
  have hT := HT1.out.kept hk ⟨by have := HZU.out; have := HT1.out.lt; omega, by have := HPU.out; omega⟩
  have hz := hT.frozen 0
  have hc := hT.cell 0
  simp only [List.getElem?_toArray, List.getElem?_cons_zero, List.getElem?_cons_succ] at hc
  have HT2 := Lib.hid (show Blk (x1.setCell ⟨u0.heap.size, 0, none⟩ (.int .i64 na)) u0.heap.size 95 (turC na 0 0 0 0 0 nt) from hT.set_ 0 _)
  have HRD2 := Lib.hid (show Rd (x1.setCell ⟨u0.heap.size, 0, none⟩ (.int .i64 na)) p w1.heap.size ((xs.drop 8).take 48) 10 0 from hrd.kept (S := fun b => b ≠ u0.heap.size) ((Kept.refl _ _).setCell (fun h => h rfl) _) (by have := HPU.out; omega) (by have := HP.out; have := HPU.out; omega))
  have HB2 := Lib.hid (show Below w1.heap.size w1 (x1.setCell ⟨u0.heap.size, 0, none⟩ (.int .i64 na)) from ((HB1.out.trans (hk.to_below (B := w1.heap.size) (fun b h => ⟨Nat.lt_of_lt_of_le h HB1.out.size, by have := HP.out; omega⟩))).setCell (p := ⟨u0.heap.size, 0, none⟩) (by show w1.heap.size ≤ u0.heap.size; have := HP.out; have := HPU.out; omega) _))
  clear hT hrd hk
  go_wp2_with fail
  clear hz hc
  generalize hv2 : x1.setCell ⟨u0.heap.size, 0, none⟩ (.int .i64 na) = v2 at *
  clear hv2
  refine (u16_ok v2 p w1.heap.size ((xs.drop 8).take 48) 10 HRD2.out (by rw [HYL.out]; omega) HYB.out).mono ?_
  rintro e x2 ⟨rfl, hrd, hk⟩
  rw [HQ2.out]
  have hT := HT2.out.kept hk ⟨by have := HZU.out; have := HT2.out.lt; omega, by have := HPU.out; omega⟩
  have hz := hT.frozen 1
  have hc := hT.cell 1
  simp only [List.getElem?_toArray, List.getElem?_cons_zero, List.getElem?_cons_succ] at hc
  have HT3 := Lib.hid (show Blk (x2.setCell ⟨u0.heap.size, 1, none⟩ (.int .i64 nb)) u0.heap.size 95 (turC na nb 0 0 0 0 nt) from hT.set_ 1 _)
  have HRD3 := Lib.hid (show Rd (x2.setCell ⟨u0.heap.size, 1, none⟩ (.int .i64 nb)) p w1.heap.size ((xs.drop 8).take 48) 12 0 from hrd.kept (S := fun b => b ≠ u0.heap.size) ((Kept.refl _ _).setCell (fun h => h rfl) _) (by have := HPU.out; omega) (by have := HP.out; have := HPU.out; omega))
  have HB3 := Lib.hid (show Below w1.heap.size w1 (x2.setCell ⟨u0.heap.size, 1, none⟩ (.int .i64 nb)) from ((HB2.out.trans (hk.to_below (B := w1.heap.size) (fun b h => ⟨Nat.lt_of_lt_of_le h HB2.out.size, by have := HP.out; omega⟩))).setCell (p := ⟨u0.heap.size, 1, none⟩) (by show w1.heap.size ≤ u0.heap.size; have := HP.out; have := HPU.out; omega) _))
  clear hT hrd hk
  go_wp2_with fail
  clear hz hc
  generalize hv3 : x2.setCell ⟨u0.heap.size, 1, none⟩ (.int .i64 nb) = v3 at *
  clear hv3
  refine (u64_ok v3 p w1.heap.size ((xs.drop 8).take 48) 12 HRD3.out (by rw [HYL.out]; omega) HYB.out).mono ?_
  rintro e x3 ⟨rfl, hrd, hk⟩
  rw [HQ3.out]
  have hT := HT3.out.kept hk ⟨by have := HZU.out; have := HT3.out.lt; omega, by have := HPU.out; omega⟩
  have hz := hT.frozen 2
  have hc := hT.cell 2
  simp only [List.getElem?_toArray, List.getElem?_cons_zero, List.getElem?_cons_succ] at hc
  have HT4 := Lib.hid (show Blk (x3.setCell ⟨u0.heap.size, 2, none⟩ (.int .u64 ng)) u0.heap.size 95 (turC na nb ng 0 0 0 nt) from hT.set_ 2 _)
  have HRD4 := Lib.hid (show Rd (x3.setCell ⟨u0.heap.size, 2, none⟩ (.int .u64 ng)) p w1.heap.size ((xs.drop 8).take 48) 20 0 from hrd.kept (S := fun b => b ≠ u0.heap.size) ((Kept.refl _ _).setCell (fun h => h rfl) _) (by have := HPU.out; omega) (by have := HP.out; have := HPU.out; omega))
  have HB4 := Lib.hid (show Below w1.heap.size w1 (x3.setCell ⟨u0.heap.size, 2, none⟩ (.int .u64 ng)) from ((HB3.out.trans (hk.to_below (B := w1.heap.size) (fun b h => ⟨Nat.lt_of_lt_of_le h HB3.out.size, by have := HP.out; omega⟩))).setCell (p := ⟨u0.heap.size, 2, none⟩) (by show w1.heap.size ≤ u0.heap.size; have := HP.out; have := HPU.out; omega) _))
  clear hT hrd hk
  go_wp2_with fail
  clear hz hc
  generalize hv4 : x3.setCell ⟨u0.heap.size, 2, none⟩ (.int .u64 ng) = v4 at *
  clear hv4
  refine (u64_ok v4 p w1.heap.size ((xs.drop 8).take 48) 20 HRD4.out (by rw [HYL.out]; omega) HYB.out).mono ?_
  rintro e x4 ⟨rfl, hrd, hk⟩
  rw [HQ4.out]
  have hT := HT4.out.kept hk ⟨by have := HZU.out; have := HT4.out.lt; omega, by have := HPU.out; omega⟩
  have hz := hT.frozen 3
  have hc := hT.cell 3
  simp only [List.getElem?_toArray, List.getElem?_cons_zero, List.getElem?_cons_succ] at hc
  have HT5 := Lib.hid (show Blk (x4.setCell ⟨u0.heap.size, 3, none⟩ (.int .u64 nr)) u0.heap.size 95 (turC na nb ng nr 0 0 nt) from hT.set_ 3 _)
  have HRD5 := Lib.hid (show Rd (x4.setCell ⟨u0.heap.size, 3, none⟩ (.int .u64 nr)) p w1.heap.size ((xs.drop 8).take 48) 28 0 from hrd.kept (S := fun b => b ≠ u0.heap.size) ((Kept.refl _ _).setCell (fun h => h rfl) _) (by have := HPU.out; omega) (by have := HP.out; have := HPU.out; omega))
  have HB5 := Lib.hid (show Below w1.heap.size w1 (x4.setCell ⟨u0.heap.size, 3, none⟩ (.int .u64 nr)) from ((HB4.out.trans (hk.to_below (B := w1.heap.size) (fun b h => ⟨Nat.lt_of_lt_of_le h HB4.out.size, by have := HP.out; omega⟩))).setCell (p := ⟨u0.heap.size, 3, none⟩) (by show w1.heap.size ≤ u0.heap.size; have := HP.out; have := HPU.out; omega) _))
  clear hT hrd hk
  go_wp2_with fail
  clear hz hc
  generalize hv5 : x4.setCell ⟨u0.heap.size, 3, none⟩ (.int .u64 nr) = v5 at *
  clear hv5
  refine (u64_ok v5 p w1.heap.size ((xs.drop 8).take 48) 28 HRD5.out (by rw [HYL.out]; omega) HYB.out).mono ?_
  rintro e x5 ⟨rfl, hrd, hk⟩
  rw [HQ5.out]
  have hT := HT5.out.kept hk ⟨by have := HZU.out; have := HT5.out.lt; omega, by have := HPU.out; omega⟩
  have hz := hT.frozen 4
  have hc := hT.cell 4
  simp only [List.getElem?_toArray, List.getElem?_cons_zero, List.getElem?_cons_succ] at hc
  have HT6 := Lib.hid (show Blk (x5.setCell ⟨u0.heap.size, 4, none⟩ (.int .u64 nv)) u0.heap.size 95 (turC na nb ng nr nv 0 nt) from hT.set_ 4 _)
  have HRD6 := Lib.hid (show Rd (x5.setCell ⟨u0.heap.size, 4, none⟩ (.int .u64 nv)) p w1.heap.size ((xs.drop 8).take 48) 36 0 from hrd.kept (S := fun b => b ≠ u0.heap.size) ((Kept.refl _ _).setCell (fun h => h rfl) _) (by have := HPU.out; omega) (by have := HP.out; have := HPU.out; omega))
  have HB6 := Lib.hid (show Below w1.heap.size w1 (x5.setCell ⟨u0.heap.size, 4, none⟩ (.int .u64 nv)) from ((HB5.out.trans (hk.to_below (B := w1.heap.size) (fun b h => ⟨Nat.lt_of_lt_of_le h HB5.out.size, by have := HP.out; omega⟩))).setCell (p := ⟨u0.heap.size, 4, none⟩) (by show w1.heap.size ≤ u0.heap.size; have := HP.out; have := HPU.out; omega) _))
  clear hT hrd hk
  go_wp2_with fail
  clear hz hc
  generalize hv6 : x5.setCell ⟨u0.heap.size, 4, none⟩ (.int .u64 nv) = v6 at *
  clear hv6
  refine (u64_ok v6 p w1.heap.size ((xs.drop 8).take 48) 36 HRD6.out (by rw [HYL.out]; omega) HYB.out).mono ?_
  rintro e x6 ⟨rfl, hrd, hk⟩
  rw [HQ6.out]
  have hT := HT6.out.kept hk ⟨by have := HZU.out; have := HT6.out.lt; omega, by have := HPU.out; omega⟩
  have hz := hT.frozen 5
  have hc := hT.cell 5
  simp only [List.getElem?_toArray, List.getElem?_cons_zero, List.getElem?_cons_succ] at hc
  have HT7 := Lib.hid (show Blk (x6.setCell ⟨u0.heap.size, 5, none⟩ (.int .u64 nf)) u0.heap.size 95 (turC na nb ng nr nv nf nt) from hT.set_ 5 _)
  have HRD7 := Lib.hid (show Rd (x6.setCell ⟨u0.heap.size, 5, none⟩ (.int .u64 nf)) p w1.heap.size ((xs.drop 8).take 48) 44 0 from hrd.kept (S := fun b => b ≠ u0.heap.size) ((Kept.refl _ _).setCell (fun h => h rfl) _) (by have := HPU.out; omega) (by have := HP.out; have := HPU.out; omega))
  have HB7 := Lib.hid (show Below w1.heap.size w1 (x6.setCell ⟨u0.heap.size, 5, none⟩ (.int .u64 nf)) from ((HB6.out.trans (hk.to_below (B := w1.heap.size) (fun b h => ⟨Nat.lt_of_lt_of_le h HB6.out.size, by have := HP.out; omega⟩))).setCell (p := ⟨u0.heap.size, 5, none⟩) (by show w1.heap.size ≤ u0.heap.size; have := HP.out; have := HPU.out; omega) _))
  clear hT hrd hk
  go_upto_region 10 with fail
  clear hz hc
  generalize hv7 : x6.setCell ⟨u0.heap.size, 5, none⟩ (.int .u64 nf) = v7 at *
  clear hv7
  obtain ⟨c0, c1, c2, c3, c4, c5, c6⟩ : _ ∧ _ ∧ _ ∧ _ ∧ _ ∧ _ ∧ _ := ⟨HT7.out.cell 0, HT7.out.cell 1, HT7.out.cell 2, HT7.out.cell 3, HT7.out.cell 4, HT7.out.cell 5, HT7.out.cell 6⟩
  simp only [List.getElem?_toArray, List.getElem?_cons_zero, List.getElem?_cons_succ] at c0 c1 c2 c3 c4 c5 c6
  go_wp2_with fail
  clear c0 c1 c2 c3 c4 c5 c6
  refine (block_ok na nb ng nr nv nf nt _ HMAY.out HIN.out HTT.out).mono ?_
  rintro e w8 ⟨rfl, hb⟩
  rw [HSUP.out]
  have HTU := Lib.hid (show u0.heap.size < v7.heap.size from HT7.out.lt)
  have HW1 := Lib.hid (show w1.heap.size < u0.heap.size by have := HP.out; have := HPU.out; omega)
  have HT8 := Lib.hid (HT7.out.below hb HT7.out.lt)
  have HX7 := Lib.hid (show ArrB v7 w.heap.size xs from HX1.out.below HB7.out HX1.out.lt)
  have HR7 := Lib.hid (HR1.out.below HB7.out HR1.out.lt)
  have HX8 := Lib.hid (show ArrB w8 w.heap.size xs from Arr.below HX7.out hb HX7.out.lt)
  have HR8 := Lib.hid (HR7.out.below hb HR7.out.lt)
  have HB8 := Lib.hid (show Below w.heap.size w w8 from HBW.out.trans ((HB7.out.mono (by have := HZ1.out; omega)).trans (hb.mono (by have := HX7.out.lt; omega))))
  obtain ⟨w9, hw9⟩ : ∃ w9, w9 = w8.alloc (.cells (cells8 xs) 26) := ⟨_, rfl⟩
  have HW9 := Lib.hid hw9
  have HT9 := Lib.hid (show Blk w9 u0.heap.size 95 (turC na nb ng nr nv nf nt) by rw [hw9]; exact HT8.out.alloc _)
  have HX9 := Lib.hid (show ArrB w9 w.heap.size xs by rw [hw9]; exact Blk.alloc HX8.out _)
  have HR9 := Lib.hid (show Blk w9 (w.heap.size + 1) 95 (turC 0 0 0 0 0 0 0) by rw [hw9]; exact HR8.out.alloc _)
  have HV9 := Lib.hid (show ArrB w9 w8.heap.size xs by rw [hw9]; exact Blk.new w8 _ _)
  have HB9 := Lib.hid (show Below w.heap.size w w9 by rw [hw9]; exact HB8.out.alloc HB8.out.size _)
  clear hb hw9
  have HSAME := Lib.hid (show (xs == xs) = true by simp)
  obtain ⟨d0, d1, d2, d3, d4, d5, d6⟩ : _ ∧ _ ∧ _ ∧ _ ∧ _ ∧ _ ∧ _ := ⟨HT9.out.cell 0, HT9.out.cell 1, HT9.out.cell 2, HT9.out.cell 3, HT9.out.cell 4, HT9.out.cell 5, HT9.out.cell 6⟩
  simp only [List.getElem?_toArray, List.getElem?_cons_zero, List.getElem?_cons_succ] at d0 d1 d2 d3 d4 d5 d6
  go_wp2_with (first
    | (refine wpList_alloc_blk rfl rfl ?_)
    | (refine wpList_store_new (.tmp 6) (.tmp 42) rfl rfl w8 xs rfl rfl (noughts 64) rfl (noughts_length 64) HL.out ?_; rw [← HW9.out])
    | (refine wpList_load_blk (.tmp 6) rfl rfl w8.heap.size 0 rfl xs HL.out HV9.out.range ?_)
    | (refine wpList_load_blk (.tmp 1) rfl rfl w.heap.size 0 rfl xs HL.out HX9.out.range ?_)
    | (refine wpList_neq_blk (.tmp 47) (.tmp 48) _ rfl rfl xs xs rfl rfl HL.out HL.out ?_; rw [HSAME.out])
    | (refine wpList_store_rowB (.tmp 2) (.tmp 52) 95 rfl rfl (w.heap.size + 1) (turC na nb ng nr nv nf nt) rfl rfl 95 _ HR9.out size_tur rfl (one_tur _ _ _ _ _ _ _) ?_)
    | (with_reducible refine halt_end ?_))
  exact Halt.ret (results_row2 (p := 2) (u := 3) rfl _ _ (w.heap.size + 1) 95 (turC na nb ng nr nv nf nt) _ rfl (setRow_heap _ _ _ (turC na nb ng nr nv nf nt) _ _ HR9.out) Try.underlying95 rfl size_tur) rfl ⟨rfl, below_setRow HB9.out (by omega) _⟩

set_option maxHeartbeats 2000000 in
set_option maxRecDepth 100000 in
theorem read_no (xs : List Int) (w : World) (hl : xs.length = 64) (hb : Bytes xs) (hr : ¬ MayS (numAt xs 16 2) (numAt xs 18 2) (numAt xs 20 8) (numAt xs 28 8)) :
    Calls Try.prog 69 #[.agg (cells8 xs)] w fun e w' => e = .returned (.tuple #[.agg (turC 0 0 0 0 0 0 0), .int .i64 170]) ∧ Below w.heap.size w w' := by
  have hin := sup_inS hb
  have ht := num_in hb 8
  have hys : ((xs.drop 8).take 48).length = 48 := by simp [hl]
  have hyb := bytes_part hb 8 48
  have np := num_part xs
  have q0 := np 0 8 (by omega)
  have q1 := np 8 2 (by omega)
  have q2 := np 10 2 (by omega)
  have q3 := np 12 8 (by omega)
  have q4 := np 20 8 (by omega)
  have q5 := np 28 8 (by omega)
  have q6 := np 36 8 (by omega)
  simp only [Nat.reduceAdd] at q0 q1 q2 q3 q4 q5 q6
  generalize hnt : numAt xs 8 8 = nt at *
  generalize hna : numAt xs 16 2 = na at *
  generalize hnb : numAt xs 18 2 = nb at *
  generalize hng : numAt xs 20 8 = ng at *
  generalize hnr : numAt xs 28 8 = nr at *
  generalize hnv : numAt xs 36 8 = nv at *
  generalize hnf : numAt xs 44 8 = nf at *
  have hna2 := num_in2 hb 16
  have hnb2 := num_in2 hb 18
  rw [hna] at hna2
  rw [hnb] at hnb2
  have hwa : IntKind.i64.wrap na = na := IntWalk.i64_in _ ⟨by omega, by omega⟩
  have hwb : IntKind.i64.wrap nb = nb := IntWalk.i64_in _ ⟨by omega, by omega⟩
  have HQ0 := Lib.hid q0
  have HQ1 := Lib.hid q1
  have HQ2 := Lib.hid q2
  have HQ3 := Lib.hid q3
  have HQ4 := Lib.hid q4
  have HQ5 := Lib.hid q5
  have HQ6 := Lib.hid q6
  have HIN := Lib.hid hin
  have HTT := Lib.hid ht
  have HL := Lib.hid hl
  have HYL := Lib.hid hys
  have HYB := Lib.hid hyb
  have HMAY := Lib.hid hr
  clear hr
  clear q0 q1 q2 q3 q4 q5 q6 np hin ht hys hyb hl hb hnt hna hnb hng hnr hnv hnf hna2 hnb2
  go_enter Try.func69, Try.ntmps69
  go_upto_region 1 with fail
  have HX1 := Lib.hid (show ArrB ((w.alloc (.cells (cells8 xs) 26)).alloc (.cells (turC 0 0 0 0 0 0 0) 95)) w.heap.size xs from (Blk.new w _ _).alloc _)
  have HR1 := Lib.hid (show Blk ((w.alloc (.cells (cells8 xs) 26)).alloc (.cells (turC 0 0 0 0 0 0 0) 95)) (w.heap.size + 1) 95 (turC 0 0 0 0 0 0 0) from blk_new2 w _ _ _)
  have HBW := Lib.hid (show Below w.heap.size w ((w.alloc (.cells (cells8 xs) 26)).alloc (.cells (turC 0 0 0 0 0 0 0) 95)) from ((Below.refl _ _).alloc (Nat.le_refl _) _).alloc (by simp) _)
  generalize hw1 : ((w.alloc (.cells (cells8 xs) 26)).alloc (.cells (turC 0 0 0 0 0 0 0) 95)) = w1 at *
  clear hw1
  go_wp2_with fail
  refine (read_any (some ⟨w.heap.size, 8, none⟩) 48 56 ((xs.drop 8).take 48) (· = w.heap.size) _ (HX1.out.part 8 48 (by rw [HL.out]; omega) rfl) (fun b h => by rw [h]; exact HX1.out.lt) (by omega)).mono ?_
  rintro e u0 ⟨p, rfl, hpl, hrd, hbu⟩
  have HZ1 := Lib.hid (show w.heap.size + 1 < w1.heap.size from HR1.out.lt)
  have HP := Lib.hid hpl
  have HPU := Lib.hid (show p < u0.heap.size from hrd.blk.lt)
  have HRD0 := Lib.hid (show Rd (u0.alloc (.cells (turC 0 0 0 0 0 0 0) 95)) p w1.heap.size ((xs.drop 8).take 48) 0 0 from ⟨hrd.1.alloc _, Blk.alloc hrd.2.1 _, hrd.2.2⟩)
  have HT0 := Lib.hid (show Blk (u0.alloc (.cells (turC 0 0 0 0 0 0 0) 95)) u0.heap.size 95 (turC 0 0 0 0 0 0 0) from Blk.new u0 _ _)
  have HB0 := Lib.hid (show Below w1.heap.size w1 (u0.alloc (.cells (turC 0 0 0 0 0 0 0) 95)) from hbu.alloc hbu.size _)
  have HZU := Lib.hid (show u0.heap.size < (u0.alloc (.cells (turC 0 0 0 0 0 0 0) 95)).heap.size by simp)
  clear hrd hbu hpl
  go_wp2_with fail
  generalize hv0 : u0.alloc (.cells (turC 0 0 0 0 0 0 0) 95) = v0 at *
  clear hv0
  refine (u64_ok v0 p w1.heap.size ((xs.drop 8).take 48) 0 HRD0.out (by rw [HYL.out]; omega) HYB.out).mono ?_
  rintro e x0 ⟨rfl, hrd, hk⟩
  rw [HQ0.out]
  have hT := HT0.out.kept hk ⟨by have := HZU.out; have := HT0.out.lt; omega, by have := HPU.out; omega⟩
  have hz := hT.frozen 6
  have hc := hT.cell 6
  simp only [List.getElem?_toArray, List.getElem?_cons_zero, List.getElem?_cons_succ] at hc
  have HT1 := Lib.hid (show Blk (x0.setCell ⟨u0.heap.size, 6, none⟩ (.int .u64 nt)) u0.heap.size 95 (turC 0 0 0 0 0 0 nt) from hT.set_ 6 _)
  have HRD1 := Lib.hid (show Rd (x0.setCell ⟨u0.heap.size, 6, none⟩ (.int .u64 nt)) p w1.heap.size ((xs.drop 8).take 48) 8 0 from hrd.kept (S := fun b => b ≠ u0.heap.size) ((Kept.refl _ _).setCell (fun h => h rfl) _) (by have := HPU.out; omega) (by have := HP.out; have := HPU.out; omega))
  have HB1 := Lib.hid (show Below w1.heap.size w1 (x0.setCell ⟨u0.heap.size, 6, none⟩ (.int .u64 nt)) from ((HB0.out.trans (hk.to_below (B := w1.heap.size) (fun b h => ⟨Nat.lt_of_lt_of_le h HB0.out.size, by have := HP.out; omega⟩))).setCell (p := ⟨u0.heap.size, 6, none⟩) (by show w1.heap.size ≤ u0.heap.size; have := HP.out; have := HPU.out; omega) _))
  clear hT hrd hk
  go_wp2_with fail
  clear hz hc
  generalize hv1 : x0.setCell ⟨u0.heap.size, 6, none⟩ (.int .u64 nt) = v1 at *
  clear hv1
  refine (u16_ok v1 p w1.heap.size ((xs.drop 8).take 48) 8 HRD1.out (by rw [HYL.out]; omega) HYB.out).mono ?_
  rintro e x1 ⟨rfl, hrd, hk⟩
  rw [HQ1.out]
  have hT := HT1.out.kept hk ⟨by have := HZU.out; have := HT1.out.lt; omega, by have := HPU.out; omega⟩
  have hz := hT.frozen 0
  have hc := hT.cell 0
  simp only [List.getElem?_toArray, List.getElem?_cons_zero, List.getElem?_cons_succ] at hc
  have HT2 := Lib.hid (show Blk (x1.setCell ⟨u0.heap.size, 0, none⟩ (.int .i64 na)) u0.heap.size 95 (turC na 0 0 0 0 0 nt) from hT.set_ 0 _)
  have HRD2 := Lib.hid (show Rd (x1.setCell ⟨u0.heap.size, 0, none⟩ (.int .i64 na)) p w1.heap.size ((xs.drop 8).take 48) 10 0 from hrd.kept (S := fun b => b ≠ u0.heap.size) ((Kept.refl _ _).setCell (fun h => h rfl) _) (by have := HPU.out; omega) (by have := HP.out; have := HPU.out; omega))
  have HB2 := Lib.hid (show Below w1.heap.size w1 (x1.setCell ⟨u0.heap.size, 0, none⟩ (.int .i64 na)) from ((HB1.out.trans (hk.to_below (B := w1.heap.size) (fun b h => ⟨Nat.lt_of_lt_of_le h HB1.out.size, by have := HP.out; omega⟩))).setCell (p := ⟨u0.heap.size, 0, none⟩) (by show w1.heap.size ≤ u0.heap.size; have := HP.out; have := HPU.out; omega) _))
  clear hT hrd hk
  go_wp2_with fail
  clear hz hc
  generalize hv2 : x1.setCell ⟨u0.heap.size, 0, none⟩ (.int .i64 na) = v2 at *
  clear hv2
  refine (u16_ok v2 p w1.heap.size ((xs.drop 8).take 48) 10 HRD2.out (by rw [HYL.out]; omega) HYB.out).mono ?_
  rintro e x2 ⟨rfl, hrd, hk⟩
  rw [HQ2.out]
  have hT := HT2.out.kept hk ⟨by have := HZU.out; have := HT2.out.lt; omega, by have := HPU.out; omega⟩
  have hz := hT.frozen 1
  have hc := hT.cell 1
  simp only [List.getElem?_toArray, List.getElem?_cons_zero, List.getElem?_cons_succ] at hc
  have HT3 := Lib.hid (show Blk (x2.setCell ⟨u0.heap.size, 1, none⟩ (.int .i64 nb)) u0.heap.size 95 (turC na nb 0 0 0 0 nt) from hT.set_ 1 _)
  have HRD3 := Lib.hid (show Rd (x2.setCell ⟨u0.heap.size, 1, none⟩ (.int .i64 nb)) p w1.heap.size ((xs.drop 8).take 48) 12 0 from hrd.kept (S := fun b => b ≠ u0.heap.size) ((Kept.refl _ _).setCell (fun h => h rfl) _) (by have := HPU.out; omega) (by have := HP.out; have := HPU.out; omega))
  have HB3 := Lib.hid (show Below w1.heap.size w1 (x2.setCell ⟨u0.heap.size, 1, none⟩ (.int .i64 nb)) from ((HB2.out.trans (hk.to_below (B := w1.heap.size) (fun b h => ⟨Nat.lt_of_lt_of_le h HB2.out.size, by have := HP.out; omega⟩))).setCell (p := ⟨u0.heap.size, 1, none⟩) (by show w1.heap.size ≤ u0.heap.size; have := HP.out; have := HPU.out; omega) _))
  clear hT hrd hk
  go_wp2_with fail
  clear hz hc
  generalize hv3 : x2.setCell ⟨u0.heap.size, 1, none⟩ (.int .i64 nb) = v3 at *
  clear hv3
  refine (u64_ok v3 p w1.heap.size ((xs.drop 8).take 48) 12 HRD3.out (by rw [HYL.out]; omega) HYB.out).mono ?_
  rintro e x3 ⟨rfl, hrd, hk⟩
  rw [HQ3.out]
  have hT := HT3.out.kept hk ⟨by have := HZU.out; have := HT3.out.lt; omega, by have := HPU.out; omega⟩
  have hz := hT.frozen 2
  have hc := hT.cell 2
  simp only [List.getElem?_toArray, List.getElem?_cons_zero, List.getElem?_cons_succ] at hc
  have HT4 := Lib.hid (show Blk (x3.setCell ⟨u0.heap.size, 2, none⟩ (.int .u64 ng)) u0.heap.size 95 (turC na nb ng 0 0 0 nt) from hT.set_ 2 _)
  have HRD4 := Lib.hid (show Rd (x3.setCell ⟨u0.heap.size, 2, none⟩ (.int .u64 ng)) p w1.heap.size ((xs.drop 8).take 48) 20 0 from hrd.kept (S := fun b => b ≠ u0.heap.size) ((Kept.refl _ _).setCell (fun h => h rfl) _) (by have := HPU.out; omega) (by have := HP.out; have := HPU.out; omega))
  have HB4 := Lib.hid (show Below w1.heap.size w1 (x3.setCell ⟨u0.heap.size, 2, none⟩ (.int .u64 ng)) from ((HB3.out.trans (hk.to_below (B := w1.heap.size) (fun b h => ⟨Nat.lt_of_lt_of_le h HB3.out.size, by have := HP.out; omega⟩))).setCell (p := ⟨u0.heap.size, 2, none⟩) (by show w1.heap.size ≤ u0.heap.size; have := HP.out; have := HPU.out; omega) _))
  clear hT hrd hk
  go_wp2_with fail
  clear hz hc
  generalize hv4 : x3.setCell ⟨u0.heap.size, 2, none⟩ (.int .u64 ng) = v4 at *
  clear hv4
  refine (u64_ok v4 p w1.heap.size ((xs.drop 8).take 48) 20 HRD4.out (by rw [HYL.out]; omega) HYB.out).mono ?_
  rintro e x4 ⟨rfl, hrd, hk⟩
  rw [HQ4.out]
  have hT := HT4.out.kept hk ⟨by have := HZU.out; have := HT4.out.lt; omega, by have := HPU.out; omega⟩
  have hz := hT.frozen 3
  have hc := hT.cell 3
  simp only [List.getElem?_toArray, List.getElem?_cons_zero, List.getElem?_cons_succ] at hc
  have HT5 := Lib.hid (show Blk (x4.setCell ⟨u0.heap.size, 3, none⟩ (.int .u64 nr)) u0.heap.size 95 (turC na nb ng nr 0 0 nt) from hT.set_ 3 _)
  have HRD5 := Lib.hid (show Rd (x4.setCell ⟨u0.heap.size, 3, none⟩ (.int .u64 nr)) p w1.heap.size ((xs.drop 8).take 48) 28 0 from hrd.kept (S := fun b => b ≠ u0.heap.size) ((Kept.refl _ _).setCell (fun h => h rfl) _) (by have := HPU.out; omega) (by have := HP.out; have := HPU.out; omega))
  have HB5 := Lib.hid (show Below w1.heap.size w1 (x4.setCell ⟨u0.heap.size, 3, none⟩ (.int .u64 nr)) from ((HB4.out.trans (hk.to_below (B := w1.heap.size) (fun b h => ⟨Nat.lt_of_lt_of_le h HB4.out.size, by have := HP.out; omega⟩))).setCell (p := ⟨u0.heap.size, 3, none⟩) (by show w1.heap.size ≤ u0.heap.size; have := HP.out; have := HPU.out; omega) _))
  clear hT hrd hk
  go_wp2_with fail
  clear hz hc
  generalize hv5 : x4.setCell ⟨u0.heap.size, 3, none⟩ (.int .u64 nr) = v5 at *
  clear hv5
  refine (u64_ok v5 p w1.heap.size ((xs.drop 8).take 48) 28 HRD5.out (by rw [HYL.out]; omega) HYB.out).mono ?_
  rintro e x5 ⟨rfl, hrd, hk⟩
  rw [HQ5.out]
  have hT := HT5.out.kept hk ⟨by have := HZU.out; have := HT5.out.lt; omega, by have := HPU.out; omega⟩
  have hz := hT.frozen 4
  have hc := hT.cell 4
  simp only [List.getElem?_toArray, List.getElem?_cons_zero, List.getElem?_cons_succ] at hc
  have HT6 := Lib.hid (show Blk (x5.setCell ⟨u0.heap.size, 4, none⟩ (.int .u64 nv)) u0.heap.size 95 (turC na nb ng nr nv 0 nt) from hT.set_ 4 _)
  have HRD6 := Lib.hid (show Rd (x5.setCell ⟨u0.heap.size, 4, none⟩ (.int .u64 nv)) p w1.heap.size ((xs.drop 8).take 48) 36 0 from hrd.kept (S := fun b => b ≠ u0.heap.size) ((Kept.refl _ _).setCell (fun h => h rfl) _) (by have := HPU.out; omega) (by have := HP.out; have := HPU.out; omega))
  have HB6 := Lib.hid (show Below w1.heap.size w1 (x5.setCell ⟨u0.heap.size, 4, none⟩ (.int .u64 nv)) from ((HB5.out.trans (hk.to_below (B := w1.heap.size) (fun b h => ⟨Nat.lt_of_lt_of_le h HB5.out.size, by have := HP.out; omega⟩))).setCell (p := ⟨u0.heap.size, 4, none⟩) (by show w1.heap.size ≤ u0.heap.size; have := HP.out; have := HPU.out; omega) _))
  clear hT hrd hk
  go_wp2_with fail
  clear hz hc
  generalize hv6 : x5.setCell ⟨u0.heap.size, 4, none⟩ (.int .u64 nv) = v6 at *
  clear hv6
  refine (u64_ok v6 p w1.heap.size ((xs.drop 8).take 48) 36 HRD6.out (by rw [HYL.out]; omega) HYB.out).mono ?_
  rintro e x6 ⟨rfl, hrd, hk⟩
  rw [HQ6.out]
  have hT := HT6.out.kept hk ⟨by have := HZU.out; have := HT6.out.lt; omega, by have := HPU.out; omega⟩
  have hz := hT.frozen 5
  have hc := hT.cell 5
  simp only [List.getElem?_toArray, List.getElem?_cons_zero, List.getElem?_cons_succ] at hc
  have HT7 := Lib.hid (show Blk (x6.setCell ⟨u0.heap.size, 5, none⟩ (.int .u64 nf)) u0.heap.size 95 (turC na nb ng nr nv nf nt) from hT.set_ 5 _)
  have HRD7 := Lib.hid (show Rd (x6.setCell ⟨u0.heap.size, 5, none⟩ (.int .u64 nf)) p w1.heap.size ((xs.drop 8).take 48) 44 0 from hrd.kept (S := fun b => b ≠ u0.heap.size) ((Kept.refl _ _).setCell (fun h => h rfl) _) (by have := HPU.out; omega) (by have := HP.out; have := HPU.out; omega))
  have HB7 := Lib.hid (show Below w1.heap.size w1 (x6.setCell ⟨u0.heap.size, 5, none⟩ (.int .u64 nf)) from ((HB6.out.trans (hk.to_below (B := w1.heap.size) (fun b h => ⟨Nat.lt_of_lt_of_le h HB6.out.size, by have := HP.out; omega⟩))).setCell (p := ⟨u0.heap.size, 5, none⟩) (by show w1.heap.size ≤ u0.heap.size; have := HP.out; have := HPU.out; omega) _))
  clear hT hrd hk
  go_upto_region 10 with fail
  clear hz hc
  generalize hv7 : x6.setCell ⟨u0.heap.size, 5, none⟩ (.int .u64 nf) = v7 at *
  clear hv7
  obtain ⟨c0, c1, c2, c3, c4, c5, c6⟩ : _ ∧ _ ∧ _ ∧ _ ∧ _ ∧ _ ∧ _ := ⟨HT7.out.cell 0, HT7.out.cell 1, HT7.out.cell 2, HT7.out.cell 3, HT7.out.cell 4, HT7.out.cell 5, HT7.out.cell 6⟩
  simp only [List.getElem?_toArray, List.getElem?_cons_zero, List.getElem?_cons_succ] at c0 c1 c2 c3 c4 c5 c6
  go_wp2_with fail
  clear c0 c1 c2 c3 c4 c5 c6
  refine (block_bad na nb ng nr nv nf nt _ HMAY.out).mono ?_
  rintro e w8 ⟨rfl, hb⟩
  have HTU := Lib.hid (show u0.heap.size < v7.heap.size from HT7.out.lt)
  have HW1 := Lib.hid (show w1.heap.size < u0.heap.size by have := HP.out; have := HPU.out; omega)
  have HT8 := Lib.hid (HT7.out.below hb HT7.out.lt)
  have HX7 := Lib.hid (show ArrB v7 w.heap.size xs from HX1.out.below HB7.out HX1.out.lt)
  have HR7 := Lib.hid (HR1.out.below HB7.out HR1.out.lt)
  have HX8 := Lib.hid (show ArrB w8 w.heap.size xs from Arr.below HX7.out hb HX7.out.lt)
  have HR8 := Lib.hid (HR7.out.below hb HR7.out.lt)
  have HB8 := Lib.hid (show Below w.heap.size w w8 from HBW.out.trans ((HB7.out.mono (by have := HZ1.out; omega)).trans (hb.mono (by have := HX7.out.lt; omega))))
  obtain ⟨w9, hw9⟩ : ∃ w9, w9 = w8.alloc (.cells (cells8 (noughts 64)) 26) := ⟨_, rfl⟩
  have HW9 := Lib.hid hw9
  have HT9 := Lib.hid (show Blk w9 u0.heap.size 95 (turC na nb ng nr nv nf nt) by rw [hw9]; exact HT8.out.alloc _)
  have HX9 := Lib.hid (show ArrB w9 w.heap.size xs by rw [hw9]; exact Blk.alloc HX8.out _)
  have HR9 := Lib.hid (show Blk w9 (w.heap.size + 1) 95 (turC 0 0 0 0 0 0 0) by rw [hw9]; exact HR8.out.alloc _)
  have HV9 := Lib.hid (show ArrB w9 w8.heap.size (noughts 64) by rw [hw9]; exact Blk.new w8 _ _)
  have HB9 := Lib.hid (show Below w.heap.size w w9 by rw [hw9]; exact HB8.out.alloc HB8.out.size _)
  clear hb hw9
  go_wp2_with (first
    | (refine wpList_alloc_blk rfl rfl ?_)
    | (refine wpList_store_new (.tmp 6) (.tmp 42) rfl rfl w8 (noughts 64) rfl rfl (noughts 64) rfl (noughts_length 64) (noughts_length 64) ?_; rw [← HW9.out])
    | (refine wpList_load_blk (.tmp 6) rfl rfl w8.heap.size 0 rfl (noughts 64) (noughts_length 64) HV9.out.range ?_)
    | (refine wpList_load_blk (.tmp 1) rfl rfl w.heap.size 0 rfl xs HL.out HX9.out.range ?_)
    | (refine wpList_store_rowB (.tmp 2) (.tmp 51) 95 rfl rfl (w.heap.size + 1) (turC 0 0 0 0 0 0 0) rfl rfl 95 _ HR9.out size_tur rfl (one_tur _ _ _ _ _ _ _) ?_)
    | (with_reducible refine halt_end ?_))
  exact Halt.ret (results_row2 (p := 2) (u := 3) rfl _ _ (w.heap.size + 1) 95 (turC 0 0 0 0 0 0 0) _ rfl (setRow_heap _ _ _ (turC 0 0 0 0 0 0 0) _ _ HR9.out) Try.underlying95 rfl size_tur) rfl ⟨rfl, below_setRow HB9.out (by omega) _⟩

set_option maxHeartbeats 2000000 in
set_option maxRecDepth 100000 in
theorem read_other (xs : List Int) (w : World) (hl : xs.length = 64) (hb : Bytes xs) (hr : MayS (numAt xs 16 2) (numAt xs 18 2) (numAt xs 20 8) (numAt xs 28 8)) (hne : (supL (numAt xs 16 2) (numAt xs 18 2) (numAt xs 20 8) (numAt xs 28 8) (numAt xs 36 8) (numAt xs 44 8) (numAt xs 8 8) == xs) = false) :
    Calls Try.prog 69 #[.agg (cells8 xs)] w fun e w' => e = .returned (.tuple #[.agg (turC 0 0 0 0 0 0 0), .int .i64 170]) ∧ Below w.heap.size w w' := by
  have hin := sup_inS hb
  have ht := num_in hb 8
  have hys : ((xs.drop 8).take 48).length = 48 := by simp [hl]
  have hyb := bytes_part hb 8 48
  have np := num_part xs
  have q0 := np 0 8 (by omega)
  have q1 := np 8 2 (by omega)
  have q2 := np 10 2 (by omega)
  have q3 := np 12 8 (by omega)
  have q4 := np 20 8 (by omega)
  have q5 := np 28 8 (by omega)
  have q6 := np 36 8 (by omega)
  simp only [Nat.reduceAdd] at q0 q1 q2 q3 q4 q5 q6
  generalize hnt : numAt xs 8 8 = nt at *
  generalize hna : numAt xs 16 2 = na at *
  generalize hnb : numAt xs 18 2 = nb at *
  generalize hng : numAt xs 20 8 = ng at *
  generalize hnr : numAt xs 28 8 = nr at *
  generalize hnv : numAt xs 36 8 = nv at *
  generalize hnf : numAt xs 44 8 = nf at *
  have hna2 := num_in2 hb 16
  have hnb2 := num_in2 hb 18
  rw [hna] at hna2
  rw [hnb] at hnb2
  have hwa : IntKind.i64.wrap na = na := IntWalk.i64_in _ ⟨by omega, by omega⟩
  have hwb : IntKind.i64.wrap nb = nb := IntWalk.i64_in _ ⟨by omega, by omega⟩
  have HQ0 := Lib.hid q0
  have HQ1 := Lib.hid q1
  have HQ2 := Lib.hid q2
  have HQ3 := Lib.hid q3
  have HQ4 := Lib.hid q4
  have HQ5 := Lib.hid q5
  have HQ6 := Lib.hid q6
  have HIN := Lib.hid hin
  have HTT := Lib.hid ht
  have HL := Lib.hid hl
  have HYL := Lib.hid hys
  have HYB := Lib.hid hyb
  have hsll := supL_length na nb ng nr nv nf nt
  generalize hsl : supL na nb ng nr nv nf nt = sl at *
  have HSLE := Lib.hid hsl
  have HSLL := Lib.hid hsll
  have HSAME := Lib.hid hne
  have HMAY := Lib.hid hr
  clear hr hne hsl hsll
  clear q0 q1 q2 q3 q4 q5 q6 np hin ht hys hyb hl hb hnt hna hnb hng hnr hnv hnf hna2 hnb2
  go_enter Try.func69, Try.ntmps69
  go_upto_region 1 with fail
  have HX1 := Lib.hid (show ArrB ((w.alloc (.cells (cells8 xs) 26)).alloc (.cells (turC 0 0 0 0 0 0 0) 95)) w.heap.size xs from (Blk.new w _ _).alloc _)
  have HR1 := Lib.hid (show Blk ((w.alloc (.cells (cells8 xs) 26)).alloc (.cells (turC 0 0 0 0 0 0 0) 95)) (w.heap.size + 1) 95 (turC 0 0 0 0 0 0 0) from blk_new2 w _ _ _)
  have HBW := Lib.hid (show Below w.heap.size w ((w.alloc (.cells (cells8 xs) 26)).alloc (.cells (turC 0 0 0 0 0 0 0) 95)) from ((Below.refl _ _).alloc (Nat.le_refl _) _).alloc (by simp) _)
  generalize hw1 : ((w.alloc (.cells (cells8 xs) 26)).alloc (.cells (turC 0 0 0 0 0 0 0) 95)) = w1 at *
  clear hw1
  go_wp2_with fail
  refine (read_any (some ⟨w.heap.size, 8, none⟩) 48 56 ((xs.drop 8).take 48) (· = w.heap.size) _ (HX1.out.part 8 48 (by rw [HL.out]; omega) rfl) (fun b h => by rw [h]; exact HX1.out.lt) (by omega)).mono ?_
  rintro e u0 ⟨p, rfl, hpl, hrd, hbu⟩
  have HZ1 := Lib.hid (show w.heap.size + 1 < w1.heap.size from HR1.out.lt)
  have HP := Lib.hid hpl
  have HPU := Lib.hid (show p < u0.heap.size from hrd.blk.lt)
  have HRD0 := Lib.hid (show Rd (u0.alloc (.cells (turC 0 0 0 0 0 0 0) 95)) p w1.heap.size ((xs.drop 8).take 48) 0 0 from ⟨hrd.1.alloc _, Blk.alloc hrd.2.1 _, hrd.2.2⟩)
  have HT0 := Lib.hid (show Blk (u0.alloc (.cells (turC 0 0 0 0 0 0 0) 95)) u0.heap.size 95 (turC 0 0 0 0 0 0 0) from Blk.new u0 _ _)
  have HB0 := Lib.hid (show Below w1.heap.size w1 (u0.alloc (.cells (turC 0 0 0 0 0 0 0) 95)) from hbu.alloc hbu.size _)
  have HZU := Lib.hid (show u0.heap.size < (u0.alloc (.cells (turC 0 0 0 0 0 0 0) 95)).heap.size by simp)
  clear hrd hbu hpl
  go_wp2_with fail
  generalize hv0 : u0.alloc (.cells (turC 0 0 0 0 0 0 0) 95) = v0 at *
  clear hv0
  refine (u64_ok v0 p w1.heap.size ((xs.drop 8).take 48) 0 HRD0.out (by rw [HYL.out]; omega) HYB.out).mono ?_
  rintro e x0 ⟨rfl, hrd, hk⟩
  rw [HQ0.out]
  have hT := HT0.out.kept hk ⟨by have := HZU.out; have := HT0.out.lt; omega, by have := HPU.out; omega⟩
  have hz := hT.frozen 6
  have hc := hT.cell 6
  simp only [List.getElem?_toArray, List.getElem?_cons_zero, List.getElem?_cons_succ] at hc
  have HT1 := Lib.hid (show Blk (x0.setCell ⟨u0.heap.size, 6, none⟩ (.int .u64 nt)) u0.heap.size 95 (turC 0 0 0 0 0 0 nt) from hT.set_ 6 _)
  have HRD1 := Lib.hid (show Rd (x0.setCell ⟨u0.heap.size, 6, none⟩ (.int .u64 nt)) p w1.heap.size ((xs.drop 8).take 48) 8 0 from hrd.kept (S := fun b => b ≠ u0.heap.size) ((Kept.refl _ _).setCell (fun h => h rfl) _) (by have := HPU.out; omega) (by have := HP.out; have := HPU.out; omega))
  have HB1 := Lib.hid (show Below w1.heap.size w1 (x0.setCell ⟨u0.heap.size, 6, none⟩ (.int .u64 nt)) from ((HB0.out.trans (hk.to_below (B := w1.heap.size) (fun b h => ⟨Nat.lt_of_lt_of_le h HB0.out.size, by have := HP.out; omega⟩))).setCell (p := ⟨u0.heap.size, 6, none⟩) (by show w1.heap.size ≤ u0.heap.size; have := HP.out; have := HPU.out; omega) _))
  clear hT hrd hk
  go_wp2_with fail
  clear hz hc
  generalize hv1 : x0.setCell ⟨u0.heap.size, 6, none⟩ (.int .u64 nt) = v1 at *
  clear hv1
  refine (u16_ok v1 p w1.heap.size ((xs.drop 8).take 48) 8 HRD1.out (by rw [HYL.out]; omega) HYB.out).mono ?_
  rintro e x1 ⟨rfl, hrd, hk⟩
  rw [HQ1.out]
  have hT := HT1.out.kept hk ⟨by have := HZU.out; have := HT1.out.lt; omega, by have := HPU.out; omega⟩
  have hz := hT.frozen 0
  have hc := hT.cell 0
  simp only [List.getElem?_toArray, List.getElem?_cons_zero, List.getElem?_cons_succ] at hc
  have HT2 := Lib.hid (show Blk (x1.setCell ⟨u0.heap.size, 0, none⟩ (.int .i64 na)) u0.heap.size 95 (turC na 0 0 0 0 0 nt) from hT.set_ 0 _)
  have HRD2 := Lib.hid (show Rd (x1.setCell ⟨u0.heap.size, 0, none⟩ (.int .i64 na)) p w1.heap.size ((xs.drop 8).take 48) 10 0 from hrd.kept (S := fun b => b ≠ u0.heap.size) ((Kept.refl _ _).setCell (fun h => h rfl) _) (by have := HPU.out; omega) (by have := HP.out; have := HPU.out; omega))
  have HB2 := Lib.hid (show Below w1.heap.size w1 (x1.setCell ⟨u0.heap.size, 0, none⟩ (.int .i64 na)) from ((HB1.out.trans (hk.to_below (B := w1.heap.size) (fun b h => ⟨Nat.lt_of_lt_of_le h HB1.out.size, by have := HP.out; omega⟩))).setCell (p := ⟨u0.heap.size, 0, none⟩) (by show w1.heap.size ≤ u0.heap.size; have := HP.out; have := HPU.out; omega) _))
  clear hT hrd hk
  go_wp2_with fail
  clear hz hc
  generalize hv2 : x1.setCell ⟨u0.heap.size, 0, none⟩ (.int .i64 na) = v2 at *
  clear hv2
  refine (u16_ok v2 p w1.heap.size ((xs.drop 8).take 48) 10 HRD2.out (by rw [HYL.out]; omega) HYB.out).mono ?_
  rintro e x2 ⟨rfl, hrd, hk⟩
  rw [HQ2.out]
  have hT := HT2.out.kept hk ⟨by have := HZU.out; have := HT2.out.lt; omega, by have := HPU.out; omega⟩
  have hz := hT.frozen 1
  have hc := hT.cell 1
  simp only [List.getElem?_toArray, List.getElem?_cons_zero, List.getElem?_cons_succ] at hc
  have HT3 := Lib.hid (show Blk (x2.setCell ⟨u0.heap.size, 1, none⟩ (.int .i64 nb)) u0.heap.size 95 (turC na nb 0 0 0 0 nt) from hT.set_ 1 _)
  have HRD3 := Lib.hid (show Rd (x2.setCell ⟨u0.heap.size, 1, none⟩ (.int .i64 nb)) p w1.heap.size ((xs.drop 8).take 48) 12 0 from hrd.kept (S := fun b => b ≠ u0.heap.size) ((Kept.refl _ _).setCell (fun h => h rfl) _) (by have := HPU.out; omega) (by have := HP.out; have := HPU.out; omega))
  have HB3 := Lib.hid (show Below w1.heap.size w1 (x2.setCell ⟨u0.heap.size, 1, none⟩ (.int .i64 nb)) from ((HB2.out.trans (hk.to_below (B := w1.heap.size) (fun b h => ⟨Nat.lt_of_lt_of_le h HB2.out.size, by have := HP.out; omega⟩))).setCell (p := ⟨u0.heap.size, 1, none⟩) (by show w1.heap.size ≤ u0.heap.size; have := HP.out; have := HPU.out; omega) _))
  clear hT hrd hk
  go_wp2_with fail
  clear hz hc
  generalize hv3 : x2.setCell ⟨u0.heap.size, 1, none⟩ (.int .i64 nb) = v3 at *
  clear hv3
  refine (u64_ok v3 p w1.heap.size ((xs.drop 8).take 48) 12 HRD3.out (by rw [HYL.out]; omega) HYB.out).mono ?_
  rintro e x3 ⟨rfl, hrd, hk⟩
  rw [HQ3.out]
  have hT := HT3.out.kept hk ⟨by have := HZU.out; have := HT3.out.lt; omega, by have := HPU.out; omega⟩
  have hz := hT.frozen 2
  have hc := hT.cell 2
  simp only [List.getElem?_toArray, List.getElem?_cons_zero, List.getElem?_cons_succ] at hc
  have HT4 := Lib.hid (show Blk (x3.setCell ⟨u0.heap.size, 2, none⟩ (.int .u64 ng)) u0.heap.size 95 (turC na nb ng 0 0 0 nt) from hT.set_ 2 _)
  have HRD4 := Lib.hid (show Rd (x3.setCell ⟨u0.heap.size, 2, none⟩ (.int .u64 ng)) p w1.heap.size ((xs.drop 8).take 48) 20 0 from hrd.kept (S := fun b => b ≠ u0.heap.size) ((Kept.refl _ _).setCell (fun h => h rfl) _) (by have := HPU.out; omega) (by have := HP.out; have := HPU.out; omega))
  have HB4 := Lib.hid (show Below w1.heap.size w1 (x3.setCell ⟨u0.heap.size, 2, none⟩ (.int .u64 ng)) from ((HB3.out.trans (hk.to_below (B := w1.heap.size) (fun b h => ⟨Nat.lt_of_lt_of_le h HB3.out.size, by have := HP.out; omega⟩))).setCell (p := ⟨u0.heap.size, 2, none⟩) (by show w1.heap.size ≤ u0.heap.size; have := HP.out; have := HPU.out; omega) _))
  clear hT hrd hk
  go_wp2_with fail
  clear hz hc
  generalize hv4 : x3.setCell ⟨u0.heap.size, 2, none⟩ (.int .u64 ng) = v4 at *
  clear hv4
  refine (u64_ok v4 p w1.heap.size ((xs.drop 8).take 48) 20 HRD4.out (by rw [HYL.out]; omega) HYB.out).mono ?_
  rintro e x4 ⟨rfl, hrd, hk⟩
  rw [HQ4.out]
  have hT := HT4.out.kept hk ⟨by have := HZU.out; have := HT4.out.lt; omega, by have := HPU.out; omega⟩
  have hz := hT.frozen 3
  have hc := hT.cell 3
  simp only [List.getElem?_toArray, List.getElem?_cons_zero, List.getElem?_cons_succ] at hc
  have HT5 := Lib.hid (show Blk (x4.setCell ⟨u0.heap.size, 3, none⟩ (.int .u64 nr)) u0.heap.size 95 (turC na nb ng nr 0 0 nt) from hT.set_ 3 _)
  have HRD5 := Lib.hid (show Rd (x4.setCell ⟨u0.heap.size, 3, none⟩ (.int .u64 nr)) p w1.heap.size ((xs.drop 8).take 48) 28 0 from hrd.kept (S := fun b => b ≠ u0.heap.size) ((Kept.refl _ _).setCell (fun h => h rfl) _) (by have := HPU.out; omega) (by have := HP.out; have := HPU.out; omega))
  have HB5 := Lib.hid (show Below w1.heap.size w1 (x4.setCell ⟨u0.heap.size, 3, none⟩ (.int .u64 nr)) from ((HB4.out.trans (hk.to_below (B := w1.heap.size) (fun b h => ⟨Nat.lt_of_lt_of_le h HB4.out.size, by have := HP.out; omega⟩))).setCell (p := ⟨u0.heap.size, 3, none⟩) (by show w1.heap.size ≤ u0.heap.size; have := HP.out; have := HPU.out; omega) _))
  clear hT hrd hk
  go_wp2_with fail
  clear hz hc
  generalize hv5 : x4.setCell ⟨u0.heap.size, 3, none⟩ (.int .u64 nr) = v5 at *
  clear hv5
  refine (u64_ok v5 p w1.heap.size ((xs.drop 8).take 48) 28 HRD5.out (by rw [HYL.out]; omega) HYB.out).mono ?_
  rintro e x5 ⟨rfl, hrd, hk⟩
  rw [HQ5.out]
  have hT := HT5.out.kept hk ⟨by have := HZU.out; have := HT5.out.lt; omega, by have := HPU.out; omega⟩
  have hz := hT.frozen 4
  have hc := hT.cell 4
  simp only [List.getElem?_toArray, List.getElem?_cons_zero, List.getElem?_cons_succ] at hc
  have HT6 := Lib.hid (show Blk (x5.setCell ⟨u0.heap.size, 4, none⟩ (.int .u64 nv)) u0.heap.size 95 (turC na nb ng nr nv 0 nt) from hT.set_ 4 _)
  have HRD6 := Lib.hid (show Rd (x5.setCell ⟨u0.heap.size, 4, none⟩ (.int .u64 nv)) p w1.heap.size ((xs.drop 8).take 48) 36 0 from hrd.kept (S := fun b => b ≠ u0.heap.size) ((Kept.refl _ _).setCell (fun h => h rfl) _) (by have := HPU.out; omega) (by have := HP.out; have := HPU.out; omega))
  have HB6 := Lib.hid (show Below w1.heap.size w1 (x5.setCell ⟨u0.heap.size, 4, none⟩ (.int .u64 nv)) from ((HB5.out.trans (hk.to_below (B := w1.heap.size) (fun b h => ⟨Nat.lt_of_lt_of_le h HB5.out.size, by have := HP.out; omega⟩))).setCell (p := ⟨u0.heap.size, 4, none⟩) (by show w1.heap.size ≤ u0.heap.size; have := HP.out; have := HPU.out; omega) _))
  clear hT hrd hk
  go_wp2_with fail
  clear hz hc
  generalize hv6 : x5.setCell ⟨u0.heap.size, 4, none⟩ (.int .u64 nv) = v6 at *
  clear hv6
  refine (u64_ok v6 p w1.heap.size ((xs.drop 8).take 48) 36 HRD6.out (by rw [HYL.out]; omega) HYB.out).mono ?_
  rintro e x6 ⟨rfl, hrd, hk⟩
  rw [HQ6.out]
  have hT := HT6.out.kept hk ⟨by have := HZU.out; have := HT6.out.lt; omega, by have := HPU.out; omega⟩
  have hz := hT.frozen 5
  have hc := hT.cell 5
  simp only [List.getElem?_toArray, List.getElem?_cons_zero, List.getElem?_cons_succ] at hc
  have HT7 := Lib.hid (show Blk (x6.setCell ⟨u0.heap.size, 5, none⟩ (.int .u64 nf)) u0.heap.size 95 (turC na nb ng nr nv nf nt) from hT.set_ 5 _)
  have HRD7 := Lib.hid (show Rd (x6.setCell ⟨u0.heap.size, 5, none⟩ (.int .u64 nf)) p w1.heap.size ((xs.drop 8).take 48) 44 0 from hrd.kept (S := fun b => b ≠ u0.heap.size) ((Kept.refl _ _).setCell (fun h => h rfl) _) (by have := HPU.out; omega) (by have := HP.out; have := HPU.out; omega))
  have HB7 := Lib.hid (show Below w1.heap.size w1 (x6.setCell ⟨u0.heap.size, 5, none⟩ (.int .u64 nf)) from ((HB6.out.trans (hk.to_below (B := w1.heap.size) (fun b h => ⟨Nat.lt_of_lt_of_le h HB6.out.size, by have := HP.out; omega⟩))).setCell (p := ⟨u0.heap.size, 5, none⟩) (by show w1.heap.size ≤ u0.heap.size; have := HP.out; have := HPU.out; omega) _))
  clear hT hrd hk
  go_upto_region 10 with fail
  clear hz hc
  generalize hv7 : x6.setCell ⟨u0.heap.size, 5, none⟩ (.int .u64 nf) = v7 at *
  clear hv7
  obtain ⟨c0, c1, c2, c3, c4, c5, c6⟩ : _ ∧ _ ∧ _ ∧ _ ∧ _ ∧ _ ∧ _ := ⟨HT7.out.cell 0, HT7.out.cell 1, HT7.out.cell 2, HT7.out.cell 3, HT7.out.cell 4, HT7.out.cell 5, HT7.out.cell 6⟩
  simp only [List.getElem?_toArray, List.getElem?_cons_zero, List.getElem?_cons_succ] at c0 c1 c2 c3 c4 c5 c6
  go_wp2_with fail
  clear c0 c1 c2 c3 c4 c5 c6
  refine (block_ok na nb ng nr nv nf nt _ HMAY.out HIN.out HTT.out).mono ?_
  rintro e w8 ⟨rfl, hb⟩
  rw [HSLE.out]
  have HTU := Lib.hid (show u0.heap.size < v7.heap.size from HT7.out.lt)
  have HW1 := Lib.hid (show w1.heap.size < u0.heap.size by have := HP.out; have := HPU.out; omega)
  have HT8 := Lib.hid (HT7.out.below hb HT7.out.lt)
  have HX7 := Lib.hid (show ArrB v7 w.heap.size xs from HX1.out.below HB7.out HX1.out.lt)
  have HR7 := Lib.hid (HR1.out.below HB7.out HR1.out.lt)
  have HX8 := Lib.hid (show ArrB w8 w.heap.size xs from Arr.below HX7.out hb HX7.out.lt)
  have HR8 := Lib.hid (HR7.out.below hb HR7.out.lt)
  have HB8 := Lib.hid (show Below w.heap.size w w8 from HBW.out.trans ((HB7.out.mono (by have := HZ1.out; omega)).trans (hb.mono (by have := HX7.out.lt; omega))))
  obtain ⟨w9, hw9⟩ : ∃ w9, w9 = w8.alloc (.cells (cells8 sl) 26) := ⟨_, rfl⟩
  have HW9 := Lib.hid hw9
  have HT9 := Lib.hid (show Blk w9 u0.heap.size 95 (turC na nb ng nr nv nf nt) by rw [hw9]; exact HT8.out.alloc _)
  have HX9 := Lib.hid (show ArrB w9 w.heap.size xs by rw [hw9]; exact Blk.alloc HX8.out _)
  have HR9 := Lib.hid (show Blk w9 (w.heap.size + 1) 95 (turC 0 0 0 0 0 0 0) by rw [hw9]; exact HR8.out.alloc _)
  have HV9 := Lib.hid (show ArrB w9 w8.heap.size sl by rw [hw9]; exact Blk.new w8 _ _)
  have HB9 := Lib.hid (show Below w.heap.size w w9 by rw [hw9]; exact HB8.out.alloc HB8.out.size _)
  clear hb hw9
  go_wp2_with (first
    | (refine wpList_alloc_blk rfl rfl ?_)
    | (refine wpList_store_new (.tmp 6) (.tmp 42) rfl rfl w8 sl rfl rfl (noughts 64) rfl (noughts_length 64) HSLL.out ?_; rw [← HW9.out])
    | (refine wpList_load_blk (.tmp 6) rfl rfl w8.heap.size 0 rfl sl HSLL.out HV9.out.range ?_)
    | (refine wpList_load_blk (.tmp 1) rfl rfl w.heap.size 0 rfl xs HL.out HX9.out.range ?_)
    | (refine wpList_neq_blk (.tmp 47) (.tmp 48) _ rfl rfl sl xs rfl rfl HSLL.out HL.out ?_; rw [HSAME.out])
    | (refine wpList_store_rowB (.tmp 2) (.tmp 51) 95 rfl rfl (w.heap.size + 1) (turC 0 0 0 0 0 0 0) rfl rfl 95 _ HR9.out size_tur rfl (one_tur _ _ _ _ _ _ _) ?_)
    | (with_reducible refine halt_end ?_))
  exact Halt.ret (results_row2 (p := 2) (u := 3) rfl _ _ (w.heap.size + 1) 95 (turC 0 0 0 0 0 0 0) _ rfl (setRow_heap _ _ _ (turC 0 0 0 0 0 0 0) _ _ HR9.out) Try.underlying95 rfl size_tur) rfl ⟨rfl, below_setRow HB9.out (by omega) _⟩

/-- What read tells, in whatever case. -/
theorem read_any_s (xs : List Int) (w : World) (hl : xs.length = 64) (hb : Bytes xs) (hr : rightS xs = false) :
    Calls Try.prog 69 #[.agg (cells8 xs)] w fun e w' => e = .returned (.tuple #[.agg (turC 0 0 0 0 0 0 0), .int .i64 170]) ∧ Below w.heap.size w w' := by
  by_cases hm : MayS (numAt xs 16 2) (numAt xs 18 2) (numAt xs 20 8) (numAt xs 28 8)
  · refine read_other xs w hl hb hm ?_
    unfold rightS at hr
    rw [decide_eq_true hm, Bool.true_and] at hr
    exact hr
  · exact read_no xs w hl hb hm

end Go.Proofs.Ytkmbbfdjdmkjpaa
