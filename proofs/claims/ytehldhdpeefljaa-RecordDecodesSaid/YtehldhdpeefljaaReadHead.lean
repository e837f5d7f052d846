/- Package record: readHead. -/
import Derived.Test.YtehldhdpeefljaaHead
import Derived.Test.YtehldhdpeefljaaPut2
import Derived.Test.YtehldhdpeefljaaCalm
namespace Go.Proofs.Ytehldhdpeefljaa
open Go.RowKit
set_option linter.unusedVariables false

theorem u8_ok (w : World) (r g : Nat) (xs : List Int) (pos : Nat) (h : Rd w r g xs pos 0) (hn : 1 ≤ xs.length - pos) (hb : Bytes xs) :
    Calls Try.prog 43 #[.pointer (some ⟨r, 0, none⟩)] w fun e w' =>
      e = .returned (.int .u8 (numOf ((xs.drop pos).take 1))) ∧ Rd w' r g xs (pos + 1) 0 ∧ Kept (fun b => b < w.heap.size ∧ b ≠ r) w w' := by
  have H := Lib.hid h
  have HB := Lib.hid hb
  have hl : ((xs.drop pos).take 1).length = 1 := by simp; omega
  have hbt : Bytes ((xs.drop pos).take 1) := by
    have : Bytes (xs.drop pos) := fun j => by have := hb (pos + j); simpa [List.getD, List.getElem?_drop] using this
    exact this.take 1
  have hv := numOf_bounds _ hbt
  rw [hl] at hv
  have hv1 : numOf ((xs.drop pos).take 1) < 256 := hv.2
  have hv0 := hv.1
  clear h hb hbt hv hl
  go_enter Try.func43, Try.ntmps43
  go_wp2_with (go_at_call 49; refine (number_ok _ r g xs pos 1 H.out hn (by omega) HB.out).mono ?_; rintro e w1 ⟨rfl, hrd, hk⟩; have HD := Lib.hid hrd; have HK := Lib.hid hk; clear hrd hk)
  go_ret
  exact ⟨ret_int (by omega), HD.out, HK.out⟩

theorem part_bounds {xs : List Int} (hb : Bytes xs) (i n : Nat) : 0 ≤ numOf ((xs.drop i).take n) ∧ numOf ((xs.drop i).take n) < ((256 ^ n : Nat) : Int) := by
  have hd : Bytes ((xs.drop i).take n) := by
    have : Bytes (xs.drop i) := fun j => by have := hb (i + j); simpa [List.getD, List.getElem?_drop] using this
    exact this.take n
  have h := numOf_bounds _ hd
  have h2 : ((xs.drop i).take n).length ≤ n := by simp; omega
  have h3 : (256 ^ ((xs.drop i).take n).length : Nat) ≤ 256 ^ n := Nat.pow_le_pow_right (by omega) h2
  exact ⟨h.1, by omega⟩

/-! What a head's bytes say. -/
def kindOf (xs : List Int) : Int := numOf (xs.take 1)
def flagsOf (xs : List Int) : Int := numOf ((xs.drop 1).take 4)
def expOf (xs : List Int) : Int := numOf ((xs.drop 5).take 4)
def seqOf (xs : List Int) : Int := numOf ((xs.drop 9).take 8)
def klenOf (xs : List Int) : Nat := (numOf ((xs.drop 17).take 2)).toNat
def vlenOf (xs : List Int) : Nat := (numOf ((xs.drop 19).take 2)).toNat
theorem klen_eq {xs : List Int} (hb : Bytes xs) : numOf ((xs.drop 17).take 2) = (klenOf xs : Int) := by have := (part_bounds hb 17 2).1; unfold klenOf; omega
theorem vlen_eq {xs : List Int} (hb : Bytes xs) : numOf ((xs.drop 19).take 2) = (vlenOf xs : Int) := by have := (part_bounds hb 19 2).1; unfold vlenOf; omega
theorem klen_lt {xs : List Int} (hb : Bytes xs) : klenOf xs < 65536 := by have := (part_bounds hb 17 2).2; unfold klenOf; omega
theorem vlen_lt {xs : List Int} (hb : Bytes xs) : vlenOf xs < 65536 := by have := (part_bounds hb 19 2).2; unfold vlenOf; omega

/-- How far readHead has come: pos bytes read, and cs laid in its head. -/
structure Heading (w wi : World) (r g : Nat) (xs : List Int) (pos : Nat) (cs : Array Value) : Prop where
  rd : Rd wi r g xs pos 0
  lo : r < w.heap.size
  lo' : g < w.heap.size
  res : Blk wi w.heap.size 51 #[.int .i64 0, .int .u32 0, .int .u32 0, .int .u64 0, .int .i64 0, .int .i64 0]
  st : Blk wi (w.heap.size + 1) 51 cs
  kept : Kept (fun b => b < w.heap.size ∧ b ≠ r) w wi
theorem Heading.read {w wi w' : World} {r g : Nat} {xs : List Int} {pos pos' : Nat} {cs : Array Value} (h : Heading w wi r g xs pos cs) (hr : Rd w' r g xs pos' 0) (hk : Kept (fun b => b < wi.heap.size ∧ b ≠ r) wi w') : Heading w w' r g xs pos' cs :=
  ⟨hr, h.lo, h.lo', h.res.kept hk ⟨h.res.lt, by have := h.lo; omega⟩, h.st.kept hk ⟨h.st.lt, by have := h.lo; omega⟩, h.kept.trans hk fun b hb => ⟨Nat.lt_of_lt_of_le hb.1 h.kept.size, hb.2⟩⟩
theorem Rd.far {w : World} {r g : Nat} {xs : List Int} {pos : Nat} {err : Int} (h : Rd w r g xs pos err) {p : Addr} (h1 : p.block ≠ r) (h2 : p.block ≠ g) (u : Value) : Rd (w.setCell p u) r g xs pos err :=
  ⟨h.1.far (fun e => h1 e.symm) u, Blk.far h.2.1 (fun e => h2 e.symm) u, h.2.2⟩
theorem Heading.set {w wi : World} {r g : Nat} {xs : List Int} {pos : Nat} {cs cs' : Array Value} (h : Heading w wi r g xs pos cs) (i : Nat) (u : Value) (hu : cs.setIfInBounds i u = cs') :
    Heading w (wi.setCell ⟨w.heap.size + 1, i, none⟩ u) r g xs pos cs' :=
  ⟨h.rd.far (by have := h.lo; show w.heap.size + 1 ≠ r; omega) (by have := h.lo'; show w.heap.size + 1 ≠ g; omega) u, h.lo, h.lo', h.res.far (by show w.heap.size ≠ w.heap.size + 1; omega) u, hu ▸ h.st.set_ i u, h.kept.setCell (by show ¬ (w.heap.size + 1 < w.heap.size ∧ w.heap.size + 1 ≠ r); omega) u⟩

/-- What readHead leaves. -/
def HeadTold (xs : List Int) (r g : Nat) (w : World) (e : Ending) (w' : World) : Prop :=
  e = .returned (.agg #[.int .i64 (kindOf xs), .int .u32 (flagsOf xs), .int .u32 (expOf xs), .int .u64 (seqOf xs), .int .i64 (klenOf xs), .int .i64 (vlenOf xs)]) ∧
    Rd w' r g xs 21 0 ∧ Kept (fun b => b < w.heap.size ∧ b ≠ r) w w'

set_option maxHeartbeats 2000000 in
theorem readHead_ok (xs : List Int) (w : World) (r g : Nat) (h : Rd w r g xs 0 0) (hl : 21 ≤ xs.length) (hb : Bytes xs) (hr : r < w.heap.size) (hg : g < w.heap.size) :
    Calls Try.prog 36 #[.pointer (some ⟨r, 0, none⟩)] w (HeadTold xs r g w) := by
  have HBY := Lib.hid hb
  have HRD := Lib.hid h
  have hk8 := part_bounds hb 0 1
  rw [List.drop_zero] at hk8
  have hk0 : 0 ≤ kindOf xs := hk8.1
  have hk1 : kindOf xs < 256 := hk8.2
  have hkl := klen_lt hb
  have hvl := vlen_lt hb
  clear hb h hk8
  go_enter Try.func36, Try.ntmps36
  go_wp2_with fail
  generalize hw1 : (w.alloc _).alloc _ = w1
  have HY0 := Lib.hid (show Heading w w1 r g xs 0 #[.int .i64 0, .int .u32 0, .int .u32 0, .int .u64 0, .int .i64 0, .int .i64 0] by
    rw [← hw1]
    have hk : Kept (fun b => b < w.heap.size) w ((w.alloc (.cells #[.int .i64 0, .int .u32 0, .int .u32 0, .int .u64 0, .int .i64 0, .int .i64 0] 51)).alloc (.cells #[.int .i64 0, .int .u32 0, .int .u32 0, .int .u64 0, .int .i64 0, .int .i64 0] 51)) :=
      ((Kept.refl _ w).alloc (fun b h => h) _).alloc (fun b h => by simp; omega) _
    exact ⟨HRD.out.kept hk hr hg, hr, hg, (Blk.new w _ _).alloc _, blk_new2 w _ _ _, hk.mono fun b h => h.1⟩)
  clear hw1
  refine (u8_ok _ r g xs 0 HY0.out.rd (by omega) HBY.out).mono ?_
  rintro e w2 ⟨rfl, hrd, hk⟩
  rw [List.drop_zero, show numOf (xs.take 1) = kindOf xs from rfl]
  have HY1 := Lib.hid ((HY0.out.read hrd hk).set 0 (.int .i64 (kindOf xs)) rfl)
  have hc := (HY0.out.read hrd hk).st.cell 0
  have hf := (HY0.out.read hrd hk).st.frozen 0
  clear hrd hk
  go_wp2_with fail
  clear hc hf
  refine (u32_ok _ r g xs 1 HY1.out.rd (by omega) HBY.out).mono ?_
  rintro e w3 ⟨rfl, hrd, hk⟩
  rw [show numOf ((xs.drop 1).take 4) = flagsOf xs from rfl]
  have HY2 := Lib.hid ((HY1.out.read hrd hk).set 1 (.int .u32 (flagsOf xs)) rfl)
  have hc := (HY1.out.read hrd hk).st.cell 1
  have hf := (HY1.out.read hrd hk).st.frozen 1
  clear hrd hk
  go_wp2_with fail
  clear hc hf
  refine (u32_ok _ r g xs 5 HY2.out.rd (by omega) HBY.out).mono ?_
  rintro e w4 ⟨rfl, hrd, hk⟩
  rw [show numOf ((xs.drop 5).take 4) = expOf xs from rfl]
  have HY3 := Lib.hid ((HY2.out.read hrd hk).set 2 (.int .u32 (expOf xs)) rfl)
  have hc := (HY2.out.read hrd hk).st.cell 2
  have hf := (HY2.out.read hrd hk).st.frozen 2
  clear hrd hk
  go_wp2_with fail
  clear hc hf
  refine (u64_ok _ r g xs 9 HY3.out.rd (by omega) HBY.out).mono ?_
  rintro e w5 ⟨rfl, hrd, hk⟩
  rw [show numOf ((xs.drop 9).take 8) = seqOf xs from rfl]
  have HY4 := Lib.hid ((HY3.out.read hrd hk).set 3 (.int .u64 (seqOf xs)) rfl)
  have hc := (HY3.out.read hrd hk).st.cell 3
  have hf := (HY3.out.read hrd hk).st.frozen 3
  clear hrd hk
  go_wp2_with fail
  clear hc hf
  refine (u16_ok _ r g xs 17 HY4.out.rd (by omega) HBY.out).mono ?_
  rintro e w6 ⟨rfl, hrd, hk⟩
  rw [klen_eq HBY.out]
  have HY5 := Lib.hid ((HY4.out.read hrd hk).set 4 (.int .i64 (klenOf xs)) rfl)
  have hc := (HY4.out.read hrd hk).st.cell 4
  have hf := (HY4.out.read hrd hk).st.frozen 4
  clear hrd hk
  go_wp2_with fail
  clear hc hf
  refine (u16_ok _ r g xs 19 HY5.out.rd (by omega) HBY.out).mono ?_
  rintro e w7 ⟨rfl, hrd, hk⟩
  rw [vlen_eq HBY.out]
  have HY6 := Lib.hid ((HY5.out.read hrd hk).set 5 (.int .i64 (vlenOf xs)) rfl)
  have hc := (HY5.out.read hrd hk).st.cell 5
  have hf := (HY5.out.read hrd hk).st.frozen 5
  clear hrd hk
  go_wp2_with (first
    | (refine wpList_load_rowB (.tmp 3) 51 rfl rfl (w.heap.size + 1) rfl 51 [.int .i64 (kindOf xs), .int .u32 (flagsOf xs), .int .u32 (expOf xs), .int .u64 (seqOf xs), .int .i64 (klenOf xs), .int .i64 (vlenOf xs)] _ Try.underlying51 rfl size_head HY6.out.st ?_)
    | (refine wpList_store_rowB (.tmp 2) (.tmp 25) 51 rfl rfl w.heap.size #[.int .i64 (kindOf xs), .int .u32 (flagsOf xs), .int .u32 (expOf xs), .int .u64 (seqOf xs), .int .i64 (klenOf xs), .int .i64 (vlenOf xs)] rfl rfl 51 _ HY6.out.res size_head rfl (one_head _ _ _ _ _ _) ?_)
    | (with_reducible refine halt_end ?_))
  have hst := setRow_heap _ _ _ (headC (kindOf xs) (flagsOf xs) (expOf xs) (seqOf xs) (klenOf xs) (vlenOf xs)) _ _ HY6.out.res
  refine Halt.ret (results_row1 rfl _ _ w.heap.size 51 (headC (kindOf xs) (flagsOf xs) (expOf xs) (seqOf xs) (klenOf xs) (vlenOf xs)) _ rfl hst Try.underlying51 rfl size_head) rfl ⟨rfl, ?_, ?_⟩
  · exact HY6.out.rd.kept ((Kept.refl (fun b => b < w.heap.size) _).setRow (by show ¬ w.heap.size < w.heap.size; omega) _) HY6.out.lo HY6.out.lo'
  · exact HY6.out.kept.setRow (by show ¬ (w.heap.size < w.heap.size ∧ w.heap.size ≠ r); omega) _

end Go.Proofs.Ytehldhdpeefljaa
