/- Package record: a head's bytes. -/
import Derived.Test.YtehldhdpeefljaaHead
import Derived.Test.YtehldhdpeefljaaPut2
namespace Go.Proofs.Ytehldhdpeefljaa
open Go.RowKit
set_option linter.unusedVariables false

/-- The numbers of a head are of their kinds. -/
structure Rng (f x s : Int) : Prop where
  f0 : 0 ≤ f
  f1 : f ≤ 4294967295
  x0 : 0 ≤ x
  x1 : x ≤ 4294967295
  s0 : 0 ≤ s
  s1 : s ≤ 18446744073709551615

def headB (k f x s n m : Int) : List Int := [k] ++ beBytes f 4 ++ beBytes x 4 ++ beBytes s 8 ++ beBytes n 2 ++ beBytes m 2
theorem headB_length (k f x s n m : Int) : (headB k f x s n m).length = 21 := by simp [headB, beBytes_length]

set_option maxHeartbeats 1000000 in
theorem head_bytes (k f x s : Int) (n m : Nat) (w : World) (hk : k = 1 ∨ k = 2) (hr : Rng f x s) (hn : n ≤ 250) (hm : m ≤ 512) :
    Calls Try.prog 31 #[.agg #[.int .i64 k, .int .u32 f, .int .u32 x, .int .u64 s, .int .i64 n, .int .i64 m]] w fun e w' => ∃ g, e = .returned (.slice (some ⟨g, 0, none⟩) 21 21) ∧ w.heap.size ≤ g ∧ ArrU w' g (headB k f x s n m) ∧ Below w.heap.size w w' := by
  have HR := Lib.hid hr
  have hk0 : 0 ≤ k ∧ k ≤ 255 := by omega
  clear hr hk
  go_enter Try.func31, Try.ntmps31
  go_wp2_with fail
  generalize hw1 : (w.alloc _).alloc _ = w1
  have HG1 := Lib.hid (show Blk w1 w.heap.size 51 (headC k f x s n m) by rw [← hw1]; exact (Blk.new w _ _).alloc _)
  have HA1 := Lib.hid (show ArrU w1 (w.heap.size + 1) [k] by rw [← hw1]; exact blk_new2 w _ 5 #[.int .u8 k])
  have HB1 := Lib.hid (show Below w.heap.size w w1 by rw [← hw1]; exact ((Below.refl _ _).alloc (Nat.le_refl _) _).alloc (by simp) _)
  have HS1 := Lib.hid (show w1.heap.size = w.heap.size + 2 by rw [← hw1]; simp)
  clear hw1
  refine (put32_any (some ⟨w.heap.size + 1, 0, none⟩) 1 1 ([k]) (· = w.heap.size + 1) f w1 (HA1.out.rowN 0 (by simp [beBytes_length]) rfl) (fun b h => by subst h; exact HA1.out.lt) (by omega) HR.out.f0 HR.out.f1).mono ?_
  rintro e w2 ⟨rfl, ha, hb⟩
  have HA2 := Lib.hid ha
  have HG2 := Lib.hid (HG1.out.below hb HG1.out.lt)
  have HB2 := Lib.hid (HB1.out.trans (hb.mono HB1.out.size))
  have hcell := HG2.out.cell 2
  simp only [List.getElem?_toArray, List.getElem?_cons_zero, List.getElem?_cons_succ] at hcell
  clear ha hb
  go_wp2_with fail
  clear hcell
  refine (put32_any (some ⟨w1.heap.size, 0, none⟩) 5 5 ([k] ++ beBytes f 4) (· = w1.heap.size) x w2 (HA2.out.rowN 0 (by simp [beBytes_length]) rfl) (fun b h => by subst h; exact HA2.out.lt) (by omega) HR.out.x0 HR.out.x1).mono ?_
  rintro e w3 ⟨rfl, ha, hb⟩
  have HA3 := Lib.hid ha
  have HG3 := Lib.hid (HG2.out.below hb HG2.out.lt)
  have HB3 := Lib.hid (HB2.out.trans (hb.mono HB2.out.size))
  have hcell := HG3.out.cell 3
  simp only [List.getElem?_toArray, List.getElem?_cons_zero, List.getElem?_cons_succ] at hcell
  clear ha hb
  go_wp2_with fail
  clear hcell
  refine (put64_any (some ⟨w2.heap.size, 0, none⟩) 9 9 ([k] ++ beBytes f 4 ++ beBytes x 4) (· = w2.heap.size) s w3 (HA3.out.rowN 0 (by simp [beBytes_length]) rfl) (fun b h => by subst h; exact HA3.out.lt) (by omega) HR.out.s0 HR.out.s1).mono ?_
  rintro e w4 ⟨rfl, ha, hb⟩
  have HA4 := Lib.hid ha
  have HG4 := Lib.hid (HG3.out.below hb HG3.out.lt)
  have HB4 := Lib.hid (HB3.out.trans (hb.mono HB3.out.size))
  have hcell := HG4.out.cell 4
  simp only [List.getElem?_toArray, List.getElem?_cons_zero, List.getElem?_cons_succ] at hcell
  clear ha hb
  go_wp2_with fail
  clear hcell
  refine (put16_any (some ⟨w3.heap.size, 0, none⟩) 17 17 ([k] ++ beBytes f 4 ++ beBytes x 4 ++ beBytes s 8) (· = w3.heap.size) n w4 (HA4.out.rowN 0 (by simp [beBytes_length]) rfl) (fun b h => by subst h; exact HA4.out.lt) (by omega) (by omega) (by omega)).mono ?_
  rintro e w5 ⟨rfl, ha, hb⟩
  have HA5 := Lib.hid ha
  have HG5 := Lib.hid (HG4.out.below hb HG4.out.lt)
  have HB5 := Lib.hid (HB4.out.trans (hb.mono HB4.out.size))
  have hcell := HG5.out.cell 5
  simp only [List.getElem?_toArray, List.getElem?_cons_zero, List.getElem?_cons_succ] at hcell
  clear ha hb
  go_wp2_with fail
  clear hcell
  refine (put16_any (some ⟨w4.heap.size, 0, none⟩) 19 19 ([k] ++ beBytes f 4 ++ beBytes x 4 ++ beBytes s 8 ++ beBytes n 2) (· = w4.heap.size) m w5 (HA5.out.rowN 0 (by simp [beBytes_length]) rfl) (fun b h => by subst h; exact HA5.out.lt) (by omega) (by omega) (by omega)).mono ?_
  rintro e w6 ⟨rfl, ha, hb⟩
  have HA6 := Lib.hid ha
  have HG6 := Lib.hid (HG5.out.below hb HG5.out.lt)
  have HB6 := Lib.hid (HB5.out.trans (hb.mono HB5.out.size))
  clear ha hb
  go_wp2_with fail
  go_ret
  exact ⟨w5.heap.size, rfl, HB5.out.size, HA6.out, HB6.out⟩

end Go.Proofs.Ytehldhdpeefljaa
