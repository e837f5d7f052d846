/- The document's Next. -/
import Derived.Test.YtkmbbfdjdmkjpaaRefG
namespace Go.Proofs.Ytkmbbfdjdmkjpaa
open Go.RowKit
set_option linter.unusedVariables false
set_option linter.unusedSimpArgs false

set_option maxRecDepth 100000 in
set_option maxHeartbeats 2000000 in
theorem ref_next {w : World} {A : Option Addr} {n cap : Nat} {xs : List Seg} (h : RowZ w (· < w.heap.size) A n xs) (sec : Int) (hn : n ≤ 40) :
    Calls Try.prog 48 #[ringV sec A n cap] w fun e w' => e = .returned (.int .i64 (nxtR xs)) ∧ Below w.heap.size w w' := by
  have HX := Lib.hid h
  have HL := Lib.hid (ref_latest (w := w.alloc (.cells #[.int .i64 sec, .slice A n cap] 66)) (cap := cap) ((h.below ((Below.refl w.heap.size w).alloc (Nat.le_refl _) (.cells #[.int .i64 sec, .slice A n cap] 66)) (fun b h => h)).more (fun b h => Nat.lt_of_lt_of_le h (by simp))) sec hn)
  have hlat := ref_latest_sp xs xs.length
  rw [h.1] at hlat
  have e : latTo xs n = latR xs := by unfold latR; rw [h.1]
  have e2 : nxtR xs = nxtTo xs (latR xs) n := by unfold nxtR; rw [h.1]
  rw [e] at hlat
  rw [e2]
  clear h e e2
  generalize latR xs = a at *
  have HA := Lib.hid hlat
  clear hlat
  go_enter Try.func48, Try.ntmps48
  go_wp2_with (go_at_call 90; refine HL.out.mono ?_; rintro e w1 ⟨rfl, hb1⟩)
  have HB0 := Lib.hid ((Blk.new w 66 #[.int .i64 sec, .slice A n cap]).below hb1 (by simp))
  have HBE0 := Lib.hid (((Below.refl w.heap.size w).alloc (Nat.le_refl _) (.cells #[.int .i64 sec, .slice A n cap] 66)).trans (hb1.mono (by simp)))
  clear hb1
  go_loopw [4] (fun i wr => ∃ j : Nat, j ≤ n ∧ i = .int .i64 ((j + 1 : Nat) : Int) ∧ Blk wr w.heap.size 66 #[.int .i64 sec, .slice A n cap] ∧ Below w.heap.size w wr ∧ nxtTo xs a j = -1) (fun i _ => n + 1 - (intOf i).toNat)
  case atStart => exact ⟨0, Nat.zero_le _, rfl, HB0.out, HBE0.out, rfl⟩
  case round =>
    obtain ⟨j, hj, rfl, hb, hbel, ho⟩ := hrel
    have HB := Lib.hid hb
    have HBEL := Lib.hid hbel
    have HO := Lib.hid ho
    obtain ⟨k0, k1⟩ : wr.cell? ⟨w.heap.size, 0, none⟩ = some (.int .i64 sec) ∧ wr.cell? ⟨w.heap.size, 1, none⟩ = some (.slice A n cap) := ⟨hb.cell 0, hb.cell 1⟩
    clear hb hbel ho
    by_cases hlt : j < n
    · obtain ⟨m, hm⟩ : ∃ m : Nat, a + ((j + 1 : Nat) : Int) = m := ⟨(a + ((j + 1 : Nat) : Int)).toNat, by rcases HA.out with h | ⟨i, _, h⟩ <;> omega⟩
      have hm80 : m ≤ 80 := by rcases HA.out with h | ⟨i, _, h⟩ <;> omega
      have HM := Lib.hid hm
      clear hm
      have hmod : (wrap64 (a + ((j : Int) + 1))).tmod n = ((m % n : Nat) : Int) := by
        have e : wrap64 (a + ((j : Int) + 1)) = (m : Int) := by
          have h := HM.out
          rw [show a + ((j : Int) + 1) = (m : Int) by omega]
          unfold wrap64; omega
        rw [e]
        exact (Int.ofNat_tmod _ _).symm
      have hlm : m % n < n := Nat.mod_lt _ (by omega)
      obtain ⟨b, off, rfl, hbb, hcc⟩ := seg_get (HX.out.below HBEL.out (fun b h => h)) hlm
      obtain ⟨c0, c1, c2⟩ := hcc (m % n) hlm
      have e1 : nxtTo xs a (j + 1) = if stG xs (m % n) = 0 then ((m % n : Nat) : Int) else -1 := by
        conv => (lhs; unfold nxtTo)
        rw [HO.out, if_neg (by omega), show (a + 1 + (j : Int)).toNat = m by have := HM.out; omega, HX.out.1]
      have E1 := Lib.hid e1
      clear hcc e1 c1 c2
      generalize stG xs (m % n) = st at *
      generalize m % n = q at *
      by_cases h0 : st = 0
      · subst h0
        go_wp2
        go_ret
        have h2 := E1.out
        simp only [if_true] at h2
        obtain ⟨d, hd⟩ : ∃ d, n = (j + 1) + d := ⟨n - (j + 1), by omega⟩
        have e : nxtTo xs a n = (q : Int) := by rw [hd, nxt_stay xs a (by omega), h2]
        exact ⟨by rw [e]; rfl, HBEL.out⟩
      · have d0 : (st == 0) = false := by simpa using h0
        go_wp2
        go_roundw
        case rel => exact ⟨j + 1, by omega, by go_num, HB.out, HBEL.out, by rw [E1.out, if_neg h0]⟩
        case measure => simp [intOf]; omega
    · obtain rfl : j = n := by omega
      go_wp2
      go_ret
      exact ⟨by rw [HO.out]; rfl, HBEL.out⟩

end Go.Proofs.Ytkmbbfdjdmkjpaa
