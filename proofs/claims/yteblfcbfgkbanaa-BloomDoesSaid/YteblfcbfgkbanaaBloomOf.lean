/- Package bloom: Of. -/
import Derived.Test.YteblfcbfgkbanaaBloom2
namespace Go.Proofs.Yteblfcbfgkbanaa
open Go.RowKit
set_option linter.unusedVariables false

theorem of_short (A : Option Addr) (n c : Nat) (xs : List Int) (S : Nat → Prop) (w : World) (hx : RowI .u8 w S A n xs) (hS : ∀ b, S b → b < w.heap.size) (hn : n < 4) :
    Calls Try.prog 22 #[.slice A n c] w fun e w' => e = .returned (.tuple #[.pointer none, .int .i64 9]) ∧ Below w.heap.size w w' := by
  have HX := Lib.hid hx
  have hl := hx.1
  have hlen : xs.length - 0 < 4 := by omega
  clear hx hl
  go_enter Try.func22, Try.ntmps22
  go_wp2_with (go_at_call 34; refine (read_any A n c xs S _ HX.out hS (by omega)).mono ?_; rintro e w1 ⟨r, rfl, hr, hrd, hb⟩; have HR := Lib.hid hr; have HD := Lib.hid hrd; have HB := Lib.hid hb; clear hr hrd hb)
  go_wp2_with (go_at_call 35; refine (u32_short _ r w.heap.size xs 0 HD.out hlen).mono ?_; rintro e w2 ⟨rfl, hrd, hk⟩; have HD2 := Lib.hid hrd; have HK := Lib.hid hk; clear hrd hk)
  go_wp2_with (go_at_call 36; refine (err_any _ r w.heap.size xs 0 9 HD2.out).mono ?_; rintro e w' ⟨rfl, rfl⟩)
  go_ret2
  refine ⟨rfl, HB.out.trans (HK.out.to_below (fun b hb => ?_))⟩
  have := HB.out.size
  have := HR.out
  omega

theorem of_bad (A : Option Addr) (n c : Nat) (xs : List Int) (S : Nat → Prop) (w : World) (hx : RowI .u8 w S A n xs) (hS : ∀ b, S b → b < w.heap.size) (hn : 4 ≤ n) (hn2 : n ≤ 140737488351232) (hby : Bytes xs)
    (hbad : numOf (xs.take 4) < 8 ∨ 65536 < numOf (xs.take 4) ∨ numOf (xs.take 4) % 8 ≠ 0) :
    Calls Try.prog 22 #[.slice A n c] w fun e w' => e = .returned (.tuple #[.pointer none, .int .i64 140]) ∧ Below w.heap.size w w' := by
  have HX := Lib.hid hx
  have hl := hx.1
  have hlen : 4 ≤ xs.length - 0 := by omega
  have HBY := Lib.hid hby
  have hv : 0 ≤ numOf (xs.take 4) ∧ numOf (xs.take 4) < 4294967296 := by
    have := numOf_bounds (xs.take 4) (hby.take 4)
    rw [List.length_take, Nat.min_eq_left (by omega)] at this
    exact this
  generalize hnum : numOf (xs.take 4) = m at *
  obtain ⟨hv0, hv1⟩ := hv
  have HNUM := Lib.hid hnum
  have HBAD := Lib.hid hbad
  clear hx hl hnum hbad hby
  go_enter Try.func22, Try.ntmps22
  go_wp2_with (go_at_call 34; refine (read_any A n c xs S _ HX.out hS (by omega)).mono ?_; rintro e w1 ⟨r, rfl, hr, hrd, hb⟩; have HR := Lib.hid hr; have HD := Lib.hid hrd; have HB := Lib.hid hb; clear hr hrd hb)
  go_wp2_with (go_at_call 35; refine (u32_ok _ r w.heap.size xs 0 HD.out hlen HBY.out).mono ?_; rintro e w2 ⟨rfl, hrd, hk⟩; have HD2 := Lib.hid hrd; have HK := Lib.hid hk; clear hrd hk; rw [List.drop_zero, HNUM.out])
  go_wp2_with (go_at_call 36; refine (err_any _ r w.heap.size xs _ 0 HD2.out).mono ?_; rintro e w' ⟨rfl, rfl⟩)
  go_wp2_with (go_at_call 11; refine (new_bad m _ HBAD.out).mono ?_; rintro e w' ⟨rfl, rfl⟩)
  go_quiet (fail)
  go_wp2
  go_ret2
  refine ⟨rfl, below_drewN (HB.out.trans (HK.out.to_below (fun b hb => ?_))) _⟩
  have := HB.out.size
  have := HR.out
  omega

theorem quiet_draw {P : Program} {f : FuncId} {args : Array Value} {w : World} {n : Nat} {v : Value}
    (h : Calls P f args (w.drewN n) fun e w' => e = .returned v ∧ ∃ k, (w.drewN n).drewN k = w') : Calls P f args (w.drewN n) fun e w'' => e = .returned v ∧ ∃ m, w'' = w.drewN m :=
  h.mono fun _ _ ⟨he, k, hm⟩ => ⟨he, n + k, by rw [← hm, World.drewN_drewN]⟩

/-- What Of tells of bytes that are a filter's. -/
def OfTold (xs : List Int) (w : World) (e : Ending) (w' : World) : Prop :=
  ∃ f h, e = .returned (.tuple #[.pointer (some ⟨f, 0, none⟩), .int .i64 0]) ∧ Filt w' f h (xs.drop 4) ∧ w.heap.size ≤ f ∧ w.heap.size ≤ h ∧ Below w.heap.size w w'

set_option maxHeartbeats 1000000 in
theorem of_unlike (A : Option Addr) (n c k : Nat) (xs : List Int) (S : Nat → Prop) (w : World) (hx : RowI .u8 w S A n xs) (hS : ∀ b, S b → b < w.heap.size) (hn : 4 ≤ n) (hn2 : n ≤ 140737488351232) (hby : Bytes xs)
    (hk : numOf (xs.take 4) = 8 * (k : Int)) (k1 : 1 ≤ k) (k2 : k ≤ 8192) (hne : n ≠ 4 + k) :
    Calls Try.prog 22 #[.slice A n c] w fun e w' => e = .returned (.tuple #[.pointer none, .int .i64 140]) ∧ Below w.heap.size w w' := by
  have HX := Lib.hid hx
  have hl := hx.1
  have hlen : 4 ≤ xs.length - 0 := by omega
  have HBY := Lib.hid hby
  have hcmp : ((((xs.length - 4 : Nat) : Int)) != (k : Int)) = true := by simp; omega
  generalize hnum : numOf (xs.take 4) = m at *
  have hv0 : 0 ≤ m := by omega
  have hv1 : m < 4294967296 := by omega
  have HNUM := Lib.hid hnum
  have HK8 := Lib.hid hk
  clear hx hl hnum hk hby
  go_enter Try.func22, Try.ntmps22
  go_wp2_with (go_at_call 34; refine (read_any A n c xs S _ HX.out hS (by omega)).mono ?_; rintro e w1 ⟨r, rfl, hr, hrd, hb⟩; have HR := Lib.hid hr; have HD := Lib.hid hrd; have HB := Lib.hid hb; clear hr hrd hb)
  go_wp2_with (go_at_call 35; refine (u32_ok _ r w.heap.size xs 0 HD.out hlen HBY.out).mono ?_; rintro e w2 ⟨rfl, hrd, hk⟩; have HD2 := Lib.hid hrd; have HK := Lib.hid hk; clear hrd hk; rw [List.drop_zero, HNUM.out])
  go_wp2_with (go_at_call 36; refine (err_any _ r w.heap.size xs _ 0 HD2.out).mono ?_; rintro e w' ⟨rfl, rfl⟩)
  go_wp2_with (go_at_call 11; refine (new_ok m k _ HK8.out k1 k2).mono ?_; rintro e w3 ⟨rfl, hf, hb⟩; have HF := Lib.hid hf; have HB3 := Lib.hid hb; clear hf hb)
  have HD3 := Lib.hid (HD2.out.kept (Kept.of_below HB3.out (S := fun b => b < w2.heap.size) (fun b h => h)) HD2.out.1.lt HD2.out.2.1.lt)
  have hc0 := HF.out.cell0
  rw [List.length_replicate] at hc0
  go_quiet ((go_at_call 37; exact quiet_draw (left_any _ r w.heap.size xs 4 0 (HD3.out.drewN _))))
  go_wp2
  go_ret2
  refine ⟨rfl, below_drewN ((HB.out.trans (HK.out.to_below (fun b hb => ?_))).trans (HB3.out.mono ?_)) _⟩
  · have := HB.out.size
    have := HR.out
    omega
  · have := HB.out.size
    have := HK.out.size
    omega

set_option maxHeartbeats 1000000 in
theorem of_ok (A : Option Addr) (n c k : Nat) (xs : List Int) (S : Nat → Prop) (w : World) (hx : RowI .u8 w S A n xs) (hS : ∀ b, S b → b < w.heap.size) (hby : Bytes xs)
    (hk : numOf (xs.take 4) = 8 * (k : Int)) (k1 : 1 ≤ k) (k2 : k ≤ 8192) (hn : n = 4 + k) :
    Calls Try.prog 22 #[.slice A n c] w (OfTold xs w) := by
  have HX := Lib.hid hx
  have hl := hx.1
  have hlen : 4 ≤ xs.length - 0 := by omega
  have HBY := Lib.hid hby
  have hcmp : ((((xs.length - 4 : Nat) : Int)) != (k : Int)) = false := by simp; omega
  have hlk : xs.length - 4 = k := by omega
  have hn2 : n ≤ 140737488351232 := by omega
  generalize hnum : numOf (xs.take 4) = m at *
  have hv0 : 0 ≤ m := by omega
  have hv1 : m < 4294967296 := by omega
  have HNUM := Lib.hid hnum
  have HK8 := Lib.hid hk
  have HLK := Lib.hid hlk
  clear hx hl hnum hk hby hn hlk
  go_enter Try.func22, Try.ntmps22
  go_wp2_with (go_at_call 34; refine (read_any A n c xs S _ HX.out hS (by omega)).mono ?_; rintro e w1 ⟨r, rfl, hr, hrd, hb⟩; have HR := Lib.hid hr; have HD := Lib.hid hrd; have HB := Lib.hid hb; clear hr hrd hb)
  go_wp2_with (go_at_call 35; refine (u32_ok _ r w.heap.size xs 0 HD.out hlen HBY.out).mono ?_; rintro e w2 ⟨rfl, hrd, hk⟩; have HD2 := Lib.hid hrd; have HK := Lib.hid hk; clear hrd hk; rw [List.drop_zero, HNUM.out])
  go_wp2_with (go_at_call 36; refine (err_any _ r w.heap.size xs _ 0 HD2.out).mono ?_; rintro e w' ⟨rfl, rfl⟩)
  go_wp2_with (go_at_call 11; refine (new_ok m k _ HK8.out k1 k2).mono ?_; rintro e w3 ⟨rfl, hf, hb⟩; have HF := Lib.hid hf; have HB3 := Lib.hid hb; clear hf hb)
  have HD3 := Lib.hid (HD2.out.kept (Kept.of_below HB3.out (S := fun b => b < w2.heap.size) (fun b h => h)) HD2.out.1.lt HD2.out.2.1.lt)
  have hc0 := HF.out.cell0
  rw [List.length_replicate] at hc0
  go_quiet ((go_at_call 37; exact quiet_draw (left_any _ r w.heap.size xs 4 0 (HD3.out.drewN _))))
  clear hc0
  go_wp2_with (go_at_call 37; refine (left_any _ r w.heap.size xs 4 0 (HD3.out.drewN _)).mono ?_; rintro e w' ⟨rfl, d, rfl⟩)
  refine (raw_ok _ r w.heap.size xs 4 (xs.length - 4) (HD3.out.drewN _) (Nat.le_refl _)).mono ?_
  rintro e w4 ⟨b, rfl, hb, ha, hk4⟩
  have hfr : w2.heap.size + 1 ≠ r := by
    have := HD2.out.1.lt
    omega
  have hlt3 : w2.heap.size + 1 < w3.heap.size := HF.out.ltf
  have hblk : Blk w4 (w2.heap.size + 1) 56 #[.slice (some ⟨w2.heap.size, 0, none⟩) (List.replicate k (0 : Int)).length (List.replicate k (0 : Int)).length] := (HF.out.1.drewN _).kept hk4 ⟨hlt3, hfr⟩
  have hc0 := hblk.cell 0
  have hfz := hblk.frozen 0
  have hbf : w3.heap.size ≤ b := hb
  have HBLK := Lib.hid hblk
  have HA := Lib.hid ha
  have HK4 := Lib.hid hk4
  have hle := Lib.hid (show w.heap.size ≤ w2.heap.size from Nat.le_trans HB.out.size HK.out.size)
  clear hblk ha hk4 hb
  simp only [List.size_toArray, List.length_replicate] at hc0
  go_wp2
  go_ret2
  have hrow : (xs.drop 4).take (xs.length - 4) = xs.drop 4 := by rw [← List.length_drop, List.take_length]
  have hlen4 : (xs.drop 4).length = xs.length - 4 := by simp
  have hA := HA.out
  rw [hrow] at hA
  refine ⟨_, b, rfl, ⟨?_, Blk.far hA (p := ⟨w2.heap.size + 1, 0, none⟩) (by show b ≠ w2.heap.size + 1; omega) _, by omega, ?_, by rw [hlen4, HLK.out]; exact k1, by rw [hlen4, HLK.out]; exact k2⟩, ?_, ?_, ?_⟩
  · rw [hlen4]
    have := HBLK.out.set_ 0 (.slice (some ⟨b, 0, none⟩) (xs.length - 4) (xs.length - 4))
    simpa using this
  · intro j
    have := HBY.out (4 + j)
    simpa [List.getD, List.getElem?_drop] using this
  · have := hle.out; omega
  · have := hle.out
    have := HB3.out.size
    omega
  · have hb12 : Below w.heap.size w w2 := HB.out.trans (HK.out.to_below (fun b hb => by have := HB.out.size; have := HR.out; omega))
    have hb13 := hb12.trans (HB3.out.mono hle.out)
    refine ((below_drewN hb13 _).trans (HK4.out.to_below (fun b hb => ?_))).setCell ?_ _
    · have := HB3.out.size
      have := hle.out
      have := HR.out
      exact ⟨show b < w3.heap.size by omega, by omega⟩
    · have := hle.out
      show w.heap.size ≤ w2.heap.size + 1
      omega

end Go.Proofs.Yteblfcbfgkbanaa
