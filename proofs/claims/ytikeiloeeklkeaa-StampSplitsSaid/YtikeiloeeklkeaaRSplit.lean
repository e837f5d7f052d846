/- The document's answers of layer 5 (icehouseref05): Sectors and Split. -/
import Derived.Test.YtikeiloeeklkeaaSplit
import Derived.Test.YtikeiloeeklkeaaRBlock
namespace Go.Proofs.Ytikeiloeeklkeaa
open Go.RowKit
set_option linter.unusedVariables false

theorem rsectors_any (n : Nat) (w : World) (hn : n ≤ 16384) : Calls Try.prog 16 #[.int .i64 n] w fun e w' => e = .returned (.int .i64 (cntOf n)) ∧ w = w' := by
  have hc := cnt_bounds n hn
  have hce : cntOf n = (n - 1) / 48 + 1 := rfl
  generalize cntOf n = c at *
  have HC := Lib.hid hce
  clear hce
  go_enter Try.func16, Try.ntmps16
  go_wp2
  go_loop [3] (fun i => ∃ k : Nat, 1 ≤ k ∧ k ≤ c ∧ i = .int .i64 k) (fun i => c - (intOf i).toNat)
  case atStart => exact ⟨1, by omega, by omega, rfl⟩
  case round =>
    obtain ⟨k, h1, h2, rfl⟩ := hrel
    by_cases hlt : k < c
    · have hl : (k : Int) * 48 < n := by have := HC.out; omega
      have hk : (k : Int) ≤ 342 := by omega
      go_wp2
      go_round
      case rel => exact ⟨k + 1, by omega, by omega, by go_num⟩
      case measure => (simp [intOf] <;> omega)
    · obtain rfl : k = c := by omega
      have hl : ¬ (k : Int) * 48 < n := by omega
      have hk : (k : Int) ≤ 342 := by omega
      go_wp2
      go_ret
      exact ⟨rfl, rfl⟩

/-- Sectors of the call's own come back. -/
def OwnSecs (xss : List (List Int)) (w : World) (e : Ending) (w' : World) : Prop :=
  ∃ v, e = .returned v ∧ w'.ownsRow w.heap.size 27 64 v xss.length ((flat xss).map (Value.int .u8)) ∧ Below w.heap.size w w'

set_option maxHeartbeats 2000000 in
theorem rsplit_any (gen pos : Int) (A : Option Addr) (n cap : Nat) (xs : List Int) (S : Nat → Prop) (w : World) (hx : RowI .u8 w S A n xs) (hS : ∀ b, S b → b < w.heap.size) (hnil : A = none → cap = 0) (hcap : n ≤ cap) (hn : n ≤ 16384)
    (hg : 0 ≤ gen) (hg2 : gen ≤ 18446744073709551615) (hp : 0 ≤ pos) (hp2 : pos ≤ 4294967295) (h : pos + cntOf n ≤ 4294967296) :
    Calls Try.prog 19 #[.int .u64 gen, .int .u32 pos, .slice A n cap] w (OwnSecs (splitL gen pos xs) w) := by
  have hc := cnt_bounds n hn
  have hl := hx.1
  have hsl := split_length gen pos xs
  have hsnoc := split_snoc gen pos xs
  rw [hl] at hsl hsnoc
  have hrs := fun w => rsectors_any n w hn
  generalize hk : cntOf n = c at *
  have HX := Lib.hid hx
  have HL := Lib.hid hl
  have HK := Lib.hid hk
  have HSL := Lib.hid hsl
  have HSN := Lib.hid hsnoc
  have HRS := Lib.hid hrs
  clear hk hx hl hsl hsnoc hrs
  go_enter Try.func19, Try.ntmps19
  go_wp2_with fail
  go_loopw [7, 8] (fun o i wr => ∃ k : Nat, k ≤ c ∧ i = .int .i64 k ∧ wr.ownsRow w.heap.size 27 64 o k ((flat ((splitL gen pos xs).take k)).map (Value.int .u8)) ∧ Below w.heap.size w wr) (fun _ i _ => c - (intOf i).toNat)
  case atStart => exact ⟨0, by omega, rfl, World.ownsRow_nil _ _ _ _, Below.refl _ _⟩
  case round =>
    obtain ⟨k, hk, rfl, hown, hbel⟩ := hrel
    by_cases hlt : k < c
    · have hsn := HSN.out k hlt
      obtain ⟨to, hto⟩ : ∃ to : Nat, to = min (48 * k + 48) n := ⟨_, rfl⟩
      have hk48 : 48 * k ≤ n := by
        have := hc.2.2.2
        have h2 : 48 * k ≤ 48 * (c - 1) := Nat.mul_le_mul_left _ (by omega)
        omega
      obtain ⟨m, hm⟩ : ∃ m, m = to - 48 * k := ⟨_, rfl⟩
      obtain ⟨A', c', hcut, hrow, hnil', hc'⟩ := cut_rowAt (HX.out.below hbel hS) hnil hcap (48 * k) to (by omega) (by omega) (48 * (k : Int)) (to : Int) (by omega) rfl m hm
      have hpe : (xs.drop (48 * k)).take m = partOf xs k := by
        unfold partOf
        apply List.ext_getElem
        · simp
          have := HL.out
          omega
        · intro j h1 h2
          simp
      rw [hpe] at hrow
      have hpl := packL_length (gen) (pos + k) (partOf xs k) (part_le xs k)
      have hkc : (k : Int) < c := by omega
      have hk342 : (k : Int) ≤ 342 := by omega
      have hpk : pos + (k : Int) ≤ 4294967295 := by omega
      have hml : m ≤ 48 := by omega
      have HSNK := Lib.hid hsn
      have HPL := Lib.hid hpl
      have HROW := Lib.hid hrow
      have HOWN := Lib.hid hown
      have HBEL := Lib.hid hbel
      have HTO := Lib.hid hto
      have HH := Lib.hid h
      clear hsn hpl hrow hown hbel hnil' hc' hpe hm h
      by_cases hmin : 48 * k + 48 ≤ n
      · have ht2 : (to : Int) = 48 * (k : Int) + 48 := by have := HTO.out; omega
        have hm2 : 48 * (k : Int) + 48 ≤ n := by omega
        rw [ht2] at hcut
        clear ht2 hto
        go_wp2_with fail
        refine (HRS.out _).mono ?_
        rintro e w' ⟨rfl, rfl⟩
        go_wp2_with fail
        refine (block_any gen (pos + k) A' m c' (partOf xs k) S wr HROW.out (fun b h => Nat.lt_of_lt_of_le (hS b h) HBEL.out.size) hg hg2 (by omega) hpk hml).mono ?_
        rintro e w2 ⟨rfl, hb⟩
        generalize packL gen (pos + k) (partOf xs k) = ys at *
        obtain ⟨w3, hw3⟩ : ∃ w3, w3 = w2.alloc (.cells (cells8 ys) 27) := ⟨_, rfl⟩
        have hb3 : Below w2.heap.size w2 w3 := by rw [hw3]; exact (Below.refl _ _).alloc (Nat.le_refl _) _
        have hy3 : ArrB w3 w2.heap.size (flat [ys]) := by rw [hw3, flat_one]; exact Blk.new w2 _ _
        have hsec : Secs [ys] := fun x hx => by simp at hx; subst hx; exact HPL.out
        have HY3 := Lib.hid (hy3.rowK hsec (n := 1) rfl (S := fun _ => True) trivial)
        have HSEC := Lib.hid hsec
        have HB3 := Lib.hid ((HBEL.out.trans (hb.mono HBEL.out.size)).trans (hb3.mono (Nat.le_trans HBEL.out.size hb.size)))
        have HO3 := Lib.hid (show w3.ownsRow w.heap.size 27 64 u7 k ((flat ((splitL gen pos xs).take k)).map (Value.int .u8)) by
          rw [hw3]
          exact (HOWN.out.kept (row := none) ⟨hb.os, hb.tape, hb.output, hb.size, fun j hj _ => hb.block j hj⟩ (by cases u7.ownBlock <;> simp)).alloc _)
        have HL3 := Lib.hid HOWN.out.lt
        have HW3 := Lib.hid hw3
        clear hb hb3 hw3 hy3 hsec
        go_wp2_with (first
          | (refine wpList_lit_sec (.tmp 32) rfl rfl ys rfl HPL.out ?_; rw [← HW3.out])
          | (refine wpList_append_rowK (.tmp 16) (.tmp 33) rfl rfl w.heap.size u7 k _ rfl HO3.out (fun _ => True) (some ⟨w2.heap.size, 0, none⟩) 1 1 [ys] rfl HY3.out HSEC.out (fun h => by cases h) (by unfold maxLen; omega) (by omega) HB3.out.size ?_; intro v' w' hown' hgrow' _; rw [flat_one] at hown'; have HO' := Lib.hid hown'; have HB' := Lib.hid (HB3.out.grown hgrow' HB3.out.size (fun g hg => (HL3.out g hg).1)); clear hown' hgrow'))
        go_roundw
        case rel =>
          refine ⟨k + 1, by omega, by go_num, ?_, HB'.out⟩
          rw [HSNK.out, List.map_append]
          exact HO'.out
        case measure => (simp [intOf] <;> omega)
      · have ht2 : to = n := by have := HTO.out; omega
        have hm2 : (n : Int) < 48 * (k : Int) + 48 := by omega
        rw [ht2] at hcut
        clear ht2 hto
        go_wp2_with fail
        refine (HRS.out _).mono ?_
        rintro e w' ⟨rfl, rfl⟩
        go_wp2_with fail
        refine (block_any gen (pos + k) A' m c' (partOf xs k) S wr HROW.out (fun b h => Nat.lt_of_lt_of_le (hS b h) HBEL.out.size) hg hg2 (by omega) hpk hml).mono ?_
        rintro e w2 ⟨rfl, hb⟩
        generalize packL gen (pos + k) (partOf xs k) = ys at *
        obtain ⟨w3, hw3⟩ : ∃ w3, w3 = w2.alloc (.cells (cells8 ys) 27) := ⟨_, rfl⟩
        have hb3 : Below w2.heap.size w2 w3 := by rw [hw3]; exact (Below.refl _ _).alloc (Nat.le_refl _) _
        have hy3 : ArrB w3 w2.heap.size (flat [ys]) := by rw [hw3, flat_one]; exact Blk.new w2 _ _
        have hsec : Secs [ys] := fun x hx => by simp at hx; subst hx; exact HPL.out
        have HY3 := Lib.hid (hy3.rowK hsec (n := 1) rfl (S := fun _ => True) trivial)
        have HSEC := Lib.hid hsec
        have HB3 := Lib.hid ((HBEL.out.trans (hb.mono HBEL.out.size)).trans (hb3.mono (Nat.le_trans HBEL.out.size hb.size)))
        have HO3 := Lib.hid (show w3.ownsRow w.heap.size 27 64 u7 k ((flat ((splitL gen pos xs).take k)).map (Value.int .u8)) by
          rw [hw3]
          exact (HOWN.out.kept (row := none) ⟨hb.os, hb.tape, hb.output, hb.size, fun j hj _ => hb.block j hj⟩ (by cases u7.ownBlock <;> simp)).alloc _)
        have HL3 := Lib.hid HOWN.out.lt
        have HW3 := Lib.hid hw3
        clear hb hb3 hw3 hy3 hsec
        go_wp2_with (first
          | (refine wpList_lit_sec (.tmp 32) rfl rfl ys rfl HPL.out ?_; rw [← HW3.out])
          | (refine wpList_append_rowK (.tmp 16) (.tmp 33) rfl rfl w.heap.size u7 k _ rfl HO3.out (fun _ => True) (some ⟨w2.heap.size, 0, none⟩) 1 1 [ys] rfl HY3.out HSEC.out (fun h => by cases h) (by unfold maxLen; omega) (by omega) HB3.out.size ?_; intro v' w' hown' hgrow' _; rw [flat_one] at hown'; have HO' := Lib.hid hown'; have HB' := Lib.hid (HB3.out.grown hgrow' HB3.out.size (fun g hg => (HL3.out g hg).1)); clear hown' hgrow'))
        go_roundw
        case rel =>
          refine ⟨k + 1, by omega, by go_num, ?_, HB'.out⟩
          rw [HSNK.out, List.map_append]
          exact HO'.out
        case measure => (simp [intOf] <;> omega)
    · obtain rfl : k = c := by omega
      have hlen : (splitL gen pos xs).length = k := HSL.out
      rw [List.take_of_length_le (by omega)] at hown
      have HOWN := Lib.hid hown
      have HBEL := Lib.hid hbel
      have HH := Lib.hid h
      clear hown hbel hlen h
      go_wp2_with fail
      refine (HRS.out _).mono ?_
      rintro e w' ⟨rfl, rfl⟩
      go_wp2_with fail
      go_ret
      exact ⟨_, rfl, by rw [HSL.out]; exact HOWN.out, HBEL.out⟩

end Go.Proofs.Ytikeiloeeklkeaa
