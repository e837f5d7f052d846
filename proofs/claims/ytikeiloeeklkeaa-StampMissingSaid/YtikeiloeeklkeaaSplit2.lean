/- Package stamp: Split. -/
import Derived.Test.YtikeiloeeklkeaaSplit
namespace Go.Proofs.Ytikeiloeeklkeaa
open Go.RowKit
set_option linter.unusedVariables false

theorem set_sector (F ys : List Int) (c k : Nat) (hF : F.length = k * 64) (hk : k < c) : (F ++ noughts ((c - k) * 64)).take (k * 64) ++ ys ++ (F ++ noughts ((c - k) * 64)).drop (k * 64 + 64) = F ++ ys ++ noughts ((c - (k + 1)) * 64) := by
  rw [List.take_left' hF, List.drop_append, List.drop_eq_nil_of_le (by omega), List.nil_append, hF, show k * 64 + 64 - k * 64 = 64 by omega]
  unfold noughts
  rw [List.drop_replicate, show (c - k) * 64 - 64 = (c - (k + 1)) * 64 by omega]

theorem split_over (gen pos : Int) (A : Option Addr) (n cap : Nat) (w : World) (hn : n ≤ 16384) (hp : 0 ≤ pos) (hp2 : pos ≤ 4294967295) (h : 4294967296 < pos + cntOf n) :
    Calls Try.prog 15 #[.int .u64 gen, .int .u32 pos, .slice A n cap] w fun e w' => e = .returned (.tuple #[.slice none 0 0, .int .i64 2]) ∧ w = w' := by
  have hc := cnt_bounds n hn
  have h' : (4294967296 : Int) < pos + (cntOf n : Int) := h
  generalize hk : cntOf n = k at *
  have HK := Lib.hid hk
  clear hk h
  go_enter Try.func15, Try.ntmps15
  go_wp2_with fail
  refine (sectors_any n w (by omega)).mono ?_
  rintro e w' ⟨rfl, rfl⟩
  rw [HK.out]
  go_wp2_with fail
  go_ret2
  exact ⟨rfl, rfl⟩

set_option maxHeartbeats 2000000 in
theorem split_ok (gen pos : Int) (A : Option Addr) (n cap : Nat) (xs : List Int) (S : Nat → Prop) (w : World) (hx : RowI .u8 w S A n xs) (hS : ∀ b, S b → b < w.heap.size) (hnil : A = none → cap = 0) (hcap : n ≤ cap) (hn : n ≤ 16384)
    (hg : 1 ≤ gen) (hg2 : gen ≤ 18446744073709551615) (hp : 0 ≤ pos) (hp2 : pos ≤ 4294967295) (h : pos + cntOf n ≤ 4294967296) :
    Calls Try.prog 15 #[.int .u64 gen, .int .u32 pos, .slice A n cap] w fun e w' => e = .returned (.tuple #[.slice (some ⟨w.heap.size, 0, none⟩) (cntOf n) (cntOf n), .int .i64 0]) ∧
      ArrB w' w.heap.size (flat (splitL gen pos xs)) ∧ Below w.heap.size w w' := by
  have hc := cnt_bounds n hn
  have hl := hx.1
  have hsl := split_length gen pos xs
  have hsnoc := split_snoc gen pos xs
  rw [hl] at hsl hsnoc
  have h' : ¬ (4294967296 : Int) < pos + (cntOf n : Int) := by omega
  obtain ⟨i0, hi, hz0, hz1, hz2⟩ := info_parts info_blk
  generalize hk : cntOf n = c at *
  have HX := Lib.hid hx
  have HL := Lib.hid hl
  have HK := Lib.hid hk
  have HSL := Lib.hid hsl
  have HSN := Lib.hid hsnoc
  clear hk h hx hl hsl hsnoc
  go_enter Try.func15, Try.ntmps15
  go_wp2_with fail
  refine (sectors_any n w (by omega)).mono ?_
  rintro e w' ⟨rfl, rfl⟩
  rw [HK.out]
  go_wp2_with (refine wpList_make_secs _ _ rfl rfl _ _ c rfl rfl rfl rfl (by omega) ?_)
  generalize hw1 : w.alloc _ = w1
  have HA1 := Lib.hid (show ArrB w1 w.heap.size (noughts (c * 64)) by rw [← hw1]; exact Blk.new w _ _)
  have HB1 := Lib.hid (show Below w.heap.size w w1 by rw [← hw1]; exact (Below.refl _ _).alloc (Nat.le_refl _) _)
  clear hw1
  go_loopw [28] (fun i wr => ∃ k : Nat, k ≤ c ∧ i = .int .i64 k ∧ ArrB wr w.heap.size (flat ((splitL gen pos xs).take k) ++ noughts ((c - k) * 64)) ∧ Below w.heap.size w wr) (fun i _ => c - (intOf i).toNat)
  case atStart => exact ⟨0, by omega, rfl, by simpa [flat] using HA1.out, HB1.out⟩
  case round =>
    obtain ⟨k, hk, rfl, harr, hbel⟩ := hrel
    by_cases hlt : k < c
    · have hsn := HSN.out k hlt
      have hfl := flat_length ((split_secs gen pos xs).take k)
      rw [List.length_take, HSL.out, Nat.min_eq_left hk] at hfl
      have hpl := packL_length (gen) (pos + k) (partOf xs k) (part_le xs k)
      have hto : ∃ to : Nat, to = min (48 * k + 48) n := ⟨_, rfl⟩
      obtain ⟨to, hto⟩ := hto
      have hk48 : 48 * k ≤ n := by
        have := hc.2.2.2
        have h2 : 48 * k ≤ 48 * (c - 1) := Nat.mul_le_mul_left _ (by omega)
        omega
      obtain ⟨m, hm⟩ : ∃ m, m = to - 48 * k := ⟨_, rfl⟩
      obtain ⟨A', c', hcut, hrow, hnil', hc'⟩ := cut_rowAt (HX.out.below hbel hS) hnil hcap (48 * k) to (by omega) (by omega) ((k : Int) * 48) (to : Int) (by omega) rfl m hm
      have hpe : (xs.drop (48 * k)).take m = partOf xs k := by
        unfold partOf
        apply List.ext_getElem
        · simp
          have := HL.out
          omega
        · intro j h1 h2
          simp
      rw [hpe] at hrow
      have hkc : (k : Int) < c := by omega
      have hk342 : (k : Int) ≤ 342 := by omega
      have hpk : pos + (k : Int) ≤ 4294967295 := by omega
      have hml : m ≤ 48 := by omega
      have hset : (flat ((splitL gen pos xs).take k) ++ noughts ((c - k) * 64)).take (k * 64) ++ packL gen (pos + k) (partOf xs k) ++ (flat ((splitL gen pos xs).take k) ++ noughts ((c - k) * 64)).drop (k * 64 + 64) = flat ((splitL gen pos xs).take (k + 1)) ++ noughts ((c - (k + 1)) * 64) := by
        rw [hsn]
        exact set_sector _ _ _ _ hfl hlt
      have HSNK := Lib.hid hsn
      have HFL := Lib.hid hfl
      have HPL := Lib.hid hpl
      have HROW := Lib.hid hrow
      have HARR := Lib.hid harr
      have HBEL := Lib.hid hbel
      have HTO := Lib.hid hto
      have HSET := Lib.hid hset
      have HM := Lib.hid hm
      clear hsn hfl hpl hrow harr hbel hnil' hc' hpe h' hset hm
      by_cases hmin : 48 * k + 48 ≤ n
      · have ht2 : (to : Int) = (k : Int) * 48 + 48 := by have := HTO.out; omega
        have hm2 : (k : Int) * 48 + 48 ≤ n := by omega
        rw [ht2] at hcut
        clear ht2 hto
        go_wp2_with fail
        refine (pack_ok gen (pos + k) A' m c' (partOf xs k) S wr HROW.out (fun b h => Nat.lt_of_lt_of_le (hS b h) HBEL.out.size) hg hg2 (by omega) hpk hml).mono ?_
        rintro e w2 ⟨rfl, hb⟩
        generalize packL gen (pos + k) (partOf xs k) = ys at *
        obtain ⟨w3, hw3⟩ : ∃ w3, w3 = w2.alloc (.cells (cells8 ys) 27) := ⟨_, rfl⟩
        have hb3 : Below w2.heap.size w2 w3 := by rw [hw3]; exact (Below.refl _ _).alloc (Nat.le_refl _) _
        have HY3 := Lib.hid (show ArrB w3 w2.heap.size ys by rw [hw3]; exact Blk.new w2 _ _)
        have HA3 := Lib.hid ((HARR.out.below hb HARR.out.lt).below hb3 (Nat.lt_of_lt_of_le HARR.out.lt hb.size))
        have HB3 := Lib.hid ((HBEL.out.trans (hb.mono HBEL.out.size)).trans (hb3.mono (Nat.le_trans HBEL.out.size hb.size)))
        have HW3 := Lib.hid hw3
        have hfit : k * 64 + 64 ≤ (flat ((splitL gen pos xs).take k) ++ noughts ((c - k) * 64)).length := by
          rw [List.length_append, HFL.out, noughts_length]
          omega
        have HFIT := Lib.hid hfit
        clear hb hb3 hw3 hfit
        go_wp2_with (first
          | (refine wpList_alloc_blk rfl rfl ?_)
          | (refine wpList_store_new (.tmp 13) (.tmp 49) rfl rfl w2 ys rfl rfl (noughts 64) rfl (noughts_length 64) HPL.out ?_; rw [← HW3.out])
          | (refine wpList_load_blk (.tmp 13) rfl rfl w2.heap.size 0 rfl ys HPL.out HY3.out.range ?_)
          | (refine wpList_store_sec (.tmp 57) (.tmp 56) rfl rfl w.heap.size (k * 64) ys rfl rfl 27 _ HA3.out HPL.out HFIT.out ?_; rw [HSET.out]))
        go_roundw
        case rel =>
          have hst := HA3.out.setRow (flat ((splitL gen pos xs).take (k + 1)) ++ noughts ((c - (k + 1)) * 64))
          rw [List.map_append] at hst
          exact ⟨k + 1, by omega, by go_num, hst, below_setRow HB3.out (Nat.le_refl _) _⟩
        case measure => (simp [intOf] <;> omega)
      · have ht2 : to = n := by have := HTO.out; omega
        have hm2 : (n : Int) < (k : Int) * 48 + 48 := by omega
        rw [ht2] at hcut
        clear ht2 hto
        go_wp2_with fail
        refine (pack_ok gen (pos + k) A' m c' (partOf xs k) S wr HROW.out (fun b h => Nat.lt_of_lt_of_le (hS b h) HBEL.out.size) hg hg2 (by omega) hpk hml).mono ?_
        rintro e w2 ⟨rfl, hb⟩
        generalize packL gen (pos + k) (partOf xs k) = ys at *
        obtain ⟨w3, hw3⟩ : ∃ w3, w3 = w2.alloc (.cells (cells8 ys) 27) := ⟨_, rfl⟩
        have hb3 : Below w2.heap.size w2 w3 := by rw [hw3]; exact (Below.refl _ _).alloc (Nat.le_refl _) _
        have HY3 := Lib.hid (show ArrB w3 w2.heap.size ys by rw [hw3]; exact Blk.new w2 _ _)
        have HA3 := Lib.hid ((HARR.out.below hb HARR.out.lt).below hb3 (Nat.lt_of_lt_of_le HARR.out.lt hb.size))
        have HB3 := Lib.hid ((HBEL.out.trans (hb.mono HBEL.out.size)).trans (hb3.mono (Nat.le_trans HBEL.out.size hb.size)))
        have HW3 := Lib.hid hw3
        have hfit : k * 64 + 64 ≤ (flat ((splitL gen pos xs).take k) ++ noughts ((c - k) * 64)).length := by
          rw [List.length_append, HFL.out, noughts_length]
          omega
        have HFIT := Lib.hid hfit
        clear hb hb3 hw3 hfit
        go_wp2_with (first
          | (refine wpList_alloc_blk rfl rfl ?_)
          | (refine wpList_store_new (.tmp 13) (.tmp 49) rfl rfl w2 ys rfl rfl (noughts 64) rfl (noughts_length 64) HPL.out ?_; rw [← HW3.out])
          | (refine wpList_load_blk (.tmp 13) rfl rfl w2.heap.size 0 rfl ys HPL.out HY3.out.range ?_)
          | (refine wpList_store_sec (.tmp 57) (.tmp 56) rfl rfl w.heap.size (k * 64) ys rfl rfl 27 _ HA3.out HPL.out HFIT.out ?_; rw [HSET.out]))
        go_roundw
        case rel =>
          have hst := HA3.out.setRow (flat ((splitL gen pos xs).take (k + 1)) ++ noughts ((c - (k + 1)) * 64))
          rw [List.map_append] at hst
          exact ⟨k + 1, by omega, by go_num, hst, below_setRow HB3.out (Nat.le_refl _) _⟩
        case measure => (simp [intOf] <;> omega)
    · obtain rfl : k = c := by omega
      have he : flat ((splitL gen pos xs).take k) ++ noughts ((k - k) * 64) = flat (splitL gen pos xs) := by
        rw [List.take_of_length_le (by have := HSL.out; omega), Nat.sub_self]
        simp [noughts]
      rw [he] at harr
      have HARR := Lib.hid harr
      have HBEL := Lib.hid hbel
      clear harr hbel he
      go_wp2
      go_ret2
      exact ⟨rfl, HARR.out, HBEL.out⟩

set_option maxHeartbeats 1000000 in
theorem split_zero (pos : Int) (A : Option Addr) (n cap : Nat) (xs : List Int) (S : Nat → Prop) (w : World) (hx : RowI .u8 w S A n xs) (hS : ∀ b, S b → b < w.heap.size) (hnil : A = none → cap = 0) (hcap : n ≤ cap) (hn : n ≤ 16384)
    (hp : 0 ≤ pos) (hp2 : pos ≤ 4294967295) (h : pos + cntOf n ≤ 4294967296) :
    Calls Try.prog 15 #[.int .u64 0, .int .u32 pos, .slice A n cap] w fun e w' => e = .returned (.tuple #[.slice none 0 0, .int .i64 2]) ∧ Below w.heap.size w w' := by
  have hc := cnt_bounds n hn
  have h' : ¬ (4294967296 : Int) < pos + (cntOf n : Int) := by omega
  obtain ⟨i0, hi, hz0, hz1, hz2⟩ := info_parts info_blk
  generalize hk : cntOf n = c at *
  have HX := Lib.hid hx
  have HK := Lib.hid hk
  clear hk h hx
  go_enter Try.func15, Try.ntmps15
  go_wp2_with fail
  refine (sectors_any n w (by omega)).mono ?_
  rintro e w' ⟨rfl, rfl⟩
  rw [HK.out]
  go_wp2_with (refine wpList_make_secs _ _ rfl rfl _ _ c rfl rfl rfl rfl (by omega) ?_)
  generalize hw1 : w.alloc _ = w1
  have HB1 := Lib.hid (show Below w.heap.size w w1 by rw [← hw1]; exact (Below.refl _ _).alloc (Nat.le_refl _) _)
  clear hw1
  go_loopw [28] (fun i wr => i = .int .i64 0 ∧ wr = w1) (fun i _ => 0)
  case atStart => exact ⟨rfl, rfl⟩
  case round =>
    obtain ⟨rfl, rfl⟩ := hrel
    have hc0 : (0 : Int) < c := by omega
    obtain ⟨to, hto⟩ : ∃ to : Nat, to = min 48 n := ⟨_, rfl⟩
    obtain ⟨A', c', hcut, hrow, hnil', hc'⟩ := cut_rowAt (HX.out.below HB1.out hS) hnil hcap 0 to (by omega) (by omega) 0 (to : Int) rfl rfl to (by omega)
    have HTO := Lib.hid hto
    clear hrow hnil' hc' h' hto
    by_cases hmin : 48 ≤ n
    · have ht2 : to = 48 := by have := HTO.out; omega
      subst ht2
      have hm2 : (48 : Int) ≤ n := by omega
      go_wp2_with fail
      refine (pack_zero pos _ _ _ _).mono ?_
      rintro e w2 ⟨rfl, hb⟩
      have HB2 := Lib.hid (HB1.out.trans (hb.mono HB1.out.size))
      clear hb
      go_wp2_with (first
        | (refine wpList_alloc_blk rfl rfl ?_)
        | (refine wpList_store_new (.tmp 13) (.tmp 49) rfl rfl w2 (noughts 64) rfl rfl (noughts 64) rfl (noughts_length 64) (noughts_length 64) ?_))
      go_ret2
      exact ⟨rfl, HB2.out.alloc HB2.out.size _⟩
    · have ht2 : to = n := by have := HTO.out; omega
      subst ht2
      have hm2 : (to : Int) < 48 := by omega
      go_wp2_with fail
      refine (pack_zero pos _ _ _ _).mono ?_
      rintro e w2 ⟨rfl, hb⟩
      have HB2 := Lib.hid (HB1.out.trans (hb.mono HB1.out.size))
      clear hb
      go_wp2_with (first
        | (refine wpList_alloc_blk rfl rfl ?_)
        | (refine wpList_store_new (.tmp 13) (.tmp 49) rfl rfl w2 (noughts 64) rfl rfl (noughts 64) rfl (noughts_length 64) (noughts_length 64) ?_))
      go_ret2
      exact ⟨rfl, HB2.out.alloc HB2.out.size _⟩

end Go.Proofs.Ytikeiloeeklkeaa
