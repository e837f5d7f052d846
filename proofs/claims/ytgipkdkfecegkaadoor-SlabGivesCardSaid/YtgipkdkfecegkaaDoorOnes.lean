/- How many bits are set: math/bits.OnesCount32. -/
import Derived.Test.YtgipkdkfecegkaaDoorPc1
import Derived.Shelf.Spec.TrailingZeros
namespace Go.Proofs.YtgipkdkfecegkaaDoor
open Go.RowKit Go.Shelf
attribute [local go_sem] Oper.semAt_some
set_option linter.unusedVariables false
set_option linter.unusedSimpArgs false
def tab8 : ByteArray := { data := (([0, 1, 1, 2, 1, 2, 2, 3, 1, 2, 2, 3, 2, 3, 3, 4, 1, 2, 2, 3, 2, 3, 3, 4, 2, 3, 3, 4, 3, 4, 4, 5, 1, 2, 2, 3, 2, 3, 3, 4, 2, 3, 3, 4, 3, 4, 4, 5, 2, 3, 3, 4, 3, 4, 4, 5, 3, 4, 4, 5, 4, 5, 5, 6].append [1, 2, 2, 3, 2, 3, 3, 4, 2, 3, 3, 4, 3, 4, 4, 5, 2, 3, 3, 4, 3, 4, 4, 5, 3, 4, 4, 5, 4, 5, 5, 6, 2, 3, 3, 4, 3, 4, 4, 5, 3, 4, 4, 5, 4, 5, 5, 6, 3, 4, 4, 5, 4, 5, 5, 6, 4, 5, 5, 6, 5, 6, 6, 7]).append ([1, 2, 2, 3, 2, 3, 3, 4, 2, 3, 3, 4, 3, 4, 4, 5, 2, 3, 3, 4, 3, 4, 4, 5, 3, 4, 4, 5, 4, 5, 5, 6, 2, 3, 3, 4, 3, 4, 4, 5, 3, 4, 4, 5, 4, 5, 5, 6, 3, 4, 4, 5, 4, 5, 5, 6, 4, 5, 5, 6, 5, 6, 6, 7].append [2, 3, 3, 4, 3, 4, 4, 5, 3, 4, 4, 5, 4, 5, 5, 6, 3, 4, 4, 5, 4, 5, 5, 6, 4, 5, 5, 6, 5, 6, 6, 7, 3, 4, 4, 5, 4, 5, 5, 6, 4, 5, 5, 6, 5, 6, 6, 7, 4, 5, 5, 6, 5, 6, 6, 7, 5, 6, 6, 7, 6, 7, 7, 8])).toArray }
theorem tab8_size : tab8.size = 256 := by decide +kernel
theorem tab8_get : ∀ i : Fin 256, (tab8.data.getD i 0).toNat = pop i := by decide +kernel
def cnt (n : Nat) (f : Nat → Bool) : Nat := ((List.range n).filter f).length
theorem cnt_le (n : Nat) (f : Nat → Bool) : cnt n f ≤ n := by
  have := List.length_filter_le f (List.range n)
  simpa [cnt] using this
theorem cnt_add (n m : Nat) (f : Nat → Bool) : cnt (n + m) f = cnt n f + cnt m (fun i => f (n + i)) := by
  unfold cnt
  rw [List.range_add, List.filter_append, List.length_append, List.filter_map, List.length_map]
  rfl
theorem cnt_congr {n : Nat} {f h : Nat → Bool} (e : ∀ i, i < n → f i = h i) : cnt n f = cnt n h := by
  unfold cnt
  congr 1
  exact List.filter_congr fun i hi => e i (List.mem_range.1 hi)
theorem cnt_none {n : Nat} {f : Nat → Bool} (e : ∀ i, i < n → f i = false) : cnt n f = 0 := by
  unfold cnt
  rw [List.length_eq_zero_iff, List.filter_eq_nil_iff]
  exact fun i hi => by rw [e i (List.mem_range.1 hi)]; decide
theorem pop_byte {a : Nat} (h : a < 256) : pop a = cnt 8 a.testBit := by
  show cnt (8 + 24) a.testBit = _
  rw [cnt_add, cnt_none (f := fun i => a.testBit (8 + i)) (fun i _ => tb_high (c := 8) (by omega) (by omega))]
  rfl
theorem byte_tb (g k i : Nat) (hi : i < 8) : (g / 2 ^ k % 256).testBit i = g.testBit (k + i) := by
  rw [show (256 : Nat) = 2 ^ 8 from rfl, Nat.testBit_mod_two_pow, ← Nat.shiftRight_eq_div_pow, Nat.testBit_shiftRight]
  simp [hi]
theorem pop_bytes (g : Nat) (hg : g < 4294967296) : pop g = pop (g / 16777216) + pop (g / 65536 % 256) + pop (g / 256 % 256) + pop (g % 256) := by
  have e3 : pop (g / 16777216) = cnt 8 (fun i => g.testBit (24 + i)) := by
    rw [pop_byte (by omega)]
    exact cnt_congr fun i hi => by
      rw [← byte_tb g 24 i hi, Nat.mod_eq_of_lt (by omega)]
  have e2 : pop (g / 65536 % 256) = cnt 8 (fun i => g.testBit (16 + i)) := by
    rw [pop_byte (by omega)]
    exact cnt_congr fun i hi => byte_tb g 16 i hi
  have e1 : pop (g / 256 % 256) = cnt 8 (fun i => g.testBit (8 + i)) := by
    rw [pop_byte (by omega)]
    exact cnt_congr fun i hi => byte_tb g 8 i hi
  have e0 : pop (g % 256) = cnt 8 g.testBit := by
    rw [pop_byte (by omega)]
    exact cnt_congr fun i hi => by
      have := byte_tb g 0 i hi
      simpa using this
  rw [e3, e2, e1, e0]
  have h1 : pop g = cnt (8 + (8 + (8 + 8))) g.testBit := rfl
  rw [h1, cnt_add, cnt_add, cnt_add]
  have c1 : cnt 8 (fun i => (fun i => (fun i => g.testBit (8 + i)) (8 + i)) i) = cnt 8 (fun i => g.testBit (16 + i)) := cnt_congr fun i _ => by show g.testBit (8 + (8 + i)) = _; congr 1; omega
  have c2 : cnt 8 (fun i => (fun i => (fun i => g.testBit (8 + i)) (8 + i)) (8 + i)) = cnt 8 (fun i => g.testBit (24 + i)) := cnt_congr fun i _ => by show g.testBit (8 + (8 + (8 + i))) = _; congr 1; omega
  simp only [] at c1 c2 ⊢
  omega
theorem and_255 (x : Nat) (h : x < 4294967296) : bits .and .u32 (x : Int) 255 = ((x % 256 : Nat) : Int) := by
  have := bits_and_u32_nat x 255 h (by omega)
  rw [show (((255 : Nat)) : Int) = 255 from rfl] at this
  rw [this, show (255 : Nat) = 2 ^ 8 - 1 from rfl, Nat.and_two_pow_sub_one_eq_mod]
theorem index_tab8 (a : Nat) (h : a < 256) (w : World) : (Instr.index 9 (.string tab8) (.int .u32 (a : Nat))).run Tryd.prog w = .ok (.int .u8 (pop a : Nat)) w := by
  rw [run_index_string w 9 tab8 .u32 a Tryd.underlying9]
  have hs := tab8_size
  rw [dif_pos (by omega)]
  have hg := tab8_get ⟨a, h⟩
  have e : (tab8[(a : Int).toNat]'(by omega)).toNat = pop a := by
    rw [← hg]
    have hd : a < tab8.data.size := by have : tab8.data.size = tab8.size := rfl; omega
    simp only [Int.toNat_natCast]
    show (tab8.data[a]'hd).toNat = _
    rw [Array.getD, dif_pos hd]
    rfl
  rw [e]
set_option maxRecDepth 100000 in
theorem ones_any (g : Nat) (hg : g < 4294967296) (w : World) : Calls Tryd.prog 43 #[.int .u32 g] w fun e w' => e = .returned (.int .i64 (pop g : Nat)) ∧ Below w.heap.size w w' := by
  have i1 := index_tab8 (g / 16777216) (by omega)
  have i2 := index_tab8 (g / 65536 % 256) (by omega)
  have i3 := index_tab8 (g / 256 % 256) (by omega)
  have i4 := index_tab8 (g % 256) (by omega)
  have b2 := and_255 (g / 65536) (by omega)
  have b3 := and_255 (g / 256) (by omega)
  have b4 := and_255 g hg
  have l1 : pop (g / 16777216) ≤ 8 := by rw [pop_byte (by omega)]; exact cnt_le _ _
  have l2 : pop (g / 65536 % 256) ≤ 8 := by rw [pop_byte (by omega)]; exact cnt_le _ _
  have l3 : pop (g / 256 % 256) ≤ 8 := by rw [pop_byte (by omega)]; exact cnt_le _ _
  have l4 : pop (g % 256) ≤ 8 := by rw [pop_byte (by omega)]; exact cnt_le _ _
  rw [pop_bytes g hg]
  rw [show ((g / 65536 : Nat) : Int) = (g : Int) / 65536 from rfl] at b2
  rw [show ((g / 256 : Nat) : Int) = (g : Int) / 256 from rfl] at b3
  obtain ⟨a1, ha1⟩ : ∃ a, g / 16777216 = a := ⟨_, rfl⟩
  obtain ⟨a2, ha2⟩ : ∃ a, g / 65536 % 256 = a := ⟨_, rfl⟩
  obtain ⟨a3, ha3⟩ : ∃ a, g / 256 % 256 = a := ⟨_, rfl⟩
  obtain ⟨a4, ha4⟩ : ∃ a, g % 256 = a := ⟨_, rfl⟩
  have b1 : (g : Int) / 16777216 = (a1 : Nat) := by rw [← ha1]; rfl
  rw [ha1] at i1 l1 ⊢
  rw [ha2] at i2 b2 l2 ⊢
  rw [ha3] at i3 b3 l3 ⊢
  rw [ha4] at i4 b4 l4 ⊢
  obtain ⟨T, hT⟩ : ∃ T, T = tab8 := ⟨_, rfl⟩
  rw [← hT] at i1 i2 i3 i4
  obtain ⟨p1, hp1⟩ : ∃ p, pop a1 = p := ⟨_, rfl⟩
  obtain ⟨p2, hp2⟩ : ∃ p, pop a2 = p := ⟨_, rfl⟩
  obtain ⟨p3, hp3⟩ : ∃ p, pop a3 = p := ⟨_, rfl⟩
  obtain ⟨p4, hp4⟩ : ∃ p, pop a4 = p := ⟨_, rfl⟩
  rw [hp1] at i1 l1 ⊢
  rw [hp2] at i2 l2 ⊢
  rw [hp3] at i3 l3 ⊢
  rw [hp4] at i4 l4 ⊢
  clear ha1 ha2 ha3 ha4 hp1 hp2 hp3 hp4
  go_enter Tryd.func43, Tryd.ntmps43
  go_wp2_with fail
  unfold tab8 at hT
  rw [← hT]
  clear hT
  go_quiet (fail)
  go_wp2
  go_ret
  exact ⟨rfl, below_drewN (Below.refl _ w) nq⟩
end Go.Proofs.YtgipkdkfecegkaaDoor
