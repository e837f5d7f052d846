/- What the laws of layer 4 call besides: lists of bits that are made, nil filters. -/
import Derived.Test.YteblfcbfgkbanaaLaw
namespace Go.Proofs.Yteblfcbfgkbanaa
open Go.RowKit
set_option linter.unusedVariables false

theorem make_bools (k : Nat) (m : Int) (hm : m = (k : Int)) (hk : k ≤ 65536) (u : World) :
    (Instr.makeSlice 29 (.int .i64 m) (.int .i64 m)).run Try.prog u = .ok (.slice (some ⟨u.heap.size, 0, none⟩) k k) (u.alloc (.cells (madeCells #[.bool false] k) 4)) := by
  subst hm
  exact run_make_row' (P := Try.prog) 29 4 (.bool false) 1 Try.underlying29 info_bool rfl .i64 .i64 k (by omega) (by omega) u

theorem made_bits (w : World) (s : Nat) : RowB (w.alloc (.cells (madeCells #[.bool false] (8 * s)) 4)) (· = w.heap.size) (some ⟨w.heap.size, 0, none⟩) (8 * s) (bitsOf (List.replicate s 0)) := by
  have h := (Arr.made (mk := Value.bool) w false (8 * s) 4).row false (S := (· = w.heap.size)) rfl
  rw [List.length_replicate] at h
  rw [bitsOf_zeros]
  exact h

/-- What Add makes of a filter's bytes and of its bits. -/
def addF (xs : List Int) (hh : Int) : List Int := setBits xs (nums4 hh xs)
theorem addF_length (xs : List Int) (hh : Int) : (addF xs hh).length = xs.length := setBits_length _ _
theorem addF_bits (xs : List Int) (hh : Int) (h : 1 ≤ xs.length) : bitsOf (addF xs hh) = markAll (bitsOf xs) (probes hh ((8 * xs.length : Nat) : Int) 4) := bitsOf_setBits _ _ (nums4_mem hh xs h)

theorem allSet_iff (l : List Bool) (ps : List Int) : allSet l ps = true ↔ ∀ p ∈ ps, l.getD p.toNat false = true := by
  unfold allSet
  rw [List.all_eq_true]
theorem markAll_mono (l : List Bool) (ps : List Int) (i : Nat) (hi : i < l.length) (h : l.getD i false = true) : (markAll l ps).getD i false = true := by
  rw [markAll_get _ _ _ hi, h]; rfl
theorem allSet_markAll (l : List Bool) (ps : List Int) (hp : ∀ p ∈ ps, 0 ≤ p ∧ p < l.length) : allSet (markAll l ps) ps = true := by
  rw [allSet_iff]
  intro p hpm
  have := hp p hpm
  rw [markAll_get _ _ _ (by omega), Bool.or_eq_true]
  right
  rw [List.any_eq_true]
  exact ⟨p, hpm, by simp⟩
theorem nums4_addF (xs : List Int) (hh g : Int) : nums4 g (addF xs hh) = nums4 g xs := by unfold nums4; rw [addF_length]
theorem may_self (xs : List Int) (hh : Int) (h : 1 ≤ xs.length) : allSet (bitsOf (addF xs hh)) (nums4 hh (addF xs hh)) = true := by
  rw [nums4_addF, addF_bits _ _ h]
  exact allSet_markAll _ _ (fun p hp => by have := nums4_mem hh xs h p hp; rw [bitsOf_length]; omega)

theorem may_yes (w : World) (f h : Nat) (xs : List Int) (hh : Int) (H : Filt w f h xs) (h0 : 0 ≤ hh) (hy : allSet (bitsOf xs) (nums4 hh xs) = true) :
    Calls Try.prog 15 #[.pointer (some ⟨f, 0, none⟩), .int .u64 hh] w fun e w' => e = .returned (.bool true) ∧ Below w.heap.size w w' := by
  rw [← hy]
  exact may_any w f h xs hh H h0
theorem set_count (w : World) (f h : Nat) (xs : List Int) (H : Filt w f h xs) (n : Int) (hn : n = (((bitsOf xs).count true : Nat) : Int)) :
    Calls Try.prog 27 #[.pointer (some ⟨f, 0, none⟩)] w fun e w' => e = .returned (.int .i64 n) ∧ w = w' := by
  rw [hn, ← popAll_count]
  exact set_any w f h xs H

theorem nil_add (hh : Int) (w : World) : Calls Try.prog 17 #[.pointer none, .int .u64 hh] w fun e w' => e = .returned (.int .i64 1) ∧ w = w' := by
  go_enter Try.func17, Try.ntmps17
  go_wp2
  go_ret
  exact ⟨rfl, rfl⟩
theorem nil_may (hh : Int) (w : World) : Calls Try.prog 15 #[.pointer none, .int .u64 hh] w fun e w' => e = .returned (.bool false) ∧ w = w' := by
  go_enter Try.func15, Try.ntmps15
  go_wp2
  go_step3
  go_wp2
  rw [Exit.noGoto_ret]
  go_ret
  exact ⟨rfl, rfl⟩
theorem nil_join (p : Option Addr) (w : World) : Calls Try.prog 20 #[.pointer none, .pointer p] w fun e w' => e = .returned (.int .i64 1) ∧ w = w' := by
  go_enter Try.func20, Try.ntmps20
  go_wp2
  go_ret
  exact ⟨rfl, rfl⟩
theorem join_nil (f : Nat) (w : World) : Calls Try.prog 20 #[.pointer (some ⟨f, 0, none⟩), .pointer none] w fun e w' => e = .returned (.int .i64 1) ∧ w = w' := by
  go_enter Try.func20, Try.ntmps20
  go_wp2
  go_ret
  exact ⟨rfl, rfl⟩
theorem nil_bits (w : World) : Calls Try.prog 26 #[.pointer none] w fun e w' => e = .returned (.int .i64 0) ∧ w = w' := by
  go_enter Try.func26, Try.ntmps26
  go_wp2
  go_ret
  exact ⟨rfl, rfl⟩
theorem nil_set (w : World) : Calls Try.prog 27 #[.pointer none] w fun e w' => e = .returned (.int .i64 0) ∧ w = w' := by
  go_enter Try.func27, Try.ntmps27
  go_wp2
  go_ret
  exact ⟨rfl, rfl⟩
theorem nil_clear (w : World) : Calls Try.prog 14 #[.pointer none] w fun e w' => e = .returned (.int .i64 1) ∧ w = w' := by
  go_enter Try.func14, Try.ntmps14
  go_wp2
  go_ret
  exact ⟨rfl, rfl⟩
theorem nil_bytes (w : World) : Calls Try.prog 29 #[.pointer none] w fun e w' => e = .returned (.slice none 0 0) ∧ w = w' := by
  go_enter Try.func29, Try.ntmps29
  go_wp2
  go_ret
  exact ⟨rfl, rfl⟩

/-! Numbers that come in, and a filter beside its list of bits. -/

def Nums64 (xs : List Int) : Prop := ∀ j, 0 ≤ xs.getD j 0 ∧ xs.getD j 0 ≤ 18446744073709551615
theorem Nums64.take {xs : List Int} (h : Nums64 xs) (n : Nat) : Nums64 (xs.take n) := by
  intro j
  by_cases hj : j < n
  · have := h j
    simpa [List.getD, List.getElem?_take, hj] using this
  · simp [List.getD, List.getElem?_take, hj]
theorem nums64_of {zs : List Int} (h : ∀ n ∈ zs, (Lit.int .u64 n).wf = true) : Nums64 zs := by
  intro j
  by_cases hj : j < zs.length
  · have hm : zs.getD j 0 ∈ zs := by simp [List.getD, List.getElem?_eq_getElem hj]
    have := h _ hm
    simpa [Lit.wf, IntKind.min, IntKind.max, IntKind.signed, IntKind.bits] using this
  · simp [List.getD, List.getElem?_eq_none (Nat.le_of_not_lt hj)]

/-- What an argument that is a slice of numbers of 64 bits gives. -/
theorem row64_of {w : World} {a : Option Addr} {len cap : Nat} {zs : List Int}
    (h : (a = none ∧ len = 0 ∧ cap = 0 ∧ zs = []) ∨
      ∃ x : Addr, a = some x ∧ len ≤ cap ∧ cap ≤ maxLen ∧ zs.length = cap ∧ (∀ i, i < zs.length → w.cell? (x.add i) = some (.int .u64 (zs.getD i 0))) ∧ ∀ n ∈ zs, (Lit.int .u64 n).wf = true) :
    RowI .u64 w (· < w.heap.size) a len (zs.take len) ∧ Nums64 (zs.take len) ∧ len ≤ cap ∧ len ≤ 9223372036854775807 ∧ (a = none → cap = 0) := by
  refine ⟨(row_of h (Nat.le_refl _)).toG, ?_, ?_, ?_, ?_⟩
  · rcases h with ⟨_, _, _, rfl⟩ | ⟨_, _, _, _, _, _, hw⟩
    · intro j; simp [List.getD]
    · exact (nums64_of hw).take _
  · rcases h with ⟨_, rfl, rfl, _⟩ | ⟨_, _, hl, _⟩
    · omega
    · exact hl
  · rcases h with ⟨_, rfl, _, _⟩ | ⟨_, _, hl, hm, _⟩
    · omega
    · unfold maxLen at hm; omega
  · rcases h with ⟨_, _, rfl, _⟩ | ⟨_, rfl, _⟩
    · exact fun _ => rfl
    · intro h; cases h

/-- The document's list of bits: 8 s of them, those of the bytes xs, in blocks of S. -/
def BitRow (w : World) (S : Nat → Prop) (s : Nat) (xs : List Int) (v : Value) : Prop :=
  ∃ A c, v = .slice A (8 * s) c ∧ (A = none → c = 0) ∧ RowB w S A (8 * s) (bitsOf xs)

theorem may_is (w : World) (f h : Nat) (xs : List Int) (hh : Int) (H : Filt w f h xs) (h0 : 0 ≤ hh) (b : Bool) (hb : allSet (bitsOf xs) (nums4 hh xs) = b) :
    Calls Try.prog 15 #[.pointer (some ⟨f, 0, none⟩), .int .u64 hh] w fun e w' => e = .returned (.bool b) ∧ Below w.heap.size w w' := by
  rw [← hb]
  exact may_any w f h xs hh H h0
theorem ref_may_is (A : Option Addr) (s c : Nat) (xs : List Int) (S : Nat → Prop) (hh : Int) (w : World) (hs : xs.length = s) (hl : RowB w S A (8 * s) (bitsOf xs)) (hS : ∀ b, S b → b < w.heap.size) (m1 : 1 ≤ s) (m2 : s ≤ 8192) (h0 : 0 ≤ hh) (h1 : hh ≤ 18446744073709551615)
    (b : Bool) (hb : allSet (bitsOf xs) (nums4 hh xs) = b) :
    Calls Try.prog 16 #[.slice A (8 * s) c, .int .u64 hh] w fun e w' => e = .returned (.bool b) ∧ Below w.heap.size w w' := by
  subst hs
  rw [← hb]
  exact ref_may A (8 * xs.length) c (bitsOf xs) S hh w hl hS (by omega) (by omega) h0 h1

/-- A list of bits of the call's own comes back. -/
def BitsTold (s : Nat) (ys : List Int) (w : World) (e : Ending) (w' : World) : Prop :=
  ∃ A c, e = .returned (.slice A (8 * s) c) ∧ (A = none → c = 0) ∧ RowB w' (fun b => w.heap.size ≤ b ∧ b < w'.heap.size) A (8 * s) (bitsOf ys) ∧ Below w.heap.size w w'

theorem own_bits {w w' : World} {e : Ending} {s : Nat} {ys : List Int} (hs : ys.length = s) (h : OwnBools (bitsOf ys) w e w') : BitsTold s ys w e w' := by
  subst hs
  obtain ⟨v, rfl, hown, hb⟩ := h
  rw [bitsOf_length] at hown
  obtain ⟨A, c, rfl, _, hn, hr⟩ := rowG_own (mk := Value.bool) false hown
  exact ⟨A, c, rfl, hn, hr.more (fun b h => ⟨h.1, h.2.1⟩), hb⟩

theorem ref_add_bits (A : Option Addr) (s c : Nat) (xs : List Int) (S : Nat → Prop) (hh : Int) (w : World) (hs : xs.length = s) (hl : RowB w S A (8 * s) (bitsOf xs)) (hS : ∀ b, S b → b < w.heap.size) (hnil : A = none → c = 0) (m1 : 1 ≤ s) (m2 : s ≤ 8192) (h0 : 0 ≤ hh) (h1 : hh ≤ 18446744073709551615) :
    Calls Try.prog 18 #[.slice A (8 * s) c, .int .u64 hh] w (BitsTold s (addF xs hh) w) := by
  subst hs
  refine (ref_add A (8 * xs.length) c (bitsOf xs) S hh w hl hS hnil (by omega) (by omega) h0 h1).mono fun e w' h => ?_
  rw [← addF_bits xs hh m1] at h
  exact own_bits (addF_length _ _) h

theorem add_told (w : World) (f h : Nat) (xs : List Int) (hh : Int) (H : Filt w f h xs) (h0 : 0 ≤ hh) :
    Calls Try.prog 17 #[.pointer (some ⟨f, 0, none⟩), .int .u64 hh] w fun e w' => e = .returned (.int .i64 0) ∧
      Filt w' f h (addF xs hh) ∧ Kept (fun b => b < w.heap.size ∧ b ≠ h) w w' := add_any w f h xs hh H h0

/-- A filter of the call's own and the document's list of its bits, side by side. -/
def Beside (w wr : World) (f g s : Nat) (v : Value) : Prop :=
  ∃ xs, xs.length = s ∧ Filt wr f g xs ∧ BitRow wr (fun b => b < wr.heap.size ∧ b ≠ g) s xs v ∧ Below w.heap.size w wr

/-- Behind Add on both sides. -/
theorem beside_add {w w0 wa wb : World} {f g s : Nat} {xs : List Int} {hh : Int} {A : Option Addr} {c : Nat} (hs : xs.length = s) (hw : Below w.heap.size w w0) (hg : w.heap.size ≤ g)
    (hf : Filt wa f g (addF xs hh)) (hk : Kept (fun b => b < w0.heap.size ∧ b ≠ g) w0 wa) (hn : A = none → c = 0) (hr : RowB wb (fun b => wa.heap.size ≤ b ∧ b < wb.heap.size) A (8 * s) (bitsOf (addF xs hh))) (hb : Below wa.heap.size wa wb) :
    Beside w wb f g s (.slice A (8 * s) c) := by
  have hgl := hf.lth
  refine ⟨addF xs hh, by rw [addF_length, hs], hf.belowAll hb, ⟨A, c, rfl, hn, hr.more (fun b h => ⟨h.2, by omega⟩)⟩, ?_⟩
  refine (hw.trans (hk.to_below (fun b h => ⟨?_, ?_⟩))).trans (hb.mono (Nat.le_trans hw.size hk.size))
  · have := hw.size; omega
  · omega

end Go.Proofs.Yteblfcbfgkbanaa
