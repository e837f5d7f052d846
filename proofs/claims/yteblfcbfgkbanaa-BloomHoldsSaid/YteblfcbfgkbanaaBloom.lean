/- Package bloom: what each of a filter's calls answers, and what becomes of memory. -/
import Derived.Test.YteblfcbfgkbanaaProbes
import Derived.Test.YteblfcbfgkbanaaBits
import Derived.Test.YteblfcbfgkbanaaPut
import Derived.Test.YteblfcbfgkbanaaNumber
import Derived.WalkMore
import Derived.Deep.LoopGhost
namespace Go.Proofs.Yteblfcbfgkbanaa
open Go.RowKit
set_option linter.unusedVariables false

/-- A filter lies in block f, its bytes xs in block h. -/
def Filt (w : World) (f h : Nat) (xs : List Int) : Prop :=
  Blk w f 56 #[.slice (some ⟨h, 0, none⟩) xs.length xs.length] ∧ ArrU w h xs ∧ f ≠ h ∧ Bytes xs ∧ 1 ≤ xs.length ∧ xs.length ≤ 8192

section
variable {w w' : World} {f h : Nat} {xs : List Int}
theorem Filt.cell0 (H : Filt w f h xs) : w.cell? ⟨f, 0, none⟩ = some (.slice (some ⟨h, 0, none⟩) xs.length xs.length) := H.1.cell 0
theorem Filt.arr (H : Filt w f h xs) : ArrU w h xs := H.2.1
theorem Filt.bytes (H : Filt w f h xs) : Bytes xs := H.2.2.2.1
theorem Filt.one (H : Filt w f h xs) : 1 ≤ xs.length := H.2.2.2.2.1
theorem Filt.most (H : Filt w f h xs) : xs.length ≤ 8192 := H.2.2.2.2.2
theorem Filt.kept {S : Nat → Prop} (H : Filt w f h xs) (hk : Kept S w w') (hf : S f) (hh : S h) : Filt w' f h xs := ⟨H.1.kept hk hf, H.2.1.kept hk hh, H.2.2⟩
theorem Filt.below {B : Nat} (H : Filt w f h xs) (hb : Below B w w') (hf : f < B) (hh : h < B) : Filt w' f h xs := ⟨H.1.below hb hf, H.2.1.below hb hh, H.2.2⟩
theorem Filt.ltf (H : Filt w f h xs) : f < w.heap.size := H.1.lt
theorem Filt.lth (H : Filt w f h xs) : h < w.heap.size := H.2.1.lt
theorem Filt.behind {w2 : World} (H : Filt w f h xs) (hb : Below w2.heap.size w2 w') (e : w2.heap = w.heap) : Filt w' f h xs := by
  have H2 : Filt w2 f h xs := ⟨(congrArg (fun z : Array Obj => z[f]?) e).trans H.1, (congrArg (fun z : Array Obj => z[h]?) e).trans H.2.1, H.2.2⟩
  exact H2.below hb H2.1.lt H2.2.1.lt
theorem Filt.belowAll (H : Filt w f h xs) (hb : Below w.heap.size w w') : Filt w' f h xs := H.below hb H.ltf H.lth
end

theorem Filt.store {w : World} {f h : Nat} {xs : List Int} (H : Filt w f h xs) (i : Nat) (y : Int) (hy : Bytes (xs.set i y)) (d : Nat) :
    Filt ((w.drewN d).setCell ⟨h, i, none⟩ (.int .u8 y)) f h (xs.set i y) := by
  have hl : (xs.set i y).length = xs.length := by simp
  refine ⟨?_, Arr.set (mk := Value.int .u8) (H.2.1 : ArrU (w.drewN d) h xs) i y, H.2.2.1, hy, by rw [hl]; exact H.one, by rw [hl]; exact H.most⟩
  rw [hl]
  exact Blk.far (H.1.drewN d) (p := ⟨h, i, none⟩) H.2.2.1 _

theorem or_orB {x y : Int} (hx : 0 ≤ x ∧ x ≤ 255) (hy : 0 ≤ y ∧ y ≤ 255) : bits .or .u8 x y = orB x y := by
  rw [u8_or _ _ hx.1 (by omega) hy.1 (by omega)]
  rfl

theorem Filt.setBit {w : World} {f h : Nat} {xs : List Int} (H : Filt w f h xs) (p : Nat) (hp : p < 8 * xs.length) (d : Nat) :
    Filt ((w.drewN d).setCell ⟨h, p / 8, none⟩ (.int .u8 (bits .or .u8 (xs.getD (p / 8) 0) (maskOf (p % 8))))) f h (setBit xs p) := by
  have hm := maskOf_bounds (p % 8)
  rw [or_orB (H.bytes _) (by omega)]
  exact H.store _ _ (setBit_bytes H.bytes p (by omega)) d

theorem new_ok (m : Int) (k : Nat) (w : World) (hm : m = 8 * (k : Int)) (k1 : 1 ≤ k) (k2 : k ≤ 8192) :
    Calls Try.prog 11 #[.int .i64 m] w fun e w' => e = .returned (.tuple #[.pointer (some ⟨w.heap.size + 1, 0, none⟩), .int .i64 0]) ∧ Filt w' (w.heap.size + 1) w.heap.size (List.replicate k 0) ∧ Below w.heap.size w w' := by
  have hmk := fun u : World => run_make_row' (P := Try.prog) 42 5 (.int .u8 0) 1 Try.underlying42 info_u8 rfl .i64 .i64 k (by omega) (by omega) u
  rw [show (k : Int) = m / 8 by omega] at hmk
  have d1 : decide (m < 8) = false := by simp; omega
  have d2 : decide (65536 < m) = false := by simp; omega
  have h0 : 0 ≤ m := by omega
  have h1 : m ≤ 65536 := by omega
  have d3 : (m % 8 != 0) = false := by simp; omega
  have HM := Lib.hid hm
  clear hm
  go_enter Try.func11, Try.ntmps11
  go_wp2
  go_ret2
  refine ⟨by simp, ⟨?_, ?_, by omega, ?_, by simp; omega, by simp; omega⟩, ((Below.refl _ _).alloc (Nat.le_refl _) _).alloc (by simp) _⟩
  · have := Blk.new (w.alloc (.cells (madeCells #[.int .u8 0] k) 5)) 56 #[.slice (some ⟨w.heap.size, 0, none⟩) k k]
    simpa using this
  · exact (Arr.made (mk := Value.int .u8) w 0 k 5).alloc _
  · intro j
    by_cases hj : j < k <;> simp [List.getD, hj]

theorem new_bad (m : Int) (w : World) (h : m < 8 ∨ 65536 < m ∨ m % 8 ≠ 0) :
    Calls Try.prog 11 #[.int .i64 m] w fun e w' => e = .returned (.tuple #[.pointer none, .int .i64 2]) ∧ w = w' := by
  by_cases c1 : m < 8
  · go_enter Try.func11, Try.ntmps11
    go_wp2
    go_ret2
    exact ⟨rfl, rfl⟩
  by_cases c2 : 65536 < m
  · go_enter Try.func11, Try.ntmps11
    go_wp2
    go_ret2
    exact ⟨rfl, rfl⟩
  have c3 : m % 8 ≠ 0 := by omega
  have h0 : 0 ≤ m := by omega
  have h1 : m ≤ 65536 := by omega
  go_enter Try.func11, Try.ntmps11
  go_wp2
  go_ret2
  exact ⟨rfl, rfl⟩

theorem bits_any (w : World) (f h : Nat) (xs : List Int) (H : Filt w f h xs) :
    Calls Try.prog 26 #[.pointer (some ⟨f, 0, none⟩)] w fun e w' => e = .returned (.int .i64 ((8 * xs.length : Nat) : Int)) ∧ w = w' := by
  have c0 := H.cell0
  have hl := H.most
  clear H
  go_enter Try.func26, Try.ntmps26
  go_wp2
  go_ret
  exact ⟨ret_int (by omega), rfl⟩

theorem mask_eq : ∀ r : Nat, r < 8 → (128 : Int) / 2 ^ r = maskOf r := by
  intro r hr
  match r, hr with
  | 0, _ => rfl
  | 1, _ => rfl
  | 2, _ => rfl
  | 3, _ => rfl
  | 4, _ => rfl
  | 5, _ => rfl
  | 6, _ => rfl
  | 7, _ => rfl

theorem place_any (p : Nat) (w : World) (h1 : p < 65536) :
    Calls Try.prog 31 #[.int .i64 p] w fun e w' => e = .returned (.tuple #[.int .i64 ((p / 8 : Nat) : Int), .int .u8 (maskOf (p % 8))]) ∧ ∃ k, w.drewN k = w' := by
  go_enter Try.func31, Try.ntmps31
  go_wp2
  go_quiet (fail)
  go_wp2
  go_ret2
  refine ⟨?_, _, rfl⟩
  have e1 : ((p : Int) % 8).toNat = p % 8 := by omega
  simp [e1, mask_eq (p % 8) (by omega)]

/-- The numbers of a hash's bits. -/
def nums4 (hh : Int) (xs : List Int) : List Int := probes hh ((8 * xs.length : Nat) : Int) 4
theorem nums4_length (hh : Int) (xs : List Int) : (nums4 hh xs).length = 4 := probes_len _ _ _
theorem nums4_get (hh : Int) (xs : List Int) (hx : 1 ≤ xs.length) (k : Nat) (hk : k < 4) : ∃ p : Nat, (nums4 hh xs).getD k 0 = (p : Int) ∧ p < 8 * xs.length := by
  have hb := probe_bounds hh ((8 * xs.length : Nat) : Int) k (by omega)
  refine ⟨(probe hh ((8 * xs.length : Nat) : Int) k).toNat, ?_, by omega⟩
  unfold nums4 probes
  generalize ((8 * xs.length : Nat) : Int) = m at *
  simp [List.getD, List.getElem?_range hk]
  omega
theorem nums4_mem (hh : Int) (xs : List Int) (hx : 1 ≤ xs.length) : ∀ p ∈ nums4 hh xs, 0 ≤ p ∧ p < 8 * xs.length := by
  intro p hp
  obtain ⟨i, hi, rfl⟩ := List.mem_map.1 hp
  have hb := probe_bounds hh ((8 * xs.length : Nat) : Int) i (by omega)
  omega

theorem probes_int (h m x : Int) (n : Nat) (w : World) (hx : x = n) (h0 : 0 ≤ h) (m1 : 1 ≤ m) (m2 : m ≤ 16777216) (n1 : 1 ≤ n) (n2 : n ≤ 16) :
    Calls Try.prog 41 #[.int .u64 h, .int .i64 m, .int .i64 x] w fun e w' => e = .returned (.slice (some ⟨w.heap.size, 0, none⟩) n n) ∧
      RowI .i64 w' (· = w.heap.size) (some ⟨w.heap.size, 0, none⟩) n (probes h m n) ∧ Below w.heap.size w w' ∧ w.heap.size < w'.heap.size := by
  subst hx
  refine (probes_good h m n w h0 m1 m2 n1 n2).mono ?_
  rintro e w' ⟨rfl, hr, hb⟩
  refine ⟨rfl, ⟨by simp [probes], fun _ => ⟨_, 0, rfl, rfl, fun j hj => ?_⟩⟩, hb, hr.lt⟩
  rw [Nat.zero_add, hr.cell hj]
  simp [probes, List.getD, List.getElem?_range hj]

theorem numbers_any (w : World) (f h : Nat) (xs : List Int) (hh : Int) (H : Filt w f h xs) (h0 : 0 ≤ hh) :
    Calls Try.prog 30 #[.pointer (some ⟨f, 0, none⟩), .int .u64 hh] w fun e w' => e = .returned (.slice (some ⟨w.heap.size, 0, none⟩) 4 4) ∧
      RowI .i64 w' (· = w.heap.size) (some ⟨w.heap.size, 0, none⟩) 4 (nums4 hh xs) ∧ Below w.heap.size w w' ∧ w.heap.size < w'.heap.size := by
  have HF := Lib.hid H
  have h1 := H.one
  have h2 := H.most
  clear H
  go_enter Try.func30, Try.ntmps30
  go_wp2_with fail
  refine (bits_any _ f h xs HF.out).mono ?_
  rintro e w' ⟨rfl, rfl⟩
  go_wp2_with (go_at_call 41; refine (probes_int hh _ _ 4 _ rfl h0 (by omega) (by omega) (by omega) (by omega)).mono ?_; rintro e w' ⟨rfl, hr, hb⟩; have HR := Lib.hid hr; have HB := Lib.hid hb; clear hr hb)
  go_ret
  exact ⟨rfl, HR.out, HB.out⟩

set_option maxHeartbeats 400000 in
theorem add_any (w : World) (f h : Nat) (xs : List Int) (hh : Int) (H : Filt w f h xs) (h0 : 0 ≤ hh) :
    Calls Try.prog 17 #[.pointer (some ⟨f, 0, none⟩), .int .u64 hh] w fun e w' => e = .returned (.int .i64 0) ∧
      Filt w' f h (setBits xs (nums4 hh xs)) ∧ Kept (fun b => b < w.heap.size ∧ b ≠ h) w w' := by
  have HF := Lib.hid H
  have h1 := H.one
  have h2 := H.most
  clear H
  go_enter Try.func17, Try.ntmps17
  go_wp2_with (go_at_call 30; refine (numbers_any _ f h xs hh HF.out h0).mono ?_; rintro e w1 ⟨rfl, hr, hb, hlt⟩; have HR := Lib.hid hr; have HB := Lib.hid hb; have HLT := Lib.hid hlt; clear hr hb hlt)
  have HF1 := Lib.hid (HF.out.belowAll HB.out)
  go_loopw [15] (fun i wr => ∃ k : Nat, k ≤ 4 ∧ i = .int .i64 k ∧ Filt wr f h (setBits xs ((nums4 hh xs).take k)) ∧ Kept (fun b => b < w1.heap.size ∧ b ≠ h) w1 wr) (fun i _ => 4 - (intOf i).toNat)
  case atStart => exact ⟨0, by omega, rfl, HF1.out, Kept.refl _ _⟩
  case round =>
    obtain ⟨k, hk, rfl, hfil, hkept⟩ := hrel
    by_cases hlt : k < 4
    · obtain ⟨p, hp, hp8⟩ := nums4_get hh xs h1 k hlt
      have hrow := HR.out.kept hkept (fun b e => by subst e; exact ⟨HLT.out, fun e => by have := HF.out.lth; omega⟩)
      obtain ⟨_, off, e0, rfl, hc⟩ := hrow.2 (by omega)
      injection e0 with e0
      injection e0 with _ e1
      subst e1
      have hcell := hc k hlt
      rw [hp, Nat.zero_add] at hcell
      have hlen : (setBits xs ((nums4 hh xs).take k)).length = xs.length := setBits_length _ _
      have hc0 := hfil.cell0
      have hch := hfil.arr.cell (i := p / 8) (by rw [hlen]; omega) 0
      have hfr := hfil.arr.frozen (p / 8)
      have hby := hfil.bytes (p / 8)
      rw [hlen] at hc0
      have HFI := Lib.hid hfil
      have HK := Lib.hid hkept
      have HP := Lib.hid hp
      have HLEN := Lib.hid hlen
      generalize hv : (setBits xs ((nums4 hh xs).take k)).getD (p / 8) 0 = v at hch hby
      have HV := Lib.hid hv
      clear hc hfil hkept hp hlen hv hrow
      go_wp2_with (go_at_call 31; refine (place_any p _ (by omega)).mono ?_; rintro e w' ⟨rfl, d, rfl⟩)
      go_roundw
      case rel =>
        refine ⟨k + 1, by omega, by go_num, ?_, ?_⟩
        · rw [take_snoc _ k (by rw [nums4_length]; exact hlt), setBits_snoc, HP.out, Int.toNat_natCast, ← HV.out]
          exact HFI.out.setBit p (by rw [HLEN.out]; exact hp8) d
        · exact (HK.out.drewN d).setCell (fun h => h.2 rfl) _
      case measure => (simp [intOf] <;> omega)
    · go_wp2
      go_ret
      obtain rfl : k = 4 := by omega
      rw [List.take_of_length_le (by rw [nums4_length]; omega)] at hfil
      refine ⟨rfl, hfil, (Kept.of_below HB.out (fun b h => h.1)).trans hkept (fun b h => ⟨Nat.lt_of_lt_of_le h.1 HB.out.size, h.2⟩)⟩

set_option maxHeartbeats 400000 in
theorem may_any (w : World) (f h : Nat) (xs : List Int) (hh : Int) (H : Filt w f h xs) (h0 : 0 ≤ hh) :
    Calls Try.prog 15 #[.pointer (some ⟨f, 0, none⟩), .int .u64 hh] w fun e w' => e = .returned (.bool (allSet (bitsOf xs) (nums4 hh xs))) ∧ Below w.heap.size w w' := by
  have HF := Lib.hid H
  have h1 := H.one
  have h2 := H.most
  clear H
  go_enter Try.func15, Try.ntmps15
  go_wp2
  go_step3
  go_wp2
  go_step3
  go_wp2_with (go_at_call 30; refine (numbers_any _ f h xs hh HF.out h0).mono ?_; rintro e w1 ⟨rfl, hr, hb, hlt⟩; have HR := Lib.hid hr; have HB := Lib.hid hb; have HLT := Lib.hid hlt; clear hr hb hlt)
  have HF1 := Lib.hid (HF.out.belowAll HB.out)
  go_loopw [5, 16] (fun m i wr => ∃ k d : Nat, k ≤ 4 ∧ i = .int .i64 k ∧ m = .bool true ∧ wr = w1.drewN d ∧ allSet (bitsOf xs) ((nums4 hh xs).take k) = true) (fun _ i _ => 4 - (intOf i).toNat)
  case atStart => exact ⟨0, 0, by omega, rfl, rfl, rfl, rfl⟩
  case round =>
    obtain ⟨k, d, hk, rfl, rfl, rfl, hall⟩ := hrel
    by_cases hlt : k < 4
    · obtain ⟨p, hp, hp8⟩ := nums4_get hh xs h1 k hlt
      obtain ⟨_, off, e0, rfl, hc⟩ := HR.out.2 (by omega)
      injection e0 with e0
      injection e0 with _ e1
      subst e1
      have hcell := hc k hlt
      rw [hp, Nat.zero_add] at hcell
      have hc0 := HF1.out.cell0
      have hch := HF1.out.arr.cell (i := p / 8) (by omega) 0
      have hby := HF1.out.bytes (p / 8)
      have hbit := bitsOf_get xs p hp8
      have HP := Lib.hid hp
      have HALL := Lib.hid hall
      generalize hv : xs.getD (p / 8) 0 = v at hch hby hbit
      have hand := and_bit hby (p % 8) (by omega)
      clear hc hp hv hall
      by_cases hb : bitOf v (p % 8) = true
      · rw [hb] at hand hbit
        have hand' : (bits .and .u8 v (maskOf (p % 8)) == 0) = false := hand
        have HBIT := Lib.hid hbit
        clear hand hb hbit
        go_wp2_with (go_at_call 31; refine (place_any p _ (by omega)).mono ?_; rintro e w' ⟨rfl, d, rfl⟩)
        go_roundw
        case rel => exact ⟨k + 1, _, by omega, by go_num, rfl, rfl, allSet_snoc _ _ k (by rw [nums4_length]; exact hlt) HALL.out (by rw [HP.out, Int.toNat_natCast]; exact HBIT.out)⟩
        case measure => (simp [intOf] <;> omega)
      · rw [Bool.not_eq_true] at hb
        rw [hb] at hand hbit
        have hand' : (bits .and .u8 v (maskOf (p % 8)) == 0) = true := hand
        have hres := Lib.hid (allSet_false (bitsOf xs) (nums4 hh xs) k (by rw [nums4_length]; exact hlt) (by rw [HP.out, Int.toNat_natCast]; exact hbit))
        clear hand hb hbit
        go_wp2_with (go_at_call 31; refine (place_any p _ (by omega)).mono ?_; rintro e w' ⟨rfl, d, rfl⟩)
        rw [Exit.noGoto_ret]
        go_ret
        exact ⟨ret_bool hres.out.symm, below_drewN HB.out _⟩
    · obtain rfl : k = 4 := by omega
      rw [List.take_of_length_le (by rw [nums4_length]; omega)] at hall
      have HALL := Lib.hid hall
      clear hall
      go_wp2
      rw [Exit.noGoto_ret]
      go_ret
      exact ⟨ret_bool HALL.out.symm, below_drewN HB.out _⟩

theorem clear_any (w : World) (f h : Nat) (xs : List Int) (H : Filt w f h xs) :
    Calls Try.prog 14 #[.pointer (some ⟨f, 0, none⟩)] w fun e w' => e = .returned (.int .i64 0) ∧ Filt w' f h (List.replicate xs.length 0) ∧ Kept (fun b => b < w.heap.size ∧ b ≠ h) w w' := by
  have c0 := H.cell0
  have hz : ∀ w, (zeroValue 5).run Try.prog w = .ok (.int .u8 0) w := fun w => by kernel_rfl
  have hcl := fun ty => run_clear_arr (P := Try.prog) H.arr (0 : Int) 42 ty Try.underlying42 hz rfl rfl xs.length xs.length rfl H.one
  have HF := Lib.hid H
  clear H hz
  go_enter Try.func14, Try.ntmps14
  go_wp2_with (simp only [hcl])
  go_ret
  have H := HF.out
  refine ⟨rfl, ⟨?_, by have := H.arr.setRow (List.replicate xs.length 0); simpa using this, H.2.2.1, ?_, by simpa using H.one, by simpa using H.most⟩, (Kept.refl _ _).setRow (fun h => h.2 rfl) _⟩
  · have := H.1
    unfold Blk at *
    rw [setRow_other _ _ _ _ H.2.2.1, this]
    simp
  · intro j
    by_cases hj : j < xs.length <;> simp [List.getD, hj]

set_option maxHeartbeats 400000 in
theorem join_any (w : World) (f h f' h' : Nat) (xs ys : List Int) (H : Filt w f h xs) (H' : Filt w f' h' ys) (hl : xs.length = ys.length) :
    Calls Try.prog 20 #[.pointer (some ⟨f, 0, none⟩), .pointer (some ⟨f', 0, none⟩)] w fun e w' => e = .returned (.int .i64 0) ∧ Filt w' f h (joinB xs ys) ∧ Kept (fun b => b < w.heap.size ∧ b ≠ h) w w' := by
  have HF := Lib.hid H
  have HF' := Lib.hid H'
  have hc0' := H'.cell0
  rw [← hl] at hc0'
  have hb2 := fun w (H' : Filt w f' h' ys) => bits_any w f' h' ys H'
  rw [← hl] at hb2
  have HL := Lib.hid hl
  have hn := H.most
  clear H H' hl
  go_enter Try.func20, Try.ntmps20
  go_wp2_with fail
  refine (bits_any _ f h xs HF.out).mono ?_
  rintro e w' ⟨rfl, rfl⟩
  go_wp2_with fail
  refine (hb2 _ HF'.out).mono ?_
  rintro e w' ⟨rfl, rfl⟩
  clear hb2
  go_wp2_with fail
  go_loopw [5, 6, 25] (fun _ _ i wr => ∃ k : Nat, k ≤ xs.length ∧ i = .int .i64 k ∧ Filt wr f h (joinK xs ys k) ∧ Kept (fun b => b < w.heap.size ∧ b ≠ h) w wr ∧
      ∀ j, k ≤ j → j < xs.length → wr.cell? ⟨h', j, none⟩ = some (.int .u8 (ys.getD j 0))) (fun _ _ i _ => xs.length - (intOf i).toNat)
  case atStart => exact ⟨0, by omega, rfl, by rw [joinK_zero]; exact HF.out, Kept.refl _ _, fun j _ hj => HF'.out.arr.cell (by have := HL.out; omega) 0⟩
  case round =>
    obtain ⟨k, hk, rfl, hfil, hkept, hrest⟩ := hrel
    have hlen : (joinK xs ys k).length = xs.length := joinK_length _ _ HL.out _ hk
    by_cases hlt : k < xs.length
    · have hcell := hrest k (Nat.le_refl _) hlt
      have hc0 := hfil.cell0
      rw [hlen] at hc0
      have hch := hfil.arr.cell (i := k) (by rw [hlen]; exact hlt) 0
      rw [joinK_get _ _ HL.out _ hk, if_neg (by omega)] at hch
      have hfr := hfil.arr.frozen k
      have hb1 : 0 ≤ xs.getD k 0 ∧ xs.getD k 0 ≤ 255 := HF.out.bytes k
      have hb2 : 0 ≤ ys.getD k 0 ∧ ys.getD k 0 ≤ 255 := HF'.out.bytes k
      have hset := joinK_set xs ys HL.out k hlt
      rw [← or_orB hb1 hb2] at hset
      generalize xs.getD k 0 = x at *
      generalize ys.getD k 0 = y at *
      have HS := Lib.hid hset
      have HFI := Lib.hid hfil
      have HK := Lib.hid hkept
      have HR := Lib.hid hrest
      clear hset hfil hkept hrest hlen
      go_wp2
      go_roundw
      case rel =>
        refine ⟨k + 1, by omega, by go_num, ?_, HK.out.setCell (fun h => h.2 rfl) _, fun j h1 h2 => ?_⟩
        · have := HFI.out.store k (bits .or .u8 x y) (by rw [HS.out]; exact joinK_bytes HF.out.bytes HF'.out.bytes HL.out _ (by omega)) 0
          rw [HS.out] at this
          exact this
        · rw [World.cell?_setCell_other _ _ _ _ (by intro e; injection e with _ e _; omega)]
          exact HR.out j (by omega) h2
      case measure => (simp [intOf] <;> omega)
    · obtain rfl : k = xs.length := by omega
      rw [joinK_all _ _ HL.out] at hfil
      have HFI := Lib.hid hfil
      have HK := Lib.hid hkept
      clear hfil hkept hrest hlen
      go_wp2
      go_ret
      exact ⟨rfl, HFI.out, HK.out⟩

theorem join_unlike (w : World) (f h f' h' : Nat) (xs ys : List Int) (H : Filt w f h xs) (H' : Filt w f' h' ys) (hl : xs.length ≠ ys.length) :
    Calls Try.prog 20 #[.pointer (some ⟨f, 0, none⟩), .pointer (some ⟨f', 0, none⟩)] w fun e w' => e = .returned (.int .i64 140) ∧ w = w' := by
  have HF := Lib.hid H
  have HF' := Lib.hid H'
  have hne : ¬ 8 * xs.length = 8 * ys.length := by omega
  have hne2 : ¬ xs.length = ys.length := by omega
  clear H H'
  go_enter Try.func20, Try.ntmps20
  go_wp2_with fail
  refine (bits_any _ f h xs HF.out).mono ?_
  rintro e w' ⟨rfl, rfl⟩
  go_wp2_with fail
  refine (bits_any _ f' h' ys HF'.out).mono ?_
  rintro e w' ⟨rfl, rfl⟩
  go_wp2_with fail
  go_ret
  exact ⟨rfl, rfl⟩

end Go.Proofs.Yteblfcbfgkbanaa
