/- The probes of a hash, as package hash and as the document's answer compute them. -/
import Derived.Test.YteblfcbfgkbanaaBase
import Derived.Deep.OwnRows
namespace Go.Proofs.Yteblfcbfgkbanaa
open Go.RowKit
set_option linter.unusedVariables false

theorem info_int : (Try.prog.info? 3).map (fun i => (i.zero, i.size, i.bytes)) = some (some (.int .i64 0), 1, 8) := by kernel_rfl

/-- By what each probe is further than the one ahead of it. -/
def stepOf (h : Int) : Int := bits .or .u32 (h / 4294967296 % 4294967296) 1
/-- Probe i among m places. -/
def probe (h m : Int) (i : Nat) : Int := (h + i * stepOf h) % 4294967296 % m
def probes (h m : Int) (n : Nat) : List Int := (List.range n).map (probe h m)


theorem or_one (x : Nat) : x ||| 1 = if x % 2 = 0 then x + 1 else x := by
  have h1 : (x ||| 1) / 2 = x / 2 := by rw [Nat.or_div_two]; simp
  have h2 : (x ||| 1) % 2 = 1 := Nat.or_mod_two_eq_one.2 (Or.inr rfl)
  split <;> omega
theorem stepOf_eq (h : Int) : stepOf h = if h / 4294967296 % 4294967296 % 2 = 0 then h / 4294967296 % 4294967296 + 1 else h / 4294967296 % 4294967296 := by
  unfold stepOf
  rw [u32_or _ _ (by omega) (by omega) (by omega) (by omega)]
  generalize hx : h / 4294967296 % 4294967296 = x
  have h0 : 0 ≤ x := by omega
  show ((x.toNat ||| 1 : Nat) : Int) = _
  rw [or_one]
  split <;> split <;> omega
theorem stepOf_bounds (h : Int) : 1 ≤ stepOf h ∧ stepOf h ≤ 4294967295 := by
  rw [stepOf_eq]; split <;> omega
theorem probe_bounds (h m : Int) (i : Nat) (m1 : 1 ≤ m) : 0 ≤ probe h m i ∧ probe h m i < m := by
  unfold probe
  exact ⟨Int.emod_nonneg _ (by omega), Int.emod_lt_of_pos _ (by omega)⟩
theorem next_sum (h : Int) (k : Nat) :
    ((h + k * stepOf h) % 4294967296 + bits BinOp.or IntKind.u32 (h / 4294967296 % 4294967296) 1) % 4294967296 = (h + ((k + 1 : Nat) : Int) * stepOf h) % 4294967296 := by
  show ((h + k * stepOf h) % 4294967296 + stepOf h) % 4294967296 = _
  generalize stepOf h = s
  rw [Int.natCast_add, Int.add_mul]
  omega
theorem probe_wrap (h m : Int) (k : Nat) (m1 : 1 ≤ m) (m2 : m ≤ 16777216) : wrap64 ((h + k * stepOf h) % 4294967296 % m) = probe h m k := by
  have := probe_bounds h m k m1
  exact IntWalk.wrap64_in _ ⟨by unfold probe at this; omega, by unfold probe at this; omega⟩

theorem probes_bad (h m n : Int) (w : World) (hbad : m < 1 ∨ 16777216 < m ∨ n < 1 ∨ 16 < n) :
    Calls Try.prog 41 #[.int .u64 h, .int .i64 m, .int .i64 n] w fun e w' => e = .returned (.slice none 0 0) ∧ w = w' := by
  by_cases h1 : m < 1
  · go_enter Try.func41, Try.ntmps41
    go_wp2
    go_ret
    exact ⟨rfl, rfl⟩
  by_cases h2 : 16777216 < m
  · go_enter Try.func41, Try.ntmps41
    go_wp2
    go_ret
    exact ⟨rfl, rfl⟩
  by_cases h3 : n < 1
  · go_enter Try.func41, Try.ntmps41
    go_wp2
    go_ret
    exact ⟨rfl, rfl⟩
  have h4 : 16 < n := by omega
  go_enter Try.func41, Try.ntmps41
  go_wp2
  go_ret
  exact ⟨rfl, rfl⟩

set_option maxHeartbeats 400000 in
theorem probes_good (h m : Int) (n : Nat) (w : World) (h0 : 0 ≤ h) (m1 : 1 ≤ m) (m2 : m ≤ 16777216) (n1 : 1 ≤ n) (n2 : n ≤ 16) :
    Calls Try.prog 41 #[.int .u64 h, .int .i64 m, .int .i64 n] w fun e w' => e = .returned (.slice (some ⟨w.heap.size, 0, none⟩) n n) ∧
      w'.rowIs w.heap.size 3 n (fun j => .int .i64 (probe h m j)) ∧ Below w.heap.size w w' := by
  have hmk := fun u : World => run_make_row' (P := Try.prog) 57 3 (.int .i64 0) 8 Try.underlying57 info_int rfl .i64 .i64 n (by omega) (by omega) u
  have d1 : decide (m < 1) = false := by simp; omega
  have d2 : decide (16777216 < m) = false := by simp; omega
  have d3 : decide ((n : Int) < 1) = false := by simp; omega
  have d4 : decide (16 < (n : Int)) = false := by simp; omega
  go_enter Try.func41, Try.ntmps41
  go_wp2
  go_loopw [7, 35] (fun v i wr => ∃ k : Nat, k ≤ n ∧ i = .int .i64 k ∧ v = .int .u32 ((h + k * stepOf h) % 4294967296) ∧
      wr.rowIs w.heap.size 3 n (fun j => if j < k then .int .i64 (probe h m j) else .int .i64 0) ∧ Below w.heap.size w wr) (fun _ i _ => n - (intOf i).toNat)
  case atStart =>
    refine ⟨0, by omega, rfl, by simp, (World.rowIs_made w (.int .i64 0) n 3).congr (fun j _ => by simp), (Below.refl _ _).alloc (Nat.le_refl _) _⟩
  case round =>
    obtain ⟨k, hk, rfl, rfl, hrow, hbel⟩ := hrel
    by_cases hlt : k < n
    · have hcell := hrow.cell hlt
      rw [if_neg (by omega)] at hcell
      have hfr := hrow.frozen k
      have HR := Lib.hid hrow
      have HB := Lib.hid hbel
      clear hrow hbel
      go_wp2
      go_roundw
      case rel =>
        refine ⟨k + 1, by omega, by go_num, congrArg (Value.int .u32) (next_sum h k), ?_, ?_⟩
        · rw [probe_wrap h m k m1 m2]
          refine (HR.out.set k _).congr fun j hj => ?_
          by_cases e : j = k
          · subst e; simp
          · rw [if_neg e]
            by_cases hjk : j < k
            · rw [if_pos hjk, if_pos (by omega)]
            · rw [if_neg hjk, if_neg (by omega)]
        · exact HB.out.setCell (Nat.le_refl _) _
      case measure => simp [intOf]; omega
    · have HR := Lib.hid hrow
      have HB := Lib.hid hbel
      clear hrow hbel
      go_wp2
      go_ret
      exact ⟨rfl, HR.out.congr (fun j hj => by rw [if_pos (by omega)]), HB.out⟩

/-- What the law needs of it: whatever it is asked, a slice that reads as the probes, or as nothing. -/
def ProbesTold (h m n : Int) (w : World) (e : Ending) (w' : World) : Prop :=
  ∃ A len cap xs, e = .returned (.slice A len cap) ∧ Row .i64 w' w'.heap.size A len xs ∧ Below w.heap.size w w' ∧ len ≤ 16 ∧ len ≤ cap ∧
    xs = (if m < 1 ∨ 16777216 < m ∨ n < 1 ∨ 16 < n then [] else probes h m n.toNat)

theorem row_told {w' : World} {b n : Nat} {h m : Int} (hr : w'.rowIs b 3 n (fun j => .int .i64 (probe h m j))) : Row .i64 w' w'.heap.size (some ⟨b, 0, none⟩) n (probes h m n) := by
  refine ⟨by simp [probes], fun _ => ⟨b, 0, rfl, hr.lt, fun j hj => ?_⟩⟩
  rw [Nat.zero_add, hr.cell hj]
  simp [probes, List.getD, List.getElem?_range hj]

theorem probes_any (h m n : Int) (w : World) (h0 : 0 ≤ h) :
    Calls Try.prog 41 #[.int .u64 h, .int .i64 m, .int .i64 n] w (ProbesTold h m n w) := by
  by_cases hbad : m < 1 ∨ 16777216 < m ∨ n < 1 ∨ 16 < n
  · refine (probes_bad h m n w hbad).mono ?_
    rintro e w' ⟨rfl, rfl⟩
    exact ⟨none, 0, 0, [], rfl, Row.nil _ _ _ _, Below.refl _ _, by omega, by omega, by rw [if_pos hbad]⟩
  · obtain ⟨k, rfl⟩ := Int.eq_ofNat_of_zero_le (show 0 ≤ n by omega)
    refine (probes_good h m k w h0 (by omega) (by omega) (by omega) (by omega)).mono ?_
    rintro e w' ⟨rfl, hr, hb⟩
    exact ⟨_, _, _, probes h m k, rfl, row_told hr, hb, by omega, by omega, by rw [if_neg hbad, Int.toNat_natCast]⟩

/-! The document's answer. -/

theorem ref_sum (h m : Int) (i : Nat) (h0 : 0 ≤ h) (m1 : 1 ≤ m) (m2 : m ≤ 16777216) (hi : i ≤ 15) (b : Int) (hb : b = stepOf h) :
    wrap64 (((IntKind.u64.wrap (h % 4294967296 + IntKind.u64.wrap ((i : Int) * b))).tmod 4294967296).tmod m) = probe h m i := by
  have hs := stepOf_bounds h
  have hp := probe_bounds h m i m1
  subst hb
  have t0 : 0 ≤ (i : Int) * stepOf h := Int.mul_nonneg (by omega) (by omega)
  have t1 : (i : Int) * stepOf h ≤ 15 * 4294967295 := Int.mul_le_mul (by omega) hs.2 (by omega) (by omega)
  unfold probe at *
  generalize (i : Int) * stepOf h = t at *
  have e1 : (h % 4294967296 + t).tmod 4294967296 = (h + t) % 4294967296 := by rw [Int.tmod_eq_emod_of_nonneg (by omega)]; omega
  rw [IntKind.wrap_u64, IntKind.wrap_u64, show t % 18446744073709551616 = t by omega, show (h % 4294967296 + t) % 18446744073709551616 = h % 4294967296 + t by omega,
    e1, Int.tmod_eq_emod_of_nonneg (by omega)]
  exact IntWalk.wrap64_in _ ⟨by omega, by omega⟩

theorem stepOf_low (h : Int) (h0 : 0 ≤ h) (h1 : h ≤ 18446744073709551615) : stepOf h = if h / 4294967296 % 2 = 0 then h / 4294967296 + 1 else h / 4294967296 := by
  rw [stepOf_eq, show h / 4294967296 % 4294967296 = h / 4294967296 by omega]

set_option maxHeartbeats 400000 in
theorem ref_probe (h m : Int) (i : Nat) (w : World) (h0 : 0 ≤ h) (h1 : h ≤ 18446744073709551615) (m1 : 1 ≤ m) (m2 : m ≤ 16777216) (hi : i ≤ 15) :
    Calls Try.prog 42 #[.int .u64 h, .int .i64 m, .int .i64 i] w fun e w' => e = .returned (.int .i64 (probe h m i)) ∧ w = w' := by
  by_cases hp : h / 4294967296 % 2 = 0
  · go_enter Try.func42, Try.ntmps42
    go_wp2
    go_ret
    exact ⟨ret_int (ref_sum h m i h0 m1 m2 hi _ (by rw [stepOf_low h h0 h1, if_pos hp])), rfl⟩
  · go_enter Try.func42, Try.ntmps42
    go_wp2
    go_ret
    exact ⟨ret_int (ref_sum h m i h0 m1 m2 hi _ (by rw [stepOf_low h h0 h1, if_neg hp])), rfl⟩

theorem ref_probes_bad (h m n : Int) (w : World) (hbad : m < 1 ∨ 16777216 < m ∨ n < 1 ∨ 16 < n) :
    Calls Try.prog 32 #[.int .u64 h, .int .i64 m, .int .i64 n] w fun e w' => e = .returned (.slice none 0 0) ∧ w = w' := by
  by_cases h4 : 16 < n
  · go_enter Try.func32, Try.ntmps32
    go_wp2
    go_ret
    exact ⟨rfl, rfl⟩
  by_cases h1 : m < 1
  · go_enter Try.func32, Try.ntmps32
    go_wp2
    go_ret
    exact ⟨rfl, rfl⟩
  by_cases h2 : 16777216 < m
  · go_enter Try.func32, Try.ntmps32
    go_wp2
    go_ret
    exact ⟨rfl, rfl⟩
  have h3 : n < 1 := by omega
  go_enter Try.func32, Try.ntmps32
  go_wp2
  go_rounds 1
  go_ret
  exact ⟨rfl, rfl⟩

theorem probes_snoc (h m : Int) (k : Nat) : probes h m (k + 1) = probes h m k ++ [probe h m k] := by simp [probes, List.range_succ]
theorem probes_len (h m : Int) (k : Nat) : (probes h m k).length = k := by simp [probes]

theorem row_owned {w : World} {base : Nat} {v : Value} {n : Nat} {xs : List Int} (ho : w.ownsRow base 3 1 v n (xs.map (Value.int .i64))) :
    ∃ A cap, v = .slice A n cap ∧ n ≤ cap ∧ Row .i64 w w.heap.size A n xs := by
  have hl : xs.length = n := by simpa using ho.1
  have hlt := ho.lt
  rcases ho.2 with ⟨rfl, rfl⟩ | ⟨g, cap, cur, rfl, hg, hh, hnc, hc⟩
  · exact ⟨none, 0, rfl, by omega, hl, fun h => absurd h (by omega)⟩
  · refine ⟨_, cap, rfl, hnc, hl, fun _ => ⟨g, 0, rfl, (hlt g rfl).2, fun j hj => ?_⟩⟩
    rw [Nat.zero_add, ho.cellAt j (by omega)]
    simp [List.getD, List.getElem?_eq_getElem (show j < xs.length by omega)]

/-- A slice of the call's own that holds the probes. -/
def ProbesOwn (h m : Int) (n : Nat) (w : World) (e : Ending) (w' : World) : Prop :=
  ∃ v, e = .returned v ∧ w'.ownsRow w.heap.size 3 1 v n ((probes h m n).map (Value.int .i64)) ∧ Below w.heap.size w w'

set_option maxHeartbeats 400000 in
theorem ref_probes_own (h m : Int) (n : Nat) (w : World) (h0 : 0 ≤ h) (h1 : h ≤ 18446744073709551615) (m1 : 1 ≤ m) (m2 : m ≤ 16777216) (n1 : 1 ≤ n) (n2 : n ≤ 16) :
    Calls Try.prog 32 #[.int .u64 h, .int .i64 m, .int .i64 n] w (ProbesOwn h m n w) := by
  obtain ⟨i0, hi, hz0, hz1, hz2⟩ := info_parts info_int
  have d1 : decide (m < 1) = false := by simp; omega
  have d2 : decide (16777216 < m) = false := by simp; omega
  have d4 : decide (16 < (n : Int)) = false := by simp; omega
  go_enter Try.func32, Try.ntmps32
  go_wp2
  go_loopw [7, 8] (fun v i wr => ∃ k : Nat, k ≤ n ∧ i = .int .i64 k ∧ wr.ownsRow w.heap.size 3 1 v k ((probes h m k).map (Value.int .i64)) ∧ Below w.heap.size w wr) (fun _ i _ => n - (intOf i).toNat)
  case atStart => exact ⟨0, by omega, rfl, World.ownsRow_nil _ _ _ _, Below.refl _ _⟩
  case round =>
    obtain ⟨k, hk, rfl, hown, hbel⟩ := hrel
    have hbs := hbel.size
    have HB := Lib.hid hbel
    clear hbel
    by_cases hlt : k < n
    · go_wp2_with fail
      refine (ref_probe h m k wr h0 h1 m1 m2 (by omega)).mono ?_
      rintro e w' ⟨rfl, rfl⟩
      go_wp2_with (at_builtin; refine wpList_append_own _ rfl _ _ 57 rfl w.heap.size 3 i0 (.int .i64 0) 1 8 Try.underlying57 hi hz0 hz1 hz2 rfl (by decide) _ _ _ rfl (hown.alloc _) ⟨wr.heap.size, 0, none⟩ 1 1 [.int .i64 (probe h m k)] rfl rfl ?c1 ?c2 ?c3 ?c4 ?c5 ?_)
      case c1 => intro j u hu; exact cell_one_new _ _ _ _ _ hu
      case c2 => intro u hu; simp at hu; subst hu; rfl
      case c3 => unfold maxLen; omega
      case c4 => omega
      case c5 => simp; omega
      intro v' w1 hown1 hgrow _
      have hb1 : Below w.heap.size w w1 := (HB.out.alloc hbs _).grown hgrow (by simp; omega) (fun g hg => (hown.lt g hg).1)
      have HB1 := Lib.hid hb1
      have hown2 : w1.ownsRow w.heap.size 3 1 v' (k + 1) ((probes h m (k + 1)).map (Value.int .i64)) := by rw [probes_snoc]; simpa using hown1
      have HO := Lib.hid hown2
      clear hown1 hown2 hgrow hb1 hown
      go_wp2
      go_roundw
      case rel => exact ⟨k + 1, by omega, by go_num, HO.out, HB1.out⟩
      case measure => simp [intOf]; omega
    · have hkn : n ≤ k := by omega
      go_wp2
      go_ret
      obtain rfl : k = n := by omega
      exact ⟨_, rfl, hown, HB.out⟩

theorem ref_probes_good (h m : Int) (n : Nat) (w : World) (h0 : 0 ≤ h) (h1 : h ≤ 18446744073709551615) (m1 : 1 ≤ m) (m2 : m ≤ 16777216) (n1 : 1 ≤ n) (n2 : n ≤ 16) :
    Calls Try.prog 32 #[.int .u64 h, .int .i64 m, .int .i64 n] w fun e w' => ∃ A cap, e = .returned (.slice A n cap) ∧ n ≤ cap ∧
      Row .i64 w' w'.heap.size A n (probes h m n) ∧ Below w.heap.size w w' := by
  refine (ref_probes_own h m n w h0 h1 m1 m2 n1 n2).mono ?_
  rintro e w' ⟨v, rfl, hown, hb⟩
  obtain ⟨A, cap, rfl, hc, hr⟩ := row_owned hown
  exact ⟨A, cap, rfl, hc, hr, hb⟩

end Go.Proofs.Yteblfcbfgkbanaa
