/- For every list of bytes and every number of 64 bits: Of tells of the bytes (of the first 9000 of them) what the document's Of tells, and the filter that it makes answers May and Add, and holds bits, as the document's list does; what is changed in the bytes behind it does not touch it. No condition. -/
import Derived.Test.YteblfcbfgkbanaaRows
import Derived.WalkKit
import Derived.ProofKit
import Derived.OpenShut
import Derived.ShutString
import Derived.ChangeOld
import Derived.Below
import Derived.Test.YteblfcbfgkbanaaPlay3
import Derived.Deep.DeepCutAuto
namespace Go.Proofs.Yteblfcbfgkbanaa.bloomBytes
open Go.ChangeShapes Go.WideShapes Go.ChangeAt Go.RowKit
open Go.ChangeMaps (open_string shut_string)
set_option linter.unusedVariables false

theorem own : ownKnob Try.prog.godebug = none := by kernel_rfl
theorem laidOut : laidOutB Try.prog = true := by kernel_rfl

/-- A slice of integers that came in: nil; or a row of 'cap' cells, the numbers 'zs', each fitting its kind. -/
def IsRow (k : IntKind) (w : World) (a : Option Addr) (len cap : Nat) (zs : List Int) : Prop :=
  (a = none ∧ len = 0 ∧ cap = 0 ∧ zs = []) ∨
  ∃ x : Addr, a = some x ∧ len ≤ cap ∧ cap ≤ maxLen ∧ zs.length = cap ∧ (∀ i, i < zs.length → w.cell? (x.add i) = some (.int k (zs.getD i 0))) ∧ ∀ n ∈ zs, (Lit.int k n).wf = true

set_option maxRecDepth 100000 in
set_option maxHeartbeats 2000000 in
theorem walk_short (A : Option Addr) (len n c : Nat) (xs : List Int) (h : Int) (w : World) (hx : RowI .u8 w (· < w.heap.size) A n xs) (hby : Bytes xs) (hmin : (len ≤ 9000 ∧ n = len) ∨ (9000 < len ∧ n = 9000)) (hnc : len ≤ c) (hl : len ≤ 9223372036854775807) (hnil : A = none → c = 0) (h0 : 0 ≤ h) (h1 : h ≤ 18446744073709551615) (hn : n < 4) :
    Calls Try.prog 5 #[.slice A len c, .int .u64 h] w fun e w' => e = .returned (.bool true) ∧ Below w.heap.size w w' := by
  obtain ⟨i0, hi, hz0, hz1, hz2⟩ := info_parts info_u8
  have n9 : n ≤ 9000 := by omega
  have hnc2 : n ≤ c := by omega
  have hmk : ∀ u : World, (Instr.makeSlice 42 (.int .i64 0) (.int .i64 ((n : Int) + 2))).run Try.prog u = .ok (.slice (some ⟨u.heap.size, 0, none⟩) 0 (n + 2)) (u.alloc (.cells (madeCells #[.int .u8 0] (n + 2)) 5)) := by
    intro u
    have := run_make (P := Try.prog) (w := u) 42 5 i0 (.int .u8 0) Try.underlying42 hi hz0 .i64 .i64 0 ((n : Int) + 2) (by omega) (by omega) (by rw [hz2]; omega) (by omega)
    rw [hz1, show ((n : Int) + 2).toNat = n + 2 by omega, Nat.mul_one] at this
    exact this
  have HMIN := Lib.hid hmin
  have HX := Lib.hid hx
  have HBY := Lib.hid hby
  have HXL := Lib.hid hx.1

  clear hx hby hmin
  go_enter Try.func5, Try.ntmps5
  go_wp2_with fail
  refine (wakes_any w).mono ?_
  rintro e w1 ⟨rfl, hb1⟩
  have HB1 := Lib.hid hb1
  clear hb1
  go_upto_region 3 with fail
  go_cut [0] (fun s wx => s = .slice A n c ∧ wx = w1)
  case first =>
    rcases HMIN.out with ⟨hle, rfl⟩ | ⟨hgt, rfl⟩
    · have h2 : ¬ (9000 : Int) < n := by omega
      go_wp2
      go_meet
      exact ⟨rfl, rfl⟩
    · have h2 : (9000 : Int) < len := by omega
      go_wp2
      go_meet
      exact ⟨rfl, rfl⟩
  case rest =>
    obtain ⟨rfl, rfl⟩ := hcut
    have HX1 := Lib.hid (HX.out.below HB1.out (fun b h => h))
    go_wp2_with (at_builtin; refine wpList_append_rowG (mk := Value.int .u8) (d := 0) rfl (.tmp 21) (.tmp 22) 42 rfl wc.heap.size 5 i0 (.int .u8 0) 1 Try.underlying42 hi hz0 hz1 hz2 rfl (fun _ => rfl) _ 0 [] rfl (World.ownsRow_made wc (madeCells #[.int .u8 0] (n + 2)) (n + 2) (Nat.le_refl _) (by unfold maxLen; omega) (by simp [size_madeCells])) (· < w.heap.size) A n c xs rfl (HX1.out.keep ?c0) hnil ?c2 ?c3 ?c4 ?_)
    case c0 => exact fun p hp => World.cell?_alloc_lt wc _ p (Nat.lt_of_lt_of_le hp HB1.out.size)
    case c2 => unfold maxLen; omega
    case c3 => omega
    case c4 => simp
    intro v1 w2 hown1 hgrow1 _
    have hb2 : Below wc.heap.size wc w2 := ((Below.refl _ _).alloc (Nat.le_refl _) _).grown hgrow1 (by simp) (fun k hk => by simp [Value.ownBlock] at hk; omega)
    have hown1 : w2.ownsRow wc.heap.size 5 1 v1 n (xs.map (Value.int .u8)) := by first | exact hown1 | simpa using hown1
    have HB2 := Lib.hid hb2
    have HO1 := Lib.hid hown1
    clear hb2 hown1 hgrow1
    go_wp2_with (at_builtin; refine wpList_append_rowG (mk := Value.int .u8) (d := 0) rfl (.tmp 23) (.tmp 24) 42 rfl wc.heap.size 5 i0 (.int .u8 0) 1 Try.underlying42 hi hz0 hz1 hz2 rfl (fun _ => rfl) _ n _ rfl (HO1.out.alloc _) (· = w2.heap.size) _ 1 1 [7] rfl (row_new1 _ _ w2 _ 7) (fun h => by cases h) ?c2 ?c3 ?c4 ?_)
    case c2 => unfold maxLen; omega
    case c3 => omega
    case c4 => have := HB2.out.size; first | omega | (simp; omega)
    intro v2 w3 hown2 hgrow2 _
    have hb3 : Below wc.heap.size wc w3 := (HB2.out.alloc HB2.out.size _).grown hgrow2 (by simp; have := HB2.out.size; omega) (fun g hg => (HO1.out.lt g hg).1)
    have hown2 : w3.ownsRow wc.heap.size 5 1 v2 (n + 1) ((xs ++ [7]).map (Value.int .u8)) := by first | exact hown2 | simpa using hown2
    obtain ⟨g, cap, rfl, hg, hgl⟩ := hown2.form (by omega)
    have HO2 := Lib.hid hown2
    have HB3 := Lib.hid (HB1.out.trans (hb3.mono HB1.out.size))
    have HG := Lib.hid (show w.heap.size ≤ g by have := HB1.out.size; omega)
    have hcap : n + 1 ≤ cap := by
      rcases hown2.2 with ⟨h, _⟩ | ⟨_, _, _, h, _, _, h2, _⟩
      · cases h
      · injection h with _ _ h; omega
    have HROW := Lib.hid (show RowI .u8 w3 (· = g) (some ⟨g, 0, none⟩) n xs from ⟨HXL.out, fun _ => ⟨g, 0, rfl, rfl, fun j hj => by
      rw [Nat.zero_add, hown2.cellAt j (by omega)]
      have := HXL.out
      simp [List.getD, List.getElem?_append, show j < xs.length by omega]⟩⟩)
    have HC7 := Lib.hid (show w3.cell? ⟨g, n, none⟩ = some (.int .u8 7) from by
      rw [hown2.cellAt n (by omega)]
      have := HXL.out
      simp [List.getElem?_append, this])
    have HX3 := Lib.hid (HX.out.below HB3.out (fun b h => h))
    have HGL := Lib.hid hgl
    clear hb3 hown2 hgrow2 hg hgl
    go_wp2_with fail
    refine (of_short _ n cap xs _ _ HROW.out (fun b e => by rw [e]; exact HGL.out) hn).mono ?_
    rintro e w4 ⟨rfl, hb⟩
    have HB4 := Lib.hid hb
    clear hb
    go_wp2_with fail
    refine (ref_of_short A n c xs _ _ (HX3.out.below HB4.out (fun b h => Nat.lt_of_lt_of_le h HB3.out.size)) hn).mono ?_
    rintro e w' ⟨rfl, rfl⟩
    go_wp2_with fail
    refine (equal_yes _ _ _ _ _ xs _ _ _ (HROW.out.below HB4.out (fun b e => by rw [e]; exact HGL.out)) (HX3.out.below HB4.out (fun b h => Nat.lt_of_lt_of_le h HB3.out.size)) (fun b e => by rw [e]; exact Nat.lt_of_lt_of_le HGL.out HB4.out.size) (fun b h => Nat.lt_of_lt_of_le h (Nat.le_trans HB3.out.size HB4.out.size)) HBY.out).mono ?_
    rintro e w' ⟨rfl, rfl⟩
    have hc7 := HC7.out
    rw [← HB4.out.cell (p := ⟨g, n, none⟩) HGL.out] at hc7
    go_wp2_with fail
    go_ret
    exact ⟨rfl, HB3.out.trans (HB4.out.mono HB3.out.size)⟩

set_option maxRecDepth 100000 in
set_option maxHeartbeats 2000000 in
theorem walk_bad (A : Option Addr) (len n c : Nat) (xs : List Int) (h : Int) (w : World) (hx : RowI .u8 w (· < w.heap.size) A n xs) (hby : Bytes xs) (hmin : (len ≤ 9000 ∧ n = len) ∨ (9000 < len ∧ n = 9000)) (hnc : len ≤ c) (hl : len ≤ 9223372036854775807) (hnil : A = none → c = 0) (h0 : 0 ≤ h) (h1 : h ≤ 18446744073709551615) (hn : 4 ≤ n) (hbad : ¬ (8 ≤ numOf (xs.take 4) ∧ numOf (xs.take 4) ≤ 65536 ∧ numOf (xs.take 4) % 8 = 0) ∨ (n : Int) ≠ 4 + numOf (xs.take 4) / 8) :
    Calls Try.prog 5 #[.slice A len c, .int .u64 h] w fun e w' => e = .returned (.bool true) ∧ Below w.heap.size w w' := by
  obtain ⟨i0, hi, hz0, hz1, hz2⟩ := info_parts info_u8
  have n9 : n ≤ 9000 := by omega
  have hnc2 : n ≤ c := by omega
  have hmk : ∀ u : World, (Instr.makeSlice 42 (.int .i64 0) (.int .i64 ((n : Int) + 2))).run Try.prog u = .ok (.slice (some ⟨u.heap.size, 0, none⟩) 0 (n + 2)) (u.alloc (.cells (madeCells #[.int .u8 0] (n + 2)) 5)) := by
    intro u
    have := run_make (P := Try.prog) (w := u) 42 5 i0 (.int .u8 0) Try.underlying42 hi hz0 .i64 .i64 0 ((n : Int) + 2) (by omega) (by omega) (by rw [hz2]; omega) (by omega)
    rw [hz1, show ((n : Int) + 2).toNat = n + 2 by omega, Nat.mul_one] at this
    exact this
  have HMIN := Lib.hid hmin
  have HX := Lib.hid hx
  have HBY := Lib.hid hby
  have HXL := Lib.hid hx.1
  have HBAD := Lib.hid hbad
  clear hx hby hmin hbad
  go_enter Try.func5, Try.ntmps5
  go_wp2_with fail
  refine (wakes_any w).mono ?_
  rintro e w1 ⟨rfl, hb1⟩
  have HB1 := Lib.hid hb1
  clear hb1
  go_upto_region 3 with fail
  go_cut [0] (fun s wx => s = .slice A n c ∧ wx = w1)
  case first =>
    rcases HMIN.out with ⟨hle, rfl⟩ | ⟨hgt, rfl⟩
    · have h2 : ¬ (9000 : Int) < n := by omega
      go_wp2
      go_meet
      exact ⟨rfl, rfl⟩
    · have h2 : (9000 : Int) < len := by omega
      go_wp2
      go_meet
      exact ⟨rfl, rfl⟩
  case rest =>
    obtain ⟨rfl, rfl⟩ := hcut
    have HX1 := Lib.hid (HX.out.below HB1.out (fun b h => h))
    go_wp2_with (at_builtin; refine wpList_append_rowG (mk := Value.int .u8) (d := 0) rfl (.tmp 21) (.tmp 22) 42 rfl wc.heap.size 5 i0 (.int .u8 0) 1 Try.underlying42 hi hz0 hz1 hz2 rfl (fun _ => rfl) _ 0 [] rfl (World.ownsRow_made wc (madeCells #[.int .u8 0] (n + 2)) (n + 2) (Nat.le_refl _) (by unfold maxLen; omega) (by simp [size_madeCells])) (· < w.heap.size) A n c xs rfl (HX1.out.keep ?c0) hnil ?c2 ?c3 ?c4 ?_)
    case c0 => exact fun p hp => World.cell?_alloc_lt wc _ p (Nat.lt_of_lt_of_le hp HB1.out.size)
    case c2 => unfold maxLen; omega
    case c3 => omega
    case c4 => simp
    intro v1 w2 hown1 hgrow1 _
    have hb2 : Below wc.heap.size wc w2 := ((Below.refl _ _).alloc (Nat.le_refl _) _).grown hgrow1 (by simp) (fun k hk => by simp [Value.ownBlock] at hk; omega)
    have hown1 : w2.ownsRow wc.heap.size 5 1 v1 n (xs.map (Value.int .u8)) := by first | exact hown1 | simpa using hown1
    have HB2 := Lib.hid hb2
    have HO1 := Lib.hid hown1
    clear hb2 hown1 hgrow1
    go_wp2_with (at_builtin; refine wpList_append_rowG (mk := Value.int .u8) (d := 0) rfl (.tmp 23) (.tmp 24) 42 rfl wc.heap.size 5 i0 (.int .u8 0) 1 Try.underlying42 hi hz0 hz1 hz2 rfl (fun _ => rfl) _ n _ rfl (HO1.out.alloc _) (· = w2.heap.size) _ 1 1 [7] rfl (row_new1 _ _ w2 _ 7) (fun h => by cases h) ?c2 ?c3 ?c4 ?_)
    case c2 => unfold maxLen; omega
    case c3 => omega
    case c4 => have := HB2.out.size; first | omega | (simp; omega)
    intro v2 w3 hown2 hgrow2 _
    have hb3 : Below wc.heap.size wc w3 := (HB2.out.alloc HB2.out.size _).grown hgrow2 (by simp; have := HB2.out.size; omega) (fun g hg => (HO1.out.lt g hg).1)
    have hown2 : w3.ownsRow wc.heap.size 5 1 v2 (n + 1) ((xs ++ [7]).map (Value.int .u8)) := by first | exact hown2 | simpa using hown2
    obtain ⟨g, cap, rfl, hg, hgl⟩ := hown2.form (by omega)
    have HO2 := Lib.hid hown2
    have HB3 := Lib.hid (HB1.out.trans (hb3.mono HB1.out.size))
    have HG := Lib.hid (show w.heap.size ≤ g by have := HB1.out.size; omega)
    have hcap : n + 1 ≤ cap := by
      rcases hown2.2 with ⟨h, _⟩ | ⟨_, _, _, h, _, _, h2, _⟩
      · cases h
      · injection h with _ _ h; omega
    have HROW := Lib.hid (show RowI .u8 w3 (· = g) (some ⟨g, 0, none⟩) n xs from ⟨HXL.out, fun _ => ⟨g, 0, rfl, rfl, fun j hj => by
      rw [Nat.zero_add, hown2.cellAt j (by omega)]
      have := HXL.out
      simp [List.getD, List.getElem?_append, show j < xs.length by omega]⟩⟩)
    have HC7 := Lib.hid (show w3.cell? ⟨g, n, none⟩ = some (.int .u8 7) from by
      rw [hown2.cellAt n (by omega)]
      have := HXL.out
      simp [List.getElem?_append, this])
    have HX3 := Lib.hid (HX.out.below HB3.out (fun b h => h))
    have HGL := Lib.hid hgl
    clear hb3 hown2 hgrow2 hg hgl
    go_wp2_with fail
    refine (of_wrong _ n cap xs _ _ HROW.out (fun b e => by rw [e]; exact HGL.out) hn (by omega) HBY.out HBAD.out).mono ?_
    rintro e w4 ⟨rfl, hb⟩
    have HB4 := Lib.hid hb
    clear hb
    go_wp2_with fail
    refine (ref_of_bad A n c xs _ _ (HX3.out.below HB4.out (fun b h => Nat.lt_of_lt_of_le h HB3.out.size)) hn (by omega) HBY.out HBAD.out).mono ?_
    rintro e w' ⟨rfl, d, rfl⟩
    have HB5 := Lib.hid (below_drewN HB4.out d)
    go_wp2_with fail
    refine (equal_yes _ _ _ _ _ xs _ _ _ (HROW.out.below HB5.out (fun b e => by rw [e]; exact HGL.out)) (HX3.out.below HB5.out (fun b h => Nat.lt_of_lt_of_le h HB3.out.size)) (fun b e => by rw [e]; exact Nat.lt_of_lt_of_le HGL.out HB5.out.size) (fun b h => Nat.lt_of_lt_of_le h (Nat.le_trans HB3.out.size HB5.out.size)) HBY.out).mono ?_
    rintro e w' ⟨rfl, rfl⟩
    have hc7 := HC7.out
    rw [← HB4.out.cell (p := ⟨g, n, none⟩) HGL.out] at hc7
    go_wp2_with fail
    go_ret
    exact ⟨rfl, HB3.out.trans (HB5.out.mono HB3.out.size)⟩

set_option maxRecDepth 100000 in
set_option maxHeartbeats 2000000 in
theorem walk_ok (A : Option Addr) (len n c : Nat) (xs : List Int) (h : Int) (w : World) (hx : RowI .u8 w (· < w.heap.size) A n xs) (hby : Bytes xs) (hmin : (len ≤ 9000 ∧ n = len) ∨ (9000 < len ∧ n = 9000)) (hnc : len ≤ c) (hl : len ≤ 9223372036854775807) (hnil : A = none → c = 0) (h0 : 0 ≤ h) (h1 : h ≤ 18446744073709551615) (k : Nat) (hk : numOf (xs.take 4) = 8 * (k : Int)) (k1 : 1 ≤ k) (k2 : k ≤ 8192) (hn : n = 4 + k) :
    Calls Try.prog 5 #[.slice A len c, .int .u64 h] w fun e w' => e = .returned (.bool true) ∧ Below w.heap.size w w' := by
  obtain ⟨i0, hi, hz0, hz1, hz2⟩ := info_parts info_u8
  have n9 : n ≤ 9000 := by omega
  have hnc2 : n ≤ c := by omega
  have hmk : ∀ u : World, (Instr.makeSlice 42 (.int .i64 0) (.int .i64 ((n : Int) + 2))).run Try.prog u = .ok (.slice (some ⟨u.heap.size, 0, none⟩) 0 (n + 2)) (u.alloc (.cells (madeCells #[.int .u8 0] (n + 2)) 5)) := by
    intro u
    have := run_make (P := Try.prog) (w := u) 42 5 i0 (.int .u8 0) Try.underlying42 hi hz0 .i64 .i64 0 ((n : Int) + 2) (by omega) (by omega) (by rw [hz2]; omega) (by omega)
    rw [hz1, show ((n : Int) + 2).toNat = n + 2 by omega, Nat.mul_one] at this
    exact this
  have HMIN := Lib.hid hmin
  have HX := Lib.hid hx
  have HBY := Lib.hid hby
  have HXL := Lib.hid hx.1
  have HK := Lib.hid hk
  have HN := Lib.hid hn
  have n5 : 5 ≤ n := by omega
  clear hx hby hmin hk hn
  go_enter Try.func5, Try.ntmps5
  go_wp2_with fail
  refine (wakes_any w).mono ?_
  rintro e w1 ⟨rfl, hb1⟩
  have HB1 := Lib.hid hb1
  clear hb1
  go_upto_region 3 with fail
  go_cut [0] (fun s wx => s = .slice A n c ∧ wx = w1)
  case first =>
    rcases HMIN.out with ⟨hle, rfl⟩ | ⟨hgt, rfl⟩
    · have h2 : ¬ (9000 : Int) < n := by omega
      go_wp2
      go_meet
      exact ⟨rfl, rfl⟩
    · have h2 : (9000 : Int) < len := by omega
      go_wp2
      go_meet
      exact ⟨rfl, rfl⟩
  case rest =>
    obtain ⟨rfl, rfl⟩ := hcut
    have HX1 := Lib.hid (HX.out.below HB1.out (fun b h => h))
    go_wp2_with (at_builtin; refine wpList_append_rowG (mk := Value.int .u8) (d := 0) rfl (.tmp 21) (.tmp 22) 42 rfl wc.heap.size 5 i0 (.int .u8 0) 1 Try.underlying42 hi hz0 hz1 hz2 rfl (fun _ => rfl) _ 0 [] rfl (World.ownsRow_made wc (madeCells #[.int .u8 0] (n + 2)) (n + 2) (Nat.le_refl _) (by unfold maxLen; omega) (by simp [size_madeCells])) (· < w.heap.size) A n c xs rfl (HX1.out.keep ?c0) hnil ?c2 ?c3 ?c4 ?_)
    case c0 => exact fun p hp => World.cell?_alloc_lt wc _ p (Nat.lt_of_lt_of_le hp HB1.out.size)
    case c2 => unfold maxLen; omega
    case c3 => omega
    case c4 => simp
    intro v1 w2 hown1 hgrow1 _
    have hb2 : Below wc.heap.size wc w2 := ((Below.refl _ _).alloc (Nat.le_refl _) _).grown hgrow1 (by simp) (fun k hk => by simp [Value.ownBlock] at hk; omega)
    have hown1 : w2.ownsRow wc.heap.size 5 1 v1 n (xs.map (Value.int .u8)) := by first | exact hown1 | simpa using hown1
    have HB2 := Lib.hid hb2
    have HO1 := Lib.hid hown1
    clear hb2 hown1 hgrow1
    go_wp2_with (at_builtin; refine wpList_append_rowG (mk := Value.int .u8) (d := 0) rfl (.tmp 23) (.tmp 24) 42 rfl wc.heap.size 5 i0 (.int .u8 0) 1 Try.underlying42 hi hz0 hz1 hz2 rfl (fun _ => rfl) _ n _ rfl (HO1.out.alloc _) (· = w2.heap.size) _ 1 1 [7] rfl (row_new1 _ _ w2 _ 7) (fun h => by cases h) ?c2 ?c3 ?c4 ?_)
    case c2 => unfold maxLen; omega
    case c3 => omega
    case c4 => have := HB2.out.size; first | omega | (simp; omega)
    intro v2 w3 hown2 hgrow2 _
    have hb3 : Below wc.heap.size wc w3 := (HB2.out.alloc HB2.out.size _).grown hgrow2 (by simp; have := HB2.out.size; omega) (fun g hg => (HO1.out.lt g hg).1)
    have hown2 : w3.ownsRow wc.heap.size 5 1 v2 (n + 1) ((xs ++ [7]).map (Value.int .u8)) := by first | exact hown2 | simpa using hown2
    obtain ⟨g, cap, rfl, hg, hgl⟩ := hown2.form (by omega)
    have HO2 := Lib.hid hown2
    have HB3 := Lib.hid (HB1.out.trans (hb3.mono HB1.out.size))
    have HG := Lib.hid (show w.heap.size ≤ g by have := HB1.out.size; omega)
    have hcap : n + 1 ≤ cap := by
      rcases hown2.2 with ⟨h, _⟩ | ⟨_, _, _, h, _, _, h2, _⟩
      · cases h
      · injection h with _ _ h; omega
    have HROW := Lib.hid (show RowI .u8 w3 (· = g) (some ⟨g, 0, none⟩) n xs from ⟨HXL.out, fun _ => ⟨g, 0, rfl, rfl, fun j hj => by
      rw [Nat.zero_add, hown2.cellAt j (by omega)]
      have := HXL.out
      simp [List.getD, List.getElem?_append, show j < xs.length by omega]⟩⟩)
    have HC7 := Lib.hid (show w3.cell? ⟨g, n, none⟩ = some (.int .u8 7) from by
      rw [hown2.cellAt n (by omega)]
      have := HXL.out
      simp [List.getElem?_append, this])
    have HX3 := Lib.hid (HX.out.below HB3.out (fun b h => h))
    have HGL := Lib.hid hgl
    clear hb3 hown2 hgrow2 hg hgl
    go_wp2_with fail
    refine (of_ok _ n cap k xs _ _ HROW.out (fun b e => by rw [e]; exact HGL.out) HBY.out HK.out k1 k2 HN.out).mono ?_
    rintro e w4 ⟨f, g2, rfl, hf, hfl, hgl2, hb⟩
    have hyl : (xs.drop 4).length = k := by rw [List.length_drop, HXL.out, HN.out]; omega
    have HYL := Lib.hid hyl
    have HB4 := Lib.hid hb
    have HF4 := Lib.hid hf
    have HFL := Lib.hid hfl
    have HGL2 := Lib.hid hgl2
    clear hb hf hyl hfl hgl2
    go_wp2_with fail
    refine (ref_of_ok A n c k xs _ _ (HX3.out.below HB4.out (fun b h => Nat.lt_of_lt_of_le h HB3.out.size)) (fun b h => Nat.lt_of_lt_of_le h (Nat.le_trans HB3.out.size HB4.out.size)) hnc2 HBY.out HK.out k1 k2 HN.out).mono ?_
    rintro e w5 ⟨v, rfl, hown5, hb⟩
    rw [show xs.length - 4 = k by rw [HXL.out, HN.out]; omega] at hown5
    obtain ⟨A5, c5, rfl, hc5, hn5, hr5⟩ := rowG_own (mk := Value.bool) false hown5
    have HR5 := Lib.hid (hr5.more (T := fun b => w4.heap.size ≤ b ∧ b < w5.heap.size) (fun b h => ⟨h.1, h.2.1⟩))
    have HN5 := Lib.hid hn5
    have HB5 := Lib.hid (HB4.out.trans (hb.mono HB4.out.size))
    have HF5 := Lib.hid (HF4.out.belowAll hb)
    clear hown5 hb hn5 hr5 hc5
    go_wp2_with fail
    refine (equal_yes _ _ _ _ _ xs _ _ _ (HROW.out.below HB5.out (fun b e => by rw [e]; exact HGL.out)) (HX3.out.below HB5.out (fun b h => Nat.lt_of_lt_of_le h HB3.out.size)) (fun b e => by rw [e]; exact Nat.lt_of_lt_of_le HGL.out HB5.out.size) (fun b h => Nat.lt_of_lt_of_le h (Nat.le_trans HB3.out.size HB5.out.size)) HBY.out).mono ?_
    rintro e w' ⟨rfl, rfl⟩
    have hc7 := HC7.out
    rw [← HB5.out.cell (p := ⟨g, n, none⟩) HGL.out] at hc7
    generalize xs.drop 4 = ys at *
    go_wp2_with fail
    clear hc7
    have HO5 := Lib.hid (HO2.out.kept (row := none) ⟨HB5.out.os, HB5.out.tape, HB5.out.output, HB5.out.size, fun k hk _ => HB5.out.block k hk⟩ (.inr (by simp [Value.ownBlock])))
    go_loopw [10, 73] (fun _ i wr => ∃ (q : Nat) (zs : List Value), q ≤ n ∧ i = .int .i64 q ∧ wr.ownsRow wc.heap.size 5 1 (.slice (some ⟨g, 0, none⟩) (n + 1) cap) (n + 1) zs ∧ Kept (fun b => b < w5.heap.size ∧ b ≠ g) w5 wr) (fun _ i _ => n - (intOf i).toNat)
    case atStart => exact ⟨0, _, by omega, rfl, HO5.out, Kept.refl _ _⟩
    case round =>
      obtain ⟨q, zs, hq, rfl, hown, hkept⟩ := hrel
      by_cases hlt : q < n
      · have hzl : zs.length = n + 1 := by simpa using hown.1
        have hch := hown.cellAt q (by omega)
        rw [List.getElem?_eq_getElem (by omega)] at hch
        generalize zs[q]'(by omega) = u at hch
        have hfr := hown.frozenAt q
        have HST := Lib.hid (hown.stored q (.int .u8 238))
        have HKE := Lib.hid hkept
        have hqn : (q : Int) < (n : Int) + 1 := by omega
        have hqn2 : q < n + 1 := by omega
        clear hkept hown hzl
        go_wp2
        go_roundw
        case rel => exact ⟨q + 1, _, by omega, by go_num, HST.out.1, HKE.out.setCell (fun h => h.2 rfl) _⟩
        case measure => (simp [intOf] <;> omega)
      · obtain ⟨wl, hwl⟩ : ∃ wl : World, wl = wr := ⟨_, rfl⟩
        rw [← hwl]
        rw [← hwl] at hkept
        have HKE := Lib.hid hkept
        clear hkept hown hwl
        have HFW := Lib.hid (HF5.out.kept HKE.out ⟨HF5.out.ltf, by have := HFL.out; have := HGL.out; omega⟩ ⟨HF5.out.lth, by have := HGL2.out; have := HGL.out; omega⟩)
        have HRW := Lib.hid ((HR5.out.kept HKE.out (fun b h => ⟨h.2, by have := HB4.out.size; have := HGL.out; omega⟩)).more (T := fun b => b < wl.heap.size ∧ b ≠ g2) (fun b h => ⟨Nat.lt_of_lt_of_le h.2 HKE.out.size, by have := HF4.out.lth; omega⟩))
        have HBW := Lib.hid (((HB3.out.trans (HB5.out.mono HB3.out.size))).trans (HKE.out.to_below (B := w.heap.size) (fun b hb => ⟨Nat.lt_of_lt_of_le hb (Nat.le_trans HB3.out.size HB5.out.size), by have := HG.out; omega⟩)))
        have HGW := Lib.hid (show w.heap.size ≤ g2 from Nat.le_trans HB3.out.size HGL2.out)
        go_wp2_with fail
        refine (agree_any _ f g2 ys A5 (8 * k) c5 _ HFW.out HRW.out (fun b h => h.1)).mono ?_
        rintro e wa ⟨rfl, hb⟩
        have HWA := Lib.hid hb
        clear hb
        obtain ⟨bb, hbb⟩ : ∃ b, allSet (bitsOf ys) (nums4 h ys) = b := ⟨_, rfl⟩
        have HBB := Lib.hid hbb
        clear hbb
        go_wp2_with fail
        refine (may_is _ f g2 ys h (HFW.out.belowAll HWA.out) h0 bb HBB.out).mono ?_
        rintro e wb ⟨rfl, hb⟩
        have HWB := Lib.hid (HWA.out.trans (hb.mono HWA.out.size))
        clear hb
        go_wp2_with fail
        refine (ref_may_is A5 k c5 ys _ h _ HYL.out (HRW.out.below HWB.out (fun b h => h.1)) (fun b h => Nat.lt_of_lt_of_le h.1 HWB.out.size) k1 (by omega) h0 h1 bb HBB.out).mono ?_
        rintro e wd ⟨rfl, hb⟩
        have HWD := Lib.hid (HWB.out.trans (hb.mono HWB.out.size))
        clear hb
        go_wp2_with fail
        refine (add_told _ f g2 ys h (HFW.out.belowAll HWD.out) h0).mono ?_
        rintro e we ⟨rfl, hf, hk⟩
        have HFE := Lib.hid hf
        have HKF := Lib.hid hk
        clear hf hk
        go_wp2_with fail
        refine (ref_add_bits A5 k c5 ys _ h _ HYL.out ((HRW.out.below HWD.out (fun b h => h.1)).kept HKF.out (fun b h => ⟨Nat.lt_of_lt_of_le h.1 HWD.out.size, h.2⟩)) (fun b h => Nat.lt_of_lt_of_le h.1 (Nat.le_trans HWD.out.size HKF.out.size)) HN5.out k1 (by omega) h0 h1).mono ?_
        rintro e wf ⟨A6, c6, rfl, hn6, hr6, hb6⟩
        have HR6 := Lib.hid hr6
        have HB6 := Lib.hid hb6
        clear hn6 hr6 hb6
        go_wp2_with fail
        refine (agree_any _ f g2 (addF ys h) A6 (8 * k) c6 _ (HFE.out.belowAll HB6.out) HR6.out (fun b h => h.2)).mono ?_
        rintro e wg ⟨rfl, hb⟩
        have HWG := Lib.hid hb
        clear hb
        go_wp2_with fail
        go_ret
        have h1 := HBW.out.trans (HWD.out.mono HBW.out.size)
        have h2 := h1.trans (HKF.out.to_below (B := w.heap.size) (fun b hb => ⟨Nat.lt_of_lt_of_le hb h1.size, by have := HGW.out; omega⟩))
        have h3 := h2.trans (HB6.out.mono h2.size)
        exact ⟨rfl, h3.trans (HWG.out.mono h3.size)⟩

set_option maxRecDepth 100000 in
theorem walk (a0 : Option Addr) (len0 cap0 : Nat) (z0 : List Int) (a1 : Int) (w : World) (w0 : IsRow .u8 w a0 len0 cap0 z0) (w1 : (Lit.int .u64 a1).wf = true) :
    Calls Try.prog 5 #[.slice a0 len0 cap0, .int .u64 a1] w fun e w' => e = .returned (.bool true) ∧ Below w.heap.size w w' := by
  have r0 := row8_of w0
  obtain ⟨hx, hby, hnc, hl, hnil⟩ := r0
  have hh : 0 ≤ a1 ∧ a1 ≤ 18446744073709551615 := by simpa [Lit.wf, IntKind.min, IntKind.max, IntKind.signed, IntKind.bits] using w1
  obtain ⟨n, hn⟩ : ∃ n, n = min len0 9000 := ⟨_, rfl⟩
  have hmin : (len0 ≤ 9000 ∧ n = len0) ∨ (9000 < len0 ∧ n = 9000) := by omega
  have hx2 := hx.take n (by omega)
  have hby2 := hby.take n
  generalize (z0.take len0).take n = xs at *
  by_cases h4 : n < 4
  · exact walk_short a0 len0 n cap0 xs a1 w hx2 hby2 hmin hnc hl hnil hh.1 hh.2 h4
  · by_cases hbad : ¬ (8 ≤ numOf (xs.take 4) ∧ numOf (xs.take 4) ≤ 65536 ∧ numOf (xs.take 4) % 8 = 0) ∨ (n : Int) ≠ 4 + numOf (xs.take 4) / 8
    · exact walk_bad a0 len0 n cap0 xs a1 w hx2 hby2 hmin hnc hl hnil hh.1 hh.2 (by omega) hbad
    · have hg : 8 ≤ numOf (xs.take 4) ∧ numOf (xs.take 4) ≤ 65536 ∧ numOf (xs.take 4) % 8 = 0 := Classical.byContradiction fun h => hbad (.inl h)
      have he : (n : Int) = 4 + numOf (xs.take 4) / 8 := Classical.byContradiction fun h => hbad (.inr h)
      exact walk_ok a0 len0 n cap0 xs a1 w hx2 hby2 hmin hnc hl hnil hh.1 hh.2 (numOf (xs.take 4) / 8).toNat (by omega) (by omega) (by omega) (by omega)

set_option maxRecDepth 100000 in
theorem lifted (os : Os) (started : os.Started) (H : Type) (enc : TypeId × Value → H) :
    ReturnsInHanded {} Try.checked os 5 .any (Rows.bloomBytesSpec.pre6 enc Try.prog Try.f5 Rows.bloomBytesRow.domain false) (Rows.bloomBytesSpec.post enc Try.prog Try.f5 false true false false) := by
  refine returnsInHanded_of_change (C := Try.checked) own started (by kernel_rfl) Try.func5
    (ChangeSpec.witness6 (enc := enc) (C := Try.checked) false ⟨#[], #[.slice none 0 0, .int .u64 0], []⟩ 8 (by kernel_rfl) (by kernel_rfl) (by kernel_rfl) (by kernel_rfl)) ?_
  intro W base args ds gs before hval0 hW hcnd _
  have hval : ∀ (j : Nat) t v, Try.f5.params[j]? = some t → args[j]? = some v → Value.okWide Try.prog W .any base t v := hval0
  have hW' := hW
  obtain ⟨p, q, hA0, hV, rfl, hfz, hnd⟩ := hW
  have hA : DataW.TrodAll enc Try.prog W 0 (fun _ => true) true Try.f5.params.toList args.toList ds p := hA0
  rw [Try.params5] at hA hval
  obtain ⟨v0, vs0, d0, ds0, p0, q0, hargs, rfl, rfl, h0, r0⟩ := trodAll_cons hA
  obtain ⟨v1, vs1, d1, ds1, p1, q1, rfl, rfl, rfl, h1, r1⟩ := trodAll_cons r0
  obtain ⟨rfl, rfl, rfl⟩ := trodAll_nil r1
  obtain rfl : args = #[v0, v1] := by cases args; simp_all
  obtain ⟨rfl, rfl⟩ := trodVars_none hV
  obtain ⟨a0, len0, cap0, rfl⟩ := okWide_slice Try.underlying42 (hval 0 42 v0 rfl rfl)
  have k0 := h0
  have lt0 : ∀ x ∈ p0, x.block < W.heap.size := by obtain ⟨m, hm⟩ := k0; exact DataW.trod_lt m _ _ _ hm
  obtain ⟨z0, w0, e0⟩ : ∃ zs, IsRow .u8 W a0 len0 cap0 zs ∧ (cap0 = 0 ∨ d0 = .slice (ChangeShapes.lits .u8 (zs.take len0)) (ChangeShapes.lits .u8 (zs.drop len0)) ∧ zs.length = cap0) := by
    obtain ⟨fuel, hf⟩ := h0
    rcases open_ints Try.underlying42 Try.underlying5 (by kernel_rfl) hf with ⟨hcs, _⟩ | ⟨x, l, c, zs, hcs, _, hl, hm, hz, hx, hcell, hwz⟩
    · simp [Value.cells] at hcs
      obtain ⟨rfl, rfl, rfl⟩ := hcs
      exact ⟨[], .inl ⟨rfl, rfl, rfl, rfl⟩, .inl rfl⟩
    · simp [Value.cells] at hcs
      obtain ⟨rfl, rfl, rfl⟩ := hcs
      have hz' : zs.length = cap0 := by simpa using hz
      exact ⟨zs, .inr ⟨_, rfl, hl, hm, hz', hcell, hwz⟩, .inr ⟨(Prod.mk.injEq _ _ _ _ ▸ hx).1, hz'⟩⟩
  obtain ⟨a1, rfl, rfl, rfl, w1⟩ := open_int Try.underlying31 (hval 1 31 v1 rfl rfl) h1
  clear hA0 hval0
  refine (walk a0 len0 cap0 z0 a1 W w0 w1).mono fun e W' ⟨he, bel⟩ => ?_
  subst he
  exact ⟨_, rfl, _, _, _, [], _, [], hW', trodAll_mk1 (shut_bool Try.underlying4 _), (trodAll_cons_mk (Below.trod laidOut (by kernel_rfl) (of_decide_eq_true (by kernel_rfl)) k0 bel lt0) (trodAll_cons_mk (shut_int Try.underlying31 w1) trodAll_mk0)), rfl, bel.frame _, fun h => by cases h⟩

theorem over : Rows.bloomBytesRow.holds Try.pinned (OpenSpec.ofChange Rows.bloomBytesSpec) :=
  OpenClaim.holds_of_wide 5 Try.f5 rfl rfl rfl rfl rfl rfl rfl ⟨rfl, rfl, rfl, rfl, rfl⟩ rfl rfl rfl rfl rfl (by kernel_rfl) Try.func5 (by kernel_rfl)
    (of_decide_eq_true (by kernel_rfl)) (by unfold Func.isWrapper; first | (rw [if_pos (by decide +kernel)]; kernel_rfl) | (rw [if_neg (by decide +kernel)]; exact ⟨rfl, rfl⟩))
    (fun os started H enc _ => lifted os started H enc)

theorem proved : Rows.BloomBytesSaid := over
end Go.Proofs.Yteblfcbfgkbanaa.bloomBytes
