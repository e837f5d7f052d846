/- Stage 10: wakes. -/
import Derived.Test.YtfgmbkflpdobcaaNewX
import Derived.Test.YtfgmbkflpdobcaaRem
import Derived.Deep.RegionHeld3
namespace Go.Proofs.Ytfgmbkflpdobcaa
open Go.RowKit
attribute [local go_sem] Oper.semAt_some
set_option linter.unusedVariables false
set_option linter.unusedSimpArgs false

theorem IxE.drew {w : World} {x slots : Nat} {es : List Ent} (h : IxE w x slots es) : IxE w.drew x slots es := h.kept ((Kept.refl (fun _ => True) w).drew) trivial
theorem len_e {w : World} {x slots : Nat} {es : List Ent} (h : IxE w x slots es) :
    Calls Try.prog 16 #[.pointer (some ⟨x, 0, none⟩)] w fun e w' => e = .returned (.int .i64 (es.length : Nat)) ∧ w' = w := by
  obtain ⟨c, L, fr, h1, h2, rfl⟩ := h
  have := len_ix h1
  rw [h2.n] at this
  rw [List.length_map]
  exact this
theorem left_e {w : World} {x slots : Nat} {es : List Ent} (h : IxE w x slots es) :
    Calls Try.prog 17 #[.pointer (some ⟨x, 0, none⟩)] w fun e w' => e = .returned (.int .i64 ((slots - es.length : Nat) : Int)) ∧ Kept (fun _ => True) w w' := by
  obtain ⟨c, L, fr, h1, h2, rfl⟩ := h
  have hall := h2.all
  have htop := h2.top
  refine (left_ix h1 h2.s0 h2.n (by omega)).mono ?_
  rintro e w' ⟨rfl, hk⟩
  refine ⟨?_, hk⟩
  rw [List.length_map, Int.ofNat_sub (by omega)]
abbrev a7 : Seg := (1, 2, 3)
abbrev e7 : Ent := (7, 1, 2, 3)
theorem add7 : addE 2 [] (((7 : Nat) : Int), a7) = ([e7], 0) := by decide
theorem add7' : addE 2 [e7] (((7 : Nat) : Int), a7) = ([e7], 5) := by decide
theorem find7 : findE [e7] ((7 : Nat) : Int) = [a7] := by decide
set_option maxRecDepth 100000 in
set_option maxHeartbeats 4000000 in
theorem wakes10 (w : World) : Calls Try.prog 8 #[] w fun e w' => e = .returned (.bool true) ∧ Below w.heap.size w w' := by
  have HN := Lib.hid (new_ok 2 (by omega) (by omega) w)
  go_enter Try.func8, Try.ntmps8
  go_wp2_with fail
  refine HN.out.mono ?_
  rintro e w1 ⟨x, rfl, hix, hb1, hx⟩
  have HB1 := Lib.hid hb1
  have HK2 := Lib.hid (Blk.new w1 36 #[.int .i64 1, .int .u64 2, .int .i64 3])
  have HX2 := Lib.hid (hix.below ((Below.refl w1.heap.size w1).alloc (Nat.le_refl _) (.cells #[.int .i64 1, .int .u64 2, .int .i64 3] 36)) hix.lt)
  have hxl := hix.lt
  have hs1 := hb1.size
  have HB2 := Lib.hid (HB1.out.alloc hs1 (.cells #[.int .i64 1, .int .u64 2, .int .i64 3] 36))
  have hsz : (w1.alloc (.cells #[.int .i64 1, .int .u64 2, .int .i64 3] 36)).heap.size = w1.heap.size + 1 := by simp
  have c0 := HK2.out.cell 0
  have c1 := HK2.out.cell 1
  have c2 := HK2.out.cell 2
  clear hix hb1 HN
  go_wp2_with fail
  have hA := add_ix HX2.out 7 (by omega) a7
  rw [add7] at hA
  generalize w1.alloc (.cells #[.int .i64 1, .int .u64 2, .int .i64 3] 36) = w2 at *
  refine hA.mono ?_
  rintro e w3 ⟨rfl, hx3, hk3⟩
  have hk := HK2.out.kept hk3 ⟨by omega, by omega⟩
  have HK3 := Lib.hid hk
  have d0 := hk.cell 0
  have d1 := hk.cell 1
  have d2 := hk.cell 2
  have HX3 := Lib.hid hx3
  have HB3 := Lib.hid (HB2.out.trans (hk3.to_below (B := w.heap.size) (fun b hb => ⟨by have := HB2.out.size; omega, by omega⟩)))
  have hs3 := hk3.size
  clear hA hk hx3 hk3 c0 c1 c2
  go_wp2_with fail
  have hF := find_ix HX3.out 7
  rw [find7] at hF
  refine hF.mono ?_
  rintro e w4 ⟨⟨v, rfl, hown⟩, hb4⟩
  obtain ⟨A, cap, rfl⟩ := ownsRow_slice hown
  obtain ⟨g, rfl⟩ : ∃ g, A = some ⟨g, 0, none⟩ := by
    rcases hown.2 with ⟨_, h0⟩ | ⟨g, cap', cur, h1, _⟩
    · exact absurd h0 (by decide)
    · injection h1 with h1 _ _
      exact ⟨g, h1⟩
  have g0 : w4.cell? ⟨g, 0, none⟩ = some (.int .i64 1) := by have := hown.cells (g := g) rfl 0 (.int .i64 1) rfl; rw [add_plain] at this; exact this
  have g1 : w4.cell? ⟨g, 1, none⟩ = some (.int .u64 2) := by have := hown.cells (g := g) rfl 1 (.int .u64 2) rfl; rw [add_plain] at this; exact this
  have g2 : w4.cell? ⟨g, 2, none⟩ = some (.int .i64 3) := by have := hown.cells (g := g) rfl 2 (.int .i64 3) rfl; rw [add_plain] at this; exact this
  have hlt3 := HK3.out.lt
  have hk := HK3.out.below hb4 hlt3
  have HK4 := Lib.hid hk
  have d0 := hk.cell 0
  have d1 := hk.cell 1
  have d2 := hk.cell 2
  have HX4 := Lib.hid (HX3.out.below hb4 HX3.out.lt)
  have HB4 := Lib.hid (HB3.out.trans (hb4.mono HB3.out.size))
  have hs4 := hb4.size
  clear hF hown hk hb4
  rw [show ([a7] : List Seg).length = 1 from rfl]
  go_wp2_with fail
  have hq : ∀ w, (binOp .eql 36 (.agg #[.int .i64 1, .int .u64 2, .int .i64 3]) (.agg #[.int .i64 1, .int .u64 2, .int .i64 3])).run Try.prog w = .ok (.bool true) w := fun w => eql_adr 1 2 3 1 2 3 w
  have HL := Lib.hid (fun (W : World) (h : IxE W x 2 [e7]) => len_e h)
  have HF := Lib.hid (fun (W : World) (h : IxE W x 2 [e7]) => left_e h)
  have HA := Lib.hid (fun (W : World) (h : IxE W x 2 [e7]) => by have := add_ix h 7 (by omega) a7; rw [add7'] at this; exact this)
  have HX5 := Lib.hid HX4.out.drew
  have hs5 : w4.drew.heap.size = w4.heap.size := rfl
  go_region_with (first
    | (go_at_call 16; refine (HL.out _ HX5.out).mono ?_; rintro e w6 ⟨rfl, rfl⟩)
    | (go_at_call 17; refine (HF.out _ HX5.out).mono ?_; rintro e w6 ⟨rfl, hk6⟩; have d0 := (hk6.cell (p := ⟨w1.heap.size, 0, none⟩) trivial).trans d0; have d1 := (hk6.cell (p := ⟨w1.heap.size, 1, none⟩) trivial).trans d1; have d2 := (hk6.cell (p := ⟨w1.heap.size, 2, none⟩) trivial).trans d2)
    | (go_at_call 18; refine (HA.out _ (HX5.out.kept hk6 trivial)).mono ?_; rintro e w7 ⟨rfl, hx7, hk7⟩))
  all_goals go_wp2
  all_goals go_ret
  all_goals
    have hb6 : Below w.heap.size w w6 := HB4.out.drew.trans (hk6.to_below (fun _ _ => trivial))
    have hs6 := hk6.size
    exact ⟨rfl, hb6.trans (hk7.to_below (fun b hb => ⟨by omega, by omega⟩))⟩
end Go.Proofs.Ytfgmbkflpdobcaa
