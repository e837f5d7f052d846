/- What item.Join answers of whatever two lists of bytes: both, one behind the other, in a row of the call's own; slices.Concat and slices.Grow, as they are called here. -/
import Derived.Test.YtighdflbmpkehaaItm17
import Derived.Test.YtighdflbmpkehaaAppend
namespace Go.Proofs.Ytighdflbmpkehaa
open Go.RowKit

theorem grow_any (n : Nat) (w : World) (hn : n ≤ 1024) :
    Calls Try.prog 23 #[.slice none 0 0, .int .i64 n] w fun e w' => ∃ v, e = .returned v ∧ w'.ownsRow w.heap.size 5 1 v 0 [] ∧ Below w.heap.size w w' := by
  obtain ⟨i0, hi, hz0, hz1, hz2⟩ := info_parts info_u8
  rcases Nat.eq_zero_or_pos n with rfl | h0
  · go_enter Try.func23, Try.ntmps23
    go_wp2
    go_ret
    exact ⟨_, rfl, World.ownsRow_nil _ _ _ _, Below.refl _ _⟩
  · have h0' : (0 : Int) < n := by omega
    have hr := Lib.run_append_nil_zeros (P := Try.prog) w 27 3 27 5 i0 (.int .u8 0) .i64 .i64 Try.underlying27 Try.underlying3 hi hz0 n h0 (by omega) (by omega) (by rw [hz2]; omega)
    have hcap := grownCap_le_maxLen w n 0 5 (by unfold maxLen; omega)
    have hge := grownCap_ge w n 0 5
    have HB := Lib.hid (((Below.refl w.heap.size w).drew).alloc (Nat.le_refl _) (.cells (Builtin.zeroCells (Value.int .u8 0).cells n ++ Builtin.zeroCells (Value.int .u8 0).cells (grownCap w n 0 5 - n)) 5))
    have HO := Lib.hid (World.ownsRow_made (base := w.heap.size) (e := 5) (size := 1) w.drew (Builtin.zeroCells (Value.int .u8 0).cells n ++ Builtin.zeroCells (Value.int .u8 0).cells (grownCap w n 0 5 - n)) (grownCap w n 0 5) (Nat.le_refl _) hcap (by
      rw [Array.size_append, size_zeroCells, size_zeroCells]
      show n * 1 + (grownCap w n 0 5 - n) * 1 = _
      omega))
    have e0 : w.drew.heap.size = w.heap.size := rfl
    rw [e0] at HO
    generalize (w.drew.alloc (.cells (Builtin.zeroCells (Value.int .u8 0).cells n ++ Builtin.zeroCells (Value.int .u8 0).cells (grownCap w n 0 5 - n)) 5)) = W at hr HB HO
    generalize grownCap w n 0 5 = cap at hr hcap hge HO
    have HR := Lib.hid hr
    have hcap2 : (0 : Int) ≤ cap := by omega
    clear hr hcap hi hz0 hz1 hz2 e0
    go_enter Try.func23, Try.ntmps23
    go_wp2_with (at_builtin; refine Lib.wpList_append_run _ rfl (.tmp 20) (.tmp 21) 27 3 rfl _ _ rfl rfl _ _ HR.out ?_)
    go_ret
    exact ⟨_, rfl, HO.out, HB.out⟩

set_option maxHeartbeats 1000000 in
set_option maxRecDepth 1000000 in
theorem concat_any (g : Nat) (A A' : Option Addr) (n c n' c' : Nat) (xs ys : List Int) (S : Nat → Prop) (w : World) (hx : RowI .u8 w S A n xs) (hy : RowI .u8 w S A' n' ys) (hS : ∀ b, S b → b < w.heap.size) (hnil : A = none → c = 0) (hnil' : A' = none → c' = 0)
    (hn : n + n' ≤ 1024) (hg : g < w.heap.size) (h0 : w.cell? ⟨g, 0, none⟩ = some (.slice A n c)) (h1 : w.cell? ⟨g, 1, none⟩ = some (.slice A' n' c')) :
    Calls Try.prog 22 #[.slice (some ⟨g, 0, none⟩) 2 2] w fun e w' => ∃ v, e = .returned v ∧ w'.ownsRow w.heap.size 5 1 v (n + n') ((xs ++ ys).map (Value.int .u8)) ∧ Below w.heap.size w w' := by
  obtain ⟨i0, hi, hz0, hz1, hz2⟩ := info_parts info_u8
  have HX := Lib.hid hx
  have HY := Lib.hid hy
  have HI := Lib.hid (show _ ∧ _ ∧ _ ∧ _ from ⟨hi, hz0, hz1, hz2⟩)
  clear hx hy hi hz0 hz1 hz2
  go_enter Try.func22, Try.ntmps22
  go_wp2
  go_loop [3, 11] (fun v i => (i = .int .i64 0 ∧ v = .int .i64 0) ∨ (i = .int .i64 1 ∧ v = .int .i64 n) ∨ (i = .int .i64 2 ∧ v = .int .i64 (n + n' : Nat))) (fun _ i => 2 - (intOf i).toNat)
  case atStart => exact .inl ⟨rfl, rfl⟩
  case round =>
    rcases hrel with ⟨rfl, rfl⟩ | ⟨rfl, rfl⟩ | ⟨rfl, rfl⟩
    · go_wp2
      go_round
      case rel => exact .inr (.inl ⟨by go_num, by go_num⟩)
      case measure => simp [intOf]
    · go_wp2
      go_round
      case rel => exact .inr (.inr ⟨by go_num, by go_num⟩)
      case measure => simp [intOf]
    · go_wp2_with fail
      refine (grow_any (n + n') w hn).mono ?_
      rintro e w1 ⟨v1, rfl, hown1, hb1⟩
      have HO1 := Lib.hid hown1
      have HB1 := Lib.hid hb1
      clear hown1 hb1
      go_wp2
      go_loopw [6, 27] (fun v i wr => Below w.heap.size w wr ∧ ((i = .int .i64 0 ∧ wr.ownsRow w.heap.size 5 1 v 0 []) ∨ (i = .int .i64 1 ∧ wr.ownsRow w.heap.size 5 1 v n (xs.map (Value.int .u8))) ∨ (i = .int .i64 2 ∧ wr.ownsRow w.heap.size 5 1 v (n + n') ((xs ++ ys).map (Value.int .u8))))) (fun _ i _ => 2 - (intOf i).toNat)
      case atStart => exact ⟨HB1.out, .inl ⟨rfl, HO1.out⟩⟩
      case round =>
        obtain ⟨hbw, hrel⟩ := hrel
        have HBW := Lib.hid hbw
        have k0 : wr.cell? ⟨g, 0, none⟩ = some (.slice A n c) := by rw [hbw.cell (p := ⟨g, 0, none⟩) hg]; exact h0
        have k1 : wr.cell? ⟨g, 1, none⟩ = some (.slice A' n' c') := by rw [hbw.cell (p := ⟨g, 1, none⟩) hg]; exact h1
        clear hbw
        obtain ⟨hi, hz0, hz1, hz2⟩ := HI.out
        rcases hrel with ⟨rfl, hown⟩ | ⟨rfl, hown⟩ | ⟨rfl, hown⟩
        · have HO := Lib.hid hown
          clear hown
          go_wp2_with (first
            | (at_builtin; refine wpList_append_rowG (mk := Value.int .u8) (d := 0) rfl (.tmp 31) (.tmp 32) 27 rfl w.heap.size 5 i0 (.int .u8 0) 1 Try.underlying27 hi hz0 hz1 hz2 rfl (fun _ => rfl) _ 0 _ rfl HO.out S A n c xs rfl (HX.out.below HBW.out hS) hnil (by unfold maxLen; omega) (by omega) HBW.out.size ?_
               intro v5 w5 hown hgrow _
               rw [List.nil_append, Nat.zero_add] at hown
               have HO5 := Lib.hid hown
               have HB5 := Lib.hid (HBW.out.grown hgrow HBW.out.size (fun g hg => (HO.out.lt g hg).1))
               clear hown hgrow))
          go_roundw
          case rel => exact ⟨HB5.out, .inr (.inl ⟨by go_num, HO5.out⟩)⟩
          case measure => simp [intOf]
        · have HO := Lib.hid hown
          clear hown
          go_wp2_with (first
            | (at_builtin; refine wpList_append_rowG (mk := Value.int .u8) (d := 0) rfl (.tmp 31) (.tmp 32) 27 rfl w.heap.size 5 i0 (.int .u8 0) 1 Try.underlying27 hi hz0 hz1 hz2 rfl (fun _ => rfl) _ n _ rfl HO.out S A' n' c' ys rfl (HY.out.below HBW.out hS) hnil' (by unfold maxLen; omega) (by omega) HBW.out.size ?_
               intro v5 w5 hown hgrow _
               rw [← List.map_append] at hown
               have HO5 := Lib.hid hown
               have HB5 := Lib.hid (HBW.out.grown hgrow HBW.out.size (fun g hg => (HO.out.lt g hg).1))
               clear hown hgrow))
          go_roundw
          case rel => exact ⟨HB5.out, .inr (.inr ⟨by go_num, HO5.out⟩)⟩
          case measure => simp [intOf]
        · have HO := Lib.hid hown
          clear hown
          go_wp2
          go_ret
          exact ⟨_, rfl, HO.out, HBW.out⟩

theorem own_least17 {w : World} {B B' : Nat} {e : TypeId} {size n : Nat} {v : Value} {xs : List Value} (h : w.ownsRow B e size v n xs) (hB : B' ≤ B) : w.ownsRow B' e size v n xs := by
  obtain ⟨h1, h2⟩ := h
  refine ⟨h1, ?_⟩
  rcases h2 with h2 | ⟨g, cap, cur, a, b, c⟩
  · exact .inl h2
  · exact .inr ⟨g, cap, cur, a, Nat.le_trans hB b, c⟩

/-- What Join tells: ErrLong, or both. -/
def JoinT (xs ys : List Int) (w : World) (e : Ending) (w' : World) : Prop :=
  if 512 < xs.length + ys.length then e = .returned (.tuple #[.slice none 0 0, .int .i64 3]) ∧ w = w'
  else ∃ v, e = .returned (.tuple #[v, .int .i64 0]) ∧ w'.ownsRow w.heap.size 5 1 v (xs.length + ys.length) ((xs ++ ys).map (Value.int .u8)) ∧ Below w.heap.size w w'

set_option maxHeartbeats 1000000 in
set_option maxRecDepth 1000000 in
theorem join_any (A A' : Option Addr) (n c n' c' : Nat) (xs ys : List Int) (S : Nat → Prop) (w : World) (hx : RowI .u8 w S A n xs) (hy : RowI .u8 w S A' n' ys) (hS : ∀ b, S b → b < w.heap.size) (hnil : A = none → c = 0) (hnil' : A' = none → c' = 0)
    (hn : n ≤ 9223372036854775807) (hn' : n' ≤ 9223372036854775807) :
    Calls Try.prog 20 #[.slice A n c, .slice A' n' c'] w (JoinT xs ys w) := by
  have hl := hx.1
  have hl' := hy.1
  by_cases hbig : 512 < xs.length + ys.length
  · have hbig' : (512 : Int) - n < n' := by omega
    have e1 : ∀ e w', JoinT xs ys w e w' = _ := fun e w' => if_pos hbig
    clear hx hy
    go_enter Try.func20, Try.ntmps20
    go_wp2
    go_ret2
    show JoinT xs ys w _ w
    rw [e1]
    exact ⟨rfl, rfl⟩
  · have hbig' : (n' : Int) ≤ 512 - n := by omega
    have HX := Lib.hid hx
    have HY := Lib.hid hy
    have HE := Lib.hid (show ∀ e w', JoinT xs ys w e w' = _ from fun e w' => if_neg hbig)
    have hnn : n + n' ≤ 1024 := by omega
    have HBL := Lib.hid ((Below.refl w.heap.size w).alloc (Nat.le_refl _) (.cells #[.slice A n c, .slice A' n' c'] 27))
    have HBK := Lib.hid (Blk.new w 27 #[.slice A n c, .slice A' n' c'])
    clear hx hy hbig
    go_enter Try.func20, Try.ntmps20
    go_wp2_with fail
    refine (concat_any w.heap.size A A' n c n' c' xs ys S _ (HX.out.below HBL.out hS) (HY.out.below HBL.out hS) (fun b hb => by have := hS b hb; have := HBL.out.size; omega) hnil hnil' hnn HBK.out.lt (HBK.out.cell 0) (HBK.out.cell 1)).mono ?_
    rintro e w2 ⟨v2, rfl, hown, hb2⟩
    have HO := Lib.hid hown
    have HB2 := Lib.hid (HBL.out.trans (hb2.mono HBL.out.size))
    have hsz := HBL.out.size
    clear hown hb2
    go_wp2
    go_ret2
    show JoinT xs ys w _ w2
    rw [HE.out]
    subst hl hl'
    exact ⟨v2, rfl, own_least17 HO.out hsz, HB2.out⟩
end Go.Proofs.Ytighdflbmpkehaa
