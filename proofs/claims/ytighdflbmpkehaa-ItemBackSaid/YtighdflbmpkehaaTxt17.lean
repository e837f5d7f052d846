/- What item.Text answers of whatever number: its digits, in a row of the call's own. -/
import Derived.Test.YtighdflbmpkehaaNumP17
import Derived.Test.YtighdflbmpkehaaAppend
namespace Go.Proofs.Ytighdflbmpkehaa
open Go.RowKit

theorem info_u8 : (Try.prog.info? 5).map (fun i => (i.zero, i.size, i.bytes)) = some (some (.int .u8 0), 1, 1) := by kernel_rfl
theorem size_u8 : (Try.prog.info? 5).map (·.size) = some 1 := by kernel_rfl

/-- A block of bytes. -/
abbrev ArrU (w : World) (g : Nat) (xs : List Int) : Prop := Arr (Value.int .u8) w g 5 xs

theorem one_u8 (xs : List Int) : ∀ v ∈ xs.map (Value.int .u8), v.oneCell' = true := by
  intro v hv
  obtain ⟨x, _, rfl⟩ := List.mem_map.1 hv
  rfl

/-- A slice without room behind it, in a block that is new, comes back. -/
def TxtTold (n : Nat) (w : World) (e : Ending) (w' : World) : Prop :=
  ∃ at_, e = .returned (.slice (some ⟨w.heap.size, at_, none⟩) (txt n).length (txt n).length) ∧ RowI .u8 w' (fun b => b = w.heap.size ∧ b < w'.heap.size) (some ⟨w.heap.size, at_, none⟩) (txt n).length (txt n) ∧ Below w.heap.size w w'

theorem drop_set_self {α : Type} (L : List α) (k : Nat) (x : α) (h : k < L.length) : (L.set k x).drop k = x :: L.drop (k + 1) := by
  rw [List.drop_eq_getElem_cons (by simpa using h)]
  simp [List.drop_set]
theorem arr_drop {w : World} {g : Nat} {L : List Int} {k n : Nat} {xs : List Int} (h : ArrU w g L) (hd : L.drop k = xs) (hn : xs.length = n) (hk : k ≤ L.length) : RowI .u8 w (fun b => b = g ∧ b < w.heap.size) (some ⟨g, k, none⟩) n xs := by
  refine ⟨hn, fun h0 => ⟨g, k, rfl, ⟨rfl, h.lt⟩, fun j hj => ?_⟩⟩
  have hl : xs.length = L.length - k := by rw [← hd]; simp
  rw [h.cell (by omega) 0, ← hd]
  congr 2
  simp [List.getD, List.getElem?_drop]

set_option maxHeartbeats 1000000 in
set_option maxRecDepth 1000000 in
theorem text_any (n : Nat) (w : World) (hn : n ≤ 18446744073709551615) :
    Calls Try.prog 16 #[.int .u64 n] w (TxtTold n w) := by
  have hmk : ∀ u : World, (Instr.makeSlice 27 (.int .i64 20) (.int .i64 20)).run Try.prog u = _ := fun u => run_make_row' (P := Try.prog) 27 5 (.int .u8 0) 1 Try.underlying27 info_u8 rfl .i64 .i64 20 (by omega) (by omega) u
  have HM := Lib.hid (Arr.made (mk := Value.int .u8) w 0 20 5)
  have HB := Lib.hid ((Below.refl w.heap.size w).alloc (Nat.le_refl _) (.cells (madeCells #[.int .u8 0] 20) 5))
  go_enter Try.func16, Try.ntmps16
  go_wp2
  go_loopw [0, 4] (fun v i wr => ∃ (m at_ : Nat) (L : List Int), v = .int .u64 m ∧ i = .int .i64 at_ ∧ at_ < 20 ∧ m < 10 ^ (at_ + 1) ∧ m ≤ 18446744073709551615 ∧ ArrU wr w.heap.size L ∧ L.length = 20 ∧ Hid (txt n = txt m ++ L.drop (at_ + 1)) ∧ Below w.heap.size w wr) (fun v _ _ => (intOf v).toNat)
  case atStart => exact ⟨n, 19, List.replicate 20 0, rfl, rfl, by omega, by omega, hn, HM.out, by simp, by show _ = _; simp, HB.out⟩
  case round =>
    obtain ⟨m, at_, L, rfl, rfl, hat, hm, hm2, harr, hL, HT, hbw⟩ := hrel
    have hc := harr.cell (i := at_) (by omega) 0
    have hfr := harr.frozen at_
    have hset := fun u : Int => Lib.hid (harr.set at_ u)
    have hb2 := fun u : Value => Lib.hid (hbw.setCell (p := ⟨w.heap.size, at_, none⟩) (Nat.le_refl _) u)
    have HL := Lib.hid (fun x : Int => drop_set_self L at_ x (by omega))
    by_cases h9 : m ≤ 9
    · have h9' : (m : Int) ≤ 9 := by omega
      clear harr hbw
      go_wp2
      go_ret
      have ht : txt n = (L.set at_ (48 + (m : Int))).drop at_ := by rw [HT.out, txt_small (by omega), HL.out]; rfl
      have hl : (txt n).length = 20 - at_ := by rw [ht, List.length_drop, List.length_set, hL]
      refine ⟨at_, by rw [hl]; rfl, ?_, (hb2 _).out⟩
      exact arr_drop (hset _).out ht.symm rfl (by rw [List.length_set]; omega)
    · have h9' : (9 : Int) < m := by omega
      have hat0 : 1 ≤ at_ := by
        rcases Nat.eq_zero_or_pos at_ with rfl | h
        · simp at hm; omega
        · exact h
      have hw : IntKind.i64.wrap ((at_ : Int) - 1) = (at_ : Int) - 1 := by rw [IntKind.wrap_i64]; omega
      clear harr hbw
      go_wp2
      go_roundw
      case rel =>
        refine ⟨m / 10, at_ - 1, L.set at_ (48 + ((m % 10 : Nat) : Int)), by congr 1, by congr 1; omega, by omega, ?_, by omega, (hset _).out, by rw [List.length_set, hL], ?_, (hb2 _).out⟩
        · rw [show at_ - 1 + 1 = at_ by omega]
          rw [Nat.pow_succ] at hm
          omega
        · show _ = _
          rw [show at_ - 1 + 1 = at_ by omega, HL.out, HT.out, txt_big (show ¬ m < 10 by omega), List.append_assoc]
          rfl
      case measure => simp [intOf]; omega
end Go.Proofs.Ytighdflbmpkehaa
