/- What item.Number answers of whatever bytes: the number that their text says, or ErrNumber. -/
import Derived.Test.YtighdflbmpkehaaNumP17
import Derived.Lib.OthersKept
import Derived.BigQuiet
namespace Go.Proofs.Ytighdflbmpkehaa
open Go.RowKit

/-- The number that is told, and the error. -/
def numV (xs : List Int) : Nat := (numT xs).getD 0
def numE (xs : List Int) : Int := if (numT xs).isSome = true then 0 else 270

theorem numT_short {xs : List Int} (h : xs.length < 1 ∨ 20 < xs.length) : numT xs = none := by unfold numT; rw [if_pos h]
theorem numT_fit {xs : List Int} (h : ¬ (xs.length < 1 ∨ 20 < xs.length)) : numT xs = numF 0 xs := by unfold numT; rw [if_neg h]
theorem numV_none {xs : List Int} (h : numT xs = none) : numV xs = 0 ∧ numE xs = 270 := by unfold numV numE; rw [h]; exact ⟨rfl, rfl⟩
theorem numV_some {xs : List Int} {m : Nat} (h : numT xs = some m) : numV xs = m ∧ numE xs = 0 := by unfold numV numE; rw [h]; exact ⟨rfl, rfl⟩

theorem nums_drop (s : ByteArray) (pos : Nat) (h : pos < s.size) : (nums s).drop pos = ((s[pos]'h).toNat : Int) :: (nums s).drop (pos + 1) := by
  have hl : pos < (nums s).length := by rw [nums_length]; exact h
  rw [List.drop_eq_getElem_cons hl]
  congr 1
  have := nums_get s pos h
  rw [List.getD, List.getElem?_eq_getElem hl] at this
  exact this
theorem iterPos_of {w : World} {k : Nat} {s : ByteArray} {p : Nat} (h : w.heap[k]? = some (.stringIter s p)) : w.iterPos k = p := by simp [World.iterPos, h]

set_option maxHeartbeats 1000000 in
set_option maxRecDepth 1000000 in
theorem number_any (A : Option Addr) (n c : Nat) (xs : List Int) (S : Nat → Prop) (w : World) (hx : RowI .u8 w S A n xs) (hS : ∀ b, S b → b < w.heap.size) (hb : Bytes xs) :
    Calls Try.prog 14 #[.slice A n c] w fun e w' => e = .returned (.tuple #[.int .u64 (numV xs), .int .i64 (numE xs)]) ∧ Below w.heap.size w w' := by
  have hlen := hx.1
  obtain ⟨s, hcv, hs⟩ := conv_string (P := Try.prog) w 27 9 5 Try.underlying27 Try.underlying5 Try.underlying9 (B := w.heap.size) c (hx.more (T := (· < w.heap.size)) hS).toRow hb
  have hsz : s.size = n := by rw [← nums_length s, hs]; exact hlen
  clear hx hb hS
  by_cases h1 : (n : Int) < 1
  · have hN := numV_none (numT_short (xs := xs) (by omega))
    go_enter Try.func14, Try.ntmps14
    go_wp2
    go_ret2
    exact ⟨by first | rfl | (rw [hN.1, hN.2]; rfl), Below.refl _ _⟩
  by_cases h2 : (n : Int) > 20
  · have hN := numV_none (numT_short (xs := xs) (by omega))
    go_enter Try.func14, Try.ntmps14
    go_wp2
    go_ret2
    exact ⟨by first | rfl | (rw [hN.1, hN.2]; rfl), Below.refl _ _⟩
  have HT := Lib.hid (numT_fit (xs := xs) (by omega))
  have HX := Lib.hid hs
  clear hs hlen
  go_enter Try.func14, Try.ntmps14
  go_wp2
  go_loopw [4] (fun v wr => ∃ pos m : Nat, wr.heap[w.heap.size]? = some (.stringIter s pos) ∧ Below w.heap.size w wr ∧ v = .int .u64 m ∧ m ≤ 18446744073709551615 ∧ Hid (numF m ((nums s).drop pos) = numT xs)) (fun _ wr => s.size - wr.iterPos w.heap.size)
  case atStart => exact ⟨0, 0, World.iter_heap w s 0, (Below.refl _ _).alloc (Nat.le_refl _) _, rfl, by omega, by show _ = _; rw [HT.out, ← HX.out]; rfl⟩
  case round =>
    obtain ⟨pos, m, hit, hbw, rfl, hm, HS⟩ := hrel
    have hpos0 := iterPos_of hit
    by_cases hp : pos < s.size
    · by_cases ha : (s[pos]'hp).toNat < 128
      · have hnx : ∀ ty, (Instr.next (.pointer (some ⟨w.heap.size, 0, none⟩)) true ty).run Try.prog wr = _ := fun ty => Lib.run_next_ascii_at wr w.heap.size s pos ty hit hp ha
        have hit2 := Lib.iterAt_heap wr w.heap.size s pos (pos + 1) hit
        have hbw2 := Lib.below_iterAt hbw (k := w.heap.size) (Nat.le_refl _) s (pos + 1)
        have HD := Lib.hid (nums_drop s pos hp)
        generalize hx0 : (s[pos]'hp).toNat = x at hnx HD ha
        generalize wr.iterAt w.heap.size s (pos + 1) = W1 at hnx hit2 hbw2
        clear hit hbw
        have HN : numF m (((x : Nat) : Int) :: (nums s).drop (pos + 1)) = numT xs := by rw [← HD.out]; exact HS.out
        rw [numF] at HN
        have HN2 := Lib.hid HN
        clear HN HS HD
        go_wp2
        all_goals first
          | (go_ret2
             have hN : numT xs = none := by
               have h := HN2.out
               first
                 | (rw [if_pos (by omega)] at h; exact h.symm)
                 | (rw [if_neg (by omega), if_pos (by omega)] at h; exact h.symm)
             exact ⟨by rw [(numV_none hN).1, (numV_none hN).2]; rfl, hbw2⟩)
          | (refine ⟨⟨pos + 1, 10 * m + (((x : Nat) : Int) - 48).toNat, hit2, hbw2, by congr 1; omega, by omega, ?_⟩, ?_⟩
             · have h := HN2.out
               rw [if_neg (by omega), if_neg (by omega)] at h
               exact h
             · rw [iterPos_of hit2, hpos0]; omega)
      · have hnx : ∀ ty, (Instr.next (.pointer (some ⟨w.heap.size, 0, none⟩)) true ty).run Try.prog wr = _ := fun ty => Lib.run_next_any_at wr w.heap.size s pos ty hit hp
        have hbw2 := Lib.below_iterAt hbw (k := w.heap.size) (Nat.le_refl _) s (pos + (Utf8.decode s pos).2)
        have hr := (decode_high s pos hp (by omega)).1
        have hr2 := decode_le s pos
        have HN : numT xs = none := by
          have h := HS.out
          rw [nums_drop s pos hp, numF, if_pos (by omega)] at h
          exact h.symm
        have HN2 := Lib.hid HN
        generalize (Utf8.decode s pos).1 = x at hnx hr hr2
        generalize wr.iterAt w.heap.size s (pos + (Utf8.decode s pos).2) = W1 at hnx hbw2
        clear hit hbw HN HS ha
        go_wp2
        go_ret2
        exact ⟨by rw [(numV_none HN2.out).1, (numV_none HN2.out).2]; rfl, hbw2⟩
    · have hnx : ∀ ty, (Instr.next (.pointer (some ⟨w.heap.size, 0, none⟩)) true ty).run Try.prog wr = _ := fun ty => Lib.run_next_end_at wr w.heap.size s pos ty hit hp
      have HN : numT xs = some m := by
        have h := HS.out
        rw [List.drop_eq_nil_of_le (by rw [nums_length]; omega)] at h
        exact h.symm
      have HN2 := Lib.hid HN
      clear hit HN HS
      go_wp2
      go_ret2
      exact ⟨by rw [(numV_some HN2.out).1, (numV_some HN2.out).2]; rfl, hbw⟩
end Go.Proofs.Ytighdflbmpkehaa
