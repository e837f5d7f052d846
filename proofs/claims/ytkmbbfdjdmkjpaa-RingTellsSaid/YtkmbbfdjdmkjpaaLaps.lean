/- Rings that go lap by lap. -/
import Derived.Test.YtkmbbfdjdmkjpaaOkB
import Derived.Test.YtkmbbfdjdmkjpaaOldR
import Derived.Test.YtkmbbfdjdmkjpaaSealR
namespace Go.Proofs.Ytkmbbfdjdmkjpaa
open Go.RowKit
set_option linter.unusedVariables false

/-- The ring behind k rounds: each segment is sealed when it was taken last. -/
def lapX (n : Nat) : Nat → List Seg
  | 0 => List.replicate n seg0
  | k + 1 => (lapX n k).set (k % n) (2, ((k + 1 : Nat) : Int), 64)
def lap1 (n k : Nat) : List Seg := if freesR (lapX n k) = 0 then freeX (lapX n k) ((k % n : Nat) : Int) else lapX n k
def lap2 (n k : Nat) : List Seg := openX (lap1 n k) ((k + 1 : Nat) : Int)
def lap3 (n k : Nat) : List Seg := useX (lap2 n k) 63
def lapOk (n k : Nat) : Bool :=
  (freesR (lapX n k) != 0 || (oldR (lapX n k) == ((k % n : Nat) : Int) && stG (lapX n k) (k % n) == 2)) &&
  decide (opnR (lap1 n k) < 0) && decide (topG (lap1 n k) < ((k + 1 : Nat) : Int)) && nxtR (lap1 n k) == ((k % n : Nat) : Int) &&
  opnR (lap2 n k) == ((k % n : Nat) : Int) && leftR 64 (lap2 n k) == 63 && leftR 64 (lap3 n k) == 0 && decide (0 ≤ opnR (lap3 n k)) && decide (sealX (lap3 n k) = lapX n (k + 1))
set_option maxRecDepth 100000 in
theorem laps_all : ((List.range 13).all fun d => (List.range 50).all fun k => lapOk (d + 4) k) = true := by decide +kernel
theorem laps {n k : Nat} (h4 : 4 ≤ n) (h16 : n ≤ 16) (hk : k < 50) : lapOk n k = true := by
  have h := List.all_eq_true.1 laps_all (n - 4) (List.mem_range.2 (by omega))
  have h2 := List.all_eq_true.1 h k (List.mem_range.2 hk)
  rwa [show n - 4 + 4 = n by omega] at h2
theorem lap_len (n : Nat) : ∀ k, (lapX n k).length = n
  | 0 => List.length_replicate ..
  | k + 1 => by show ((lapX n k).set _ _).length = n; rw [List.length_set, lap_len n k]
theorem lap1_len (n k : Nat) : (lap1 n k).length = n := by
  unfold lap1
  split
  · unfold freeX; rw [List.length_set, lap_len]
  · exact lap_len n k
theorem lap2_len (n k : Nat) : (lap2 n k).length = n := by unfold lap2 openX; rw [List.length_set, lap1_len]
theorem lap3_len (n k : Nat) : (lap3 n k).length = n := by unfold lap3 useX; rw [List.length_set, lap2_len]
/-- What a round does. -/
structure Lap (n k : Nat) : Prop where
  full : freesR (lapX n k) = 0 → oldE 64 (lapX n k) = 0 ∧ oldV 64 (lapX n k) = ((k % n : Nat) : Int) ∧ freeE 64 (lapX n k) ((k % n : Nat) : Int) = 0
  opens : openE 64 (lap1 n k) ((k + 1 : Nat) : Int) = 0
  nxt : nxtR (lap1 n k) = ((k % n : Nat) : Int)
  left : leftW 64 (lap2 n k) = 63
  uses : useE 64 (lap2 n k) 63 = 0
  none : leftW 64 (lap3 n k) = 0
  seals : sealE 64 (lap3 n k) = 0
  lap : sealX (lap3 n k) = lapX n (k + 1)
theorem lap_of {n k : Nat} (h4 : 4 ≤ n) (h16 : n ≤ 16) (hk : k < 50) (hok : OkR 64 (lapX n k)) : Lap n k ∧ OkR 64 (lapX n (k + 1)) := by
  have h := laps h4 h16 hk
  unfold lapOk at h
  simp only [Bool.and_eq_true, Bool.or_eq_true, bne_iff_ne, beq_iff_eq, decide_eq_true_eq] at h
  obtain ⟨⟨⟨⟨⟨⟨⟨⟨c1, c2⟩, c3⟩, c4⟩, c5⟩, c6⟩, c7⟩, c8⟩, c9⟩ := h
  have hq : k % n < (lapX n k).length := by rw [lap_len]; exact Nat.mod_lt _ (by omega)
  have hfull : freesR (lapX n k) = 0 → oldE 64 (lapX n k) = 0 ∧ oldV 64 (lapX n k) = ((k % n : Nat) : Int) ∧ freeE 64 (lapX n k) ((k % n : Nat) : Int) = 0 := fun hf => by
    rcases c1 with c1 | ⟨c1, c1'⟩
    · exact absurd hf c1
    · have e1 : oldE 64 (lapX n k) = 0 := by unfold oldE; rw [if_neg (fun k => k hok), c1, if_neg (by omega)]
      exact ⟨e1, by unfold oldV; rw [e1, c1]; rfl, free_go hok hq c1'⟩
  have hok1 : OkR 64 (lap1 n k) := by
    unfold lap1
    split
    case isTrue hf => exact ok_free (hfull hf).2.2
    case isFalse => exact hok
  have ho : openE 64 (lap1 n k) ((k + 1 : Nat) : Int) = 0 := open_go hok1 (by omega) (by omega) (by omega)
  have hok2 : OkR 64 (lap2 n k) := ok_open ho
  have hs2 : sealE 64 (lap2 n k) = 0 := by unfold sealE; rw [if_neg (fun k => k hok2), if_neg (by omega)]
  have hu : useE 64 (lap2 n k) 63 = 0 := use_go hs2 (by omega) (by omega)
  have hok3 : OkR 64 (lap3 n k) := ok_use hu
  have hs3 : sealE 64 (lap3 n k) = 0 := by unfold sealE; rw [if_neg (fun k => k hok3), if_neg (by omega)]
  refine ⟨⟨hfull, ho, c4, by unfold leftW; rw [if_pos hok2]; exact c6, hu, by unfold leftW; rw [if_pos hok3]; exact c7, hs3, c9⟩, ?_⟩
  rw [← c9]
  exact ok_seal hs3

end Go.Proofs.Ytkmbbfdjdmkjpaa
