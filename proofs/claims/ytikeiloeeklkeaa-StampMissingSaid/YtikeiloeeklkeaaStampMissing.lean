/- For every generation, bytes and place (longer bytes than 16384, generation 0 and the highest one the law itself lets by): sectors with one left out, two that changed places, or one of another generation are joined to nothing; with the first left out to what is left. No condition. -/
import Derived.Test.YtikeiloeeklkeaaRows
import Derived.WalkKit
import Derived.ProofKit
import Derived.OpenShut
import Derived.ShutString
import Derived.ChangeOld
import Derived.Below
import Derived.SizedLaws
import Derived.Test.YtikeiloeeklkeaaWakes
import Derived.Test.YtikeiloeeklkeaaSplit2
import Derived.Test.YtikeiloeeklkeaaMiss2
import Derived.Test.YtikeiloeeklkeaaArgs
import Derived.Deep.RegionHeld3
import Derived.Deep.DeepCutAuto
namespace Go.Proofs.Ytikeiloeeklkeaa.stampMissing
open Go.ChangeShapes Go.WideShapes Go.ChangeAt Go.RowKit
open Go.ChangeMaps (open_string shut_string)
set_option linter.unusedVariables false

theorem own : ownKnob Try.prog.godebug = none := by kernel_rfl
theorem laidOut : laidOutB Try.prog = true := by kernel_rfl
theorem bytes5 : Try.prog.bytesOf 5 = 1 := by kernel_rfl

/-- A slice of integers that came in: nil; or a row of 'cap' cells, the numbers 'zs', each fitting its kind. -/
def IsRow (k : IntKind) (w : World) (a : Option Addr) (len cap : Nat) (zs : List Int) : Prop :=
  (a = none ∧ len = 0 ∧ cap = 0 ∧ zs = []) ∨
  ∃ x : Addr, a = some x ∧ len ≤ cap ∧ cap ≤ maxLen ∧ zs.length = cap ∧ (∀ i, i < zs.length → w.cell? (x.add i) = some (.int k (zs.getD i 0))) ∧ ∀ n ∈ zs, (Lit.int k n).wf = true

set_option maxHeartbeats 4000000 in
set_option maxRecDepth 100000 in
theorem walk (a0 : Int) (a1 : Option Addr) (len1 cap1 : Nat) (z1 : List Int) (a2 : Int) (w : World) (w0 : (Lit.int .u64 a0).wf = true) (w1 : IsRow .u8 w a1 len1 cap1 z1) (b1 : cap1 ≤ 140737488351232) (w2 : (Lit.int .i64 a2).wf = true) :
    Calls Try.prog 8 #[.int .u64 a0, .slice a1 len1 cap1, .int .i64 a2] w fun e w' => e = .returned (.bool true) ∧ Below w.heap.size w w' := by
  -- HEARTS
  have r1 := row8_of w1
  obtain ⟨hx1, hv1, hc1, hl1, hnl1⟩ := r1
  have hw0 : 0 ≤ a0 ∧ a0 ≤ 18446744073709551615 := by simpa [Lit.wf, IntKind.min, IntKind.max, IntKind.signed, IntKind.bits] using w0
  have hw2 : -9223372036854775808 ≤ a2 ∧ a2 ≤ 9223372036854775807 := by simpa [Lit.wf, IntKind.min, IntKind.max, IntKind.signed, IntKind.bits] using w2
  generalize z1.take len1 = xs at *
  have HX := Lib.hid hx1
  have HL := Lib.hid hx1.1
  have HV := Lib.hid hv1
  have HW0 := Lib.hid hw0
  have HW2 := Lib.hid hw2
  clear w0 w1 w2 hx1 hv1 hw0 hw2
  go_enter Try.func8, Try.ntmps8
  go_wp2_with fail
  refine (wakes_any w).mono ?_
  rintro e w1 ⟨rfl, hb1⟩
  have HB1 := Lib.hid hb1
  have HX1 := Lib.hid ((HX.out.below hb1 (fun b h => h)).more (T := fun b => b < w1.heap.size) (fun b h => Nat.lt_of_lt_of_le h hb1.size))
  clear hb1
  by_cases d0 : 16384 < len1
  · have e0 : (16384 : Int) < len1 := by omega
    clear d0
    go_wp2
    go_ret
    exact ⟨rfl, HB1.out⟩
  have e0 : decide ((16384 : Int) < (len1 : Int)) = false := by simp; omega
  have hn : len1 ≤ 16384 := by omega
  by_cases d1 : a0 = 0
  · have e1 : (a0 == 0) = true := by simpa using d1
    have HD1 := Lib.hid d1
    clear d0 d1
    go_wp2
    go_ret
    exact ⟨rfl, HB1.out⟩
  have e1 : (a0 == 0) = false := by simpa using d1
  by_cases d2 : a0 = 18446744073709551615
  · have e2 : (a0 == 18446744073709551615) = true := by simpa using d2
    have HD1 := Lib.hid d1
    have HD2 := Lib.hid d2
    clear d0 d1 d2
    go_wp2
    go_ret
    exact ⟨rfl, HB1.out⟩
  have e2 : (a0 == 18446744073709551615) = false := by simpa using d2
  have hg1 : 1 ≤ a0 := by have := HW0.out; omega
  have HG2 := Lib.hid (show a0 ≤ 18446744073709551614 by have := HW0.out; omega)
  have hcb := cnt_bounds len1 hn
  clear d0 d1 d2
  go_wp2_with fail
  refine (split_ok a0 7 a1 len1 cap1 xs _ w1 HX1.out (fun b h => h) hnl1 hc1 hn hg1 HW0.out.2 (by omega) (by omega) (by omega)).mono ?_
  rintro e w3 ⟨rfl, ha, hb⟩
  have hsl := split_length a0 7 xs
  rw [HL.out] at hsl
  have HSL := Lib.hid hsl
  have HSC := Lib.hid (split_secs a0 7 xs)
  have HSB := Lib.hid (fun i => split_bytes (gen := a0) (pos := 7) HV.out i)
  have hrk := ha.rowK HSC.out hsl (S := fun b => b = w1.heap.size) rfl
  have HRK := Lib.hid hrk
  have HA3 := Lib.hid ha.lt
  have HX3 := Lib.hid ((HX1.out.below hb (fun b h => h)).more (T := fun b => b < w3.heap.size) (fun b h => Nat.lt_of_lt_of_le h hb.size))
  have HB3 := Lib.hid (HB1.out.trans (hb.mono HB1.out.size))
  have HNX := Lib.hid (show xs.length ≤ 16384 by rw [HL.out]; exact hn)
  have HCX := Lib.hid (show cntOf xs.length = cntOf len1 by rw [HL.out])
  clear ha hb hsl hrk
  generalize hceq : cntOf len1 = c at *
  have HCE := Lib.hid hceq
  clear hceq
  by_cases d3 : c < 2
  · have e3 : (c : Int) < 2 := by omega
    clear d3
    go_wp2
    go_ret
    exact ⟨rfl, HB3.out⟩
  have e3 : ¬ (c : Int) < 2 := by omega
  have hc2 : 2 ≤ c := by omega
  clear d3
  obtain ⟨k, hk, hkc⟩ : ∃ k : Nat, (if a2 < 0 then 0 else a2) % ((c : Int) - 1) = (k : Int) ∧ k + 1 < c := by
    generalize (if a2 < 0 then 0 else a2) = q
    have h1 := Int.emod_lt_of_pos q (show 0 < (c : Int) - 1 by omega)
    have h2 := Int.emod_nonneg q (show (c : Int) - 1 ≠ 0 by omega)
    generalize q % ((c : Int) - 1) = r at *
    refine ⟨r.toNat, ?_, ?_⟩
    · omega
    · omega
  have HK := Lib.hid hk
  clear hk
  go_upto_region 11 with fail
  rw [HK.out]
  generalize (if a2 < 0 then 0 else a2) = q2
  have hh := run_head_secs w1.heap.size c k (by omega) (by omega)
  have htl := run_tail_secs w1.heap.size c (k + 1) hkc
  have hk0 : (0 : Int) ≤ ↑k := by omega
  have hkw : IntKind.i64.wrap ((k : Int) + 1) = (k : Int) + 1 := IntWalk.i64_in _ (by omega)
  have hkc1 : ((k + 1 : Nat) : Int) = (k : Int) + 1 := by omega
  rw [hkc1] at htl
  go_cut [10] (fun s wx => wx.ownsRow w3.heap.size 27 64 s (c - 1) ((flat (lacking (splitL a0 7 xs) k)).map (Value.int .u8)) ∧ Below w3.heap.size w3 wx)
  case first =>
    have HO1 := Lib.hid (show (w3.alloc (.cells #[] 27)).ownsRow w3.heap.size 27 64 (.slice (some ⟨w3.heap.size, 0, none⟩) 0 0) 0 [] from World.ownsRow_made w3 #[] 0 (Nat.le_refl _) (by unfold maxLen; omega) (by simp))
    have HRK1 := Lib.hid ((HRK.out.head k (by omega)).keep (w' := w3.alloc (.cells #[] 27)) (fun p hp => World.cell?_alloc_lt w3 _ p (by have := HA3.out; omega)))
    have key : ∀ w2, (w3.alloc (.cells #[] 27)).drew.grownBy w2 (Value.slice (some ⟨w3.heap.size, 0, none⟩) 0 0).ownBlock → Below w3.heap.size w3 w2 ∧ RowK w2 (fun b => b = w1.heap.size) (some ⟨w1.heap.size, (k + 1) * 64, none⟩) (c - (k + 1)) ((splitL a0 7 xs).drop (k + 1)) := by
      intro w2 hg
      have hb2 : Below w3.heap.size w3 w2 := ((Below.refl _ _).alloc (Nat.le_refl _) _).drew.grown hg (by simp [World.drew]) (fun j hj => by simp [Value.ownBlock] at hj; omega)
      exact ⟨hb2, (HRK.out.tail (k + 1) hkc).below hb2 (fun b h => by have := HA3.out; omega)⟩
    have KEY := Lib.hid key
    clear key
    go_region_held3 (fun _ => True) (exact trivial) (first
      | (refine step_append_rowK (.tmp 52) (.tmp 55) rfl rfl w3.heap.size (.slice (some ⟨w3.heap.size, 0, none⟩) 0 0) 0 [] rfl HO1.out (fun b => b = w1.heap.size) (some ⟨w1.heap.size, 0, none⟩) k c _ rfl HRK1.out (HSC.out.take k) (by simp) (by unfold maxLen; omega) (by omega) (by simp) ?_; intro v2 w2 hown2 hgrow2 hblk2; have HO2 := Lib.hid hown2; have HG2' := Lib.hid hgrow2; have hk2 := KEY.out w2 hgrow2; have HT2 := Lib.hid hk2.2; have HB2 := Lib.hid hk2.1; clear hown2 hgrow2 hblk2 hk2)
      | (refine step_append_rowK (.tmp 56) (.tmp 60) rfl rfl w3.heap.size v2 (0 + k) _ rfl HO2.out (fun b => b = w1.heap.size) (some ⟨w1.heap.size, (k + 1) * 64, none⟩) (c - (k + 1)) (c - (k + 1)) _ rfl HT2.out (HSC.out.drop (k + 1)) (by simp) (by unfold maxLen; omega) (by omega) HB2.out.size ?_; intro v4 w4 hown4 hgrow4 hblk4; have HO4 := Lib.hid hown4; have HG4 := Lib.hid hgrow4; clear hown4 hgrow4 hblk4))
    all_goals
      go_wp2_with fail
      go_meet
      have ho := HO4.out
      have hn1 : 0 + k + (c - (k + 1)) = c - 1 := by omega
      have hf : [] ++ (flat ((splitL a0 7 xs).take k)).map (Value.int .u8) ++ (flat ((splitL a0 7 xs).drop (k + 1))).map (Value.int .u8) = (flat (lacking (splitL a0 7 xs) k)).map (Value.int .u8) := by rw [List.nil_append, ← List.map_append, lacking_flat]
      rw [hn1, hf] at ho
      have HB4 := Lib.hid (HB2.out.grown HG4.out HB2.out.size (fun g hg => (HO2.out.lt g hg).1))
      exact ⟨ho, HB4.out⟩
  case rest =>
    clear hh htl hkw hkc1
    obtain ⟨ho10, hb10⟩ := hcut
    generalize wc = wa at *
    obtain ⟨A10, c10, rfl, _, _, hr10⟩ := rowK_own ho10 (lacking_secs HSC.out k)
    have HL10 := Lib.hid (hr10.more (T := fun b => b < wa.heap.size) (fun b h => h.2.1))
    have HB10 := Lib.hid hb10
    have HR10 := Lib.hid (HRK.out.below hb10 (fun b h => by have := HA3.out; omega))
    have HO11 := Lib.hid (show (wa.alloc (.cells #[] 27)).ownsRow wa.heap.size 27 64 (.slice (some ⟨wa.heap.size, 0, none⟩) 0 0) 0 [] from World.ownsRow_made wa #[] 0 (Nat.le_refl _) (by unfold maxLen; omega) (by simp))
    have HR11 := Lib.hid (HR10.out.keep (w' := wa.alloc (.cells #[] 27)) (fun p hp => World.cell?_alloc_lt wa _ p (by have := HA3.out; have := HB10.out.size; omega)))
    clear ho10 hb10 hr10
    go_upto_region 13 with (refine wpList_append_rowK (.tmp 62) (.tmp 63) rfl rfl wa.heap.size (.slice (some ⟨wa.heap.size, 0, none⟩) 0 0) 0 [] rfl HO11.out (fun b => b = w1.heap.size) (some ⟨w1.heap.size, 0, none⟩) c c _ rfl HR11.out HSC.out (by simp) (by unfold maxLen; omega) (by omega) (by simp) ?_; intro v5 w5 hown5 hgrow5 hblk5; have HO5 := Lib.hid hown5; have HG5 := Lib.hid hgrow5; clear hown5 hgrow5 hblk5)
    have ho5 := HO5.out
    rw [Nat.zero_add, List.nil_append] at ho5
    obtain ⟨g5, cap5, rfl, hg5, hg5s, hc5⟩ := own_block ho5 (by omega)
    have HO5' := Lib.hid ho5
    have HBA5 := Lib.hid (show Below wa.heap.size wa w5 from ((Below.refl _ _).alloc (Nat.le_refl _) _).grown HG5.out (by simp) (fun j hj => by simp [Value.ownBlock] at hj; omega))
    have HGB5 := Lib.hid (show wa.heap.size ≤ g5 from hg5)
    clear ho5 hg5 hg5s hc5 HO5 HO11 HR11 HG5 HR10
    have HG1 := Lib.hid (HSC.out.get (k + 1) (by have := HSL.out; omega))
    have HG0 := Lib.hid (HSC.out.get k (by have := HSL.out; omega))
    have HL1' := Lib.hid (show k + 1 < (splitL a0 7 xs).length by have := HSL.out; omega)
    have HL0 := Lib.hid (show k < (splitL a0 7 xs).length by have := HSL.out; omega)
    have HL1 := Lib.hid (show k + 1 < ((splitL a0 7 xs).set k ((splitL a0 7 xs).getD (k + 1) [])).length by rw [List.length_set]; have := HSL.out; omega)
    have HF0 := Lib.hid (show k * 64 + 64 ≤ (flat (splitL a0 7 xs)).length by rw [flat_length HSC.out]; have := HSL.out; omega)
    have HF1 := Lib.hid (show (k + 1) * 64 + 64 ≤ (flat ((splitL a0 7 xs).set k ((splitL a0 7 xs).getD (k + 1) []))).length by rw [flat_length (HSC.out.set_ k HG1.out), List.length_set]; have := HSL.out; omega)
    have hk1 : (k : Int) < (c : Int) := by omega
    have hk2 : (k : Int) + 1 < (c : Int) := by omega
    have hk3 : (0 : Int) ≤ (k : Int) + 1 := by omega
    have hk4 : ((k : Int) + 1).toNat = k + 1 := by omega
    have hkw : IntKind.i64.wrap ((k : Int) + 1) = (k : Int) + 1 := IntWalk.i64_in _ (by omega)
    go_cut [9] (fun s wx => s = .int .i64 (k : Int) ∧ wx.ownsRow wa.heap.size 27 64 (.slice (some ⟨g5, 0, none⟩) c cap5) c ((flat (swapped (splitL a0 7 xs) k)).map (Value.int .u8)) ∧ Kept (fun b => b ≠ g5) w5 wx)
    case first =>
      refine wp_region_noPanic ?_
      refine wp_region_held_drew (S := fun _ => True) (by kernel_rfl) trivial (fun _ => ?_)
      refine wpAnyH_take (i := 0) (oi := { dst := some 65, op := Op.move (Operand.tmp 11), type := 41, pos := "outright.go:52", after := #[], guard := none }) (v := ?_) rfl (by kernel_rfl) (by kernel_rfl) (by kernel_rfl) (fun _ _ _ h => h) (Or.inl ⟨by rfl, ?_⟩) trivial ?_
      rotate_left
      · intro w hSw; go_simp; with_reducible rfl
      simp only [Act.put, List.setIfInBounds_toArray, List.set_cons_zero, List.set_cons_succ]
      refine wpAnyH_take (i := 1) (oi := { dst := some 66, op := Op.move (Operand.tmp 9), type := 3, pos := "outright.go:52", after := #[], guard := none }) (v := ?_) rfl (by kernel_rfl) (by kernel_rfl) (by kernel_rfl) (fun _ _ _ h => h) (Or.inl ⟨by rfl, ?_⟩) trivial ?_
      rotate_left
      · intro w hSw; go_simp; with_reducible rfl
      simp only [Act.put, List.setIfInBounds_toArray, List.set_cons_zero, List.set_cons_succ]
      refine wpAnyH_take (i := 2) (oi := { dst := some 67, op := Op.move (Operand.tmp 11), type := 41, pos := "outright.go:52", after := #[{ on := 15, ground := Ground.gcOnly Departure.lateStores }], guard := none }) (v := ?_) rfl (by kernel_rfl) (by kernel_rfl) (by kernel_rfl) (fun _ _ _ h => h) (Or.inl ⟨by rfl, ?_⟩) trivial ?_
      rotate_left
      · intro w hSw; go_simp; with_reducible rfl
      simp only [Act.put, List.setIfInBounds_toArray, List.set_cons_zero, List.set_cons_succ]
      refine wpAnyH_take (i := 3) (oi := { dst := some 68, op := Op.move (Operand.tmp 9), type := 3, pos := "outright.go:52", after := #[{ on := 15, ground := Ground.gcOnly Departure.lateStores }], guard := none }) (v := ?_) rfl (by kernel_rfl) (by kernel_rfl) (by kernel_rfl) (fun _ _ _ h => h) (Or.inl ⟨by rfl, ?_⟩) trivial ?_
      rotate_left
      · intro w hSw; go_simp; with_reducible rfl
      simp only [Act.put, List.setIfInBounds_toArray, List.set_cons_zero, List.set_cons_succ]
      refine wpAnyH_take (i := 4) (oi := { dst := some 69, op := Op.binOp BinOp.add 3 (Operand.tmp 68) (Operand.const (Value.int IntKind.i64 1)) 3, type := 3, pos := "outright.go:52", after := #[{ on := 3, ground := Ground.data }, { on := 15, ground := Ground.gcOnly Departure.lateStores }], guard := none }) (v := ?_) rfl (by kernel_rfl) (by kernel_rfl) (by kernel_rfl) (fun _ _ _ h => h) (Or.inl ⟨by rfl, ?_⟩) trivial ?_
      rotate_left
      · intro w hSw; go_simp; with_reducible rfl
      simp only [Act.put, List.setIfInBounds_toArray, List.set_cons_zero, List.set_cons_succ]
      refine wpAnyH_take (i := 5) (oi := { dst := some 70, op := Op.move (Operand.tmp 11), type := 41, pos := "outright.go:52", after := #[], guard := none }) (v := ?_) rfl (by kernel_rfl) (by kernel_rfl) (by kernel_rfl) (fun _ _ _ h => h) (Or.inl ⟨by rfl, ?_⟩) trivial ?_
      rotate_left
      · intro w hSw; go_simp; with_reducible rfl
      simp only [Act.put, List.setIfInBounds_toArray, List.set_cons_zero, List.set_cons_succ]
      refine wpAnyH_take (i := 6) (oi := { dst := some 71, op := Op.move (Operand.tmp 9), type := 3, pos := "outright.go:52", after := #[], guard := none }) (v := ?_) rfl (by kernel_rfl) (by kernel_rfl) (by kernel_rfl) (fun _ _ _ h => h) (Or.inl ⟨by rfl, ?_⟩) trivial ?_
      rotate_left
      · intro w hSw; go_simp; with_reducible rfl
      simp only [Act.put, List.setIfInBounds_toArray, List.set_cons_zero, List.set_cons_succ]
      refine wpAnyH_take (i := 7) (oi := { dst := some 72, op := Op.binOp BinOp.add 3 (Operand.tmp 71) (Operand.const (Value.int IntKind.i64 1)) 3, type := 3, pos := "outright.go:52", after := #[{ on := 6, ground := Ground.data }], guard := none }) (v := ?_) rfl (by kernel_rfl) (by kernel_rfl) (by kernel_rfl) (fun _ _ _ h => h) (Or.inl ⟨by rfl, ?_⟩) trivial ?_
      rotate_left
      · intro w hSw; go_simp; with_reducible rfl
      simp only [Act.put, List.setIfInBounds_toArray, List.set_cons_zero, List.set_cons_succ]
      refine wpAnyH_take (i := 8) (oi := { dst := some 73, op := Op.indexAddr 41 (Operand.tmp 70) (Operand.tmp 72), type := 0, pos := "outright.go:52", after := #[{ on := 5, ground := Ground.data }, { on := 7, ground := Ground.data }], guard := none }) (v := ?_) rfl (by kernel_rfl) (by kernel_rfl) (by kernel_rfl) (fun _ _ _ h => h) (Or.inl ⟨by rfl, ?_⟩) trivial ?_
      rotate_left
      · intro w hSw; go_simp; with_reducible rfl
      simp only [Act.put, List.setIfInBounds_toArray, List.set_cons_zero, List.set_cons_succ]
      refine wpAnyH_take (i := 10) (oi := { dst := some 75, op := Op.move (Operand.tmp 11), type := 41, pos := "outright.go:52", after := #[], guard := none }) (v := ?_) rfl (by kernel_rfl) (by kernel_rfl) (by kernel_rfl) (fun _ _ _ h => h) (Or.inl ⟨by rfl, ?_⟩) trivial ?_
      rotate_left
      · intro w hSw; go_simp; with_reducible rfl
      simp only [Act.put, List.setIfInBounds_toArray, List.set_cons_zero, List.set_cons_succ]
      refine wpAnyH_take (i := 11) (oi := { dst := some 76, op := Op.move (Operand.tmp 9), type := 3, pos := "outright.go:52", after := #[], guard := none }) (v := ?_) rfl (by kernel_rfl) (by kernel_rfl) (by kernel_rfl) (fun _ _ _ h => h) (Or.inl ⟨by rfl, ?_⟩) trivial ?_
      rotate_left
      · intro w hSw; go_simp; with_reducible rfl
      simp only [Act.put, List.setIfInBounds_toArray, List.set_cons_zero, List.set_cons_succ]
      refine wpAnyH_take (i := 12) (oi := { dst := some 77, op := Op.indexAddr 41 (Operand.tmp 75) (Operand.tmp 76), type := 0, pos := "outright.go:52", after := #[{ on := 10, ground := Ground.data }, { on := 11, ground := Ground.data }], guard := none }) (v := ?_) rfl (by kernel_rfl) (by kernel_rfl) (by kernel_rfl) (fun _ _ _ h => h) (Or.inl ⟨by rfl, ?_⟩) trivial ?_
      rotate_left
      · intro w hSw; go_simp; with_reducible rfl
      simp only [Act.put, List.setIfInBounds_toArray, List.set_cons_zero, List.set_cons_succ]
      have HOD := Lib.hid (own_drew HO5'.out)
      have hkc0 : k < c := Nat.lt_of_succ_lt hkc
      refine wpAnyH_ready (rs := [9, 13]) (by kernel_rfl) (by simp) ?_
      refine AllReadyH.cons (i := 9) (rs := [13]) (o := { dst := some 74, op := Op.load 27 (Operand.tmp 73), type := 27, pos := "outright.go:52", after := #[{ on := 8, ground := Ground.data }], guard := none }) rfl ?_ (AllReadyH.cons (i := 13) (rs := []) (o := { dst := some 78, op := Op.load 27 (Operand.tmp 77), type := 27, pos := "outright.go:52", after := #[{ on := 12, ground := Ground.data }], guard := none }) rfl ?_ AllReadyH.nil)
      · intro K hK
        refine step_load_blk (.tmp 73) rfl rfl g5 ((k + 1) * 64) rfl _ HG1.out (own_range HOD.out HSC.out (k + 1) hkc) ?_
        simp only [Act.put, List.setIfInBounds_toArray, List.set_cons_zero, List.set_cons_succ]
        refine hK.out _ _ trivial (fun _ => ?_)
        clear hK
        refine wpAnyH_ready (rs := [13]) (by kernel_rfl) (by simp) ?_
        refine AllReadyH.cons (i := 13) (rs := []) (o := { dst := some 78, op := Op.load 27 (Operand.tmp 77), type := 27, pos := "outright.go:52", after := #[{ on := 12, ground := Ground.data }], guard := none }) rfl ?_ AllReadyH.nil
        intro K hK
        refine step_load_blk (.tmp 77) rfl rfl g5 (k * 64) rfl _ HG0.out (own_range HOD.out HSC.out (k) hkc0) ?_
        simp only [Act.put, List.setIfInBounds_toArray, List.set_cons_zero, List.set_cons_succ]
        refine hK.out _ _ trivial (fun _ => ?_)
        clear hK
        refine wpAnyH_take (i := 14) (oi := { dst := some 79, op := Op.indexAddr 41 (Operand.tmp 65) (Operand.tmp 66), type := 0, pos := "outright.go:52", after := #[{ on := 0, ground := Ground.data }, { on := 1, ground := Ground.data }, { on := 0, ground := Ground.phase }, { on := 1, ground := Ground.phase }, { on := 2, ground := Ground.textOnly Departure.lateStores }, { on := 3, ground := Ground.textOnly Departure.lateStores }, { on := 4, ground := Ground.textOnly Departure.lateStores }, { on := 5, ground := Ground.phase }, { on := 6, ground := Ground.phase }, { on := 7, ground := Ground.phase }, { on := 8, ground := Ground.phase }, { on := 9, ground := Ground.phase }, { on := 10, ground := Ground.textOnly Departure.lateStores }, { on := 11, ground := Ground.textOnly Departure.lateStores }, { on := 12, ground := Ground.textOnly Departure.lateStoresUnsure }, { on := 13, ground := Ground.phase }], guard := none }) (v := ?_) rfl (by kernel_rfl) (by kernel_rfl) (by kernel_rfl) (fun _ _ _ h => h) (Or.inl ⟨by rfl, ?_⟩) trivial ?_
        rotate_left
        · intro w hSw; go_simp; with_reducible rfl
        simp only [Act.put, List.setIfInBounds_toArray, List.set_cons_zero, List.set_cons_succ]
        refine wpAnyH_ready (rs := [15]) (by kernel_rfl) (by simp) ?_
        refine AllReadyH.cons (i := 15) (rs := []) (o := { dst := none, op := Op.store 27 (Operand.tmp 79) (Operand.tmp 74), type := 0, pos := "outright.go:52", after := #[{ on := 14, ground := Ground.data }, { on := 9, ground := Ground.data }, { on := 0, ground := Ground.phase }, { on := 1, ground := Ground.phase }, { on := 2, ground := Ground.textOnly Departure.lateStores }, { on := 3, ground := Ground.textOnly Departure.lateStores }, { on := 4, ground := Ground.textOnly Departure.lateStores }, { on := 5, ground := Ground.phase }, { on := 6, ground := Ground.phase }, { on := 7, ground := Ground.phase }, { on := 8, ground := Ground.phase }, { on := 9, ground := Ground.phase }, { on := 10, ground := Ground.textOnly Departure.lateStores }, { on := 11, ground := Ground.textOnly Departure.lateStores }, { on := 12, ground := Ground.textOnly Departure.lateStoresUnsure }, { on := 13, ground := Ground.phase }], guard := none }) rfl ?_ AllReadyH.nil
        intro K hK
        refine step_store_own (.tmp 79) (.tmp 74) rfl rfl g5 (k * 64) ((splitL a0 7 xs).getD (k + 1) []) rfl rfl wa.heap.size c cap5 (flat (splitL a0 7 xs)) HOD.out HG1.out HF0.out ?_
        intro w6 hown6 hkept6
        rw [flat_set HSC.out k HL0.out _ HG1.out] at hown6
        have HO6 := Lib.hid hown6
        have HK6 := Lib.hid hkept6
        clear hown6 hkept6
        simp only [Act.put, List.setIfInBounds_toArray, List.set_cons_zero, List.set_cons_succ]
        refine hK.out _ _ trivial (fun _ => ?_)
        clear hK
        refine wpAnyH_take (i := 16) (oi := { dst := some 80, op := Op.indexAddr 41 (Operand.tmp 67) (Operand.tmp 69), type := 0, pos := "outright.go:52", after := #[{ on := 2, ground := Ground.data }, { on := 4, ground := Ground.data }, { on := 0, ground := Ground.phase }, { on := 1, ground := Ground.phase }, { on := 2, ground := Ground.phase }, { on := 3, ground := Ground.phase }, { on := 4, ground := Ground.phase }, { on := 5, ground := Ground.phase }, { on := 6, ground := Ground.phase }, { on := 7, ground := Ground.phase }, { on := 8, ground := Ground.phase }, { on := 9, ground := Ground.phase }, { on := 10, ground := Ground.phase }, { on := 11, ground := Ground.phase }, { on := 12, ground := Ground.phase }, { on := 13, ground := Ground.phase }, { on := 14, ground := Ground.phase }, { on := 15, ground := Ground.phase }], guard := none }) (v := ?_) rfl (by kernel_rfl) (by kernel_rfl) (by kernel_rfl) (fun _ _ _ h => h) (Or.inl ⟨by rfl, ?_⟩) trivial ?_
        rotate_left
        · intro w hSw; go_simp; with_reducible rfl
        simp only [Act.put, List.setIfInBounds_toArray, List.set_cons_zero, List.set_cons_succ]
        refine wpAnyH_ready (rs := [17]) (by kernel_rfl) (by simp) ?_
        refine AllReadyH.cons (i := 17) (rs := []) (o := { dst := none, op := Op.store 27 (Operand.tmp 80) (Operand.tmp 78), type := 0, pos := "outright.go:52", after := #[{ on := 16, ground := Ground.data }, { on := 13, ground := Ground.data }, { on := 15, ground := Ground.chain }, { on := 0, ground := Ground.phase }, { on := 1, ground := Ground.phase }, { on := 2, ground := Ground.phase }, { on := 3, ground := Ground.phase }, { on := 4, ground := Ground.phase }, { on := 5, ground := Ground.phase }, { on := 6, ground := Ground.phase }, { on := 7, ground := Ground.phase }, { on := 8, ground := Ground.phase }, { on := 9, ground := Ground.phase }, { on := 10, ground := Ground.phase }, { on := 11, ground := Ground.phase }, { on := 12, ground := Ground.phase }, { on := 13, ground := Ground.phase }, { on := 14, ground := Ground.phase }, { on := 15, ground := Ground.phase }], guard := none }) rfl ?_ AllReadyH.nil
        intro K hK
        refine step_store_own (.tmp 80) (.tmp 78) rfl rfl g5 ((k + 1) * 64) ((splitL a0 7 xs).getD k []) rfl rfl wa.heap.size c cap5 (flat ((splitL a0 7 xs).set k ((splitL a0 7 xs).getD (k + 1) []))) HO6.out HG0.out HF1.out ?_
        intro w7 hown7 hkept7
        rw [flat_set (HSC.out.set_ k HG1.out) (k + 1) HL1.out _ HG0.out] at hown7
        have HO7 := Lib.hid hown7
        have HK7 := Lib.hid hkept7
        clear hown7 hkept7
        simp only [Act.put, List.setIfInBounds_toArray, List.set_cons_zero, List.set_cons_succ]
        refine hK.out _ _ trivial (fun _ => ?_)
        clear hK
        refine wpAnyH_done (by kernel_rfl) ?_ _
        refine NoPanic.normal ?_
        go_wp2_with fail
        go_meet
        exact ⟨rfl, HO7.out, (((Kept.refl (fun b => b ≠ g5) w5).drew.trans HK6.out (fun _ h => h)).trans HK7.out (fun _ h => h))⟩
      · intro K hK
        refine step_load_blk (.tmp 77) rfl rfl g5 (k * 64) rfl _ HG0.out (own_range HOD.out HSC.out (k) hkc0) ?_
        simp only [Act.put, List.setIfInBounds_toArray, List.set_cons_zero, List.set_cons_succ]
        refine hK.out _ _ trivial (fun _ => ?_)
        clear hK
        refine wpAnyH_ready (rs := [9]) (by kernel_rfl) (by simp) ?_
        refine AllReadyH.cons (i := 9) (rs := []) (o := { dst := some 74, op := Op.load 27 (Operand.tmp 73), type := 27, pos := "outright.go:52", after := #[{ on := 8, ground := Ground.data }], guard := none }) rfl ?_ AllReadyH.nil
        intro K hK
        refine step_load_blk (.tmp 73) rfl rfl g5 ((k + 1) * 64) rfl _ HG1.out (own_range HOD.out HSC.out (k + 1) hkc) ?_
        simp only [Act.put, List.setIfInBounds_toArray, List.set_cons_zero, List.set_cons_succ]
        refine hK.out _ _ trivial (fun _ => ?_)
        clear hK
        refine wpAnyH_take (i := 14) (oi := { dst := some 79, op := Op.indexAddr 41 (Operand.tmp 65) (Operand.tmp 66), type := 0, pos := "outright.go:52", after := #[{ on := 0, ground := Ground.data }, { on := 1, ground := Ground.data }, { on := 0, ground := Ground.phase }, { on := 1, ground := Ground.phase }, { on := 2, ground := Ground.textOnly Departure.lateStores }, { on := 3, ground := Ground.textOnly Departure.lateStores }, { on := 4, ground := Ground.textOnly Departure.lateStores }, { on := 5, ground := Ground.phase }, { on := 6, ground := Ground.phase }, { on := 7, ground := Ground.phase }, { on := 8, ground := Ground.phase }, { on := 9, ground := Ground.phase }, { on := 10, ground := Ground.textOnly Departure.lateStores }, { on := 11, ground := Ground.textOnly Departure.lateStores }, { on := 12, ground := Ground.textOnly Departure.lateStoresUnsure }, { on := 13, ground := Ground.phase }], guard := none }) (v := ?_) rfl (by kernel_rfl) (by kernel_rfl) (by kernel_rfl) (fun _ _ _ h => h) (Or.inl ⟨by rfl, ?_⟩) trivial ?_
        rotate_left
        · intro w hSw; go_simp; with_reducible rfl
        simp only [Act.put, List.setIfInBounds_toArray, List.set_cons_zero, List.set_cons_succ]
        refine wpAnyH_ready (rs := [15]) (by kernel_rfl) (by simp) ?_
        refine AllReadyH.cons (i := 15) (rs := []) (o := { dst := none, op := Op.store 27 (Operand.tmp 79) (Operand.tmp 74), type := 0, pos := "outright.go:52", after := #[{ on := 14, ground := Ground.data }, { on := 9, ground := Ground.data }, { on := 0, ground := Ground.phase }, { on := 1, ground := Ground.phase }, { on := 2, ground := Ground.textOnly Departure.lateStores }, { on := 3, ground := Ground.textOnly Departure.lateStores }, { on := 4, ground := Ground.textOnly Departure.lateStores }, { on := 5, ground := Ground.phase }, { on := 6, ground := Ground.phase }, { on := 7, ground := Ground.phase }, { on := 8, ground := Ground.phase }, { on := 9, ground := Ground.phase }, { on := 10, ground := Ground.textOnly Departure.lateStores }, { on := 11, ground := Ground.textOnly Departure.lateStores }, { on := 12, ground := Ground.textOnly Departure.lateStoresUnsure }, { on := 13, ground := Ground.phase }], guard := none }) rfl ?_ AllReadyH.nil
        intro K hK
        refine step_store_own (.tmp 79) (.tmp 74) rfl rfl g5 (k * 64) ((splitL a0 7 xs).getD (k + 1) []) rfl rfl wa.heap.size c cap5 (flat (splitL a0 7 xs)) HOD.out HG1.out HF0.out ?_
        intro w6 hown6 hkept6
        rw [flat_set HSC.out k HL0.out _ HG1.out] at hown6
        have HO6 := Lib.hid hown6
        have HK6 := Lib.hid hkept6
        clear hown6 hkept6
        simp only [Act.put, List.setIfInBounds_toArray, List.set_cons_zero, List.set_cons_succ]
        refine hK.out _ _ trivial (fun _ => ?_)
        clear hK
        refine wpAnyH_take (i := 16) (oi := { dst := some 80, op := Op.indexAddr 41 (Operand.tmp 67) (Operand.tmp 69), type := 0, pos := "outright.go:52", after := #[{ on := 2, ground := Ground.data }, { on := 4, ground := Ground.data }, { on := 0, ground := Ground.phase }, { on := 1, ground := Ground.phase }, { on := 2, ground := Ground.phase }, { on := 3, ground := Ground.phase }, { on := 4, ground := Ground.phase }, { on := 5, ground := Ground.phase }, { on := 6, ground := Ground.phase }, { on := 7, ground := Ground.phase }, { on := 8, ground := Ground.phase }, { on := 9, ground := Ground.phase }, { on := 10, ground := Ground.phase }, { on := 11, ground := Ground.phase }, { on := 12, ground := Ground.phase }, { on := 13, ground := Ground.phase }, { on := 14, ground := Ground.phase }, { on := 15, ground := Ground.phase }], guard := none }) (v := ?_) rfl (by kernel_rfl) (by kernel_rfl) (by kernel_rfl) (fun _ _ _ h => h) (Or.inl ⟨by rfl, ?_⟩) trivial ?_
        rotate_left
        · intro w hSw; go_simp; with_reducible rfl
        simp only [Act.put, List.setIfInBounds_toArray, List.set_cons_zero, List.set_cons_succ]
        refine wpAnyH_ready (rs := [17]) (by kernel_rfl) (by simp) ?_
        refine AllReadyH.cons (i := 17) (rs := []) (o := { dst := none, op := Op.store 27 (Operand.tmp 80) (Operand.tmp 78), type := 0, pos := "outright.go:52", after := #[{ on := 16, ground := Ground.data }, { on := 13, ground := Ground.data }, { on := 15, ground := Ground.chain }, { on := 0, ground := Ground.phase }, { on := 1, ground := Ground.phase }, { on := 2, ground := Ground.phase }, { on := 3, ground := Ground.phase }, { on := 4, ground := Ground.phase }, { on := 5, ground := Ground.phase }, { on := 6, ground := Ground.phase }, { on := 7, ground := Ground.phase }, { on := 8, ground := Ground.phase }, { on := 9, ground := Ground.phase }, { on := 10, ground := Ground.phase }, { on := 11, ground := Ground.phase }, { on := 12, ground := Ground.phase }, { on := 13, ground := Ground.phase }, { on := 14, ground := Ground.phase }, { on := 15, ground := Ground.phase }], guard := none }) rfl ?_ AllReadyH.nil
        intro K hK
        refine step_store_own (.tmp 80) (.tmp 78) rfl rfl g5 ((k + 1) * 64) ((splitL a0 7 xs).getD k []) rfl rfl wa.heap.size c cap5 (flat ((splitL a0 7 xs).set k ((splitL a0 7 xs).getD (k + 1) []))) HO6.out HG0.out HF1.out ?_
        intro w7 hown7 hkept7
        rw [flat_set (HSC.out.set_ k HG1.out) (k + 1) HL1.out _ HG0.out] at hown7
        have HO7 := Lib.hid hown7
        have HK7 := Lib.hid hkept7
        clear hown7 hkept7
        simp only [Act.put, List.setIfInBounds_toArray, List.set_cons_zero, List.set_cons_succ]
        refine hK.out _ _ trivial (fun _ => ?_)
        clear hK
        refine wpAnyH_done (by kernel_rfl) ?_ _
        refine NoPanic.normal ?_
        go_wp2_with fail
        go_meet
        exact ⟨rfl, HO7.out, (((Kept.refl (fun b => b ≠ g5) w5).drew.trans HK6.out (fun _ h => h)).trans HK7.out (fun _ h => h))⟩
    case rest =>
      clear hk4 hkw
      obtain ⟨rfl, ho11, hk11⟩ := hcut
      obtain ⟨A11, c11, e11, _, _, hr11⟩ := rowK_own ho11 (swapped_secs HSC.out k HL1'.out)
      injection e11 with ea _ ec
      subst ea ec
      have hb11 : Below wa.heap.size w5 wc := hk11.to_below (fun b h => by have := HGB5.out; omega)
      have hsz := HB10.out.size
      have HS11 := Lib.hid (hr11.more (T := fun b => b < wc.heap.size) (fun b h => h.2.1))
      have HBW := Lib.hid (show Below wa.heap.size wa wc from HBA5.out.trans hb11)
      have HL11 := Lib.hid ((HL10.out.below HBW.out (fun b h => h)).more (T := fun b => b < wc.heap.size) (fun b h => Nat.lt_of_lt_of_le h HBW.out.size))
      have HB3W := Lib.hid (HB10.out.trans (HBW.out.mono hsz))
      have HRL := Lib.hid (HRK.out.below HB3W.out (fun b h => by have := HA3.out; omega))
      have HX11 := Lib.hid ((HX3.out.below HB3W.out (fun b h => h)).more (T := fun b => b < wc.heap.size) (fun b h => Nat.lt_of_lt_of_le h HB3W.out.size))
      have HBX := Lib.hid (HB3.out.trans (HB3W.out.mono HB3.out.size))
      have HW1 := Lib.hid (show w1.heap.size < wc.heap.size by have := HA3.out; have := HB3W.out.size; omega)
      have HWC := Lib.hid HBX.out.size
      clear ho11 hk11 hb11 hr11 hsz HO5' HBA5 HGB5 HL10 HB10 HBW HB3W HRK HX3 HB3 HA3 HF1 HL1
      have HO12 := Lib.hid (show (wc.alloc (.cells #[] 27)).ownsRow wc.heap.size 27 64 (.slice (some ⟨wc.heap.size, 0, none⟩) 0 0) 0 [] from World.ownsRow_made wc #[] 0 (Nat.le_refl _) (by unfold maxLen; omega) (by simp))
      have HR12 := Lib.hid (HRL.out.keep (w' := wc.alloc (.cells #[] 27)) (fun p hp => World.cell?_alloc_lt wc _ p (by have := HW1.out; omega)))
      go_upto_region 15 with (refine wpList_append_rowK (.tmp 81) (.tmp 82) rfl rfl wc.heap.size (.slice (some ⟨wc.heap.size, 0, none⟩) 0 0) 0 [] rfl HO12.out (fun b => b = w1.heap.size) (some ⟨w1.heap.size, 0, none⟩) c c _ rfl HR12.out HSC.out (by simp) (by unfold maxLen; omega) (by omega) (by simp) ?_; intro v6 w6 hown6 hgrow6 hblk6; have HO6 := Lib.hid hown6; have HG6 := Lib.hid hgrow6; clear hown6 hgrow6 hblk6)
      have ho6 := HO6.out
      rw [Nat.zero_add, List.nil_append] at ho6
      obtain ⟨g6, cap6, rfl, hg6, hg6s, hc6⟩ := own_block ho6 (by omega)
      have hb6 : Below wc.heap.size wc w6 := ((Below.refl _ _).alloc (Nat.le_refl _) _).grown HG6.out (by simp) (fun j hj => by simp [Value.ownBlock] at hj; omega)
      have HO6' := Lib.hid ho6
      have HGB6 := Lib.hid (show wc.heap.size ≤ g6 from hg6)
      have HGS6 := Lib.hid hg6s
      have HS6 := Lib.hid (HS11.out.below hb6 (fun b h => h))
      have HL6 := Lib.hid (HL11.out.below hb6 (fun b h => h))
      have HX6 := Lib.hid (HX11.out.below hb6 (fun b h => h))
      have HB6 := Lib.hid (HBX.out.trans (hb6.mono HBX.out.size))
      have HRG := Lib.hid (own_range ho6 HSC.out k (by omega))
      have hcb2 := cnt_bounds xs.length HNX.out
      obtain ⟨s1, s2, s3, s4, s5⟩ := split_said (gen := a0) (pos := 7) (xs := xs) hg1 HW0.out.2 (by omega) k (by have := HCX.out; omega) (by have := HCX.out; omega)
      have hpl := part_le xs k
      have HPL := Lib.hid hpl
      have S1 := Lib.hid s1
      have S2 := Lib.hid s2
      have S4 := Lib.hid s4
      have S5 := Lib.hid s5
      have HYB := Lib.hid (HSB.out k)
      clear hg6 hg6s hc6 ho6 hb6 HO6 HG6 HO12 HR12 HS11 HL11 HX11 HBX s1 s2 s3 s4 s5 hcb2 hpl
      go_wp2_with (first
        | (refine wpList_load_blk (.tmp 87) rfl rfl g6 (k * 64) rfl ((splitL a0 7 xs).getD k []) HG0.out HRG.out ?_))
      refine (read_ok ((splitL a0 7 xs).getD k []) w6 HG0.out HYB.out S5.out).mono ?_
      rintro e w7 ⟨A7, c7, rfl, hr7, hb7, hn7⟩
      rw [S1.out, S2.out]
      rw [S4.out] at hr7 ⊢
      generalize fillOf ((splitL a0 7 xs).getD k []) = fl at *
      obtain ⟨w8, hw8⟩ : ∃ w8, w8 = w7.alloc (.cells #[.int .u64 a0, .int .u32 (7 + (k : Int)), .int .i64 fl] 34) := ⟨_, rfl⟩
      have hb8 : Below w7.heap.size w7 w8 := by rw [hw8]; exact (Below.refl _ _).alloc (Nat.le_refl _) _
      have HW8 := Lib.hid hw8
      have HR8 := Lib.hid ((hr7.below hb8 (fun b h => h.2)).more (T := fun b => b < w8.heap.size) (fun b h => Nat.lt_of_lt_of_le h.2 hb8.size))
      have HB68 := Lib.hid (hb7.trans (hb8.mono hb7.size))
      clear hw8 hr7 hb7 hn7 hb8
      have hga : a0 + 1 ≤ 18446744073709551615 := by have := HG2.out; omega
      have hga0 : 0 ≤ a0 + 1 := by omega
      have hkb : (k : Int) ≤ 342 := by omega
      go_wp2_with (rw [← HW8.out])
      refine (pack_ok (a0 + 1) (7 + (k : Int)) A7 (partOf xs k).length c7 (partOf xs k) _ w8 HR8.out (fun b h => h) (by omega) hga (by omega) (by omega) HPL.out).mono ?_
      rintro e w9 ⟨rfl, hb9⟩
      have HB69 := Lib.hid (HB68.out.trans (hb9.mono HB68.out.size))
      have HO9 := Lib.hid (own_below HO6'.out HB69.out)
      have HZL := Lib.hid (packL_length (a0 + 1) (7 + (k : Int)) (partOf xs k) HPL.out)
      have HZB := Lib.hid (pack_bytes (a0 + 1) (7 + (k : Int)) (partOf xs k) (part_bytes HV.out k))
      generalize hzs : packL (a0 + 1) (7 + (k : Int)) (partOf xs k) = zs at *
      have HZS := Lib.hid hzs
      clear hb9 hga hga0 hzs HB68
      go_upto_region 17 with (refine wpList_store_own (.tmp 105) (.tmp 103) rfl rfl g6 (k * 64) zs rfl rfl wc.heap.size c cap6 (flat (splitL a0 7 xs)) HO9.out HZL.out HF0.out ?_; intro w10 hown10 hkept10; have HO10 := Lib.hid hown10; have HK10 := Lib.hid hkept10; clear hown10 hkept10)
      have ho10 := HO10.out
      rw [flat_set HSC.out k HL0.out _ HZL.out] at ho10
      have HSC2 := Lib.hid (show Secs (othered (splitL a0 7 xs) k zs) from HSC.out.set_ k HZL.out)
      obtain ⟨A12, c12, e12, _, _, hr12⟩ := rowK_own (xss := othered (splitL a0 7 xs) k zs) ho10 HSC2.out
      injection e12 with ea _ ec
      subst ea ec
      have hb10 : Below wc.heap.size w9 w10 := HK10.out.to_below (fun b h => by have := HGB6.out; omega)
      have hm6 : wc.heap.size ≤ w6.heap.size := Nat.le_of_lt (Nat.lt_of_le_of_lt HGB6.out HGS6.out)
      have hb6 : Below wc.heap.size w6 w10 := (HB69.out.mono hm6).trans hb10
      have hm10 : wc.heap.size ≤ w10.heap.size := Nat.le_trans hm6 hb6.size
      have HT10 := Lib.hid (hr12.more (T := fun b => b < w10.heap.size) (fun b h => h.2.1))
      have HS10 := Lib.hid ((HS6.out.below hb6 (fun b h => h)).more (T := fun b => b < w10.heap.size) (fun b h => Nat.lt_of_lt_of_le h hm10))
      have HL10 := Lib.hid ((HL6.out.below hb6 (fun b h => h)).more (T := fun b => b < w10.heap.size) (fun b h => Nat.lt_of_lt_of_le h hm10))
      have HX10 := Lib.hid ((HX6.out.below hb6 (fun b h => h)).more (T := fun b => b < w10.heap.size) (fun b h => Nat.lt_of_lt_of_le h hm10))
      have HBT := Lib.hid (HB6.out.trans (hb6.mono HWC.out))
      have hne1 := swapped_no (xs := xs) hg1 HW0.out.2 HNX.out k (by have := HCX.out; omega)
      have hne2 := othered_no (xs := xs) hg1 HG2.out HNX.out k (by have := HCX.out; omega)
      rw [HZS.out] at hne2
      have HN1 := Lib.hid hne1
      have HN2 := Lib.hid hne2
      have HLC := Lib.hid (show k < (splitL a0 7 xs).length from HL0.out)
      have HOB := Lib.hid (fun i => show Bytes ((othered (splitL a0 7 xs) k zs).getD i []) from bytes_set_ HSB.out k HZB.out i)
      clear ho10 hr12 hb10 hm6 hb6 hm10 hne1 hne2 HO10 HK10 HS6 HL6 HX6 HB6 HO9 HRG HO6' HZL HR8
      go_wp2_with fail
      refine (join_any (some ⟨g5, 0, none⟩) c cap5 (swapped (splitL a0 7 xs) k) _ w10 HS10.out (fun b h => h) (swapped_secs HSC.out k HL1'.out) (fun i => swapped_bytes HSB.out k i) (by omega)).mono ?_
      rintro e w11 ⟨_, hno⟩
      obtain ⟨rfl, hb11⟩ := hno (fun h => HN1.out h.2)
      have HT11 := Lib.hid ((HT10.out.below hb11 (fun b h => h)).more (T := fun b => b < w11.heap.size) (fun b h => Nat.lt_of_lt_of_le h hb11.size))
      have HL11 := Lib.hid ((HL10.out.below hb11 (fun b h => h)).more (T := fun b => b < w11.heap.size) (fun b h => Nat.lt_of_lt_of_le h hb11.size))
      have HX11 := Lib.hid ((HX10.out.below hb11 (fun b h => h)).more (T := fun b => b < w11.heap.size) (fun b h => Nat.lt_of_lt_of_le h hb11.size))
      have HB11 := Lib.hid (HBT.out.trans (hb11.mono HBT.out.size))
      clear hno hb11 HS10 HT10 HL10 HX10 HBT HN1
      go_wp2_with fail
      refine (join_any (some ⟨g6, 0, none⟩) c cap6 (othered (splitL a0 7 xs) k zs) _ w11 HT11.out (fun b h => h) HSC2.out HOB.out (by omega)).mono ?_
      rintro e w12 ⟨_, hno⟩
      obtain ⟨rfl, hb12⟩ := hno (fun h => HN2.out h.2)
      have HL12 := Lib.hid ((HL11.out.below hb12 (fun b h => h)).more (T := fun b => b < w12.heap.size) (fun b h => Nat.lt_of_lt_of_le h hb12.size))
      have HX12 := Lib.hid ((HX11.out.below hb12 (fun b h => h)).more (T := fun b => b < w12.heap.size) (fun b h => Nat.lt_of_lt_of_le h hb12.size))
      have HB12 := Lib.hid (HB11.out.trans (hb12.mono HB11.out.size))
      clear hno hb12 HT11 HL11 HX11 HB11 HN2 HOB
      go_wp2_with fail
      refine (join_any A10 (c - 1) c10 (lacking (splitL a0 7 xs) k) _ w12 HL12.out (fun b h => h) (lacking_secs HSC.out k) (fun i => lacking_bytes HSB.out k i) (by omega)).mono ?_
      rintro e w13 ⟨hyes, hno⟩
      by_cases hk00 : k = 0
      · subst hk00
        obtain ⟨A13, c13, rfl, hr13, hb13⟩ := hyes ⟨by rw [lacking_length _ _ HLC.out, HSL.out]; omega, rest_chain hg1 HW0.out.2 HNX.out (by have := HCX.out; omega)⟩
        have hrm := rest_meants (xs := xs) hg1 HW0.out.2 HNX.out (by have := HCX.out; omega)
        have hdl : (xs.drop 48).length = len1 - 48 := by rw [List.length_drop, HL.out]
        rw [hrm] at hr13 ⊢
        rw [hdl] at hr13 ⊢
        have hl49 : 48 < len1 := by have := HCE.out; unfold cntOf at this; omega
        obtain ⟨b0, off0, rfl, hb0, _⟩ := HX12.out.2 (by omega)
        have hts := run_tail_bytes b0 off0 len1 cap1 hl49 hc1
        have HR13 := Lib.hid (hr13.more (T := fun b => b < w13.heap.size) (fun b h => h.2))
        have HX13 := Lib.hid (((rowI_drop HX12.out 48 hl49).below hb13 (fun b h => h)).more (T := fun b => b < w13.heap.size) (fun b h => Nat.lt_of_lt_of_le h hb13.size))
        have HB13 := Lib.hid (HB12.out.trans (hb13.mono HB12.out.size))
        have HDB := Lib.hid (bytes_drop HV.out 48)
        clear hrm hdl hr13 hb13 hyes hno hb0 HL12 HB12
        go_wp2_with fail
        refine (oequal_yes A13 (some ⟨b0, off0 + 48, none⟩) (len1 - 48) c13 (cap1 - 48) (xs.drop 48) _ _ w13 HR13.out HX13.out (fun b h => h) (fun b h => h) HDB.out).mono ?_
        rintro e w14 ⟨rfl, rfl⟩
        clear hts
        go_wp2_with fail
        go_ret
        exact ⟨rfl, HB13.out⟩
      · obtain ⟨rfl, hb13⟩ := hno (fun h => lacking_no hg1 HW0.out.2 HNX.out k (by omega) (by have := HCX.out; omega) h.2)
        have hk9 : ((k : Int) == 0) = false := by simp; omega
        have HB13 := Lib.hid (HB12.out.trans (hb13.mono HB12.out.size))
        clear hno hyes hb13 hk00 HL12 HB12
        go_wp2_with fail
        go_ret
        exact ⟨rfl, HB13.out⟩

set_option maxRecDepth 100000 in
theorem lifted (os : Os) (started : os.Started) (H : Type) (enc : TypeId × Value → H) :
    ReturnsInHanded {} Try.checked os 8 .any (Rows.stampMissingSpec.pre6 enc Try.prog Try.f8 Rows.stampMissingRow.domain false) (Rows.stampMissingSpec.post enc Try.prog Try.f8 false true false false) := by
  refine returnsInHanded_of_change_sized (C := Try.checked) own started (by kernel_rfl) Try.func8
    (ChangeSpec.witness6 (enc := enc) (C := Try.checked) false ⟨#[], #[.int .u64 0, .slice none 0 0, .int .i64 0], []⟩ 8 (by kernel_rfl) (by kernel_rfl) (by kernel_rfl) (by kernel_rfl)) ?_
  intro W base args ds gs before hval0 hW hcnd hsz0 _
  have hval : ∀ (j : Nat) t v, Try.f8.params[j]? = some t → args[j]? = some v → Value.okWide Try.prog W .any base t v := hval0
  have hW' := hW
  have hsz : (DataW.weightsEach Try.prog (Try.f8.params.toList ++ Rows.stampMissingSpec.plain.varTypes Try.prog) (ds ++ gs)).all (· ≤ reachBytes) = true := hsz0
  obtain ⟨p, q, hA0, hV, rfl, hfz, hnd⟩ := hW
  have hA : DataW.TrodAll enc Try.prog W 0 (fun _ => true) true Try.f8.params.toList args.toList ds p := hA0
  rw [Try.params8] at hA hval hsz
  obtain ⟨v0, vs0, d0, ds0, p0, q0, hargs, rfl, rfl, h0, r0⟩ := trodAll_cons hA
  obtain ⟨v1, vs1, d1, ds1, p1, q1, rfl, rfl, rfl, h1, r1⟩ := trodAll_cons r0
  obtain ⟨v2, vs2, d2, ds2, p2, q2, rfl, rfl, rfl, h2, r2⟩ := trodAll_cons r1
  obtain ⟨rfl, rfl, rfl⟩ := trodAll_nil r2
  obtain rfl : args = #[v0, v1, v2] := by cases args; simp_all
  obtain ⟨rfl, rfl⟩ := trodVars_none hV
  obtain ⟨a0, rfl, rfl, rfl, w0⟩ := open_int Try.underlying22 (hval 0 22 v0 rfl rfl) h0
  obtain ⟨a1, len1, cap1, rfl⟩ := okWide_slice Try.underlying24 (hval 1 24 v1 rfl rfl)
  have k1 := h1
  have lt1 : ∀ x ∈ p1, x.block < W.heap.size := by obtain ⟨m, hm⟩ := k1; exact DataW.trod_lt m _ _ _ hm
  obtain ⟨z1, w1, e1⟩ : ∃ zs, IsRow .u8 W a1 len1 cap1 zs ∧ (cap1 = 0 ∨ d1 = .slice (ChangeShapes.lits .u8 (zs.take len1)) (ChangeShapes.lits .u8 (zs.drop len1)) ∧ zs.length = cap1) := by
    obtain ⟨fuel, hf⟩ := h1
    rcases open_ints Try.underlying24 Try.underlying5 (by kernel_rfl) hf with ⟨hcs, _⟩ | ⟨x, l, c, zs, hcs, _, hl, hm, hz, hx, hcell, hwz⟩
    · simp [Value.cells] at hcs
      obtain ⟨rfl, rfl, rfl⟩ := hcs
      exact ⟨[], .inl ⟨rfl, rfl, rfl, rfl⟩, .inl rfl⟩
    · simp [Value.cells] at hcs
      obtain ⟨rfl, rfl, rfl⟩ := hcs
      have hz' : zs.length = cap1 := by simpa using hz
      exact ⟨zs, .inr ⟨_, rfl, hl, hm, hz', hcell, hwz⟩, .inr ⟨(Prod.mk.injEq _ _ _ _ ▸ hx).1, hz'⟩⟩
  obtain ⟨a2, rfl, rfl, rfl, w2⟩ := open_int Try.underlying3 (hval 2 3 v2 rfl rfl) h2
  have b1 : cap1 ≤ 140737488351232 := by
    rcases e1 with h | ⟨rfl, hl⟩
    · omega
    · have h := sized_slice hsz (j := 1) (t := 24) (e := 5) rfl rfl Try.underlying24
      rw [bytes5] at h
      simp only [ChangeShapes.lits, List.length_map, List.length_take, List.length_drop, reachBytes] at h
      omega
  clear hA0 hval0
  refine (walk a0 a1 len1 cap1 z1 a2 W w0 w1 b1 w2).mono fun e W' ⟨he, bel⟩ => ?_
  subst he
  exact ⟨_, rfl, _, _, _, [], _, [], hW', trodAll_mk1 (shut_bool Try.underlying4 _), (trodAll_cons_mk (shut_int Try.underlying22 w0) (trodAll_cons_mk (Below.trod laidOut (by kernel_rfl) (of_decide_eq_true (by kernel_rfl)) k1 bel lt1) (trodAll_cons_mk (shut_int Try.underlying3 w2) trodAll_mk0))), rfl, bel.frame _, fun h => by cases h⟩

theorem over : Rows.stampMissingRow.holds Try.pinned (OpenSpec.ofChange Rows.stampMissingSpec) :=
  OpenClaim.holds_of_wide 8 Try.f8 rfl rfl rfl rfl rfl rfl rfl ⟨rfl, rfl, rfl, rfl, rfl⟩ rfl rfl rfl rfl rfl (by kernel_rfl) Try.func8 (by kernel_rfl)
    (of_decide_eq_true (by kernel_rfl)) (by unfold Func.isWrapper; first | (rw [if_pos (by decide +kernel)]; kernel_rfl) | (rw [if_neg (by decide +kernel)]; exact ⟨rfl, rfl⟩))
    (fun os started H enc _ => lifted os started H enc)

theorem proved : Rows.StampMissingSaid := over
end Go.Proofs.Ytikeiloeeklkeaa.stampMissing
