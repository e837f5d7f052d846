/- The document's answers of layer 6: Decode, where it decodes. -/
import Derived.Test.YtehldhdpeefljaaRDec0
import Derived.Test.YtehldhdpeefljaaCopied
import Derived.Test.YtehldhdpeefljaaSteps
namespace Go.Proofs.Ytehldhdpeefljaa
open Go.RowKit
set_option linter.unusedVariables false
set_option linter.unusedSimpArgs false

/-- What the document's Decode leaves where it decodes. -/
def RDecTold (xs : List Int) (w : World) (e : Ending) (w' : World) : Prop :=
  ∃ A1 c1 A2 c2, e = .returned (.tuple #[.agg #[.int .i64 (kindOf xs), .int .u32 (flagsOf xs), .int .u32 (expOf xs), .int .u64 (seqOf xs), .slice A1 (klenOf xs) c1, .slice A2 (vlenOf xs) c2], .int .i64 ((needOf xs : Nat) : Int), .int .i64 0]) ∧
    RowI .u8 w' (fun b => w.heap.size ≤ b ∧ b < w'.heap.size) A1 (klenOf xs) (keyOf xs) ∧ RowI .u8 w' (fun b => w.heap.size ≤ b ∧ b < w'.heap.size) A2 (vlenOf xs) (valOf xs) ∧ Below w.heap.size w w'

section
variable {P : Program} {ops : Array Oper} {Q : Exit → Act → World → Prop} {md : Region.Mode} {S : World → Prop} {st : List Nat}
/-- Three operations that may come up. -/
theorem Tillst.three {i j m : Nat} {o o' o'' : Oper} {k : Nat} {l : Array Bool} {a : Act} {w : World} (hr : Region.ready md ops l = [i, j, m]) (ho : ops[i]? = some o) (ho' : ops[j]? = some o') (ho'' : ops[m]? = some o'')
    (h : ∀ K : Act → World → Prop, Shut (∀ b v, (st.contains i = false → S v) → ((st.contains i = false → S v) → Tillst P md ops Q S st k (l.setIfInBounds i true) b v) → K b v) → if Region.wanted o (yielded ops a.tmps) = true then Oper.wp P o a w K Q else K (a.put o.dst undef) w)
    (h' : ∀ K : Act → World → Prop, Shut (∀ b v, (st.contains j = false → S v) → ((st.contains j = false → S v) → Tillst P md ops Q S st k (l.setIfInBounds j true) b v) → K b v) → if Region.wanted o' (yielded ops a.tmps) = true then Oper.wp P o' a w K Q else K (a.put o'.dst undef) w)
    (h'' : ∀ K : Act → World → Prop, Shut (∀ b v, (st.contains m = false → S v) → ((st.contains m = false → S v) → Tillst P md ops Q S st k (l.setIfInBounds m true) b v) → K b v) → if Region.wanted o'' (yielded ops a.tmps) = true then Oper.wp P o'' a w K Q else K (a.put o''.dst undef) w) :
    Tillst P md ops Q S st (k + 1) l a w := by
  refine ⟨fun e => (by rw [hr] at e; cases e), fun n hn => ?_⟩
  rw [hr] at hn
  rcases List.mem_cons.1 hn with e | hn
  · rw [e]
    exact Tillst.step (k := k) (l := l) ho fun K hK => h K fun b v h1 h2 => hK b v ⟨h1, h2 h1⟩
  rcases List.mem_cons.1 hn with e | hn
  · rw [e]
    exact Tillst.step (k := k) (l := l) ho' fun K hK => h' K fun b v h1 h2 => hK b v ⟨h1, h2 h1⟩
  · obtain rfl : n = m := by simpa using hn
    exact Tillst.step (k := k) (l := l) ho'' fun K hK => h'' K fun b v h1 h2 => hK b v ⟨h1, h2 h1⟩
end

theorem rdec_fin (xs : List Int) (w w1 vz : World) (A5 A6 : Option Addr) (c5 c6 nd : Nat) (hnd : needOf xs = nd) {S1 S2 : Nat → Prop} (hr1 : RowI .u8 vz (fun b => w1.heap.size ≤ b ∧ b < vz.heap.size ∧ S1 b) A5 (klenOf xs) (keyOf xs)) (hr2 : RowI .u8 vz (fun b => w1.heap.size ≤ b ∧ b < vz.heap.size ∧ S2 b) A6 (vlenOf xs) (valOf xs))
    (hlt : w.heap.size < w1.heap.size) (hb : Below w.heap.size w vz) : RDecTold xs w (.returned (.tuple #[.agg (recC (kindOf xs) (flagsOf xs) (expOf xs) (seqOf xs) A5 (klenOf xs) c5 A6 (vlenOf xs) c6), .int .i64 (nd : Int), .int .i64 0])) (vz.setRow w.heap.size (recC (kindOf xs) (flagsOf xs) (expOf xs) (seqOf xs) A5 (klenOf xs) c5 A6 (vlenOf xs) c6)) := by
  subst hnd
  refine ⟨A5, c5, A6, c6, rfl, ?_, ?_, below_setRow hb (Nat.le_refl _) _⟩
  · exact (hr1.keep (fun p hp => World.cell?_of_block (setRow_other _ _ _ _ (by have := hp.1; omega)))).more (fun b hb => ⟨by have := hb.1; omega, by have := hb.2.1; simpa [World.setRow] using this⟩)
  · exact (hr2.keep (fun p hp => World.cell?_of_block (setRow_other _ _ _ _ (by have := hp.1; omega)))).more (fun b hb => ⟨by have := hb.1; omega, by have := hb.2.1; simpa [World.setRow] using this⟩)

/-! The region's operations. -/
abbrev rd0 : Oper := { dst := some 27, op := Op.move (Operand.tmp 0), type := 24, pos := "ref.go:71", after := #[], guard := none }
abbrev rd1 : Oper := { dst := some 28, op := Op.indexAddr 24 (Operand.tmp 27) (Operand.const (Value.int IntKind.i64 0)), type := 0, pos := "ref.go:71", after := #[{ on := 0, ground := Ground.data }], guard := none }
abbrev rd2 : Oper := { dst := some 29, op := Op.load 5 (Operand.tmp 28), type := 5, pos := "ref.go:71", after := #[{ on := 1, ground := Ground.data }], guard := none }
abbrev rd3 : Oper := { dst := some 30, op := Op.convert 5 3 (Operand.tmp 29), type := 3, pos := "ref.go:71", after := #[{ on := 2, ground := Ground.data }], guard := none }
abbrev rd4 : Oper := { dst := some 31, op := Op.move (Operand.tmp 0), type := 24, pos := "ref.go:71", after := #[], guard := none }
abbrev rd5 : Oper := { dst := some 32, op := Op.slice 24 (Operand.tmp 31) (some (Operand.const (Value.int IntKind.i64 1))) (some (Operand.const (Value.int IntKind.i64 5))) none, type := 24, pos := "ref.go:71", after := #[{ on := 4, ground := Ground.data }], guard := none }
abbrev rd6 : Oper := { dst := some 33, op := Op.call { callee := Callee.value (Operand.func 34), args := #[Operand.tmp 32], argTypes := #[24] }, type := 23, pos := "ref.go:71", after := #[{ on := 5, ground := Ground.data }], guard := none }
abbrev rd7 : Oper := { dst := some 34, op := Op.convert 23 22 (Operand.tmp 33), type := 22, pos := "ref.go:71", after := #[{ on := 6, ground := Ground.data }], guard := none }
abbrev rd8 : Oper := { dst := some 35, op := Op.move (Operand.tmp 0), type := 24, pos := "ref.go:71", after := #[], guard := none }
abbrev rd9 : Oper := { dst := some 36, op := Op.slice 24 (Operand.tmp 35) (some (Operand.const (Value.int IntKind.i64 5))) (some (Operand.const (Value.int IntKind.i64 9))) none, type := 24, pos := "ref.go:71", after := #[{ on := 8, ground := Ground.data }], guard := none }
abbrev rd10 : Oper := { dst := some 37, op := Op.call { callee := Callee.value (Operand.func 34), args := #[Operand.tmp 36], argTypes := #[24] }, type := 23, pos := "ref.go:71", after := #[{ on := 9, ground := Ground.data }, { on := 6, ground := Ground.chain }], guard := none }
abbrev rd11 : Oper := { dst := some 38, op := Op.convert 23 22 (Operand.tmp 37), type := 22, pos := "ref.go:71", after := #[{ on := 10, ground := Ground.data }], guard := none }
abbrev rd12 : Oper := { dst := some 39, op := Op.move (Operand.tmp 0), type := 24, pos := "ref.go:71", after := #[], guard := none }
abbrev rd13 : Oper := { dst := some 40, op := Op.slice 24 (Operand.tmp 39) (some (Operand.const (Value.int IntKind.i64 9))) (some (Operand.const (Value.int IntKind.i64 17))) none, type := 24, pos := "ref.go:71", after := #[{ on := 12, ground := Ground.data }], guard := none }
abbrev rd14 : Oper := { dst := some 41, op := Op.call { callee := Callee.value (Operand.func 34), args := #[Operand.tmp 40], argTypes := #[24] }, type := 23, pos := "ref.go:71", after := #[{ on := 13, ground := Ground.data }, { on := 10, ground := Ground.chain }], guard := none }
abbrev rd15 : Oper := { dst := some 42, op := Op.buildSlice 24 0 #[], type := 24, pos := "ref.go:71", after := #[], guard := none }
abbrev rd16 : Oper := { dst := some 43, op := Op.move (Operand.tmp 0), type := 24, pos := "ref.go:71", after := #[], guard := none }
abbrev rd17 : Oper := { dst := some 44, op := Op.move (Operand.tmp 7), type := 3, pos := "ref.go:71", after := #[], guard := none }
abbrev rd18 : Oper := { dst := some 45, op := Op.slice 24 (Operand.tmp 43) (some (Operand.const (Value.int IntKind.i64 21))) (some (Operand.tmp 44)) none, type := 24, pos := "ref.go:71", after := #[{ on := 16, ground := Ground.data }, { on := 17, ground := Ground.data }], guard := none }
abbrev rd19 : Oper := { dst := some 46, op := Op.call { callee := Callee.builtin Builtin.append, args := #[Operand.tmp 42, Operand.tmp 45], argTypes := #[24, 24] }, type := 24, pos := "ref.go:71", after := #[{ on := 15, ground := Ground.data }, { on := 18, ground := Ground.data }, { on := 14, ground := Ground.chain }], guard := none }
abbrev rd20 : Oper := { dst := some 47, op := Op.buildSlice 24 0 #[], type := 24, pos := "ref.go:71", after := #[], guard := none }
abbrev rd21 : Oper := { dst := some 48, op := Op.move (Operand.tmp 0), type := 24, pos := "ref.go:71", after := #[], guard := none }
abbrev rd22 : Oper := { dst := some 49, op := Op.move (Operand.tmp 7), type := 3, pos := "ref.go:71", after := #[], guard := none }
abbrev rd23 : Oper := { dst := some 50, op := Op.move (Operand.tmp 5), type := 3, pos := "ref.go:71", after := #[], guard := none }
abbrev rd24 : Oper := { dst := some 51, op := Op.slice 24 (Operand.tmp 48) (some (Operand.tmp 49)) (some (Operand.tmp 50)) none, type := 24, pos := "ref.go:71", after := #[{ on := 21, ground := Ground.data }, { on := 22, ground := Ground.data }, { on := 23, ground := Ground.data }], guard := none }
abbrev rd25 : Oper := { dst := some 52, op := Op.call { callee := Callee.builtin Builtin.append, args := #[Operand.tmp 47, Operand.tmp 51], argTypes := #[24, 24] }, type := 24, pos := "ref.go:71", after := #[{ on := 20, ground := Ground.data }, { on := 24, ground := Ground.data }, { on := 19, ground := Ground.chain }], guard := none }
abbrev rd26 : Oper := { dst := some 53, op := Op.build 26 #[(0, Operand.tmp 30), (1, Operand.tmp 34), (2, Operand.tmp 38), (3, Operand.tmp 41), (4, Operand.tmp 46), (5, Operand.tmp 52)], type := 26, pos := "ref.go:71", after := #[{ on := 3, ground := Ground.data }, { on := 7, ground := Ground.data }, { on := 11, ground := Ground.data }, { on := 14, ground := Ground.data }, { on := 19, ground := Ground.data }, { on := 25, ground := Ground.data }], guard := none }
abbrev rd27 : Oper := { dst := some 54, op := Op.move (Operand.tmp 5), type := 3, pos := "ref.go:71", after := #[{ on := 28, ground := Ground.gcOnly Departure.lateStores }], guard := none }
abbrev rd28 : Oper := { dst := none, op := Op.store 26 (Operand.tmp 2) (Operand.tmp 53), type := 0, pos := "ref.go:71", after := #[{ on := 26, ground := Ground.data }, { on := 25, ground := Ground.chain }, { on := 0, ground := Ground.phase }, { on := 1, ground := Ground.phase }, { on := 2, ground := Ground.phase }, { on := 3, ground := Ground.phase }, { on := 4, ground := Ground.phase }, { on := 5, ground := Ground.phase }, { on := 6, ground := Ground.phase }, { on := 7, ground := Ground.phase }, { on := 8, ground := Ground.phase }, { on := 9, ground := Ground.phase }, { on := 10, ground := Ground.phase }, { on := 11, ground := Ground.phase }, { on := 12, ground := Ground.phase }, { on := 13, ground := Ground.phase }, { on := 14, ground := Ground.phase }, { on := 15, ground := Ground.phase }, { on := 16, ground := Ground.phase }, { on := 17, ground := Ground.phase }, { on := 18, ground := Ground.phase }, { on := 19, ground := Ground.phase }, { on := 20, ground := Ground.phase }, { on := 21, ground := Ground.phase }, { on := 22, ground := Ground.phase }, { on := 23, ground := Ground.phase }, { on := 24, ground := Ground.phase }, { on := 25, ground := Ground.phase }, { on := 26, ground := Ground.phase }, { on := 27, ground := Ground.textOnly Departure.lateStores }], guard := none }
abbrev rd29 : Oper := { dst := some 3, op := Op.assign (Operand.tmp 54), type := 3, pos := "ref.go:71", after := #[{ on := 27, ground := Ground.data }, { on := 28, ground := Ground.chain }, { on := 0, ground := Ground.phase }, { on := 1, ground := Ground.phase }, { on := 2, ground := Ground.phase }, { on := 3, ground := Ground.phase }, { on := 4, ground := Ground.phase }, { on := 5, ground := Ground.phase }, { on := 6, ground := Ground.phase }, { on := 7, ground := Ground.phase }, { on := 8, ground := Ground.phase }, { on := 9, ground := Ground.phase }, { on := 10, ground := Ground.phase }, { on := 11, ground := Ground.phase }, { on := 12, ground := Ground.phase }, { on := 13, ground := Ground.phase }, { on := 14, ground := Ground.phase }, { on := 15, ground := Ground.phase }, { on := 16, ground := Ground.phase }, { on := 17, ground := Ground.phase }, { on := 18, ground := Ground.phase }, { on := 19, ground := Ground.phase }, { on := 20, ground := Ground.phase }, { on := 21, ground := Ground.phase }, { on := 22, ground := Ground.phase }, { on := 23, ground := Ground.phase }, { on := 24, ground := Ground.phase }, { on := 25, ground := Ground.phase }, { on := 26, ground := Ground.phase }, { on := 27, ground := Ground.phase }, { on := 28, ground := Ground.phase }], guard := none }
abbrev rd30 : Oper := { dst := some 4, op := Op.assign (Operand.const (Value.int IntKind.i64 0)), type := 29, pos := "ref.go:71", after := #[{ on := 29, ground := Ground.chain }, { on := 0, ground := Ground.phase }, { on := 1, ground := Ground.phase }, { on := 2, ground := Ground.phase }, { on := 3, ground := Ground.phase }, { on := 4, ground := Ground.phase }, { on := 5, ground := Ground.phase }, { on := 6, ground := Ground.phase }, { on := 7, ground := Ground.phase }, { on := 8, ground := Ground.phase }, { on := 9, ground := Ground.phase }, { on := 10, ground := Ground.phase }, { on := 11, ground := Ground.phase }, { on := 12, ground := Ground.phase }, { on := 13, ground := Ground.phase }, { on := 14, ground := Ground.phase }, { on := 15, ground := Ground.phase }, { on := 16, ground := Ground.phase }, { on := 17, ground := Ground.phase }, { on := 18, ground := Ground.phase }, { on := 19, ground := Ground.phase }, { on := 20, ground := Ground.phase }, { on := 21, ground := Ground.phase }, { on := 22, ground := Ground.phase }, { on := 23, ground := Ground.phase }, { on := 24, ground := Ground.phase }, { on := 25, ground := Ground.phase }, { on := 26, ground := Ground.phase }, { on := 27, ground := Ground.phase }, { on := 28, ground := Ground.phase }, { on := 29, ground := Ground.phase }], guard := none }

set_option maxRecDepth 100000 in
set_option maxHeartbeats 8000000 in
theorem rdec_ok (A : Option Addr) (n c : Nat) (xs : List Int) (S : Nat → Prop) (w : World) (hx : RowI .u8 w S A n xs) (hS : ∀ b, S b → b < w.heap.size) (hb : Bytes xs) (hn : 21 ≤ n) (hc : n ≤ c) (hm : MayB xs) (hle : needOf xs ≤ n) :
    Calls Try.prog 22 #[.slice A n c] w (RDecTold xs w) := by
  obtain ⟨i0, hi, hz0, hz1, hz2⟩ := info_parts info_u8
  obtain ⟨b0, o0, rfl, hsrc⟩ := src_of hx hS (by omega)
  have hl := hx.1
  have hf := flags_bounds hb
  have hx' := exp_bounds hb
  have hkl := hm.2.2.1
  have hvl := hm.2.2.2.1
  have hkl1 := hm.2.1
  have hk0 : 0 ≤ kindOf xs ∧ kindOf xs ≤ 255 := by rw [kind_first (by omega)]; exact hb 0
  have kw : IntKind.i64.wrap (kindOf xs) = kindOf xs := by rw [IntKind.wrap_i64]; omega
  have fw : IntKind.u32.wrap (flagsOf xs) = flagsOf xs := by rw [IntKind.wrap_u32]; omega
  have xw : IntKind.u32.wrap (expOf xs) = expOf xs := by rw [IntKind.wrap_u32]; omega
  have HNF := Lib.hid (show numOf ((xs.drop 1).take 4) = flagsOf xs from rfl)
  have HNX := Lib.hid (show numOf ((xs.drop 5).take 4) = expOf xs from rfl)
  have HNS := Lib.hid (show numOf ((xs.drop 9).take 8) = seqOf xs from rfl)
  have HX := Lib.hid (hx.keep (w' := w.alloc (.cells zeroC 26)) fun p hp => World.cell?_alloc_lt w _ p (hS _ hp))
  have HS0 := Lib.hid hsrc
  have HBY := Lib.hid hb
  have HM := Lib.hid hm
  have HNK := Lib.hid (klen_eq hb)
  have hneed : needOf xs = 21 + klenOf xs + vlenOf xs := rfl
  have cell0 : w.cell? ⟨b0, o0, none⟩ = some (.int .u8 (kindOf xs)) := by rw [kind_first (by omega)]; exact hsrc.cell 0 (by omega)
  have HC0 := Lib.hid cell0
  have hn0 : 0 < n := by omega
  have hs17 : ∀ W, (Instr.sliceAt 24 (.slice (some ⟨b0, o0, none⟩) n c) (some (.int .i64 17)) (some (.int .i64 19)) none).run Try.prog W = .ok (.slice (some ⟨b0, o0 + 17, none⟩) 2 (c - 17)) W := slice_lh b0 o0 n c 17 19 (by omega) (by omega) (by omega)
  have hs1 : ∀ W, (Instr.sliceAt 24 (.slice (some ⟨b0, o0, none⟩) n c) (some (.int .i64 1)) (some (.int .i64 5)) none).run Try.prog W = .ok (.slice (some ⟨b0, o0 + 1, none⟩) 4 (c - 1)) W := slice_lh b0 o0 n c 1 5 (by omega) (by omega) (by omega)
  have hs5 : ∀ W, (Instr.sliceAt 24 (.slice (some ⟨b0, o0, none⟩) n c) (some (.int .i64 5)) (some (.int .i64 9)) none).run Try.prog W = .ok (.slice (some ⟨b0, o0 + 5, none⟩) 4 (c - 5)) W := slice_lh b0 o0 n c 5 9 (by omega) (by omega) (by omega)
  have hs9 : ∀ W, (Instr.sliceAt 24 (.slice (some ⟨b0, o0, none⟩) n c) (some (.int .i64 9)) (some (.int .i64 17)) none).run Try.prog W = .ok (.slice (some ⟨b0, o0 + 9, none⟩) 8 (c - 9)) W := slice_lh b0 o0 n c 9 17 (by omega) (by omega) (by omega)
  have HND := Lib.hid hneed
  clear hx hb hsrc hm cell0 hneed
  go_enter Try.func22, Try.ntmps22
  go_wp2_with fail
  refine (rneed_any _ n c xs S _ HX.out (fun b h => by have := hS b h; simp; omega) HBY.out hn hc).mono ?_
  rintro e w1 ⟨he, _, hb⟩
  obtain rfl := he HM.out
  clear he
  have HB1 := Lib.hid (((Below.refl w.heap.size w).alloc (Nat.le_refl _) _).trans (hb.mono (by simp)))
  have HC1 := Lib.hid ((World.cell?_alloc_lt w (.cells zeroC 26) ⟨b0, o0, none⟩ HS0.out.lt).trans HC0.out)
  have HH := Lib.hid (held_below ⟨HC1.out, HS0.out.alloc (.cells zeroC 26)⟩ hb)
  have HRES := Lib.hid ((Blk.new w 26 zeroC).below hb (by simp))
  clear hb
  have hlt' : decide ((n : Int) < (needOf xs : Int)) = false := by simp; omega
  go_wp2_with fail
  refine (rnum_any _ 2 _ _ (fun _ => True) _ (HH.out.2.part 17 2 (by omega)) (bytes_part HBY.out 17 2) (by omega)).mono ?_
  rintro e w' ⟨rfl, rfl⟩
  rw [HNK.out]
  have hneed := HND.out
  have HKN := Lib.hid (show 21 + klenOf xs ≤ n by omega)
  have hk21 : IntKind.i64.wrap (21 + (klenOf xs : Int)) = ((21 + klenOf xs : Nat) : Int) := by rw [IntKind.wrap_i64]; omega
  have hk21' : 21 + (klenOf xs : Int) = ((21 + klenOf xs : Nat) : Int) := by omega
  have hsk : ∀ W, (Instr.sliceAt 24 (.slice (some ⟨b0, o0, none⟩) n c) (some (.int .i64 21)) (some (.int .i64 (21 + (klenOf xs : Int)))) none).run Try.prog W = .ok (.slice (some ⟨b0, o0 + 21, none⟩) (klenOf xs) (c - 21)) W := fun W => by
    have h := slice_lh b0 o0 n c 21 (21 + klenOf xs) (by omega) (by omega) (by omega) W
    rw [show 21 + klenOf xs - 21 = klenOf xs by omega, ← hk21'] at h
    exact h
  have hsv : vlenOf xs ≤ 512 := hvl
  obtain ⟨ow, cw, hsw, hrw, hcw⟩ : ∃ ow cw : Nat, (∀ W, (Instr.sliceAt 24 (.slice (some ⟨b0, o0, none⟩) n c) (some (.int .i64 (21 + (klenOf xs : Int)))) (some (.int .i64 (needOf xs : Int))) none).run Try.prog W = .ok (.slice (some ⟨b0, ow, none⟩) (vlenOf xs) cw) W) ∧
      (∀ W, Src xs b0 o0 n w W → RowI .u8 W (fun _ => True) (some ⟨b0, ow, none⟩) (vlenOf xs) (valOf xs)) ∧ cw ≤ c := by
    by_cases hvc : 21 + klenOf xs < c
    · refine ⟨o0 + (21 + klenOf xs), c - (21 + klenOf xs), fun W => ?_, fun W h => h.part (21 + klenOf xs) (vlenOf xs) (by omega), by omega⟩
      have h := slice_lh b0 o0 n c (21 + klenOf xs) (needOf xs) (by omega) (by omega) (by omega) W
      rw [show needOf xs - (21 + klenOf xs) = vlenOf xs by omega, ← hk21'] at h
      exact h
    · have hv0 : vlenOf xs = 0 := by omega
      refine ⟨o0, 0, fun W => ?_, fun W h => ?_, by omega⟩
      · have h := slice_end b0 o0 n c (21 + klenOf xs) (by omega) W
        rw [← hk21'] at h
        rw [show ((needOf xs : Nat) : Int) = 21 + (klenOf xs : Int) by omega, hv0]
        exact h
      · rw [hv0, show valOf xs = [] by unfold valOf; rw [hv0]; rfl]
        exact RowG.nil _ _ _ _ _
  have HRW := Lib.hid hrw
  clear hrw
  clear hneed hk21'
  generalize hnd : needOf xs = nd at *
  have HNN := Lib.hid hnd
  clear hnd
  go_wp2_with fail
  have HSRC := Lib.hid HH.out.2
  have HCELL := Lib.hid HH.out.1
  have HLW := Lib.hid (show b0 < w.heap.size from HH.out.2.lt)
  have HLW1 := Lib.hid (show w.heap.size < w1.heap.size from HRES.out.lt)
  have HLB := Lib.hid (show b0 < w1.heap.size by have := HLW.out; have := HLW1.out; omega)
  refine wp_region_noPanic ?_
  refine Tillst.region (fun W => W.cell? ⟨b0, o0, none⟩ = some (.int .u8 (kindOf xs))) [] (by kernel_rfl) HH.out.1 (fun hHeld => ?_)
  have HBW := Lib.hid ((Below.refl w1.heap.size w1).drew)
  have HZW := Lib.hid (show w1.heap.size ≤ w1.drew.heap.size from Nat.le_refl _)
  generalize w1.drew = vd at *
  refine Tillst.take (i := 0) (oi := rd0) (v := ?_) rfl (by kernel_rfl) (by kernel_rfl) (by kernel_rfl) (by kernel_rfl) (fun _ _ _ h => h) (by rfl) ?_ hHeld ?_
  rotate_left
  · intro W hSW; (try dsimp only at hSW); unfold rd0; go_simp; with_reducible rfl
  simp only [rd0, Act.put, List.setIfInBounds_toArray, List.set_cons_zero, List.set_cons_succ]
  refine Tillst.take (i := 1) (oi := rd1) (v := ?_) rfl (by kernel_rfl) (by kernel_rfl) (by kernel_rfl) (by kernel_rfl) (fun _ _ _ h => h) (by rfl) ?_ hHeld ?_
  rotate_left
  · intro W hSW; (try dsimp only at hSW); unfold rd1; go_simp; with_reducible rfl
  simp only [rd1, Act.put, List.setIfInBounds_toArray, List.set_cons_zero, List.set_cons_succ]
  refine Tillst.take (i := 2) (oi := rd2) (v := ?_) rfl (by kernel_rfl) (by kernel_rfl) (by kernel_rfl) (by kernel_rfl) (fun _ _ _ h => h) (by rfl) ?_ hHeld ?_
  rotate_left
  · intro W hSW; (try dsimp only at hSW); unfold rd2; go_simp; with_reducible rfl
  simp only [rd2, Act.put, List.setIfInBounds_toArray, List.set_cons_zero, List.set_cons_succ]
  refine Tillst.take (i := 3) (oi := rd3) (v := ?_) rfl (by kernel_rfl) (by kernel_rfl) (by kernel_rfl) (by kernel_rfl) (fun _ _ _ h => h) (by rfl) ?_ hHeld ?_
  rotate_left
  · intro W hSW; (try dsimp only at hSW); unfold rd3; go_simp; with_reducible rfl
  simp only [rd3, Act.put, List.setIfInBounds_toArray, List.set_cons_zero, List.set_cons_succ]
  refine Tillst.take (i := 4) (oi := rd4) (v := ?_) rfl (by kernel_rfl) (by kernel_rfl) (by kernel_rfl) (by kernel_rfl) (fun _ _ _ h => h) (by rfl) ?_ hHeld ?_
  rotate_left
  · intro W hSW; (try dsimp only at hSW); unfold rd4; go_simp; with_reducible rfl
  simp only [rd4, Act.put, List.setIfInBounds_toArray, List.set_cons_zero, List.set_cons_succ]
  refine Tillst.take (i := 5) (oi := rd5) (v := ?_) rfl (by kernel_rfl) (by kernel_rfl) (by kernel_rfl) (by kernel_rfl) (fun _ _ _ h => h) (by rfl) ?_ hHeld ?_
  rotate_left
  · intro W hSW; (try dsimp only at hSW); unfold rd5; go_simp; with_reducible rfl
  simp only [rd5, Act.put, List.setIfInBounds_toArray, List.set_cons_zero, List.set_cons_succ]
  refine Tillst.take (i := 8) (oi := rd8) (v := ?_) rfl (by kernel_rfl) (by kernel_rfl) (by kernel_rfl) (by kernel_rfl) (fun _ _ _ h => h) (by rfl) ?_ hHeld ?_
  rotate_left
  · intro W hSW; (try dsimp only at hSW); unfold rd8; go_simp; with_reducible rfl
  simp only [rd8, Act.put, List.setIfInBounds_toArray, List.set_cons_zero, List.set_cons_succ]
  refine Tillst.take (i := 9) (oi := rd9) (v := ?_) rfl (by kernel_rfl) (by kernel_rfl) (by kernel_rfl) (by kernel_rfl) (fun _ _ _ h => h) (by rfl) ?_ hHeld ?_
  rotate_left
  · intro W hSW; (try dsimp only at hSW); unfold rd9; go_simp; with_reducible rfl
  simp only [rd9, Act.put, List.setIfInBounds_toArray, List.set_cons_zero, List.set_cons_succ]
  refine Tillst.take (i := 12) (oi := rd12) (v := ?_) rfl (by kernel_rfl) (by kernel_rfl) (by kernel_rfl) (by kernel_rfl) (fun _ _ _ h => h) (by rfl) ?_ hHeld ?_
  rotate_left
  · intro W hSW; (try dsimp only at hSW); unfold rd12; go_simp; with_reducible rfl
  simp only [rd12, Act.put, List.setIfInBounds_toArray, List.set_cons_zero, List.set_cons_succ]
  refine Tillst.take (i := 13) (oi := rd13) (v := ?_) rfl (by kernel_rfl) (by kernel_rfl) (by kernel_rfl) (by kernel_rfl) (fun _ _ _ h => h) (by rfl) ?_ hHeld ?_
  rotate_left
  · intro W hSW; (try dsimp only at hSW); unfold rd13; go_simp; with_reducible rfl
  simp only [rd13, Act.put, List.setIfInBounds_toArray, List.set_cons_zero, List.set_cons_succ]
  refine Tillst.take (i := 16) (oi := rd16) (v := ?_) rfl (by kernel_rfl) (by kernel_rfl) (by kernel_rfl) (by kernel_rfl) (fun _ _ _ h => h) (by rfl) ?_ hHeld ?_
  rotate_left
  · intro W hSW; (try dsimp only at hSW); unfold rd16; go_simp; with_reducible rfl
  simp only [rd16, Act.put, List.setIfInBounds_toArray, List.set_cons_zero, List.set_cons_succ]
  refine Tillst.take (i := 17) (oi := rd17) (v := ?_) rfl (by kernel_rfl) (by kernel_rfl) (by kernel_rfl) (by kernel_rfl) (fun _ _ _ h => h) (by rfl) ?_ hHeld ?_
  rotate_left
  · intro W hSW; (try dsimp only at hSW); unfold rd17; go_simp; with_reducible rfl
  simp only [rd17, Act.put, List.setIfInBounds_toArray, List.set_cons_zero, List.set_cons_succ]
  refine Tillst.take (i := 18) (oi := rd18) (v := ?_) rfl (by kernel_rfl) (by kernel_rfl) (by kernel_rfl) (by kernel_rfl) (fun _ _ _ h => h) (by rfl) ?_ hHeld ?_
  rotate_left
  · intro W hSW; (try dsimp only at hSW); unfold rd18; go_simp; with_reducible rfl
  simp only [rd18, Act.put, List.setIfInBounds_toArray, List.set_cons_zero, List.set_cons_succ]
  refine Tillst.take (i := 21) (oi := rd21) (v := ?_) rfl (by kernel_rfl) (by kernel_rfl) (by kernel_rfl) (by kernel_rfl) (fun _ _ _ h => h) (by rfl) ?_ hHeld ?_
  rotate_left
  · intro W hSW; (try dsimp only at hSW); unfold rd21; go_simp; with_reducible rfl
  simp only [rd21, Act.put, List.setIfInBounds_toArray, List.set_cons_zero, List.set_cons_succ]
  refine Tillst.take (i := 22) (oi := rd22) (v := ?_) rfl (by kernel_rfl) (by kernel_rfl) (by kernel_rfl) (by kernel_rfl) (fun _ _ _ h => h) (by rfl) ?_ hHeld ?_
  rotate_left
  · intro W hSW; (try dsimp only at hSW); unfold rd22; go_simp; with_reducible rfl
  simp only [rd22, Act.put, List.setIfInBounds_toArray, List.set_cons_zero, List.set_cons_succ]
  refine Tillst.take (i := 23) (oi := rd23) (v := ?_) rfl (by kernel_rfl) (by kernel_rfl) (by kernel_rfl) (by kernel_rfl) (fun _ _ _ h => h) (by rfl) ?_ hHeld ?_
  rotate_left
  · intro W hSW; (try dsimp only at hSW); unfold rd23; go_simp; with_reducible rfl
  simp only [rd23, Act.put, List.setIfInBounds_toArray, List.set_cons_zero, List.set_cons_succ]
  refine Tillst.take (i := 24) (oi := rd24) (v := ?_) rfl (by kernel_rfl) (by kernel_rfl) (by kernel_rfl) (by kernel_rfl) (fun _ _ _ h => h) (by rfl) ?_ hHeld ?_
  rotate_left
  · intro W hSW; (try dsimp only at hSW); unfold rd24; go_simp; with_reducible rfl
  simp only [rd24, Act.put, List.setIfInBounds_toArray, List.set_cons_zero, List.set_cons_succ]
  refine Tillst.take (i := 27) (oi := rd27) (v := ?_) rfl (by kernel_rfl) (by kernel_rfl) (by kernel_rfl) (by kernel_rfl) (fun _ _ _ h => h) (by rfl) ?_ hHeld ?_
  rotate_left
  · intro W hSW; (try dsimp only at hSW); unfold rd27; go_simp; with_reducible rfl
  simp only [rd27, Act.put, List.setIfInBounds_toArray, List.set_cons_zero, List.set_cons_succ]
  refine Tillst.three (i := 6) (j := 15) (m := 20) (o := rd6) (o' := rd15) (o'' := rd20) (by kernel_rfl) rfl rfl rfl ?_ ?_ ?_
  · intro K hK
    refine step_call 34 #[.tmp 32] #[24] rfl rfl Try.func34 rfl rfl [.slice (some ⟨b0, o0 + 1, none⟩) 4 (c - 1)] rfl ?_
    refine (rnum_any _ 4 _ _ (fun _ => True) _ ((HSRC.out.below HBW.out).part 1 4 (by omega)) (bytes_part HBY.out 1 4) (by omega)).mono ?_
    rintro e w' ⟨rfl, rfl⟩
    rw [HNF.out]
    refine ⟨_, rfl, ?_⟩
    simp only [rd6, Act.put, List.setIfInBounds_toArray, List.set_cons_zero, List.set_cons_succ]
    refine hK.out _ _ (fun _ => (HBW.out.cell HLB.out).trans HCELL.out) (fun hHeld => ?_)
    replace hHeld := hHeld (by decide)
    clear hK K
    refine Tillst.take (i := 7) (oi := rd7) (v := ?_) rfl (by kernel_rfl) (by kernel_rfl) (by kernel_rfl) (by kernel_rfl) (fun _ _ _ h => h) (by rfl) ?_ hHeld ?_
    rotate_left
    · intro W hSW; (try dsimp only at hSW); unfold rd7; go_simp; with_reducible rfl
    simp only [rd7, Act.put, List.setIfInBounds_toArray, List.set_cons_zero, List.set_cons_succ]
    refine Tillst.three (i := 10) (j := 15) (m := 20) (o := rd10) (o' := rd15) (o'' := rd20) (by kernel_rfl) rfl rfl rfl ?_ ?_ ?_
    · intro K hK
      refine step_call 34 #[.tmp 36] #[24] rfl rfl Try.func34 rfl rfl [.slice (some ⟨b0, o0 + 5, none⟩) 4 (c - 5)] rfl ?_
      refine (rnum_any _ 4 _ _ (fun _ => True) _ ((HSRC.out.below HBW.out).part 5 4 (by omega)) (bytes_part HBY.out 5 4) (by omega)).mono ?_
      rintro e w' ⟨rfl, rfl⟩
      rw [HNX.out]
      refine ⟨_, rfl, ?_⟩
      simp only [rd10, Act.put, List.setIfInBounds_toArray, List.set_cons_zero, List.set_cons_succ]
      refine hK.out _ _ (fun _ => (HBW.out.cell HLB.out).trans HCELL.out) (fun hHeld => ?_)
      replace hHeld := hHeld (by decide)
      clear hK K
      refine Tillst.take (i := 11) (oi := rd11) (v := ?_) rfl (by kernel_rfl) (by kernel_rfl) (by kernel_rfl) (by kernel_rfl) (fun _ _ _ h => h) (by rfl) ?_ hHeld ?_
      rotate_left
      · intro W hSW; (try dsimp only at hSW); unfold rd11; go_simp; with_reducible rfl
      simp only [rd11, Act.put, List.setIfInBounds_toArray, List.set_cons_zero, List.set_cons_succ]
      refine Tillst.three (i := 14) (j := 15) (m := 20) (o := rd14) (o' := rd15) (o'' := rd20) (by kernel_rfl) rfl rfl rfl ?_ ?_ ?_
      · intro K hK
        refine step_call 34 #[.tmp 40] #[24] rfl rfl Try.func34 rfl rfl [.slice (some ⟨b0, o0 + 9, none⟩) 8 (c - 9)] rfl ?_
        refine (rnum_any _ 8 _ _ (fun _ => True) _ ((HSRC.out.below HBW.out).part 9 8 (by omega)) (bytes_part HBY.out 9 8) (by omega)).mono ?_
        rintro e w' ⟨rfl, rfl⟩
        rw [HNS.out]
        refine ⟨_, rfl, ?_⟩
        simp only [rd14, Act.put, List.setIfInBounds_toArray, List.set_cons_zero, List.set_cons_succ]
        refine hK.out _ _ (fun _ => (HBW.out.cell HLB.out).trans HCELL.out) (fun hHeld => ?_)
        replace hHeld := hHeld (by decide)
        clear hK K
        refine Tillst.two (i := 15) (j := 20) (o := rd15) (o' := rd20) (by kernel_rfl) rfl rfl ?_ ?_
        · intro K hK
          refine step_empty rfl rfl w1.heap.size HZW.out ?_
          intro ga v_3 hg hown hgrow
          have HEa := Lib.hid hown
          have HGa := Lib.hid hg.1
          have HBW := Lib.hid (HBW.out.grown hgrow HZW.out (fun g h => by cases h))
          have HZW := Lib.hid (Nat.le_trans HZW.out hgrow.size)
          clear hg hown hgrow
          simp only [rd15, Act.put, List.setIfInBounds_toArray, List.set_cons_zero, List.set_cons_succ]
          refine hK.out _ _ (fun _ => (HBW.out.cell HLB.out).trans HCELL.out) (fun hHeld => ?_)
          replace hHeld := hHeld (by decide)
          clear hK K
          refine Tillst.two (i := 19) (j := 20) (o := rd19) (o' := rd20) (by kernel_rfl) rfl rfl ?_ ?_
          · intro K hK
            refine step_append_rowG (mk := Value.int .u8) (d := 0) rfl (.tmp 42) (.tmp 45) 24 rfl w1.heap.size 5 i0 (.int .u8 0) 1 Try.underlying24 hi hz0 hz1 hz2 rfl (fun _ => rfl) (.slice (some ⟨ga, 0, none⟩) 0 0) 0 [] rfl HEa.out (fun _ => True) (some ⟨b0, o0 + 21, none⟩) (klenOf xs) (c - 21) (keyOf xs) rfl ((HSRC.out.below HBW.out).part 21 (klenOf xs) HKN.out) (fun h => by cases h) (by unfold maxLen; omega) (by omega) HZW.out ?_
            intro v19 v_4 hown hgrow hblk
            rw [List.nil_append, Nat.zero_add] at hown
            have HO3 := Lib.hid hown
            have HBW := Lib.hid (HBW.out.grown hgrow HZW.out (fun g h => by (have h' : ga = g := (by simpa [Value.ownBlock] using h)); have := HGa.out.1; omega))
            have HZW := Lib.hid (Nat.le_trans HZW.out hgrow.size)
            clear hown hgrow hblk
            simp only [rd19, Act.put, List.setIfInBounds_toArray, List.set_cons_zero, List.set_cons_succ]
            refine hK.out _ _ (fun _ => (HBW.out.cell HLB.out).trans HCELL.out) (fun hHeld => ?_)
            replace hHeld := hHeld (by decide)
            clear hK K
            refine Tillst.one (i := 20) (o := rd20) (by kernel_rfl) rfl ?_
            intro K hK
            refine step_empty rfl rfl w1.heap.size HZW.out ?_
            intro gb v_5 hg hown hgrow
            have HEb := Lib.hid hown
            have HGb := Lib.hid hg.1
            have HVN := Lib.hid (show v19.ownBlock ≠ some gb from fun h => by have h2 := (HO3.out.lt gb h).2; have := hg.2; omega)
            have HO3 := Lib.hid (own_none HO3.out hgrow)
            have HBW := Lib.hid (HBW.out.grown hgrow HZW.out (fun g h => by cases h))
            have HZW := Lib.hid (Nat.le_trans HZW.out hgrow.size)
            clear hg hown hgrow
            simp only [rd20, Act.put, List.setIfInBounds_toArray, List.set_cons_zero, List.set_cons_succ]
            refine hK.out _ _ (fun _ => (HBW.out.cell HLB.out).trans HCELL.out) (fun hHeld => ?_)
            replace hHeld := hHeld (by decide)
            clear hK K
            refine Tillst.one (i := 25) (o := rd25) (by kernel_rfl) rfl ?_
            intro K hK
            refine step_append_rowG (mk := Value.int .u8) (d := 0) rfl (.tmp 47) (.tmp 51) 24 rfl w1.heap.size 5 i0 (.int .u8 0) 1 Try.underlying24 hi hz0 hz1 hz2 rfl (fun _ => rfl) (.slice (some ⟨gb, 0, none⟩) 0 0) 0 [] rfl HEb.out (fun _ => True) (some ⟨b0, ow, none⟩) (vlenOf xs) cw (valOf xs) rfl (HRW.out _ (HSRC.out.below HBW.out)) (fun h => by cases h) (by unfold maxLen; omega) (by omega) HZW.out ?_
            intro v25 vz hown hgrow hblk
            rw [List.nil_append, Nat.zero_add] at hown
            have hO3 := HO3.out.kept hgrow (.inr (fun h => HVN.out (by simpa [Value.ownBlock] using h)))
            obtain ⟨A5, c5, rfl, hc1, hn1, hr1⟩ := rowG_own 0 hO3
            obtain ⟨A6, c6, rfl, hc2, hn2, hr2⟩ := rowG_own 0 hown
            have HR1 := Lib.hid hr1
            have HR2 := Lib.hid hr2
            have HBW := Lib.hid (HBW.out.grown hgrow HZW.out (fun g h => by (have h' : gb = g := (by simpa [Value.ownBlock] using h)); have := HGb.out.1; omega))
            clear hown hgrow hblk hO3 hc1 hn1 hr1 hc2 hn2 hr2
            simp only [rd25, Act.put, List.setIfInBounds_toArray, List.set_cons_zero, List.set_cons_succ]
            refine hK.out _ _ (fun _ => (HBW.out.cell HLB.out).trans HCELL.out) (fun hHeld => ?_)
            replace hHeld := hHeld (by decide)
            clear hK K
            refine Tillst.take (i := 26) (oi := rd26) (v := ?_) rfl (by kernel_rfl) (by kernel_rfl) (by kernel_rfl) (by kernel_rfl) (fun _ _ _ h => h) (by rfl) ?_ hHeld ?_
            rotate_left
            · intro W hSW; (try dsimp only at hSW); unfold rd26; go_simp; with_reducible rfl
            simp only [rd26, Act.put, List.setIfInBounds_toArray, List.set_cons_zero, List.set_cons_succ]
            refine Tillst.one (i := 28) (o := rd28) (by kernel_rfl) rfl ?_
            intro K hK
            have HZ := Lib.hid (HRES.out.below HBW.out HRES.out.lt)
            refine step_store_row (.tmp 2) (.tmp 53) 26 rfl rfl w.heap.size (recC (kindOf xs) (flagsOf xs) (expOf xs) (seqOf xs) A5 (klenOf xs) c5 A6 (vlenOf xs) c6) rfl rfl 26 _ HZ.out size_rec rfl (one_rec _ _ _ _ _ _ _ _ _ _) ?_
            simp only [rd28, Act.put, List.setIfInBounds_toArray, List.set_cons_zero, List.set_cons_succ]
            refine hK.out _ _ (fun _ => (World.cell?_of_block (setRow_other _ _ _ _ (Nat.ne_of_lt HLW.out))).trans ((HBW.out.cell HLB.out).trans HCELL.out)) (fun hHeld => ?_)
            replace hHeld := hHeld (by decide)
            clear hK K
            refine Tillst.take (i := 29) (oi := rd29) (v := ?_) rfl (by kernel_rfl) (by kernel_rfl) (by kernel_rfl) (by kernel_rfl) (fun _ _ _ h => h) (by rfl) ?_ hHeld ?_
            rotate_left
            · intro W hSW; (try dsimp only at hSW); unfold rd29; go_simp; with_reducible rfl
            simp only [rd29, Act.put, List.setIfInBounds_toArray, List.set_cons_zero, List.set_cons_succ]
            refine Tillst.take (i := 30) (oi := rd30) (v := ?_) rfl (by kernel_rfl) (by kernel_rfl) (by kernel_rfl) (by kernel_rfl) (fun _ _ _ h => h) (by rfl) ?_ hHeld ?_
            rotate_left
            · intro W hSW; (try dsimp only at hSW); unfold rd30; go_simp; with_reducible rfl
            simp only [rd30, Act.put, List.setIfInBounds_toArray, List.set_cons_zero, List.set_cons_succ]
            refine Tillst.done (by kernel_rfl) ?_ _
            refine NoPanic.normal ?_
            clear hHeld
            go_wp2_with (with_reducible refine halt_end ?_)
            have hst := setRow_heap _ _ _ (recC (kindOf xs) (flagsOf xs) (expOf xs) (seqOf xs) A5 (klenOf xs) c5 A6 (vlenOf xs) c6) _ _ HZ.out
            exact Halt.ret (results_row3 (p := 2) (u := 3) (v := 4) rfl _ _ w.heap.size 26 (recC (kindOf xs) (flagsOf xs) (expOf xs) (seqOf xs) A5 (klenOf xs) c5 A6 (vlenOf xs) c6) _ rfl hst Try.underlying26 rfl size_rec) rfl (rdec_fin xs w w1 vz A5 A6 c5 c6 nd HNN.out HR1.out HR2.out HLW1.out (HB1.out.trans (HBW.out.mono HB1.out.size)))
          · intro K hK
            refine step_empty rfl rfl w1.heap.size HZW.out ?_
            intro gb v_4 hg hown hgrow
            have HEb := Lib.hid hown
            have HGb := Lib.hid hg.1
            have HNE := Lib.hid (show ga ≠ gb by have h := HGa.out.2; have := hg.2; omega)
            have HEa := Lib.hid (own_none HEa.out hgrow)
            have HGa := Lib.hid (show w1.heap.size ≤ ga ∧ ga < v_4.heap.size from ⟨HGa.out.1, Nat.lt_of_lt_of_le HGa.out.2 hgrow.size⟩)
            have HBW := Lib.hid (HBW.out.grown hgrow HZW.out (fun g h => by cases h))
            have HZW := Lib.hid (Nat.le_trans HZW.out hgrow.size)
            clear hg hown hgrow
            simp only [rd20, Act.put, List.setIfInBounds_toArray, List.set_cons_zero, List.set_cons_succ]
            refine hK.out _ _ (fun _ => (HBW.out.cell HLB.out).trans HCELL.out) (fun hHeld => ?_)
            replace hHeld := hHeld (by decide)
            clear hK K
            refine Tillst.one (i := 19) (o := rd19) (by kernel_rfl) rfl ?_
            intro K hK
            refine step_append_rowG (mk := Value.int .u8) (d := 0) rfl (.tmp 42) (.tmp 45) 24 rfl w1.heap.size 5 i0 (.int .u8 0) 1 Try.underlying24 hi hz0 hz1 hz2 rfl (fun _ => rfl) (.slice (some ⟨ga, 0, none⟩) 0 0) 0 [] rfl HEa.out (fun _ => True) (some ⟨b0, o0 + 21, none⟩) (klenOf xs) (c - 21) (keyOf xs) rfl ((HSRC.out.below HBW.out).part 21 (klenOf xs) HKN.out) (fun h => by cases h) (by unfold maxLen; omega) (by omega) HZW.out ?_
            intro v19 v_5 hown hgrow hblk
            rw [List.nil_append, Nat.zero_add] at hown
            have HO3 := Lib.hid hown
            have HVN := Lib.hid (show v19.ownBlock ≠ some gb from fun h => by rcases hblk with h2 | h2 <;> rw [h] at h2 <;> simp [Value.ownBlock] at h2; exact HNE.out h2.symm; have := HGb.out.2; omega)
            have HEb := Lib.hid (HEb.out.kept hgrow (.inr (fun h => HNE.out (by simpa [Value.ownBlock] using h.symm))))
            have HGb := Lib.hid (show w1.heap.size ≤ gb ∧ gb < v_5.heap.size from ⟨HGb.out.1, Nat.lt_of_lt_of_le HGb.out.2 hgrow.size⟩)
            have HBW := Lib.hid (HBW.out.grown hgrow HZW.out (fun g h => by (have h' : ga = g := (by simpa [Value.ownBlock] using h)); have := HGa.out.1; omega))
            have HZW := Lib.hid (Nat.le_trans HZW.out hgrow.size)
            clear hown hgrow hblk
            simp only [rd19, Act.put, List.setIfInBounds_toArray, List.set_cons_zero, List.set_cons_succ]
            refine hK.out _ _ (fun _ => (HBW.out.cell HLB.out).trans HCELL.out) (fun hHeld => ?_)
            replace hHeld := hHeld (by decide)
            clear hK K
            refine Tillst.one (i := 25) (o := rd25) (by kernel_rfl) rfl ?_
            intro K hK
            refine step_append_rowG (mk := Value.int .u8) (d := 0) rfl (.tmp 47) (.tmp 51) 24 rfl w1.heap.size 5 i0 (.int .u8 0) 1 Try.underlying24 hi hz0 hz1 hz2 rfl (fun _ => rfl) (.slice (some ⟨gb, 0, none⟩) 0 0) 0 [] rfl HEb.out (fun _ => True) (some ⟨b0, ow, none⟩) (vlenOf xs) cw (valOf xs) rfl (HRW.out _ (HSRC.out.below HBW.out)) (fun h => by cases h) (by unfold maxLen; omega) (by omega) HZW.out ?_
            intro v25 vz hown hgrow hblk
            rw [List.nil_append, Nat.zero_add] at hown
            have hO3 := HO3.out.kept hgrow (.inr (fun h => HVN.out (by simpa [Value.ownBlock] using h)))
            obtain ⟨A5, c5, rfl, hc1, hn1, hr1⟩ := rowG_own 0 hO3
            obtain ⟨A6, c6, rfl, hc2, hn2, hr2⟩ := rowG_own 0 hown
            have HR1 := Lib.hid hr1
            have HR2 := Lib.hid hr2
            have HBW := Lib.hid (HBW.out.grown hgrow HZW.out (fun g h => by (have h' : gb = g := (by simpa [Value.ownBlock] using h)); have := HGb.out.1; omega))
            clear hown hgrow hblk hO3 hc1 hn1 hr1 hc2 hn2 hr2
            simp only [rd25, Act.put, List.setIfInBounds_toArray, List.set_cons_zero, List.set_cons_succ]
            refine hK.out _ _ (fun _ => (HBW.out.cell HLB.out).trans HCELL.out) (fun hHeld => ?_)
            replace hHeld := hHeld (by decide)
            clear hK K
            refine Tillst.take (i := 26) (oi := rd26) (v := ?_) rfl (by kernel_rfl) (by kernel_rfl) (by kernel_rfl) (by kernel_rfl) (fun _ _ _ h => h) (by rfl) ?_ hHeld ?_
            rotate_left
            · intro W hSW; (try dsimp only at hSW); unfold rd26; go_simp; with_reducible rfl
            simp only [rd26, Act.put, List.setIfInBounds_toArray, List.set_cons_zero, List.set_cons_succ]
            refine Tillst.one (i := 28) (o := rd28) (by kernel_rfl) rfl ?_
            intro K hK
            have HZ := Lib.hid (HRES.out.below HBW.out HRES.out.lt)
            refine step_store_row (.tmp 2) (.tmp 53) 26 rfl rfl w.heap.size (recC (kindOf xs) (flagsOf xs) (expOf xs) (seqOf xs) A5 (klenOf xs) c5 A6 (vlenOf xs) c6) rfl rfl 26 _ HZ.out size_rec rfl (one_rec _ _ _ _ _ _ _ _ _ _) ?_
            simp only [rd28, Act.put, List.setIfInBounds_toArray, List.set_cons_zero, List.set_cons_succ]
            refine hK.out _ _ (fun _ => (World.cell?_of_block (setRow_other _ _ _ _ (Nat.ne_of_lt HLW.out))).trans ((HBW.out.cell HLB.out).trans HCELL.out)) (fun hHeld => ?_)
            replace hHeld := hHeld (by decide)
            clear hK K
            refine Tillst.take (i := 29) (oi := rd29) (v := ?_) rfl (by kernel_rfl) (by kernel_rfl) (by kernel_rfl) (by kernel_rfl) (fun _ _ _ h => h) (by rfl) ?_ hHeld ?_
            rotate_left
            · intro W hSW; (try dsimp only at hSW); unfold rd29; go_simp; with_reducible rfl
            simp only [rd29, Act.put, List.setIfInBounds_toArray, List.set_cons_zero, List.set_cons_succ]
            refine Tillst.take (i := 30) (oi := rd30) (v := ?_) rfl (by kernel_rfl) (by kernel_rfl) (by kernel_rfl) (by kernel_rfl) (fun _ _ _ h => h) (by rfl) ?_ hHeld ?_
            rotate_left
            · intro W hSW; (try dsimp only at hSW); unfold rd30; go_simp; with_reducible rfl
            simp only [rd30, Act.put, List.setIfInBounds_toArray, List.set_cons_zero, List.set_cons_succ]
            refine Tillst.done (by kernel_rfl) ?_ _
            refine NoPanic.normal ?_
            clear hHeld
            go_wp2_with (with_reducible refine halt_end ?_)
            have hst := setRow_heap _ _ _ (recC (kindOf xs) (flagsOf xs) (expOf xs) (seqOf xs) A5 (klenOf xs) c5 A6 (vlenOf xs) c6) _ _ HZ.out
            exact Halt.ret (results_row3 (p := 2) (u := 3) (v := 4) rfl _ _ w.heap.size 26 (recC (kindOf xs) (flagsOf xs) (expOf xs) (seqOf xs) A5 (klenOf xs) c5 A6 (vlenOf xs) c6) _ rfl hst Try.underlying26 rfl size_rec) rfl (rdec_fin xs w w1 vz A5 A6 c5 c6 nd HNN.out HR1.out HR2.out HLW1.out (HB1.out.trans (HBW.out.mono HB1.out.size)))
        · intro K hK
          refine step_empty rfl rfl w1.heap.size HZW.out ?_
          intro gb v_3 hg hown hgrow
          have HEb := Lib.hid hown
          have HGb := Lib.hid hg.1
          have HBW := Lib.hid (HBW.out.grown hgrow HZW.out (fun g h => by cases h))
          have HZW := Lib.hid (Nat.le_trans HZW.out hgrow.size)
          clear hg hown hgrow
          simp only [rd20, Act.put, List.setIfInBounds_toArray, List.set_cons_zero, List.set_cons_succ]
          refine hK.out _ _ (fun _ => (HBW.out.cell HLB.out).trans HCELL.out) (fun hHeld => ?_)
          replace hHeld := hHeld (by decide)
          clear hK K
          refine Tillst.one (i := 15) (o := rd15) (by kernel_rfl) rfl ?_
          intro K hK
          refine step_empty rfl rfl w1.heap.size HZW.out ?_
          intro ga v_4 hg hown hgrow
          have HEa := Lib.hid hown
          have HGa := Lib.hid hg.1
          have HNE := Lib.hid (show ga ≠ gb by have h := HGb.out.2; have := hg.2; omega)
          have HEb := Lib.hid (own_none HEb.out hgrow)
          have HGb := Lib.hid (show w1.heap.size ≤ gb ∧ gb < v_4.heap.size from ⟨HGb.out.1, Nat.lt_of_lt_of_le HGb.out.2 hgrow.size⟩)
          have HBW := Lib.hid (HBW.out.grown hgrow HZW.out (fun g h => by cases h))
          have HZW := Lib.hid (Nat.le_trans HZW.out hgrow.size)
          clear hg hown hgrow
          simp only [rd15, Act.put, List.setIfInBounds_toArray, List.set_cons_zero, List.set_cons_succ]
          refine hK.out _ _ (fun _ => (HBW.out.cell HLB.out).trans HCELL.out) (fun hHeld => ?_)
          replace hHeld := hHeld (by decide)
          clear hK K
          refine Tillst.one (i := 19) (o := rd19) (by kernel_rfl) rfl ?_
          intro K hK
          refine step_append_rowG (mk := Value.int .u8) (d := 0) rfl (.tmp 42) (.tmp 45) 24 rfl w1.heap.size 5 i0 (.int .u8 0) 1 Try.underlying24 hi hz0 hz1 hz2 rfl (fun _ => rfl) (.slice (some ⟨ga, 0, none⟩) 0 0) 0 [] rfl HEa.out (fun _ => True) (some ⟨b0, o0 + 21, none⟩) (klenOf xs) (c - 21) (keyOf xs) rfl ((HSRC.out.below HBW.out).part 21 (klenOf xs) HKN.out) (fun h => by cases h) (by unfold maxLen; omega) (by omega) HZW.out ?_
          intro v19 v_5 hown hgrow hblk
          rw [List.nil_append, Nat.zero_add] at hown
          have HO3 := Lib.hid hown
          have HVN := Lib.hid (show v19.ownBlock ≠ some gb from fun h => by rcases hblk with h2 | h2 <;> rw [h] at h2 <;> simp [Value.ownBlock] at h2; exact HNE.out h2.symm; have := HGb.out.2; omega)
          have HEb := Lib.hid (HEb.out.kept hgrow (.inr (fun h => HNE.out (by simpa [Value.ownBlock] using h.symm))))
          have HGb := Lib.hid (show w1.heap.size ≤ gb ∧ gb < v_5.heap.size from ⟨HGb.out.1, Nat.lt_of_lt_of_le HGb.out.2 hgrow.size⟩)
          have HBW := Lib.hid (HBW.out.grown hgrow HZW.out (fun g h => by (have h' : ga = g := (by simpa [Value.ownBlock] using h)); have := HGa.out.1; omega))
          have HZW := Lib.hid (Nat.le_trans HZW.out hgrow.size)
          clear hown hgrow hblk
          simp only [rd19, Act.put, List.setIfInBounds_toArray, List.set_cons_zero, List.set_cons_succ]
          refine hK.out _ _ (fun _ => (HBW.out.cell HLB.out).trans HCELL.out) (fun hHeld => ?_)
          replace hHeld := hHeld (by decide)
          clear hK K
          refine Tillst.one (i := 25) (o := rd25) (by kernel_rfl) rfl ?_
          intro K hK
          refine step_append_rowG (mk := Value.int .u8) (d := 0) rfl (.tmp 47) (.tmp 51) 24 rfl w1.heap.size 5 i0 (.int .u8 0) 1 Try.underlying24 hi hz0 hz1 hz2 rfl (fun _ => rfl) (.slice (some ⟨gb, 0, none⟩) 0 0) 0 [] rfl HEb.out (fun _ => True) (some ⟨b0, ow, none⟩) (vlenOf xs) cw (valOf xs) rfl (HRW.out _ (HSRC.out.below HBW.out)) (fun h => by cases h) (by unfold maxLen; omega) (by omega) HZW.out ?_
          intro v25 vz hown hgrow hblk
          rw [List.nil_append, Nat.zero_add] at hown
          have hO3 := HO3.out.kept hgrow (.inr (fun h => HVN.out (by simpa [Value.ownBlock] using h)))
          obtain ⟨A5, c5, rfl, hc1, hn1, hr1⟩ := rowG_own 0 hO3
          obtain ⟨A6, c6, rfl, hc2, hn2, hr2⟩ := rowG_own 0 hown
          have HR1 := Lib.hid hr1
          have HR2 := Lib.hid hr2
          have HBW := Lib.hid (HBW.out.grown hgrow HZW.out (fun g h => by (have h' : gb = g := (by simpa [Value.ownBlock] using h)); have := HGb.out.1; omega))
          clear hown hgrow hblk hO3 hc1 hn1 hr1 hc2 hn2 hr2
          simp only [rd25, Act.put, List.setIfInBounds_toArray, List.set_cons_zero, List.set_cons_succ]
          refine hK.out _ _ (fun _ => (HBW.out.cell HLB.out).trans HCELL.out) (fun hHeld => ?_)
          replace hHeld := hHeld (by decide)
          clear hK K
          refine Tillst.take (i := 26) (oi := rd26) (v := ?_) rfl (by kernel_rfl) (by kernel_rfl) (by kernel_rfl) (by kernel_rfl) (fun _ _ _ h => h) (by rfl) ?_ hHeld ?_
          rotate_left
          · intro W hSW; (try dsimp only at hSW); unfold rd26; go_simp; with_reducible rfl
          simp only [rd26, Act.put, List.setIfInBounds_toArray, List.set_cons_zero, List.set_cons_succ]
          refine Tillst.one (i := 28) (o := rd28) (by kernel_rfl) rfl ?_
          intro K hK
          have HZ := Lib.hid (HRES.out.below HBW.out HRES.out.lt)
          refine step_store_row (.tmp 2) (.tmp 53) 26 rfl rfl w.heap.size (recC (kindOf xs) (flagsOf xs) (expOf xs) (seqOf xs) A5 (klenOf xs) c5 A6 (vlenOf xs) c6) rfl rfl 26 _ HZ.out size_rec rfl (one_rec _ _ _ _ _ _ _ _ _ _) ?_
          simp only [rd28, Act.put, List.setIfInBounds_toArray, List.set_cons_zero, List.set_cons_succ]
          refine hK.out _ _ (fun _ => (World.cell?_of_block (setRow_other _ _ _ _ (Nat.ne_of_lt HLW.out))).trans ((HBW.out.cell HLB.out).trans HCELL.out)) (fun hHeld => ?_)
          replace hHeld := hHeld (by decide)
          clear hK K
          refine Tillst.take (i := 29) (oi := rd29) (v := ?_) rfl (by kernel_rfl) (by kernel_rfl) (by kernel_rfl) (by kernel_rfl) (fun _ _ _ h => h) (by rfl) ?_ hHeld ?_
          rotate_left
          · intro W hSW; (try dsimp only at hSW); unfold rd29; go_simp; with_reducible rfl
          simp only [rd29, Act.put, List.setIfInBounds_toArray, List.set_cons_zero, List.set_cons_succ]
          refine Tillst.take (i := 30) (oi := rd30) (v := ?_) rfl (by kernel_rfl) (by kernel_rfl) (by kernel_rfl) (by kernel_rfl) (fun _ _ _ h => h) (by rfl) ?_ hHeld ?_
          rotate_left
          · intro W hSW; (try dsimp only at hSW); unfold rd30; go_simp; with_reducible rfl
          simp only [rd30, Act.put, List.setIfInBounds_toArray, List.set_cons_zero, List.set_cons_succ]
          refine Tillst.done (by kernel_rfl) ?_ _
          refine NoPanic.normal ?_
          clear hHeld
          go_wp2_with (with_reducible refine halt_end ?_)
          have hst := setRow_heap _ _ _ (recC (kindOf xs) (flagsOf xs) (expOf xs) (seqOf xs) A5 (klenOf xs) c5 A6 (vlenOf xs) c6) _ _ HZ.out
          exact Halt.ret (results_row3 (p := 2) (u := 3) (v := 4) rfl _ _ w.heap.size 26 (recC (kindOf xs) (flagsOf xs) (expOf xs) (seqOf xs) A5 (klenOf xs) c5 A6 (vlenOf xs) c6) _ rfl hst Try.underlying26 rfl size_rec) rfl (rdec_fin xs w w1 vz A5 A6 c5 c6 nd HNN.out HR1.out HR2.out HLW1.out (HB1.out.trans (HBW.out.mono HB1.out.size)))
      · intro K hK
        refine step_empty rfl rfl w1.heap.size HZW.out ?_
        intro ga v_2 hg hown hgrow
        have HEa := Lib.hid hown
        have HGa := Lib.hid hg.1
        have HBW := Lib.hid (HBW.out.grown hgrow HZW.out (fun g h => by cases h))
        have HZW := Lib.hid (Nat.le_trans HZW.out hgrow.size)
        clear hg hown hgrow
        simp only [rd15, Act.put, List.setIfInBounds_toArray, List.set_cons_zero, List.set_cons_succ]
        refine hK.out _ _ (fun _ => (HBW.out.cell HLB.out).trans HCELL.out) (fun hHeld => ?_)
        replace hHeld := hHeld (by decide)
        clear hK K
        refine Tillst.two (i := 14) (j := 20) (o := rd14) (o' := rd20) (by kernel_rfl) rfl rfl ?_ ?_
        · intro K hK
          refine step_call 34 #[.tmp 40] #[24] rfl rfl Try.func34 rfl rfl [.slice (some ⟨b0, o0 + 9, none⟩) 8 (c - 9)] rfl ?_
          refine (rnum_any _ 8 _ _ (fun _ => True) _ ((HSRC.out.below HBW.out).part 9 8 (by omega)) (bytes_part HBY.out 9 8) (by omega)).mono ?_
          rintro e w' ⟨rfl, rfl⟩
          rw [HNS.out]
          refine ⟨_, rfl, ?_⟩
          simp only [rd14, Act.put, List.setIfInBounds_toArray, List.set_cons_zero, List.set_cons_succ]
          refine hK.out _ _ (fun _ => (HBW.out.cell HLB.out).trans HCELL.out) (fun hHeld => ?_)
          replace hHeld := hHeld (by decide)
          clear hK K
          refine Tillst.two (i := 19) (j := 20) (o := rd19) (o' := rd20) (by kernel_rfl) rfl rfl ?_ ?_
          · intro K hK
            refine step_append_rowG (mk := Value.int .u8) (d := 0) rfl (.tmp 42) (.tmp 45) 24 rfl w1.heap.size 5 i0 (.int .u8 0) 1 Try.underlying24 hi hz0 hz1 hz2 rfl (fun _ => rfl) (.slice (some ⟨ga, 0, none⟩) 0 0) 0 [] rfl HEa.out (fun _ => True) (some ⟨b0, o0 + 21, none⟩) (klenOf xs) (c - 21) (keyOf xs) rfl ((HSRC.out.below HBW.out).part 21 (klenOf xs) HKN.out) (fun h => by cases h) (by unfold maxLen; omega) (by omega) HZW.out ?_
            intro v19 v_4 hown hgrow hblk
            rw [List.nil_append, Nat.zero_add] at hown
            have HO3 := Lib.hid hown
            have HBW := Lib.hid (HBW.out.grown hgrow HZW.out (fun g h => by (have h' : ga = g := (by simpa [Value.ownBlock] using h)); have := HGa.out.1; omega))
            have HZW := Lib.hid (Nat.le_trans HZW.out hgrow.size)
            clear hown hgrow hblk
            simp only [rd19, Act.put, List.setIfInBounds_toArray, List.set_cons_zero, List.set_cons_succ]
            refine hK.out _ _ (fun _ => (HBW.out.cell HLB.out).trans HCELL.out) (fun hHeld => ?_)
            replace hHeld := hHeld (by decide)
            clear hK K
            refine Tillst.one (i := 20) (o := rd20) (by kernel_rfl) rfl ?_
            intro K hK
            refine step_empty rfl rfl w1.heap.size HZW.out ?_
            intro gb v_5 hg hown hgrow
            have HEb := Lib.hid hown
            have HGb := Lib.hid hg.1
            have HVN := Lib.hid (show v19.ownBlock ≠ some gb from fun h => by have h2 := (HO3.out.lt gb h).2; have := hg.2; omega)
            have HO3 := Lib.hid (own_none HO3.out hgrow)
            have HBW := Lib.hid (HBW.out.grown hgrow HZW.out (fun g h => by cases h))
            have HZW := Lib.hid (Nat.le_trans HZW.out hgrow.size)
            clear hg hown hgrow
            simp only [rd20, Act.put, List.setIfInBounds_toArray, List.set_cons_zero, List.set_cons_succ]
            refine hK.out _ _ (fun _ => (HBW.out.cell HLB.out).trans HCELL.out) (fun hHeld => ?_)
            replace hHeld := hHeld (by decide)
            clear hK K
            refine Tillst.one (i := 25) (o := rd25) (by kernel_rfl) rfl ?_
            intro K hK
            refine step_append_rowG (mk := Value.int .u8) (d := 0) rfl (.tmp 47) (.tmp 51) 24 rfl w1.heap.size 5 i0 (.int .u8 0) 1 Try.underlying24 hi hz0 hz1 hz2 rfl (fun _ => rfl) (.slice (some ⟨gb, 0, none⟩) 0 0) 0 [] rfl HEb.out (fun _ => True) (some ⟨b0, ow, none⟩) (vlenOf xs) cw (valOf xs) rfl (HRW.out _ (HSRC.out.below HBW.out)) (fun h => by cases h) (by unfold maxLen; omega) (by omega) HZW.out ?_
            intro v25 vz hown hgrow hblk
            rw [List.nil_append, Nat.zero_add] at hown
            have hO3 := HO3.out.kept hgrow (.inr (fun h => HVN.out (by simpa [Value.ownBlock] using h)))
            obtain ⟨A5, c5, rfl, hc1, hn1, hr1⟩ := rowG_own 0 hO3
            obtain ⟨A6, c6, rfl, hc2, hn2, hr2⟩ := rowG_own 0 hown
            have HR1 := Lib.hid hr1
            have HR2 := Lib.hid hr2
            have HBW := Lib.hid (HBW.out.grown hgrow HZW.out (fun g h => by (have h' : gb = g := (by simpa [Value.ownBlock] using h)); have := HGb.out.1; omega))
            clear hown hgrow hblk hO3 hc1 hn1 hr1 hc2 hn2 hr2
            simp only [rd25, Act.put, List.setIfInBounds_toArray, List.set_cons_zero, List.set_cons_succ]
            refine hK.out _ _ (fun _ => (HBW.out.cell HLB.out).trans HCELL.out) (fun hHeld => ?_)
            replace hHeld := hHeld (by decide)
            clear hK K
            refine Tillst.take (i := 26) (oi := rd26) (v := ?_) rfl (by kernel_rfl) (by kernel_rfl) (by kernel_rfl) (by kernel_rfl) (fun _ _ _ h => h) (by rfl) ?_ hHeld ?_
            rotate_left
            · intro W hSW; (try dsimp only at hSW); unfold rd26; go_simp; with_reducible rfl
            simp only [rd26, Act.put, List.setIfInBounds_toArray, List.set_cons_zero, List.set_cons_succ]
            refine Tillst.one (i := 28) (o := rd28) (by kernel_rfl) rfl ?_
            intro K hK
            have HZ := Lib.hid (HRES.out.below HBW.out HRES.out.lt)
            refine step_store_row (.tmp 2) (.tmp 53) 26 rfl rfl w.heap.size (recC (kindOf xs) (flagsOf xs) (expOf xs) (seqOf xs) A5 (klenOf xs) c5 A6 (vlenOf xs) c6) rfl rfl 26 _ HZ.out size_rec rfl (one_rec _ _ _ _ _ _ _ _ _ _) ?_
            simp only [rd28, Act.put, List.setIfInBounds_toArray, List.set_cons_zero, List.set_cons_succ]
            refine hK.out _ _ (fun _ => (World.cell?_of_block (setRow_other _ _ _ _ (Nat.ne_of_lt HLW.out))).trans ((HBW.out.cell HLB.out).trans HCELL.out)) (fun hHeld => ?_)
            replace hHeld := hHeld (by decide)
            clear hK K
            refine Tillst.take (i := 29) (oi := rd29) (v := ?_) rfl (by kernel_rfl) (by kernel_rfl) (by kernel_rfl) (by kernel_rfl) (fun _ _ _ h => h) (by rfl) ?_ hHeld ?_
            rotate_left
            · intro W hSW; (try dsimp only at hSW); unfold rd29; go_simp; with_reducible rfl
            simp only [rd29, Act.put, List.setIfInBounds_toArray, List.set_cons_zero, List.set_cons_succ]
            refine Tillst.take (i := 30) (oi := rd30) (v := ?_) rfl (by kernel_rfl) (by kernel_rfl) (by kernel_rfl) (by kernel_rfl) (fun _ _ _ h => h) (by rfl) ?_ hHeld ?_
            rotate_left
            · intro W hSW; (try dsimp only at hSW); unfold rd30; go_simp; with_reducible rfl
            simp only [rd30, Act.put, List.setIfInBounds_toArray, List.set_cons_zero, List.set_cons_succ]
            refine Tillst.done (by kernel_rfl) ?_ _
            refine NoPanic.normal ?_
            clear hHeld
            go_wp2_with (with_reducible refine halt_end ?_)
            have hst := setRow_heap _ _ _ (recC (kindOf xs) (flagsOf xs) (expOf xs) (seqOf xs) A5 (klenOf xs) c5 A6 (vlenOf xs) c6) _ _ HZ.out
            exact Halt.ret (results_row3 (p := 2) (u := 3) (v := 4) rfl _ _ w.heap.size 26 (recC (kindOf xs) (flagsOf xs) (expOf xs) (seqOf xs) A5 (klenOf xs) c5 A6 (vlenOf xs) c6) _ rfl hst Try.underlying26 rfl size_rec) rfl (rdec_fin xs w w1 vz A5 A6 c5 c6 nd HNN.out HR1.out HR2.out HLW1.out (HB1.out.trans (HBW.out.mono HB1.out.size)))
          · intro K hK
            refine step_empty rfl rfl w1.heap.size HZW.out ?_
            intro gb v_4 hg hown hgrow
            have HEb := Lib.hid hown
            have HGb := Lib.hid hg.1
            have HNE := Lib.hid (show ga ≠ gb by have h := HGa.out.2; have := hg.2; omega)
            have HEa := Lib.hid (own_none HEa.out hgrow)
            have HGa := Lib.hid (show w1.heap.size ≤ ga ∧ ga < v_4.heap.size from ⟨HGa.out.1, Nat.lt_of_lt_of_le HGa.out.2 hgrow.size⟩)
            have HBW := Lib.hid (HBW.out.grown hgrow HZW.out (fun g h => by cases h))
            have HZW := Lib.hid (Nat.le_trans HZW.out hgrow.size)
            clear hg hown hgrow
            simp only [rd20, Act.put, List.setIfInBounds_toArray, List.set_cons_zero, List.set_cons_succ]
            refine hK.out _ _ (fun _ => (HBW.out.cell HLB.out).trans HCELL.out) (fun hHeld => ?_)
            replace hHeld := hHeld (by decide)
            clear hK K
            refine Tillst.one (i := 19) (o := rd19) (by kernel_rfl) rfl ?_
            intro K hK
            refine step_append_rowG (mk := Value.int .u8) (d := 0) rfl (.tmp 42) (.tmp 45) 24 rfl w1.heap.size 5 i0 (.int .u8 0) 1 Try.underlying24 hi hz0 hz1 hz2 rfl (fun _ => rfl) (.slice (some ⟨ga, 0, none⟩) 0 0) 0 [] rfl HEa.out (fun _ => True) (some ⟨b0, o0 + 21, none⟩) (klenOf xs) (c - 21) (keyOf xs) rfl ((HSRC.out.below HBW.out).part 21 (klenOf xs) HKN.out) (fun h => by cases h) (by unfold maxLen; omega) (by omega) HZW.out ?_
            intro v19 v_5 hown hgrow hblk
            rw [List.nil_append, Nat.zero_add] at hown
            have HO3 := Lib.hid hown
            have HVN := Lib.hid (show v19.ownBlock ≠ some gb from fun h => by rcases hblk with h2 | h2 <;> rw [h] at h2 <;> simp [Value.ownBlock] at h2; exact HNE.out h2.symm; have := HGb.out.2; omega)
            have HEb := Lib.hid (HEb.out.kept hgrow (.inr (fun h => HNE.out (by simpa [Value.ownBlock] using h.symm))))
            have HGb := Lib.hid (show w1.heap.size ≤ gb ∧ gb < v_5.heap.size from ⟨HGb.out.1, Nat.lt_of_lt_of_le HGb.out.2 hgrow.size⟩)
            have HBW := Lib.hid (HBW.out.grown hgrow HZW.out (fun g h => by (have h' : ga = g := (by simpa [Value.ownBlock] using h)); have := HGa.out.1; omega))
            have HZW := Lib.hid (Nat.le_trans HZW.out hgrow.size)
            clear hown hgrow hblk
            simp only [rd19, Act.put, List.setIfInBounds_toArray, List.set_cons_zero, List.set_cons_succ]
            refine hK.out _ _ (fun _ => (HBW.out.cell HLB.out).trans HCELL.out) (fun hHeld => ?_)
            replace hHeld := hHeld (by decide)
            clear hK K
            refine Tillst.one (i := 25) (o := rd25) (by kernel_rfl) rfl ?_
            intro K hK
            refine step_append_rowG (mk := Value.int .u8) (d := 0) rfl (.tmp 47) (.tmp 51) 24 rfl w1.heap.size 5 i0 (.int .u8 0) 1 Try.underlying24 hi hz0 hz1 hz2 rfl (fun _ => rfl) (.slice (some ⟨gb, 0, none⟩) 0 0) 0 [] rfl HEb.out (fun _ => True) (some ⟨b0, ow, none⟩) (vlenOf xs) cw (valOf xs) rfl (HRW.out _ (HSRC.out.below HBW.out)) (fun h => by cases h) (by unfold maxLen; omega) (by omega) HZW.out ?_
            intro v25 vz hown hgrow hblk
            rw [List.nil_append, Nat.zero_add] at hown
            have hO3 := HO3.out.kept hgrow (.inr (fun h => HVN.out (by simpa [Value.ownBlock] using h)))
            obtain ⟨A5, c5, rfl, hc1, hn1, hr1⟩ := rowG_own 0 hO3
            obtain ⟨A6, c6, rfl, hc2, hn2, hr2⟩ := rowG_own 0 hown
            have HR1 := Lib.hid hr1
            have HR2 := Lib.hid hr2
            have HBW := Lib.hid (HBW.out.grown hgrow HZW.out (fun g h => by (have h' : gb = g := (by simpa [Value.ownBlock] using h)); have := HGb.out.1; omega))
            clear hown hgrow hblk hO3 hc1 hn1 hr1 hc2 hn2 hr2
            simp only [rd25, Act.put, List.setIfInBounds_toArray, List.set_cons_zero, List.set_cons_succ]
            refine hK.out _ _ (fun _ => (HBW.out.cell HLB.out).trans HCELL.out) (fun hHeld => ?_)
            replace hHeld := hHeld (by decide)
            clear hK K
            refine Tillst.take (i := 26) (oi := rd26) (v := ?_) rfl (by kernel_rfl) (by kernel_rfl) (by kernel_rfl) (by kernel_rfl) (fun _ _ _ h => h) (by rfl) ?_ hHeld ?_
            rotate_left
            · intro W hSW; (try dsimp only at hSW); unfold rd26; go_simp; with_reducible rfl
            simp only [rd26, Act.put, List.setIfInBounds_toArray, List.set_cons_zero, List.set_cons_succ]
            refine Tillst.one (i := 28) (o := rd28) (by kernel_rfl) rfl ?_
            intro K hK
            have HZ := Lib.hid (HRES.out.below HBW.out HRES.out.lt)
            refine step_store_row (.tmp 2) (.tmp 53) 26 rfl rfl w.heap.size (recC (kindOf xs) (flagsOf xs) (expOf xs) (seqOf xs) A5 (klenOf xs) c5 A6 (vlenOf xs) c6) rfl rfl 26 _ HZ.out size_rec rfl (one_rec _ _ _ _ _ _ _ _ _ _) ?_
            simp only [rd28, Act.put, List.setIfInBounds_toArray, List.set_cons_zero, List.set_cons_succ]
            refine hK.out _ _ (fun _ => (World.cell?_of_block (setRow_other _ _ _ _ (Nat.ne_of_lt HLW.out))).trans ((HBW.out.cell HLB.out).trans HCELL.out)) (fun hHeld => ?_)
            replace hHeld := hHeld (by decide)
            clear hK K
            refine Tillst.take (i := 29) (oi := rd29) (v := ?_) rfl (by kernel_rfl) (by kernel_rfl) (by kernel_rfl) (by kernel_rfl) (fun _ _ _ h => h) (by rfl) ?_ hHeld ?_
            rotate_left
            · intro W hSW; (try dsimp only at hSW); unfold rd29; go_simp; with_reducible rfl
            simp only [rd29, Act.put, List.setIfInBounds_toArray, List.set_cons_zero, List.set_cons_succ]
            refine Tillst.take (i := 30) (oi := rd30) (v := ?_) rfl (by kernel_rfl) (by kernel_rfl) (by kernel_rfl) (by kernel_rfl) (fun _ _ _ h => h) (by rfl) ?_ hHeld ?_
            rotate_left
            · intro W hSW; (try dsimp only at hSW); unfold rd30; go_simp; with_reducible rfl
            simp only [rd30, Act.put, List.setIfInBounds_toArray, List.set_cons_zero, List.set_cons_succ]
            refine Tillst.done (by kernel_rfl) ?_ _
            refine NoPanic.normal ?_
            clear hHeld
            go_wp2_with (with_reducible refine halt_end ?_)
            have hst := setRow_heap _ _ _ (recC (kindOf xs) (flagsOf xs) (expOf xs) (seqOf xs) A5 (klenOf xs) c5 A6 (vlenOf xs) c6) _ _ HZ.out
            exact Halt.ret (results_row3 (p := 2) (u := 3) (v := 4) rfl _ _ w.heap.size 26 (recC (kindOf xs) (flagsOf xs) (expOf xs) (seqOf xs) A5 (klenOf xs) c5 A6 (vlenOf xs) c6) _ rfl hst Try.underlying26 rfl size_rec) rfl (rdec_fin xs w w1 vz A5 A6 c5 c6 nd HNN.out HR1.out HR2.out HLW1.out (HB1.out.trans (HBW.out.mono HB1.out.size)))
        · intro K hK
          refine step_empty rfl rfl w1.heap.size HZW.out ?_
          intro gb v_3 hg hown hgrow
          have HEb := Lib.hid hown
          have HGb := Lib.hid hg.1
          have HNE := Lib.hid (show ga ≠ gb by have h := HGa.out.2; have := hg.2; omega)
          have HEa := Lib.hid (own_none HEa.out hgrow)
          have HGa := Lib.hid (show w1.heap.size ≤ ga ∧ ga < v_3.heap.size from ⟨HGa.out.1, Nat.lt_of_lt_of_le HGa.out.2 hgrow.size⟩)
          have HBW := Lib.hid (HBW.out.grown hgrow HZW.out (fun g h => by cases h))
          have HZW := Lib.hid (Nat.le_trans HZW.out hgrow.size)
          clear hg hown hgrow
          simp only [rd20, Act.put, List.setIfInBounds_toArray, List.set_cons_zero, List.set_cons_succ]
          refine hK.out _ _ (fun _ => (HBW.out.cell HLB.out).trans HCELL.out) (fun hHeld => ?_)
          replace hHeld := hHeld (by decide)
          clear hK K
          refine Tillst.one (i := 14) (o := rd14) (by kernel_rfl) rfl ?_
          intro K hK
          refine step_call 34 #[.tmp 40] #[24] rfl rfl Try.func34 rfl rfl [.slice (some ⟨b0, o0 + 9, none⟩) 8 (c - 9)] rfl ?_
          refine (rnum_any _ 8 _ _ (fun _ => True) _ ((HSRC.out.below HBW.out).part 9 8 (by omega)) (bytes_part HBY.out 9 8) (by omega)).mono ?_
          rintro e w' ⟨rfl, rfl⟩
          rw [HNS.out]
          refine ⟨_, rfl, ?_⟩
          simp only [rd14, Act.put, List.setIfInBounds_toArray, List.set_cons_zero, List.set_cons_succ]
          refine hK.out _ _ (fun _ => (HBW.out.cell HLB.out).trans HCELL.out) (fun hHeld => ?_)
          replace hHeld := hHeld (by decide)
          clear hK K
          refine Tillst.one (i := 19) (o := rd19) (by kernel_rfl) rfl ?_
          intro K hK
          refine step_append_rowG (mk := Value.int .u8) (d := 0) rfl (.tmp 42) (.tmp 45) 24 rfl w1.heap.size 5 i0 (.int .u8 0) 1 Try.underlying24 hi hz0 hz1 hz2 rfl (fun _ => rfl) (.slice (some ⟨ga, 0, none⟩) 0 0) 0 [] rfl HEa.out (fun _ => True) (some ⟨b0, o0 + 21, none⟩) (klenOf xs) (c - 21) (keyOf xs) rfl ((HSRC.out.below HBW.out).part 21 (klenOf xs) HKN.out) (fun h => by cases h) (by unfold maxLen; omega) (by omega) HZW.out ?_
          intro v19 v_5 hown hgrow hblk
          rw [List.nil_append, Nat.zero_add] at hown
          have HO3 := Lib.hid hown
          have HVN := Lib.hid (show v19.ownBlock ≠ some gb from fun h => by rcases hblk with h2 | h2 <;> rw [h] at h2 <;> simp [Value.ownBlock] at h2; exact HNE.out h2.symm; have := HGb.out.2; omega)
          have HEb := Lib.hid (HEb.out.kept hgrow (.inr (fun h => HNE.out (by simpa [Value.ownBlock] using h.symm))))
          have HGb := Lib.hid (show w1.heap.size ≤ gb ∧ gb < v_5.heap.size from ⟨HGb.out.1, Nat.lt_of_lt_of_le HGb.out.2 hgrow.size⟩)
          have HBW := Lib.hid (HBW.out.grown hgrow HZW.out (fun g h => by (have h' : ga = g := (by simpa [Value.ownBlock] using h)); have := HGa.out.1; omega))
          have HZW := Lib.hid (Nat.le_trans HZW.out hgrow.size)
          clear hown hgrow hblk
          simp only [rd19, Act.put, List.setIfInBounds_toArray, List.set_cons_zero, List.set_cons_succ]
          refine hK.out _ _ (fun _ => (HBW.out.cell HLB.out).trans HCELL.out) (fun hHeld => ?_)
          replace hHeld := hHeld (by decide)
          clear hK K
          refine Tillst.one (i := 25) (o := rd25) (by kernel_rfl) rfl ?_
          intro K hK
          refine step_append_rowG (mk := Value.int .u8) (d := 0) rfl (.tmp 47) (.tmp 51) 24 rfl w1.heap.size 5 i0 (.int .u8 0) 1 Try.underlying24 hi hz0 hz1 hz2 rfl (fun _ => rfl) (.slice (some ⟨gb, 0, none⟩) 0 0) 0 [] rfl HEb.out (fun _ => True) (some ⟨b0, ow, none⟩) (vlenOf xs) cw (valOf xs) rfl (HRW.out _ (HSRC.out.below HBW.out)) (fun h => by cases h) (by unfold maxLen; omega) (by omega) HZW.out ?_
          intro v25 vz hown hgrow hblk
          rw [List.nil_append, Nat.zero_add] at hown
          have hO3 := HO3.out.kept hgrow (.inr (fun h => HVN.out (by simpa [Value.ownBlock] using h)))
          obtain ⟨A5, c5, rfl, hc1, hn1, hr1⟩ := rowG_own 0 hO3
          obtain ⟨A6, c6, rfl, hc2, hn2, hr2⟩ := rowG_own 0 hown
          have HR1 := Lib.hid hr1
          have HR2 := Lib.hid hr2
          have HBW := Lib.hid (HBW.out.grown hgrow HZW.out (fun g h => by (have h' : gb = g := (by simpa [Value.ownBlock] using h)); have := HGb.out.1; omega))
          clear hown hgrow hblk hO3 hc1 hn1 hr1 hc2 hn2 hr2
          simp only [rd25, Act.put, List.setIfInBounds_toArray, List.set_cons_zero, List.set_cons_succ]
          refine hK.out _ _ (fun _ => (HBW.out.cell HLB.out).trans HCELL.out) (fun hHeld => ?_)
          replace hHeld := hHeld (by decide)
          clear hK K
          refine Tillst.take (i := 26) (oi := rd26) (v := ?_) rfl (by kernel_rfl) (by kernel_rfl) (by kernel_rfl) (by kernel_rfl) (fun _ _ _ h => h) (by rfl) ?_ hHeld ?_
          rotate_left
          · intro W hSW; (try dsimp only at hSW); unfold rd26; go_simp; with_reducible rfl
          simp only [rd26, Act.put, List.setIfInBounds_toArray, List.set_cons_zero, List.set_cons_succ]
          refine Tillst.one (i := 28) (o := rd28) (by kernel_rfl) rfl ?_
          intro K hK
          have HZ := Lib.hid (HRES.out.below HBW.out HRES.out.lt)
          refine step_store_row (.tmp 2) (.tmp 53) 26 rfl rfl w.heap.size (recC (kindOf xs) (flagsOf xs) (expOf xs) (seqOf xs) A5 (klenOf xs) c5 A6 (vlenOf xs) c6) rfl rfl 26 _ HZ.out size_rec rfl (one_rec _ _ _ _ _ _ _ _ _ _) ?_
          simp only [rd28, Act.put, List.setIfInBounds_toArray, List.set_cons_zero, List.set_cons_succ]
          refine hK.out _ _ (fun _ => (World.cell?_of_block (setRow_other _ _ _ _ (Nat.ne_of_lt HLW.out))).trans ((HBW.out.cell HLB.out).trans HCELL.out)) (fun hHeld => ?_)
          replace hHeld := hHeld (by decide)
          clear hK K
          refine Tillst.take (i := 29) (oi := rd29) (v := ?_) rfl (by kernel_rfl) (by kernel_rfl) (by kernel_rfl) (by kernel_rfl) (fun _ _ _ h => h) (by rfl) ?_ hHeld ?_
          rotate_left
          · intro W hSW; (try dsimp only at hSW); unfold rd29; go_simp; with_reducible rfl
          simp only [rd29, Act.put, List.setIfInBounds_toArray, List.set_cons_zero, List.set_cons_succ]
          refine Tillst.take (i := 30) (oi := rd30) (v := ?_) rfl (by kernel_rfl) (by kernel_rfl) (by kernel_rfl) (by kernel_rfl) (fun _ _ _ h => h) (by rfl) ?_ hHeld ?_
          rotate_left
          · intro W hSW; (try dsimp only at hSW); unfold rd30; go_simp; with_reducible rfl
          simp only [rd30, Act.put, List.setIfInBounds_toArray, List.set_cons_zero, List.set_cons_succ]
          refine Tillst.done (by kernel_rfl) ?_ _
          refine NoPanic.normal ?_
          clear hHeld
          go_wp2_with (with_reducible refine halt_end ?_)
          have hst := setRow_heap _ _ _ (recC (kindOf xs) (flagsOf xs) (expOf xs) (seqOf xs) A5 (klenOf xs) c5 A6 (vlenOf xs) c6) _ _ HZ.out
          exact Halt.ret (results_row3 (p := 2) (u := 3) (v := 4) rfl _ _ w.heap.size 26 (recC (kindOf xs) (flagsOf xs) (expOf xs) (seqOf xs) A5 (klenOf xs) c5 A6 (vlenOf xs) c6) _ rfl hst Try.underlying26 rfl size_rec) rfl (rdec_fin xs w w1 vz A5 A6 c5 c6 nd HNN.out HR1.out HR2.out HLW1.out (HB1.out.trans (HBW.out.mono HB1.out.size)))
      · intro K hK
        refine step_empty rfl rfl w1.heap.size HZW.out ?_
        intro gb v_2 hg hown hgrow
        have HEb := Lib.hid hown
        have HGb := Lib.hid hg.1
        have HBW := Lib.hid (HBW.out.grown hgrow HZW.out (fun g h => by cases h))
        have HZW := Lib.hid (Nat.le_trans HZW.out hgrow.size)
        clear hg hown hgrow
        simp only [rd20, Act.put, List.setIfInBounds_toArray, List.set_cons_zero, List.set_cons_succ]
        refine hK.out _ _ (fun _ => (HBW.out.cell HLB.out).trans HCELL.out) (fun hHeld => ?_)
        replace hHeld := hHeld (by decide)
        clear hK K
        refine Tillst.two (i := 14) (j := 15) (o := rd14) (o' := rd15) (by kernel_rfl) rfl rfl ?_ ?_
        · intro K hK
          refine step_call 34 #[.tmp 40] #[24] rfl rfl Try.func34 rfl rfl [.slice (some ⟨b0, o0 + 9, none⟩) 8 (c - 9)] rfl ?_
          refine (rnum_any _ 8 _ _ (fun _ => True) _ ((HSRC.out.below HBW.out).part 9 8 (by omega)) (bytes_part HBY.out 9 8) (by omega)).mono ?_
          rintro e w' ⟨rfl, rfl⟩
          rw [HNS.out]
          refine ⟨_, rfl, ?_⟩
          simp only [rd14, Act.put, List.setIfInBounds_toArray, List.set_cons_zero, List.set_cons_succ]
          refine hK.out _ _ (fun _ => (HBW.out.cell HLB.out).trans HCELL.out) (fun hHeld => ?_)
          replace hHeld := hHeld (by decide)
          clear hK K
          refine Tillst.one (i := 15) (o := rd15) (by kernel_rfl) rfl ?_
          intro K hK
          refine step_empty rfl rfl w1.heap.size HZW.out ?_
          intro ga v_4 hg hown hgrow
          have HEa := Lib.hid hown
          have HGa := Lib.hid hg.1
          have HNE := Lib.hid (show ga ≠ gb by have h := HGb.out.2; have := hg.2; omega)
          have HEb := Lib.hid (own_none HEb.out hgrow)
          have HGb := Lib.hid (show w1.heap.size ≤ gb ∧ gb < v_4.heap.size from ⟨HGb.out.1, Nat.lt_of_lt_of_le HGb.out.2 hgrow.size⟩)
          have HBW := Lib.hid (HBW.out.grown hgrow HZW.out (fun g h => by cases h))
          have HZW := Lib.hid (Nat.le_trans HZW.out hgrow.size)
          clear hg hown hgrow
          simp only [rd15, Act.put, List.setIfInBounds_toArray, List.set_cons_zero, List.set_cons_succ]
          refine hK.out _ _ (fun _ => (HBW.out.cell HLB.out).trans HCELL.out) (fun hHeld => ?_)
          replace hHeld := hHeld (by decide)
          clear hK K
          refine Tillst.one (i := 19) (o := rd19) (by kernel_rfl) rfl ?_
          intro K hK
          refine step_append_rowG (mk := Value.int .u8) (d := 0) rfl (.tmp 42) (.tmp 45) 24 rfl w1.heap.size 5 i0 (.int .u8 0) 1 Try.underlying24 hi hz0 hz1 hz2 rfl (fun _ => rfl) (.slice (some ⟨ga, 0, none⟩) 0 0) 0 [] rfl HEa.out (fun _ => True) (some ⟨b0, o0 + 21, none⟩) (klenOf xs) (c - 21) (keyOf xs) rfl ((HSRC.out.below HBW.out).part 21 (klenOf xs) HKN.out) (fun h => by cases h) (by unfold maxLen; omega) (by omega) HZW.out ?_
          intro v19 v_5 hown hgrow hblk
          rw [List.nil_append, Nat.zero_add] at hown
          have HO3 := Lib.hid hown
          have HVN := Lib.hid (show v19.ownBlock ≠ some gb from fun h => by rcases hblk with h2 | h2 <;> rw [h] at h2 <;> simp [Value.ownBlock] at h2; exact HNE.out h2.symm; have := HGb.out.2; omega)
          have HEb := Lib.hid (HEb.out.kept hgrow (.inr (fun h => HNE.out (by simpa [Value.ownBlock] using h.symm))))
          have HGb := Lib.hid (show w1.heap.size ≤ gb ∧ gb < v_5.heap.size from ⟨HGb.out.1, Nat.lt_of_lt_of_le HGb.out.2 hgrow.size⟩)
          have HBW := Lib.hid (HBW.out.grown hgrow HZW.out (fun g h => by (have h' : ga = g := (by simpa [Value.ownBlock] using h)); have := HGa.out.1; omega))
          have HZW := Lib.hid (Nat.le_trans HZW.out hgrow.size)
          clear hown hgrow hblk
          simp only [rd19, Act.put, List.setIfInBounds_toArray, List.set_cons_zero, List.set_cons_succ]
          refine hK.out _ _ (fun _ => (HBW.out.cell HLB.out).trans HCELL.out) (fun hHeld => ?_)
          replace hHeld := hHeld (by decide)
          clear hK K
          refine Tillst.one (i := 25) (o := rd25) (by kernel_rfl) rfl ?_
          intro K hK
          refine step_append_rowG (mk := Value.int .u8) (d := 0) rfl (.tmp 47) (.tmp 51) 24 rfl w1.heap.size 5 i0 (.int .u8 0) 1 Try.underlying24 hi hz0 hz1 hz2 rfl (fun _ => rfl) (.slice (some ⟨gb, 0, none⟩) 0 0) 0 [] rfl HEb.out (fun _ => True) (some ⟨b0, ow, none⟩) (vlenOf xs) cw (valOf xs) rfl (HRW.out _ (HSRC.out.below HBW.out)) (fun h => by cases h) (by unfold maxLen; omega) (by omega) HZW.out ?_
          intro v25 vz hown hgrow hblk
          rw [List.nil_append, Nat.zero_add] at hown
          have hO3 := HO3.out.kept hgrow (.inr (fun h => HVN.out (by simpa [Value.ownBlock] using h)))
          obtain ⟨A5, c5, rfl, hc1, hn1, hr1⟩ := rowG_own 0 hO3
          obtain ⟨A6, c6, rfl, hc2, hn2, hr2⟩ := rowG_own 0 hown
          have HR1 := Lib.hid hr1
          have HR2 := Lib.hid hr2
          have HBW := Lib.hid (HBW.out.grown hgrow HZW.out (fun g h => by (have h' : gb = g := (by simpa [Value.ownBlock] using h)); have := HGb.out.1; omega))
          clear hown hgrow hblk hO3 hc1 hn1 hr1 hc2 hn2 hr2
          simp only [rd25, Act.put, List.setIfInBounds_toArray, List.set_cons_zero, List.set_cons_succ]
          refine hK.out _ _ (fun _ => (HBW.out.cell HLB.out).trans HCELL.out) (fun hHeld => ?_)
          replace hHeld := hHeld (by decide)
          clear hK K
          refine Tillst.take (i := 26) (oi := rd26) (v := ?_) rfl (by kernel_rfl) (by kernel_rfl) (by kernel_rfl) (by kernel_rfl) (fun _ _ _ h => h) (by rfl) ?_ hHeld ?_
          rotate_left
          · intro W hSW; (try dsimp only at hSW); unfold rd26; go_simp; with_reducible rfl
          simp only [rd26, Act.put, List.setIfInBounds_toArray, List.set_cons_zero, List.set_cons_succ]
          refine Tillst.one (i := 28) (o := rd28) (by kernel_rfl) rfl ?_
          intro K hK
          have HZ := Lib.hid (HRES.out.below HBW.out HRES.out.lt)
          refine step_store_row (.tmp 2) (.tmp 53) 26 rfl rfl w.heap.size (recC (kindOf xs) (flagsOf xs) (expOf xs) (seqOf xs) A5 (klenOf xs) c5 A6 (vlenOf xs) c6) rfl rfl 26 _ HZ.out size_rec rfl (one_rec _ _ _ _ _ _ _ _ _ _) ?_
          simp only [rd28, Act.put, List.setIfInBounds_toArray, List.set_cons_zero, List.set_cons_succ]
          refine hK.out _ _ (fun _ => (World.cell?_of_block (setRow_other _ _ _ _ (Nat.ne_of_lt HLW.out))).trans ((HBW.out.cell HLB.out).trans HCELL.out)) (fun hHeld => ?_)
          replace hHeld := hHeld (by decide)
          clear hK K
          refine Tillst.take (i := 29) (oi := rd29) (v := ?_) rfl (by kernel_rfl) (by kernel_rfl) (by kernel_rfl) (by kernel_rfl) (fun _ _ _ h => h) (by rfl) ?_ hHeld ?_
          rotate_left
          · intro W hSW; (try dsimp only at hSW); unfold rd29; go_simp; with_reducible rfl
          simp only [rd29, Act.put, List.setIfInBounds_toArray, List.set_cons_zero, List.set_cons_succ]
          refine Tillst.take (i := 30) (oi := rd30) (v := ?_) rfl (by kernel_rfl) (by kernel_rfl) (by kernel_rfl) (by kernel_rfl) (fun _ _ _ h => h) (by rfl) ?_ hHeld ?_
          rotate_left
          · intro W hSW; (try dsimp only at hSW); unfold rd30; go_simp; with_reducible rfl
          simp only [rd30, Act.put, List.setIfInBounds_toArray, List.set_cons_zero, List.set_cons_succ]
          refine Tillst.done (by kernel_rfl) ?_ _
          refine NoPanic.normal ?_
          clear hHeld
          go_wp2_with (with_reducible refine halt_end ?_)
          have hst := setRow_heap _ _ _ (recC (kindOf xs) (flagsOf xs) (expOf xs) (seqOf xs) A5 (klenOf xs) c5 A6 (vlenOf xs) c6) _ _ HZ.out
          exact Halt.ret (results_row3 (p := 2) (u := 3) (v := 4) rfl _ _ w.heap.size 26 (recC (kindOf xs) (flagsOf xs) (expOf xs) (seqOf xs) A5 (klenOf xs) c5 A6 (vlenOf xs) c6) _ rfl hst Try.underlying26 rfl size_rec) rfl (rdec_fin xs w w1 vz A5 A6 c5 c6 nd HNN.out HR1.out HR2.out HLW1.out (HB1.out.trans (HBW.out.mono HB1.out.size)))
        · intro K hK
          refine step_empty rfl rfl w1.heap.size HZW.out ?_
          intro ga v_3 hg hown hgrow
          have HEa := Lib.hid hown
          have HGa := Lib.hid hg.1
          have HNE := Lib.hid (show ga ≠ gb by have h := HGb.out.2; have := hg.2; omega)
          have HEb := Lib.hid (own_none HEb.out hgrow)
          have HGb := Lib.hid (show w1.heap.size ≤ gb ∧ gb < v_3.heap.size from ⟨HGb.out.1, Nat.lt_of_lt_of_le HGb.out.2 hgrow.size⟩)
          have HBW := Lib.hid (HBW.out.grown hgrow HZW.out (fun g h => by cases h))
          have HZW := Lib.hid (Nat.le_trans HZW.out hgrow.size)
          clear hg hown hgrow
          simp only [rd15, Act.put, List.setIfInBounds_toArray, List.set_cons_zero, List.set_cons_succ]
          refine hK.out _ _ (fun _ => (HBW.out.cell HLB.out).trans HCELL.out) (fun hHeld => ?_)
          replace hHeld := hHeld (by decide)
          clear hK K
          refine Tillst.one (i := 14) (o := rd14) (by kernel_rfl) rfl ?_
          intro K hK
          refine step_call 34 #[.tmp 40] #[24] rfl rfl Try.func34 rfl rfl [.slice (some ⟨b0, o0 + 9, none⟩) 8 (c - 9)] rfl ?_
          refine (rnum_any _ 8 _ _ (fun _ => True) _ ((HSRC.out.below HBW.out).part 9 8 (by omega)) (bytes_part HBY.out 9 8) (by omega)).mono ?_
          rintro e w' ⟨rfl, rfl⟩
          rw [HNS.out]
          refine ⟨_, rfl, ?_⟩
          simp only [rd14, Act.put, List.setIfInBounds_toArray, List.set_cons_zero, List.set_cons_succ]
          refine hK.out _ _ (fun _ => (HBW.out.cell HLB.out).trans HCELL.out) (fun hHeld => ?_)
          replace hHeld := hHeld (by decide)
          clear hK K
          refine Tillst.one (i := 19) (o := rd19) (by kernel_rfl) rfl ?_
          intro K hK
          refine step_append_rowG (mk := Value.int .u8) (d := 0) rfl (.tmp 42) (.tmp 45) 24 rfl w1.heap.size 5 i0 (.int .u8 0) 1 Try.underlying24 hi hz0 hz1 hz2 rfl (fun _ => rfl) (.slice (some ⟨ga, 0, none⟩) 0 0) 0 [] rfl HEa.out (fun _ => True) (some ⟨b0, o0 + 21, none⟩) (klenOf xs) (c - 21) (keyOf xs) rfl ((HSRC.out.below HBW.out).part 21 (klenOf xs) HKN.out) (fun h => by cases h) (by unfold maxLen; omega) (by omega) HZW.out ?_
          intro v19 v_5 hown hgrow hblk
          rw [List.nil_append, Nat.zero_add] at hown
          have HO3 := Lib.hid hown
          have HVN := Lib.hid (show v19.ownBlock ≠ some gb from fun h => by rcases hblk with h2 | h2 <;> rw [h] at h2 <;> simp [Value.ownBlock] at h2; exact HNE.out h2.symm; have := HGb.out.2; omega)
          have HEb := Lib.hid (HEb.out.kept hgrow (.inr (fun h => HNE.out (by simpa [Value.ownBlock] using h.symm))))
          have HGb := Lib.hid (show w1.heap.size ≤ gb ∧ gb < v_5.heap.size from ⟨HGb.out.1, Nat.lt_of_lt_of_le HGb.out.2 hgrow.size⟩)
          have HBW := Lib.hid (HBW.out.grown hgrow HZW.out (fun g h => by (have h' : ga = g := (by simpa [Value.ownBlock] using h)); have := HGa.out.1; omega))
          have HZW := Lib.hid (Nat.le_trans HZW.out hgrow.size)
          clear hown hgrow hblk
          simp only [rd19, Act.put, List.setIfInBounds_toArray, List.set_cons_zero, List.set_cons_succ]
          refine hK.out _ _ (fun _ => (HBW.out.cell HLB.out).trans HCELL.out) (fun hHeld => ?_)
          replace hHeld := hHeld (by decide)
          clear hK K
          refine Tillst.one (i := 25) (o := rd25) (by kernel_rfl) rfl ?_
          intro K hK
          refine step_append_rowG (mk := Value.int .u8) (d := 0) rfl (.tmp 47) (.tmp 51) 24 rfl w1.heap.size 5 i0 (.int .u8 0) 1 Try.underlying24 hi hz0 hz1 hz2 rfl (fun _ => rfl) (.slice (some ⟨gb, 0, none⟩) 0 0) 0 [] rfl HEb.out (fun _ => True) (some ⟨b0, ow, none⟩) (vlenOf xs) cw (valOf xs) rfl (HRW.out _ (HSRC.out.below HBW.out)) (fun h => by cases h) (by unfold maxLen; omega) (by omega) HZW.out ?_
          intro v25 vz hown hgrow hblk
          rw [List.nil_append, Nat.zero_add] at hown
          have hO3 := HO3.out.kept hgrow (.inr (fun h => HVN.out (by simpa [Value.ownBlock] using h)))
          obtain ⟨A5, c5, rfl, hc1, hn1, hr1⟩ := rowG_own 0 hO3
          obtain ⟨A6, c6, rfl, hc2, hn2, hr2⟩ := rowG_own 0 hown
          have HR1 := Lib.hid hr1
          have HR2 := Lib.hid hr2
          have HBW := Lib.hid (HBW.out.grown hgrow HZW.out (fun g h => by (have h' : gb = g := (by simpa [Value.ownBlock] using h)); have := HGb.out.1; omega))
          clear hown hgrow hblk hO3 hc1 hn1 hr1 hc2 hn2 hr2
          simp only [rd25, Act.put, List.setIfInBounds_toArray, List.set_cons_zero, List.set_cons_succ]
          refine hK.out _ _ (fun _ => (HBW.out.cell HLB.out).trans HCELL.out) (fun hHeld => ?_)
          replace hHeld := hHeld (by decide)
          clear hK K
          refine Tillst.take (i := 26) (oi := rd26) (v := ?_) rfl (by kernel_rfl) (by kernel_rfl) (by kernel_rfl) (by kernel_rfl) (fun _ _ _ h => h) (by rfl) ?_ hHeld ?_
          rotate_left
          · intro W hSW; (try dsimp only at hSW); unfold rd26; go_simp; with_reducible rfl
          simp only [rd26, Act.put, List.setIfInBounds_toArray, List.set_cons_zero, List.set_cons_succ]
          refine Tillst.one (i := 28) (o := rd28) (by kernel_rfl) rfl ?_
          intro K hK
          have HZ := Lib.hid (HRES.out.below HBW.out HRES.out.lt)
          refine step_store_row (.tmp 2) (.tmp 53) 26 rfl rfl w.heap.size (recC (kindOf xs) (flagsOf xs) (expOf xs) (seqOf xs) A5 (klenOf xs) c5 A6 (vlenOf xs) c6) rfl rfl 26 _ HZ.out size_rec rfl (one_rec _ _ _ _ _ _ _ _ _ _) ?_
          simp only [rd28, Act.put, List.setIfInBounds_toArray, List.set_cons_zero, List.set_cons_succ]
          refine hK.out _ _ (fun _ => (World.cell?_of_block (setRow_other _ _ _ _ (Nat.ne_of_lt HLW.out))).trans ((HBW.out.cell HLB.out).trans HCELL.out)) (fun hHeld => ?_)
          replace hHeld := hHeld (by decide)
          clear hK K
          refine Tillst.take (i := 29) (oi := rd29) (v := ?_) rfl (by kernel_rfl) (by kernel_rfl) (by kernel_rfl) (by kernel_rfl) (fun _ _ _ h => h) (by rfl) ?_ hHeld ?_
          rotate_left
          · intro W hSW; (try dsimp only at hSW); unfold rd29; go_simp; with_reducible rfl
          simp only [rd29, Act.put, List.setIfInBounds_toArray, List.set_cons_zero, List.set_cons_succ]
          refine Tillst.take (i := 30) (oi := rd30) (v := ?_) rfl (by kernel_rfl) (by kernel_rfl) (by kernel_rfl) (by kernel_rfl) (fun _ _ _ h => h) (by rfl) ?_ hHeld ?_
          rotate_left
          · intro W hSW; (try dsimp only at hSW); unfold rd30; go_simp; with_reducible rfl
          simp only [rd30, Act.put, List.setIfInBounds_toArray, List.set_cons_zero, List.set_cons_succ]
          refine Tillst.done (by kernel_rfl) ?_ _
          refine NoPanic.normal ?_
          clear hHeld
          go_wp2_with (with_reducible refine halt_end ?_)
          have hst := setRow_heap _ _ _ (recC (kindOf xs) (flagsOf xs) (expOf xs) (seqOf xs) A5 (klenOf xs) c5 A6 (vlenOf xs) c6) _ _ HZ.out
          exact Halt.ret (results_row3 (p := 2) (u := 3) (v := 4) rfl _ _ w.heap.size 26 (recC (kindOf xs) (flagsOf xs) (expOf xs) (seqOf xs) A5 (klenOf xs) c5 A6 (vlenOf xs) c6) _ rfl hst Try.underlying26 rfl size_rec) rfl (rdec_fin xs w w1 vz A5 A6 c5 c6 nd HNN.out HR1.out HR2.out HLW1.out (HB1.out.trans (HBW.out.mono HB1.out.size)))
    · intro K hK
      refine step_empty rfl rfl w1.heap.size HZW.out ?_
      intro ga v_1 hg hown hgrow
      have HEa := Lib.hid hown
      have HGa := Lib.hid hg.1
      have HBW := Lib.hid (HBW.out.grown hgrow HZW.out (fun g h => by cases h))
      have HZW := Lib.hid (Nat.le_trans HZW.out hgrow.size)
      clear hg hown hgrow
      simp only [rd15, Act.put, List.setIfInBounds_toArray, List.set_cons_zero, List.set_cons_succ]
      refine hK.out _ _ (fun _ => (HBW.out.cell HLB.out).trans HCELL.out) (fun hHeld => ?_)
      replace hHeld := hHeld (by decide)
      clear hK K
      refine Tillst.two (i := 10) (j := 20) (o := rd10) (o' := rd20) (by kernel_rfl) rfl rfl ?_ ?_
      · intro K hK
        refine step_call 34 #[.tmp 36] #[24] rfl rfl Try.func34 rfl rfl [.slice (some ⟨b0, o0 + 5, none⟩) 4 (c - 5)] rfl ?_
        refine (rnum_any _ 4 _ _ (fun _ => True) _ ((HSRC.out.below HBW.out).part 5 4 (by omega)) (bytes_part HBY.out 5 4) (by omega)).mono ?_
        rintro e w' ⟨rfl, rfl⟩
        rw [HNX.out]
        refine ⟨_, rfl, ?_⟩
        simp only [rd10, Act.put, List.setIfInBounds_toArray, List.set_cons_zero, List.set_cons_succ]
        refine hK.out _ _ (fun _ => (HBW.out.cell HLB.out).trans HCELL.out) (fun hHeld => ?_)
        replace hHeld := hHeld (by decide)
        clear hK K
        refine Tillst.take (i := 11) (oi := rd11) (v := ?_) rfl (by kernel_rfl) (by kernel_rfl) (by kernel_rfl) (by kernel_rfl) (fun _ _ _ h => h) (by rfl) ?_ hHeld ?_
        rotate_left
        · intro W hSW; (try dsimp only at hSW); unfold rd11; go_simp; with_reducible rfl
        simp only [rd11, Act.put, List.setIfInBounds_toArray, List.set_cons_zero, List.set_cons_succ]
        refine Tillst.two (i := 14) (j := 20) (o := rd14) (o' := rd20) (by kernel_rfl) rfl rfl ?_ ?_
        · intro K hK
          refine step_call 34 #[.tmp 40] #[24] rfl rfl Try.func34 rfl rfl [.slice (some ⟨b0, o0 + 9, none⟩) 8 (c - 9)] rfl ?_
          refine (rnum_any _ 8 _ _ (fun _ => True) _ ((HSRC.out.below HBW.out).part 9 8 (by omega)) (bytes_part HBY.out 9 8) (by omega)).mono ?_
          rintro e w' ⟨rfl, rfl⟩
          rw [HNS.out]
          refine ⟨_, rfl, ?_⟩
          simp only [rd14, Act.put, List.setIfInBounds_toArray, List.set_cons_zero, List.set_cons_succ]
          refine hK.out _ _ (fun _ => (HBW.out.cell HLB.out).trans HCELL.out) (fun hHeld => ?_)
          replace hHeld := hHeld (by decide)
          clear hK K
          refine Tillst.two (i := 19) (j := 20) (o := rd19) (o' := rd20) (by kernel_rfl) rfl rfl ?_ ?_
          · intro K hK
            refine step_append_rowG (mk := Value.int .u8) (d := 0) rfl (.tmp 42) (.tmp 45) 24 rfl w1.heap.size 5 i0 (.int .u8 0) 1 Try.underlying24 hi hz0 hz1 hz2 rfl (fun _ => rfl) (.slice (some ⟨ga, 0, none⟩) 0 0) 0 [] rfl HEa.out (fun _ => True) (some ⟨b0, o0 + 21, none⟩) (klenOf xs) (c - 21) (keyOf xs) rfl ((HSRC.out.below HBW.out).part 21 (klenOf xs) HKN.out) (fun h => by cases h) (by unfold maxLen; omega) (by omega) HZW.out ?_
            intro v19 v_4 hown hgrow hblk
            rw [List.nil_append, Nat.zero_add] at hown
            have HO3 := Lib.hid hown
            have HBW := Lib.hid (HBW.out.grown hgrow HZW.out (fun g h => by (have h' : ga = g := (by simpa [Value.ownBlock] using h)); have := HGa.out.1; omega))
            have HZW := Lib.hid (Nat.le_trans HZW.out hgrow.size)
            clear hown hgrow hblk
            simp only [rd19, Act.put, List.setIfInBounds_toArray, List.set_cons_zero, List.set_cons_succ]
            refine hK.out _ _ (fun _ => (HBW.out.cell HLB.out).trans HCELL.out) (fun hHeld => ?_)
            replace hHeld := hHeld (by decide)
            clear hK K
            refine Tillst.one (i := 20) (o := rd20) (by kernel_rfl) rfl ?_
            intro K hK
            refine step_empty rfl rfl w1.heap.size HZW.out ?_
            intro gb v_5 hg hown hgrow
            have HEb := Lib.hid hown
            have HGb := Lib.hid hg.1
            have HVN := Lib.hid (show v19.ownBlock ≠ some gb from fun h => by have h2 := (HO3.out.lt gb h).2; have := hg.2; omega)
            have HO3 := Lib.hid (own_none HO3.out hgrow)
            have HBW := Lib.hid (HBW.out.grown hgrow HZW.out (fun g h => by cases h))
            have HZW := Lib.hid (Nat.le_trans HZW.out hgrow.size)
            clear hg hown hgrow
            simp only [rd20, Act.put, List.setIfInBounds_toArray, List.set_cons_zero, List.set_cons_succ]
            refine hK.out _ _ (fun _ => (HBW.out.cell HLB.out).trans HCELL.out) (fun hHeld => ?_)
            replace hHeld := hHeld (by decide)
            clear hK K
            refine Tillst.one (i := 25) (o := rd25) (by kernel_rfl) rfl ?_
            intro K hK
            refine step_append_rowG (mk := Value.int .u8) (d := 0) rfl (.tmp 47) (.tmp 51) 24 rfl w1.heap.size 5 i0 (.int .u8 0) 1 Try.underlying24 hi hz0 hz1 hz2 rfl (fun _ => rfl) (.slice (some ⟨gb, 0, none⟩) 0 0) 0 [] rfl HEb.out (fun _ => True) (some ⟨b0, ow, none⟩) (vlenOf xs) cw (valOf xs) rfl (HRW.out _ (HSRC.out.below HBW.out)) (fun h => by cases h) (by unfold maxLen; omega) (by omega) HZW.out ?_
            intro v25 vz hown hgrow hblk
            rw [List.nil_append, Nat.zero_add] at hown
            have hO3 := HO3.out.kept hgrow (.inr (fun h => HVN.out (by simpa [Value.ownBlock] using h)))
            obtain ⟨A5, c5, rfl, hc1, hn1, hr1⟩ := rowG_own 0 hO3
            obtain ⟨A6, c6, rfl, hc2, hn2, hr2⟩ := rowG_own 0 hown
            have HR1 := Lib.hid hr1
            have HR2 := Lib.hid hr2
            have HBW := Lib.hid (HBW.out.grown hgrow HZW.out (fun g h => by (have h' : gb = g := (by simpa [Value.ownBlock] using h)); have := HGb.out.1; omega))
            clear hown hgrow hblk hO3 hc1 hn1 hr1 hc2 hn2 hr2
            simp only [rd25, Act.put, List.setIfInBounds_toArray, List.set_cons_zero, List.set_cons_succ]
            refine hK.out _ _ (fun _ => (HBW.out.cell HLB.out).trans HCELL.out) (fun hHeld => ?_)
            replace hHeld := hHeld (by decide)
            clear hK K
            refine Tillst.take (i := 26) (oi := rd26) (v := ?_) rfl (by kernel_rfl) (by kernel_rfl) (by kernel_rfl) (by kernel_rfl) (fun _ _ _ h => h) (by rfl) ?_ hHeld ?_
            rotate_left
            · intro W hSW; (try dsimp only at hSW); unfold rd26; go_simp; with_reducible rfl
            simp only [rd26, Act.put, List.setIfInBounds_toArray, List.set_cons_zero, List.set_cons_succ]
            refine Tillst.one (i := 28) (o := rd28) (by kernel_rfl) rfl ?_
            intro K hK
            have HZ := Lib.hid (HRES.out.below HBW.out HRES.out.lt)
            refine step_store_row (.tmp 2) (.tmp 53) 26 rfl rfl w.heap.size (recC (kindOf xs) (flagsOf xs) (expOf xs) (seqOf xs) A5 (klenOf xs) c5 A6 (vlenOf xs) c6) rfl rfl 26 _ HZ.out size_rec rfl (one_rec _ _ _ _ _ _ _ _ _ _) ?_
            simp only [rd28, Act.put, List.setIfInBounds_toArray, List.set_cons_zero, List.set_cons_succ]
            refine hK.out _ _ (fun _ => (World.cell?_of_block (setRow_other _ _ _ _ (Nat.ne_of_lt HLW.out))).trans ((HBW.out.cell HLB.out).trans HCELL.out)) (fun hHeld => ?_)
            replace hHeld := hHeld (by decide)
            clear hK K
            refine Tillst.take (i := 29) (oi := rd29) (v := ?_) rfl (by kernel_rfl) (by kernel_rfl) (by kernel_rfl) (by kernel_rfl) (fun _ _ _ h => h) (by rfl) ?_ hHeld ?_
            rotate_left
            · intro W hSW; (try dsimp only at hSW); unfold rd29; go_simp; with_reducible rfl
            simp only [rd29, Act.put, List.setIfInBounds_toArray, List.set_cons_zero, List.set_cons_succ]
            refine Tillst.take (i := 30) (oi := rd30) (v := ?_) rfl (by kernel_rfl) (by kernel_rfl) (by kernel_rfl) (by kernel_rfl) (fun _ _ _ h => h) (by rfl) ?_ hHeld ?_
            rotate_left
            · intro W hSW; (try dsimp only at hSW); unfold rd30; go_simp; with_reducible rfl
            simp only [rd30, Act.put, List.setIfInBounds_toArray, List.set_cons_zero, List.set_cons_succ]
            refine Tillst.done (by kernel_rfl) ?_ _
            refine NoPanic.normal ?_
            clear hHeld
            go_wp2_with (with_reducible refine halt_end ?_)
            have hst := setRow_heap _ _ _ (recC (kindOf xs) (flagsOf xs) (expOf xs) (seqOf xs) A5 (klenOf xs) c5 A6 (vlenOf xs) c6) _ _ HZ.out
            exact Halt.ret (results_row3 (p := 2) (u := 3) (v := 4) rfl _ _ w.heap.size 26 (recC (kindOf xs) (flagsOf xs) (expOf xs) (seqOf xs) A5 (klenOf xs) c5 A6 (vlenOf xs) c6) _ rfl hst Try.underlying26 rfl size_rec) rfl (rdec_fin xs w w1 vz A5 A6 c5 c6 nd HNN.out HR1.out HR2.out HLW1.out (HB1.out.trans (HBW.out.mono HB1.out.size)))
          · intro K hK
            refine step_empty rfl rfl w1.heap.size HZW.out ?_
            intro gb v_4 hg hown hgrow
            have HEb := Lib.hid hown
            have HGb := Lib.hid hg.1
            have HNE := Lib.hid (show ga ≠ gb by have h := HGa.out.2; have := hg.2; omega)
            have HEa := Lib.hid (own_none HEa.out hgrow)
            have HGa := Lib.hid (show w1.heap.size ≤ ga ∧ ga < v_4.heap.size from ⟨HGa.out.1, Nat.lt_of_lt_of_le HGa.out.2 hgrow.size⟩)
            have HBW := Lib.hid (HBW.out.grown hgrow HZW.out (fun g h => by cases h))
            have HZW := Lib.hid (Nat.le_trans HZW.out hgrow.size)
            clear hg hown hgrow
            simp only [rd20, Act.put, List.setIfInBounds_toArray, List.set_cons_zero, List.set_cons_succ]
            refine hK.out _ _ (fun _ => (HBW.out.cell HLB.out).trans HCELL.out) (fun hHeld => ?_)
            replace hHeld := hHeld (by decide)
            clear hK K
            refine Tillst.one (i := 19) (o := rd19) (by kernel_rfl) rfl ?_
            intro K hK
            refine step_append_rowG (mk := Value.int .u8) (d := 0) rfl (.tmp 42) (.tmp 45) 24 rfl w1.heap.size 5 i0 (.int .u8 0) 1 Try.underlying24 hi hz0 hz1 hz2 rfl (fun _ => rfl) (.slice (some ⟨ga, 0, none⟩) 0 0) 0 [] rfl HEa.out (fun _ => True) (some ⟨b0, o0 + 21, none⟩) (klenOf xs) (c - 21) (keyOf xs) rfl ((HSRC.out.below HBW.out).part 21 (klenOf xs) HKN.out) (fun h => by cases h) (by unfold maxLen; omega) (by omega) HZW.out ?_
            intro v19 v_5 hown hgrow hblk
            rw [List.nil_append, Nat.zero_add] at hown
            have HO3 := Lib.hid hown
            have HVN := Lib.hid (show v19.ownBlock ≠ some gb from fun h => by rcases hblk with h2 | h2 <;> rw [h] at h2 <;> simp [Value.ownBlock] at h2; exact HNE.out h2.symm; have := HGb.out.2; omega)
            have HEb := Lib.hid (HEb.out.kept hgrow (.inr (fun h => HNE.out (by simpa [Value.ownBlock] using h.symm))))
            have HGb := Lib.hid (show w1.heap.size ≤ gb ∧ gb < v_5.heap.size from ⟨HGb.out.1, Nat.lt_of_lt_of_le HGb.out.2 hgrow.size⟩)
            have HBW := Lib.hid (HBW.out.grown hgrow HZW.out (fun g h => by (have h' : ga = g := (by simpa [Value.ownBlock] using h)); have := HGa.out.1; omega))
            have HZW := Lib.hid (Nat.le_trans HZW.out hgrow.size)
            clear hown hgrow hblk
            simp only [rd19, Act.put, List.setIfInBounds_toArray, List.set_cons_zero, List.set_cons_succ]
            refine hK.out _ _ (fun _ => (HBW.out.cell HLB.out).trans HCELL.out) (fun hHeld => ?_)
            replace hHeld := hHeld (by decide)
            clear hK K
            refine Tillst.one (i := 25) (o := rd25) (by kernel_rfl) rfl ?_
            intro K hK
            refine step_append_rowG (mk := Value.int .u8) (d := 0) rfl (.tmp 47) (.tmp 51) 24 rfl w1.heap.size 5 i0 (.int .u8 0) 1 Try.underlying24 hi hz0 hz1 hz2 rfl (fun _ => rfl) (.slice (some ⟨gb, 0, none⟩) 0 0) 0 [] rfl HEb.out (fun _ => True) (some ⟨b0, ow, none⟩) (vlenOf xs) cw (valOf xs) rfl (HRW.out _ (HSRC.out.below HBW.out)) (fun h => by cases h) (by unfold maxLen; omega) (by omega) HZW.out ?_
            intro v25 vz hown hgrow hblk
            rw [List.nil_append, Nat.zero_add] at hown
            have hO3 := HO3.out.kept hgrow (.inr (fun h => HVN.out (by simpa [Value.ownBlock] using h)))
            obtain ⟨A5, c5, rfl, hc1, hn1, hr1⟩ := rowG_own 0 hO3
            obtain ⟨A6, c6, rfl, hc2, hn2, hr2⟩ := rowG_own 0 hown
            have HR1 := Lib.hid hr1
            have HR2 := Lib.hid hr2
            have HBW := Lib.hid (HBW.out.grown hgrow HZW.out (fun g h => by (have h' : gb = g := (by simpa [Value.ownBlock] using h)); have := HGb.out.1; omega))
            clear hown hgrow hblk hO3 hc1 hn1 hr1 hc2 hn2 hr2
            simp only [rd25, Act.put, List.setIfInBounds_toArray, List.set_cons_zero, List.set_cons_succ]
            refine hK.out _ _ (fun _ => (HBW.out.cell HLB.out).trans HCELL.out) (fun hHeld => ?_)
            replace hHeld := hHeld (by decide)
            clear hK K
            refine Tillst.take (i := 26) (oi := rd26) (v := ?_) rfl (by kernel_rfl) (by kernel_rfl) (by kernel_rfl) (by kernel_rfl) (fun _ _ _ h => h) (by rfl) ?_ hHeld ?_
            rotate_left
            · intro W hSW; (try dsimp only at hSW); unfold rd26; go_simp; with_reducible rfl
            simp only [rd26, Act.put, List.setIfInBounds_toArray, List.set_cons_zero, List.set_cons_succ]
            refine Tillst.one (i := 28) (o := rd28) (by kernel_rfl) rfl ?_
            intro K hK
            have HZ := Lib.hid (HRES.out.below HBW.out HRES.out.lt)
            refine step_store_row (.tmp 2) (.tmp 53) 26 rfl rfl w.heap.size (recC (kindOf xs) (flagsOf xs) (expOf xs) (seqOf xs) A5 (klenOf xs) c5 A6 (vlenOf xs) c6) rfl rfl 26 _ HZ.out size_rec rfl (one_rec _ _ _ _ _ _ _ _ _ _) ?_
            simp only [rd28, Act.put, List.setIfInBounds_toArray, List.set_cons_zero, List.set_cons_succ]
            refine hK.out _ _ (fun _ => (World.cell?_of_block (setRow_other _ _ _ _ (Nat.ne_of_lt HLW.out))).trans ((HBW.out.cell HLB.out).trans HCELL.out)) (fun hHeld => ?_)
            replace hHeld := hHeld (by decide)
            clear hK K
            refine Tillst.take (i := 29) (oi := rd29) (v := ?_) rfl (by kernel_rfl) (by kernel_rfl) (by kernel_rfl) (by kernel_rfl) (fun _ _ _ h => h) (by rfl) ?_ hHeld ?_
            rotate_left
            · intro W hSW; (try dsimp only at hSW); unfold rd29; go_simp; with_reducible rfl
            simp only [rd29, Act.put, List.setIfInBounds_toArray, List.set_cons_zero, List.set_cons_succ]
            refine Tillst.take (i := 30) (oi := rd30) (v := ?_) rfl (by kernel_rfl) (by kernel_rfl) (by kernel_rfl) (by kernel_rfl) (fun _ _ _ h => h) (by rfl) ?_ hHeld ?_
            rotate_left
            · intro W hSW; (try dsimp only at hSW); unfold rd30; go_simp; with_reducible rfl
            simp only [rd30, Act.put, List.setIfInBounds_toArray, List.set_cons_zero, List.set_cons_succ]
            refine Tillst.done (by kernel_rfl) ?_ _
            refine NoPanic.normal ?_
            clear hHeld
            go_wp2_with (with_reducible refine halt_end ?_)
            have hst := setRow_heap _ _ _ (recC (kindOf xs) (flagsOf xs) (expOf xs) (seqOf xs) A5 (klenOf xs) c5 A6 (vlenOf xs) c6) _ _ HZ.out
            exact Halt.ret (results_row3 (p := 2) (u := 3) (v := 4) rfl _ _ w.heap.size 26 (recC (kindOf xs) (flagsOf xs) (expOf xs) (seqOf xs) A5 (klenOf xs) c5 A6 (vlenOf xs) c6) _ rfl hst Try.underlying26 rfl size_rec) rfl (rdec_fin xs w w1 vz A5 A6 c5 c6 nd HNN.out HR1.out HR2.out HLW1.out (HB1.out.trans (HBW.out.mono HB1.out.size)))
        · intro K hK
          refine step_empty rfl rfl w1.heap.size HZW.out ?_
          intro gb v_3 hg hown hgrow
          have HEb := Lib.hid hown
          have HGb := Lib.hid hg.1
          have HNE := Lib.hid (show ga ≠ gb by have h := HGa.out.2; have := hg.2; omega)
          have HEa := Lib.hid (own_none HEa.out hgrow)
          have HGa := Lib.hid (show w1.heap.size ≤ ga ∧ ga < v_3.heap.size from ⟨HGa.out.1, Nat.lt_of_lt_of_le HGa.out.2 hgrow.size⟩)
          have HBW := Lib.hid (HBW.out.grown hgrow HZW.out (fun g h => by cases h))
          have HZW := Lib.hid (Nat.le_trans HZW.out hgrow.size)
          clear hg hown hgrow
          simp only [rd20, Act.put, List.setIfInBounds_toArray, List.set_cons_zero, List.set_cons_succ]
          refine hK.out _ _ (fun _ => (HBW.out.cell HLB.out).trans HCELL.out) (fun hHeld => ?_)
          replace hHeld := hHeld (by decide)
          clear hK K
          refine Tillst.one (i := 14) (o := rd14) (by kernel_rfl) rfl ?_
          intro K hK
          refine step_call 34 #[.tmp 40] #[24] rfl rfl Try.func34 rfl rfl [.slice (some ⟨b0, o0 + 9, none⟩) 8 (c - 9)] rfl ?_
          refine (rnum_any _ 8 _ _ (fun _ => True) _ ((HSRC.out.below HBW.out).part 9 8 (by omega)) (bytes_part HBY.out 9 8) (by omega)).mono ?_
          rintro e w' ⟨rfl, rfl⟩
          rw [HNS.out]
          refine ⟨_, rfl, ?_⟩
          simp only [rd14, Act.put, List.setIfInBounds_toArray, List.set_cons_zero, List.set_cons_succ]
          refine hK.out _ _ (fun _ => (HBW.out.cell HLB.out).trans HCELL.out) (fun hHeld => ?_)
          replace hHeld := hHeld (by decide)
          clear hK K
          refine Tillst.one (i := 19) (o := rd19) (by kernel_rfl) rfl ?_
          intro K hK
          refine step_append_rowG (mk := Value.int .u8) (d := 0) rfl (.tmp 42) (.tmp 45) 24 rfl w1.heap.size 5 i0 (.int .u8 0) 1 Try.underlying24 hi hz0 hz1 hz2 rfl (fun _ => rfl) (.slice (some ⟨ga, 0, none⟩) 0 0) 0 [] rfl HEa.out (fun _ => True) (some ⟨b0, o0 + 21, none⟩) (klenOf xs) (c - 21) (keyOf xs) rfl ((HSRC.out.below HBW.out).part 21 (klenOf xs) HKN.out) (fun h => by cases h) (by unfold maxLen; omega) (by omega) HZW.out ?_
          intro v19 v_5 hown hgrow hblk
          rw [List.nil_append, Nat.zero_add] at hown
          have HO3 := Lib.hid hown
          have HVN := Lib.hid (show v19.ownBlock ≠ some gb from fun h => by rcases hblk with h2 | h2 <;> rw [h] at h2 <;> simp [Value.ownBlock] at h2; exact HNE.out h2.symm; have := HGb.out.2; omega)
          have HEb := Lib.hid (HEb.out.kept hgrow (.inr (fun h => HNE.out (by simpa [Value.ownBlock] using h.symm))))
          have HGb := Lib.hid (show w1.heap.size ≤ gb ∧ gb < v_5.heap.size from ⟨HGb.out.1, Nat.lt_of_lt_of_le HGb.out.2 hgrow.size⟩)
          have HBW := Lib.hid (HBW.out.grown hgrow HZW.out (fun g h => by (have h' : ga = g := (by simpa [Value.ownBlock] using h)); have := HGa.out.1; omega))
          have HZW := Lib.hid (Nat.le_trans HZW.out hgrow.size)
          clear hown hgrow hblk
          simp only [rd19, Act.put, List.setIfInBounds_toArray, List.set_cons_zero, List.set_cons_succ]
          refine hK.out _ _ (fun _ => (HBW.out.cell HLB.out).trans HCELL.out) (fun hHeld => ?_)
          replace hHeld := hHeld (by decide)
          clear hK K
          refine Tillst.one (i := 25) (o := rd25) (by kernel_rfl) rfl ?_
          intro K hK
          refine step_append_rowG (mk := Value.int .u8) (d := 0) rfl (.tmp 47) (.tmp 51) 24 rfl w1.heap.size 5 i0 (.int .u8 0) 1 Try.underlying24 hi hz0 hz1 hz2 rfl (fun _ => rfl) (.slice (some ⟨gb, 0, none⟩) 0 0) 0 [] rfl HEb.out (fun _ => True) (some ⟨b0, ow, none⟩) (vlenOf xs) cw (valOf xs) rfl (HRW.out _ (HSRC.out.below HBW.out)) (fun h => by cases h) (by unfold maxLen; omega) (by omega) HZW.out ?_
          intro v25 vz hown hgrow hblk
          rw [List.nil_append, Nat.zero_add] at hown
          have hO3 := HO3.out.kept hgrow (.inr (fun h => HVN.out (by simpa [Value.ownBlock] using h)))
          obtain ⟨A5, c5, rfl, hc1, hn1, hr1⟩ := rowG_own 0 hO3
          obtain ⟨A6, c6, rfl, hc2, hn2, hr2⟩ := rowG_own 0 hown
          have HR1 := Lib.hid hr1
          have HR2 := Lib.hid hr2
          have HBW := Lib.hid (HBW.out.grown hgrow HZW.out (fun g h => by (have h' : gb = g := (by simpa [Value.ownBlock] using h)); have := HGb.out.1; omega))
          clear hown hgrow hblk hO3 hc1 hn1 hr1 hc2 hn2 hr2
          simp only [rd25, Act.put, List.setIfInBounds_toArray, List.set_cons_zero, List.set_cons_succ]
          refine hK.out _ _ (fun _ => (HBW.out.cell HLB.out).trans HCELL.out) (fun hHeld => ?_)
          replace hHeld := hHeld (by decide)
          clear hK K
          refine Tillst.take (i := 26) (oi := rd26) (v := ?_) rfl (by kernel_rfl) (by kernel_rfl) (by kernel_rfl) (by kernel_rfl) (fun _ _ _ h => h) (by rfl) ?_ hHeld ?_
          rotate_left
          · intro W hSW; (try dsimp only at hSW); unfold rd26; go_simp; with_reducible rfl
          simp only [rd26, Act.put, List.setIfInBounds_toArray, List.set_cons_zero, List.set_cons_succ]
          refine Tillst.one (i := 28) (o := rd28) (by kernel_rfl) rfl ?_
          intro K hK
          have HZ := Lib.hid (HRES.out.below HBW.out HRES.out.lt)
          refine step_store_row (.tmp 2) (.tmp 53) 26 rfl rfl w.heap.size (recC (kindOf xs) (flagsOf xs) (expOf xs) (seqOf xs) A5 (klenOf xs) c5 A6 (vlenOf xs) c6) rfl rfl 26 _ HZ.out size_rec rfl (one_rec _ _ _ _ _ _ _ _ _ _) ?_
          simp only [rd28, Act.put, List.setIfInBounds_toArray, List.set_cons_zero, List.set_cons_succ]
          refine hK.out _ _ (fun _ => (World.cell?_of_block (setRow_other _ _ _ _ (Nat.ne_of_lt HLW.out))).trans ((HBW.out.cell HLB.out).trans HCELL.out)) (fun hHeld => ?_)
          replace hHeld := hHeld (by decide)
          clear hK K
          refine Tillst.take (i := 29) (oi := rd29) (v := ?_) rfl (by kernel_rfl) (by kernel_rfl) (by kernel_rfl) (by kernel_rfl) (fun _ _ _ h => h) (by rfl) ?_ hHeld ?_
          rotate_left
          · intro W hSW; (try dsimp only at hSW); unfold rd29; go_simp; with_reducible rfl
          simp only [rd29, Act.put, List.setIfInBounds_toArray, List.set_cons_zero, List.set_cons_succ]
          refine Tillst.take (i := 30) (oi := rd30) (v := ?_) rfl (by kernel_rfl) (by kernel_rfl) (by kernel_rfl) (by kernel_rfl) (fun _ _ _ h => h) (by rfl) ?_ hHeld ?_
          rotate_left
          · intro W hSW; (try dsimp only at hSW); unfold rd30; go_simp; with_reducible rfl
          simp only [rd30, Act.put, List.setIfInBounds_toArray, List.set_cons_zero, List.set_cons_succ]
          refine Tillst.done (by kernel_rfl) ?_ _
          refine NoPanic.normal ?_
          clear hHeld
          go_wp2_with (with_reducible refine halt_end ?_)
          have hst := setRow_heap _ _ _ (recC (kindOf xs) (flagsOf xs) (expOf xs) (seqOf xs) A5 (klenOf xs) c5 A6 (vlenOf xs) c6) _ _ HZ.out
          exact Halt.ret (results_row3 (p := 2) (u := 3) (v := 4) rfl _ _ w.heap.size 26 (recC (kindOf xs) (flagsOf xs) (expOf xs) (seqOf xs) A5 (klenOf xs) c5 A6 (vlenOf xs) c6) _ rfl hst Try.underlying26 rfl size_rec) rfl (rdec_fin xs w w1 vz A5 A6 c5 c6 nd HNN.out HR1.out HR2.out HLW1.out (HB1.out.trans (HBW.out.mono HB1.out.size)))
      · intro K hK
        refine step_empty rfl rfl w1.heap.size HZW.out ?_
        intro gb v_2 hg hown hgrow
        have HEb := Lib.hid hown
        have HGb := Lib.hid hg.1
        have HNE := Lib.hid (show ga ≠ gb by have h := HGa.out.2; have := hg.2; omega)
        have HEa := Lib.hid (own_none HEa.out hgrow)
        have HGa := Lib.hid (show w1.heap.size ≤ ga ∧ ga < v_2.heap.size from ⟨HGa.out.1, Nat.lt_of_lt_of_le HGa.out.2 hgrow.size⟩)
        have HBW := Lib.hid (HBW.out.grown hgrow HZW.out (fun g h => by cases h))
        have HZW := Lib.hid (Nat.le_trans HZW.out hgrow.size)
        clear hg hown hgrow
        simp only [rd20, Act.put, List.setIfInBounds_toArray, List.set_cons_zero, List.set_cons_succ]
        refine hK.out _ _ (fun _ => (HBW.out.cell HLB.out).trans HCELL.out) (fun hHeld => ?_)
        replace hHeld := hHeld (by decide)
        clear hK K
        refine Tillst.one (i := 10) (o := rd10) (by kernel_rfl) rfl ?_
        intro K hK
        refine step_call 34 #[.tmp 36] #[24] rfl rfl Try.func34 rfl rfl [.slice (some ⟨b0, o0 + 5, none⟩) 4 (c - 5)] rfl ?_
        refine (rnum_any _ 4 _ _ (fun _ => True) _ ((HSRC.out.below HBW.out).part 5 4 (by omega)) (bytes_part HBY.out 5 4) (by omega)).mono ?_
        rintro e w' ⟨rfl, rfl⟩
        rw [HNX.out]
        refine ⟨_, rfl, ?_⟩
        simp only [rd10, Act.put, List.setIfInBounds_toArray, List.set_cons_zero, List.set_cons_succ]
        refine hK.out _ _ (fun _ => (HBW.out.cell HLB.out).trans HCELL.out) (fun hHeld => ?_)
        replace hHeld := hHeld (by decide)
        clear hK K
        refine Tillst.take (i := 11) (oi := rd11) (v := ?_) rfl (by kernel_rfl) (by kernel_rfl) (by kernel_rfl) (by kernel_rfl) (fun _ _ _ h => h) (by rfl) ?_ hHeld ?_
        rotate_left
        · intro W hSW; (try dsimp only at hSW); unfold rd11; go_simp; with_reducible rfl
        simp only [rd11, Act.put, List.setIfInBounds_toArray, List.set_cons_zero, List.set_cons_succ]
        refine Tillst.one (i := 14) (o := rd14) (by kernel_rfl) rfl ?_
        intro K hK
        refine step_call 34 #[.tmp 40] #[24] rfl rfl Try.func34 rfl rfl [.slice (some ⟨b0, o0 + 9, none⟩) 8 (c - 9)] rfl ?_
        refine (rnum_any _ 8 _ _ (fun _ => True) _ ((HSRC.out.below HBW.out).part 9 8 (by omega)) (bytes_part HBY.out 9 8) (by omega)).mono ?_
        rintro e w' ⟨rfl, rfl⟩
        rw [HNS.out]
        refine ⟨_, rfl, ?_⟩
        simp only [rd14, Act.put, List.setIfInBounds_toArray, List.set_cons_zero, List.set_cons_succ]
        refine hK.out _ _ (fun _ => (HBW.out.cell HLB.out).trans HCELL.out) (fun hHeld => ?_)
        replace hHeld := hHeld (by decide)
        clear hK K
        refine Tillst.one (i := 19) (o := rd19) (by kernel_rfl) rfl ?_
        intro K hK
        refine step_append_rowG (mk := Value.int .u8) (d := 0) rfl (.tmp 42) (.tmp 45) 24 rfl w1.heap.size 5 i0 (.int .u8 0) 1 Try.underlying24 hi hz0 hz1 hz2 rfl (fun _ => rfl) (.slice (some ⟨ga, 0, none⟩) 0 0) 0 [] rfl HEa.out (fun _ => True) (some ⟨b0, o0 + 21, none⟩) (klenOf xs) (c - 21) (keyOf xs) rfl ((HSRC.out.below HBW.out).part 21 (klenOf xs) HKN.out) (fun h => by cases h) (by unfold maxLen; omega) (by omega) HZW.out ?_
        intro v19 v_5 hown hgrow hblk
        rw [List.nil_append, Nat.zero_add] at hown
        have HO3 := Lib.hid hown
        have HVN := Lib.hid (show v19.ownBlock ≠ some gb from fun h => by rcases hblk with h2 | h2 <;> rw [h] at h2 <;> simp [Value.ownBlock] at h2; exact HNE.out h2.symm; have := HGb.out.2; omega)
        have HEb := Lib.hid (HEb.out.kept hgrow (.inr (fun h => HNE.out (by simpa [Value.ownBlock] using h.symm))))
        have HGb := Lib.hid (show w1.heap.size ≤ gb ∧ gb < v_5.heap.size from ⟨HGb.out.1, Nat.lt_of_lt_of_le HGb.out.2 hgrow.size⟩)
        have HBW := Lib.hid (HBW.out.grown hgrow HZW.out (fun g h => by (have h' : ga = g := (by simpa [Value.ownBlock] using h)); have := HGa.out.1; omega))
        have HZW := Lib.hid (Nat.le_trans HZW.out hgrow.size)
        clear hown hgrow hblk
        simp only [rd19, Act.put, List.setIfInBounds_toArray, List.set_cons_zero, List.set_cons_succ]
        refine hK.out _ _ (fun _ => (HBW.out.cell HLB.out).trans HCELL.out) (fun hHeld => ?_)
        replace hHeld := hHeld (by decide)
        clear hK K
        refine Tillst.one (i := 25) (o := rd25) (by kernel_rfl) rfl ?_
        intro K hK
        refine step_append_rowG (mk := Value.int .u8) (d := 0) rfl (.tmp 47) (.tmp 51) 24 rfl w1.heap.size 5 i0 (.int .u8 0) 1 Try.underlying24 hi hz0 hz1 hz2 rfl (fun _ => rfl) (.slice (some ⟨gb, 0, none⟩) 0 0) 0 [] rfl HEb.out (fun _ => True) (some ⟨b0, ow, none⟩) (vlenOf xs) cw (valOf xs) rfl (HRW.out _ (HSRC.out.below HBW.out)) (fun h => by cases h) (by unfold maxLen; omega) (by omega) HZW.out ?_
        intro v25 vz hown hgrow hblk
        rw [List.nil_append, Nat.zero_add] at hown
        have hO3 := HO3.out.kept hgrow (.inr (fun h => HVN.out (by simpa [Value.ownBlock] using h)))
        obtain ⟨A5, c5, rfl, hc1, hn1, hr1⟩ := rowG_own 0 hO3
        obtain ⟨A6, c6, rfl, hc2, hn2, hr2⟩ := rowG_own 0 hown
        have HR1 := Lib.hid hr1
        have HR2 := Lib.hid hr2
        have HBW := Lib.hid (HBW.out.grown hgrow HZW.out (fun g h => by (have h' : gb = g := (by simpa [Value.ownBlock] using h)); have := HGb.out.1; omega))
        clear hown hgrow hblk hO3 hc1 hn1 hr1 hc2 hn2 hr2
        simp only [rd25, Act.put, List.setIfInBounds_toArray, List.set_cons_zero, List.set_cons_succ]
        refine hK.out _ _ (fun _ => (HBW.out.cell HLB.out).trans HCELL.out) (fun hHeld => ?_)
        replace hHeld := hHeld (by decide)
        clear hK K
        refine Tillst.take (i := 26) (oi := rd26) (v := ?_) rfl (by kernel_rfl) (by kernel_rfl) (by kernel_rfl) (by kernel_rfl) (fun _ _ _ h => h) (by rfl) ?_ hHeld ?_
        rotate_left
        · intro W hSW; (try dsimp only at hSW); unfold rd26; go_simp; with_reducible rfl
        simp only [rd26, Act.put, List.setIfInBounds_toArray, List.set_cons_zero, List.set_cons_succ]
        refine Tillst.one (i := 28) (o := rd28) (by kernel_rfl) rfl ?_
        intro K hK
        have HZ := Lib.hid (HRES.out.below HBW.out HRES.out.lt)
        refine step_store_row (.tmp 2) (.tmp 53) 26 rfl rfl w.heap.size (recC (kindOf xs) (flagsOf xs) (expOf xs) (seqOf xs) A5 (klenOf xs) c5 A6 (vlenOf xs) c6) rfl rfl 26 _ HZ.out size_rec rfl (one_rec _ _ _ _ _ _ _ _ _ _) ?_
        simp only [rd28, Act.put, List.setIfInBounds_toArray, List.set_cons_zero, List.set_cons_succ]
        refine hK.out _ _ (fun _ => (World.cell?_of_block (setRow_other _ _ _ _ (Nat.ne_of_lt HLW.out))).trans ((HBW.out.cell HLB.out).trans HCELL.out)) (fun hHeld => ?_)
        replace hHeld := hHeld (by decide)
        clear hK K
        refine Tillst.take (i := 29) (oi := rd29) (v := ?_) rfl (by kernel_rfl) (by kernel_rfl) (by kernel_rfl) (by kernel_rfl) (fun _ _ _ h => h) (by rfl) ?_ hHeld ?_
        rotate_left
        · intro W hSW; (try dsimp only at hSW); unfold rd29; go_simp; with_reducible rfl
        simp only [rd29, Act.put, List.setIfInBounds_toArray, List.set_cons_zero, List.set_cons_succ]
        refine Tillst.take (i := 30) (oi := rd30) (v := ?_) rfl (by kernel_rfl) (by kernel_rfl) (by kernel_rfl) (by kernel_rfl) (fun _ _ _ h => h) (by rfl) ?_ hHeld ?_
        rotate_left
        · intro W hSW; (try dsimp only at hSW); unfold rd30; go_simp; with_reducible rfl
        simp only [rd30, Act.put, List.setIfInBounds_toArray, List.set_cons_zero, List.set_cons_succ]
        refine Tillst.done (by kernel_rfl) ?_ _
        refine NoPanic.normal ?_
        clear hHeld
        go_wp2_with (with_reducible refine halt_end ?_)
        have hst := setRow_heap _ _ _ (recC (kindOf xs) (flagsOf xs) (expOf xs) (seqOf xs) A5 (klenOf xs) c5 A6 (vlenOf xs) c6) _ _ HZ.out
        exact Halt.ret (results_row3 (p := 2) (u := 3) (v := 4) rfl _ _ w.heap.size 26 (recC (kindOf xs) (flagsOf xs) (expOf xs) (seqOf xs) A5 (klenOf xs) c5 A6 (vlenOf xs) c6) _ rfl hst Try.underlying26 rfl size_rec) rfl (rdec_fin xs w w1 vz A5 A6 c5 c6 nd HNN.out HR1.out HR2.out HLW1.out (HB1.out.trans (HBW.out.mono HB1.out.size)))
    · intro K hK
      refine step_empty rfl rfl w1.heap.size HZW.out ?_
      intro gb v_1 hg hown hgrow
      have HEb := Lib.hid hown
      have HGb := Lib.hid hg.1
      have HBW := Lib.hid (HBW.out.grown hgrow HZW.out (fun g h => by cases h))
      have HZW := Lib.hid (Nat.le_trans HZW.out hgrow.size)
      clear hg hown hgrow
      simp only [rd20, Act.put, List.setIfInBounds_toArray, List.set_cons_zero, List.set_cons_succ]
      refine hK.out _ _ (fun _ => (HBW.out.cell HLB.out).trans HCELL.out) (fun hHeld => ?_)
      replace hHeld := hHeld (by decide)
      clear hK K
      refine Tillst.two (i := 10) (j := 15) (o := rd10) (o' := rd15) (by kernel_rfl) rfl rfl ?_ ?_
      · intro K hK
        refine step_call 34 #[.tmp 36] #[24] rfl rfl Try.func34 rfl rfl [.slice (some ⟨b0, o0 + 5, none⟩) 4 (c - 5)] rfl ?_
        refine (rnum_any _ 4 _ _ (fun _ => True) _ ((HSRC.out.below HBW.out).part 5 4 (by omega)) (bytes_part HBY.out 5 4) (by omega)).mono ?_
        rintro e w' ⟨rfl, rfl⟩
        rw [HNX.out]
        refine ⟨_, rfl, ?_⟩
        simp only [rd10, Act.put, List.setIfInBounds_toArray, List.set_cons_zero, List.set_cons_succ]
        refine hK.out _ _ (fun _ => (HBW.out.cell HLB.out).trans HCELL.out) (fun hHeld => ?_)
        replace hHeld := hHeld (by decide)
        clear hK K
        refine Tillst.take (i := 11) (oi := rd11) (v := ?_) rfl (by kernel_rfl) (by kernel_rfl) (by kernel_rfl) (by kernel_rfl) (fun _ _ _ h => h) (by rfl) ?_ hHeld ?_
        rotate_left
        · intro W hSW; (try dsimp only at hSW); unfold rd11; go_simp; with_reducible rfl
        simp only [rd11, Act.put, List.setIfInBounds_toArray, List.set_cons_zero, List.set_cons_succ]
        refine Tillst.two (i := 14) (j := 15) (o := rd14) (o' := rd15) (by kernel_rfl) rfl rfl ?_ ?_
        · intro K hK
          refine step_call 34 #[.tmp 40] #[24] rfl rfl Try.func34 rfl rfl [.slice (some ⟨b0, o0 + 9, none⟩) 8 (c - 9)] rfl ?_
          refine (rnum_any _ 8 _ _ (fun _ => True) _ ((HSRC.out.below HBW.out).part 9 8 (by omega)) (bytes_part HBY.out 9 8) (by omega)).mono ?_
          rintro e w' ⟨rfl, rfl⟩
          rw [HNS.out]
          refine ⟨_, rfl, ?_⟩
          simp only [rd14, Act.put, List.setIfInBounds_toArray, List.set_cons_zero, List.set_cons_succ]
          refine hK.out _ _ (fun _ => (HBW.out.cell HLB.out).trans HCELL.out) (fun hHeld => ?_)
          replace hHeld := hHeld (by decide)
          clear hK K
          refine Tillst.one (i := 15) (o := rd15) (by kernel_rfl) rfl ?_
          intro K hK
          refine step_empty rfl rfl w1.heap.size HZW.out ?_
          intro ga v_4 hg hown hgrow
          have HEa := Lib.hid hown
          have HGa := Lib.hid hg.1
          have HNE := Lib.hid (show ga ≠ gb by have h := HGb.out.2; have := hg.2; omega)
          have HEb := Lib.hid (own_none HEb.out hgrow)
          have HGb := Lib.hid (show w1.heap.size ≤ gb ∧ gb < v_4.heap.size from ⟨HGb.out.1, Nat.lt_of_lt_of_le HGb.out.2 hgrow.size⟩)
          have HBW := Lib.hid (HBW.out.grown hgrow HZW.out (fun g h => by cases h))
          have HZW := Lib.hid (Nat.le_trans HZW.out hgrow.size)
          clear hg hown hgrow
          simp only [rd15, Act.put, List.setIfInBounds_toArray, List.set_cons_zero, List.set_cons_succ]
          refine hK.out _ _ (fun _ => (HBW.out.cell HLB.out).trans HCELL.out) (fun hHeld => ?_)
          replace hHeld := hHeld (by decide)
          clear hK K
          refine Tillst.one (i := 19) (o := rd19) (by kernel_rfl) rfl ?_
          intro K hK
          refine step_append_rowG (mk := Value.int .u8) (d := 0) rfl (.tmp 42) (.tmp 45) 24 rfl w1.heap.size 5 i0 (.int .u8 0) 1 Try.underlying24 hi hz0 hz1 hz2 rfl (fun _ => rfl) (.slice (some ⟨ga, 0, none⟩) 0 0) 0 [] rfl HEa.out (fun _ => True) (some ⟨b0, o0 + 21, none⟩) (klenOf xs) (c - 21) (keyOf xs) rfl ((HSRC.out.below HBW.out).part 21 (klenOf xs) HKN.out) (fun h => by cases h) (by unfold maxLen; omega) (by omega) HZW.out ?_
          intro v19 v_5 hown hgrow hblk
          rw [List.nil_append, Nat.zero_add] at hown
          have HO3 := Lib.hid hown
          have HVN := Lib.hid (show v19.ownBlock ≠ some gb from fun h => by rcases hblk with h2 | h2 <;> rw [h] at h2 <;> simp [Value.ownBlock] at h2; exact HNE.out h2.symm; have := HGb.out.2; omega)
          have HEb := Lib.hid (HEb.out.kept hgrow (.inr (fun h => HNE.out (by simpa [Value.ownBlock] using h.symm))))
          have HGb := Lib.hid (show w1.heap.size ≤ gb ∧ gb < v_5.heap.size from ⟨HGb.out.1, Nat.lt_of_lt_of_le HGb.out.2 hgrow.size⟩)
          have HBW := Lib.hid (HBW.out.grown hgrow HZW.out (fun g h => by (have h' : ga = g := (by simpa [Value.ownBlock] using h)); have := HGa.out.1; omega))
          have HZW := Lib.hid (Nat.le_trans HZW.out hgrow.size)
          clear hown hgrow hblk
          simp only [rd19, Act.put, List.setIfInBounds_toArray, List.set_cons_zero, List.set_cons_succ]
          refine hK.out _ _ (fun _ => (HBW.out.cell HLB.out).trans HCELL.out) (fun hHeld => ?_)
          replace hHeld := hHeld (by decide)
          clear hK K
          refine Tillst.one (i := 25) (o := rd25) (by kernel_rfl) rfl ?_
          intro K hK
          refine step_append_rowG (mk := Value.int .u8) (d := 0) rfl (.tmp 47) (.tmp 51) 24 rfl w1.heap.size 5 i0 (.int .u8 0) 1 Try.underlying24 hi hz0 hz1 hz2 rfl (fun _ => rfl) (.slice (some ⟨gb, 0, none⟩) 0 0) 0 [] rfl HEb.out (fun _ => True) (some ⟨b0, ow, none⟩) (vlenOf xs) cw (valOf xs) rfl (HRW.out _ (HSRC.out.below HBW.out)) (fun h => by cases h) (by unfold maxLen; omega) (by omega) HZW.out ?_
          intro v25 vz hown hgrow hblk
          rw [List.nil_append, Nat.zero_add] at hown
          have hO3 := HO3.out.kept hgrow (.inr (fun h => HVN.out (by simpa [Value.ownBlock] using h)))
          obtain ⟨A5, c5, rfl, hc1, hn1, hr1⟩ := rowG_own 0 hO3
          obtain ⟨A6, c6, rfl, hc2, hn2, hr2⟩ := rowG_own 0 hown
          have HR1 := Lib.hid hr1
          have HR2 := Lib.hid hr2
          have HBW := Lib.hid (HBW.out.grown hgrow HZW.out (fun g h => by (have h' : gb = g := (by simpa [Value.ownBlock] using h)); have := HGb.out.1; omega))
          clear hown hgrow hblk hO3 hc1 hn1 hr1 hc2 hn2 hr2
          simp only [rd25, Act.put, List.setIfInBounds_toArray, List.set_cons_zero, List.set_cons_succ]
          refine hK.out _ _ (fun _ => (HBW.out.cell HLB.out).trans HCELL.out) (fun hHeld => ?_)
          replace hHeld := hHeld (by decide)
          clear hK K
          refine Tillst.take (i := 26) (oi := rd26) (v := ?_) rfl (by kernel_rfl) (by kernel_rfl) (by kernel_rfl) (by kernel_rfl) (fun _ _ _ h => h) (by rfl) ?_ hHeld ?_
          rotate_left
          · intro W hSW; (try dsimp only at hSW); unfold rd26; go_simp; with_reducible rfl
          simp only [rd26, Act.put, List.setIfInBounds_toArray, List.set_cons_zero, List.set_cons_succ]
          refine Tillst.one (i := 28) (o := rd28) (by kernel_rfl) rfl ?_
          intro K hK
          have HZ := Lib.hid (HRES.out.below HBW.out HRES.out.lt)
          refine step_store_row (.tmp 2) (.tmp 53) 26 rfl rfl w.heap.size (recC (kindOf xs) (flagsOf xs) (expOf xs) (seqOf xs) A5 (klenOf xs) c5 A6 (vlenOf xs) c6) rfl rfl 26 _ HZ.out size_rec rfl (one_rec _ _ _ _ _ _ _ _ _ _) ?_
          simp only [rd28, Act.put, List.setIfInBounds_toArray, List.set_cons_zero, List.set_cons_succ]
          refine hK.out _ _ (fun _ => (World.cell?_of_block (setRow_other _ _ _ _ (Nat.ne_of_lt HLW.out))).trans ((HBW.out.cell HLB.out).trans HCELL.out)) (fun hHeld => ?_)
          replace hHeld := hHeld (by decide)
          clear hK K
          refine Tillst.take (i := 29) (oi := rd29) (v := ?_) rfl (by kernel_rfl) (by kernel_rfl) (by kernel_rfl) (by kernel_rfl) (fun _ _ _ h => h) (by rfl) ?_ hHeld ?_
          rotate_left
          · intro W hSW; (try dsimp only at hSW); unfold rd29; go_simp; with_reducible rfl
          simp only [rd29, Act.put, List.setIfInBounds_toArray, List.set_cons_zero, List.set_cons_succ]
          refine Tillst.take (i := 30) (oi := rd30) (v := ?_) rfl (by kernel_rfl) (by kernel_rfl) (by kernel_rfl) (by kernel_rfl) (fun _ _ _ h => h) (by rfl) ?_ hHeld ?_
          rotate_left
          · intro W hSW; (try dsimp only at hSW); unfold rd30; go_simp; with_reducible rfl
          simp only [rd30, Act.put, List.setIfInBounds_toArray, List.set_cons_zero, List.set_cons_succ]
          refine Tillst.done (by kernel_rfl) ?_ _
          refine NoPanic.normal ?_
          clear hHeld
          go_wp2_with (with_reducible refine halt_end ?_)
          have hst := setRow_heap _ _ _ (recC (kindOf xs) (flagsOf xs) (expOf xs) (seqOf xs) A5 (klenOf xs) c5 A6 (vlenOf xs) c6) _ _ HZ.out
          exact Halt.ret (results_row3 (p := 2) (u := 3) (v := 4) rfl _ _ w.heap.size 26 (recC (kindOf xs) (flagsOf xs) (expOf xs) (seqOf xs) A5 (klenOf xs) c5 A6 (vlenOf xs) c6) _ rfl hst Try.underlying26 rfl size_rec) rfl (rdec_fin xs w w1 vz A5 A6 c5 c6 nd HNN.out HR1.out HR2.out HLW1.out (HB1.out.trans (HBW.out.mono HB1.out.size)))
        · intro K hK
          refine step_empty rfl rfl w1.heap.size HZW.out ?_
          intro ga v_3 hg hown hgrow
          have HEa := Lib.hid hown
          have HGa := Lib.hid hg.1
          have HNE := Lib.hid (show ga ≠ gb by have h := HGb.out.2; have := hg.2; omega)
          have HEb := Lib.hid (own_none HEb.out hgrow)
          have HGb := Lib.hid (show w1.heap.size ≤ gb ∧ gb < v_3.heap.size from ⟨HGb.out.1, Nat.lt_of_lt_of_le HGb.out.2 hgrow.size⟩)
          have HBW := Lib.hid (HBW.out.grown hgrow HZW.out (fun g h => by cases h))
          have HZW := Lib.hid (Nat.le_trans HZW.out hgrow.size)
          clear hg hown hgrow
          simp only [rd15, Act.put, List.setIfInBounds_toArray, List.set_cons_zero, List.set_cons_succ]
          refine hK.out _ _ (fun _ => (HBW.out.cell HLB.out).trans HCELL.out) (fun hHeld => ?_)
          replace hHeld := hHeld (by decide)
          clear hK K
          refine Tillst.one (i := 14) (o := rd14) (by kernel_rfl) rfl ?_
          intro K hK
          refine step_call 34 #[.tmp 40] #[24] rfl rfl Try.func34 rfl rfl [.slice (some ⟨b0, o0 + 9, none⟩) 8 (c - 9)] rfl ?_
          refine (rnum_any _ 8 _ _ (fun _ => True) _ ((HSRC.out.below HBW.out).part 9 8 (by omega)) (bytes_part HBY.out 9 8) (by omega)).mono ?_
          rintro e w' ⟨rfl, rfl⟩
          rw [HNS.out]
          refine ⟨_, rfl, ?_⟩
          simp only [rd14, Act.put, List.setIfInBounds_toArray, List.set_cons_zero, List.set_cons_succ]
          refine hK.out _ _ (fun _ => (HBW.out.cell HLB.out).trans HCELL.out) (fun hHeld => ?_)
          replace hHeld := hHeld (by decide)
          clear hK K
          refine Tillst.one (i := 19) (o := rd19) (by kernel_rfl) rfl ?_
          intro K hK
          refine step_append_rowG (mk := Value.int .u8) (d := 0) rfl (.tmp 42) (.tmp 45) 24 rfl w1.heap.size 5 i0 (.int .u8 0) 1 Try.underlying24 hi hz0 hz1 hz2 rfl (fun _ => rfl) (.slice (some ⟨ga, 0, none⟩) 0 0) 0 [] rfl HEa.out (fun _ => True) (some ⟨b0, o0 + 21, none⟩) (klenOf xs) (c - 21) (keyOf xs) rfl ((HSRC.out.below HBW.out).part 21 (klenOf xs) HKN.out) (fun h => by cases h) (by unfold maxLen; omega) (by omega) HZW.out ?_
          intro v19 v_5 hown hgrow hblk
          rw [List.nil_append, Nat.zero_add] at hown
          have HO3 := Lib.hid hown
          have HVN := Lib.hid (show v19.ownBlock ≠ some gb from fun h => by rcases hblk with h2 | h2 <;> rw [h] at h2 <;> simp [Value.ownBlock] at h2; exact HNE.out h2.symm; have := HGb.out.2; omega)
          have HEb := Lib.hid (HEb.out.kept hgrow (.inr (fun h => HNE.out (by simpa [Value.ownBlock] using h.symm))))
          have HGb := Lib.hid (show w1.heap.size ≤ gb ∧ gb < v_5.heap.size from ⟨HGb.out.1, Nat.lt_of_lt_of_le HGb.out.2 hgrow.size⟩)
          have HBW := Lib.hid (HBW.out.grown hgrow HZW.out (fun g h => by (have h' : ga = g := (by simpa [Value.ownBlock] using h)); have := HGa.out.1; omega))
          have HZW := Lib.hid (Nat.le_trans HZW.out hgrow.size)
          clear hown hgrow hblk
          simp only [rd19, Act.put, List.setIfInBounds_toArray, List.set_cons_zero, List.set_cons_succ]
          refine hK.out _ _ (fun _ => (HBW.out.cell HLB.out).trans HCELL.out) (fun hHeld => ?_)
          replace hHeld := hHeld (by decide)
          clear hK K
          refine Tillst.one (i := 25) (o := rd25) (by kernel_rfl) rfl ?_
          intro K hK
          refine step_append_rowG (mk := Value.int .u8) (d := 0) rfl (.tmp 47) (.tmp 51) 24 rfl w1.heap.size 5 i0 (.int .u8 0) 1 Try.underlying24 hi hz0 hz1 hz2 rfl (fun _ => rfl) (.slice (some ⟨gb, 0, none⟩) 0 0) 0 [] rfl HEb.out (fun _ => True) (some ⟨b0, ow, none⟩) (vlenOf xs) cw (valOf xs) rfl (HRW.out _ (HSRC.out.below HBW.out)) (fun h => by cases h) (by unfold maxLen; omega) (by omega) HZW.out ?_
          intro v25 vz hown hgrow hblk
          rw [List.nil_append, Nat.zero_add] at hown
          have hO3 := HO3.out.kept hgrow (.inr (fun h => HVN.out (by simpa [Value.ownBlock] using h)))
          obtain ⟨A5, c5, rfl, hc1, hn1, hr1⟩ := rowG_own 0 hO3
          obtain ⟨A6, c6, rfl, hc2, hn2, hr2⟩ := rowG_own 0 hown
          have HR1 := Lib.hid hr1
          have HR2 := Lib.hid hr2
          have HBW := Lib.hid (HBW.out.grown hgrow HZW.out (fun g h => by (have h' : gb = g := (by simpa [Value.ownBlock] using h)); have := HGb.out.1; omega))
          clear hown hgrow hblk hO3 hc1 hn1 hr1 hc2 hn2 hr2
          simp only [rd25, Act.put, List.setIfInBounds_toArray, List.set_cons_zero, List.set_cons_succ]
          refine hK.out _ _ (fun _ => (HBW.out.cell HLB.out).trans HCELL.out) (fun hHeld => ?_)
          replace hHeld := hHeld (by decide)
          clear hK K
          refine Tillst.take (i := 26) (oi := rd26) (v := ?_) rfl (by kernel_rfl) (by kernel_rfl) (by kernel_rfl) (by kernel_rfl) (fun _ _ _ h => h) (by rfl) ?_ hHeld ?_
          rotate_left
          · intro W hSW; (try dsimp only at hSW); unfold rd26; go_simp; with_reducible rfl
          simp only [rd26, Act.put, List.setIfInBounds_toArray, List.set_cons_zero, List.set_cons_succ]
          refine Tillst.one (i := 28) (o := rd28) (by kernel_rfl) rfl ?_
          intro K hK
          have HZ := Lib.hid (HRES.out.below HBW.out HRES.out.lt)
          refine step_store_row (.tmp 2) (.tmp 53) 26 rfl rfl w.heap.size (recC (kindOf xs) (flagsOf xs) (expOf xs) (seqOf xs) A5 (klenOf xs) c5 A6 (vlenOf xs) c6) rfl rfl 26 _ HZ.out size_rec rfl (one_rec _ _ _ _ _ _ _ _ _ _) ?_
          simp only [rd28, Act.put, List.setIfInBounds_toArray, List.set_cons_zero, List.set_cons_succ]
          refine hK.out _ _ (fun _ => (World.cell?_of_block (setRow_other _ _ _ _ (Nat.ne_of_lt HLW.out))).trans ((HBW.out.cell HLB.out).trans HCELL.out)) (fun hHeld => ?_)
          replace hHeld := hHeld (by decide)
          clear hK K
          refine Tillst.take (i := 29) (oi := rd29) (v := ?_) rfl (by kernel_rfl) (by kernel_rfl) (by kernel_rfl) (by kernel_rfl) (fun _ _ _ h => h) (by rfl) ?_ hHeld ?_
          rotate_left
          · intro W hSW; (try dsimp only at hSW); unfold rd29; go_simp; with_reducible rfl
          simp only [rd29, Act.put, List.setIfInBounds_toArray, List.set_cons_zero, List.set_cons_succ]
          refine Tillst.take (i := 30) (oi := rd30) (v := ?_) rfl (by kernel_rfl) (by kernel_rfl) (by kernel_rfl) (by kernel_rfl) (fun _ _ _ h => h) (by rfl) ?_ hHeld ?_
          rotate_left
          · intro W hSW; (try dsimp only at hSW); unfold rd30; go_simp; with_reducible rfl
          simp only [rd30, Act.put, List.setIfInBounds_toArray, List.set_cons_zero, List.set_cons_succ]
          refine Tillst.done (by kernel_rfl) ?_ _
          refine NoPanic.normal ?_
          clear hHeld
          go_wp2_with (with_reducible refine halt_end ?_)
          have hst := setRow_heap _ _ _ (recC (kindOf xs) (flagsOf xs) (expOf xs) (seqOf xs) A5 (klenOf xs) c5 A6 (vlenOf xs) c6) _ _ HZ.out
          exact Halt.ret (results_row3 (p := 2) (u := 3) (v := 4) rfl _ _ w.heap.size 26 (recC (kindOf xs) (flagsOf xs) (expOf xs) (seqOf xs) A5 (klenOf xs) c5 A6 (vlenOf xs) c6) _ rfl hst Try.underlying26 rfl size_rec) rfl (rdec_fin xs w w1 vz A5 A6 c5 c6 nd HNN.out HR1.out HR2.out HLW1.out (HB1.out.trans (HBW.out.mono HB1.out.size)))
      · intro K hK
        refine step_empty rfl rfl w1.heap.size HZW.out ?_
        intro ga v_2 hg hown hgrow
        have HEa := Lib.hid hown
        have HGa := Lib.hid hg.1
        have HNE := Lib.hid (show ga ≠ gb by have h := HGb.out.2; have := hg.2; omega)
        have HEb := Lib.hid (own_none HEb.out hgrow)
        have HGb := Lib.hid (show w1.heap.size ≤ gb ∧ gb < v_2.heap.size from ⟨HGb.out.1, Nat.lt_of_lt_of_le HGb.out.2 hgrow.size⟩)
        have HBW := Lib.hid (HBW.out.grown hgrow HZW.out (fun g h => by cases h))
        have HZW := Lib.hid (Nat.le_trans HZW.out hgrow.size)
        clear hg hown hgrow
        simp only [rd15, Act.put, List.setIfInBounds_toArray, List.set_cons_zero, List.set_cons_succ]
        refine hK.out _ _ (fun _ => (HBW.out.cell HLB.out).trans HCELL.out) (fun hHeld => ?_)
        replace hHeld := hHeld (by decide)
        clear hK K
        refine Tillst.one (i := 10) (o := rd10) (by kernel_rfl) rfl ?_
        intro K hK
        refine step_call 34 #[.tmp 36] #[24] rfl rfl Try.func34 rfl rfl [.slice (some ⟨b0, o0 + 5, none⟩) 4 (c - 5)] rfl ?_
        refine (rnum_any _ 4 _ _ (fun _ => True) _ ((HSRC.out.below HBW.out).part 5 4 (by omega)) (bytes_part HBY.out 5 4) (by omega)).mono ?_
        rintro e w' ⟨rfl, rfl⟩
        rw [HNX.out]
        refine ⟨_, rfl, ?_⟩
        simp only [rd10, Act.put, List.setIfInBounds_toArray, List.set_cons_zero, List.set_cons_succ]
        refine hK.out _ _ (fun _ => (HBW.out.cell HLB.out).trans HCELL.out) (fun hHeld => ?_)
        replace hHeld := hHeld (by decide)
        clear hK K
        refine Tillst.take (i := 11) (oi := rd11) (v := ?_) rfl (by kernel_rfl) (by kernel_rfl) (by kernel_rfl) (by kernel_rfl) (fun _ _ _ h => h) (by rfl) ?_ hHeld ?_
        rotate_left
        · intro W hSW; (try dsimp only at hSW); unfold rd11; go_simp; with_reducible rfl
        simp only [rd11, Act.put, List.setIfInBounds_toArray, List.set_cons_zero, List.set_cons_succ]
        refine Tillst.one (i := 14) (o := rd14) (by kernel_rfl) rfl ?_
        intro K hK
        refine step_call 34 #[.tmp 40] #[24] rfl rfl Try.func34 rfl rfl [.slice (some ⟨b0, o0 + 9, none⟩) 8 (c - 9)] rfl ?_
        refine (rnum_any _ 8 _ _ (fun _ => True) _ ((HSRC.out.below HBW.out).part 9 8 (by omega)) (bytes_part HBY.out 9 8) (by omega)).mono ?_
        rintro e w' ⟨rfl, rfl⟩
        rw [HNS.out]
        refine ⟨_, rfl, ?_⟩
        simp only [rd14, Act.put, List.setIfInBounds_toArray, List.set_cons_zero, List.set_cons_succ]
        refine hK.out _ _ (fun _ => (HBW.out.cell HLB.out).trans HCELL.out) (fun hHeld => ?_)
        replace hHeld := hHeld (by decide)
        clear hK K
        refine Tillst.one (i := 19) (o := rd19) (by kernel_rfl) rfl ?_
        intro K hK
        refine step_append_rowG (mk := Value.int .u8) (d := 0) rfl (.tmp 42) (.tmp 45) 24 rfl w1.heap.size 5 i0 (.int .u8 0) 1 Try.underlying24 hi hz0 hz1 hz2 rfl (fun _ => rfl) (.slice (some ⟨ga, 0, none⟩) 0 0) 0 [] rfl HEa.out (fun _ => True) (some ⟨b0, o0 + 21, none⟩) (klenOf xs) (c - 21) (keyOf xs) rfl ((HSRC.out.below HBW.out).part 21 (klenOf xs) HKN.out) (fun h => by cases h) (by unfold maxLen; omega) (by omega) HZW.out ?_
        intro v19 v_5 hown hgrow hblk
        rw [List.nil_append, Nat.zero_add] at hown
        have HO3 := Lib.hid hown
        have HVN := Lib.hid (show v19.ownBlock ≠ some gb from fun h => by rcases hblk with h2 | h2 <;> rw [h] at h2 <;> simp [Value.ownBlock] at h2; exact HNE.out h2.symm; have := HGb.out.2; omega)
        have HEb := Lib.hid (HEb.out.kept hgrow (.inr (fun h => HNE.out (by simpa [Value.ownBlock] using h.symm))))
        have HGb := Lib.hid (show w1.heap.size ≤ gb ∧ gb < v_5.heap.size from ⟨HGb.out.1, Nat.lt_of_lt_of_le HGb.out.2 hgrow.size⟩)
        have HBW := Lib.hid (HBW.out.grown hgrow HZW.out (fun g h => by (have h' : ga = g := (by simpa [Value.ownBlock] using h)); have := HGa.out.1; omega))
        have HZW := Lib.hid (Nat.le_trans HZW.out hgrow.size)
        clear hown hgrow hblk
        simp only [rd19, Act.put, List.setIfInBounds_toArray, List.set_cons_zero, List.set_cons_succ]
        refine hK.out _ _ (fun _ => (HBW.out.cell HLB.out).trans HCELL.out) (fun hHeld => ?_)
        replace hHeld := hHeld (by decide)
        clear hK K
        refine Tillst.one (i := 25) (o := rd25) (by kernel_rfl) rfl ?_
        intro K hK
        refine step_append_rowG (mk := Value.int .u8) (d := 0) rfl (.tmp 47) (.tmp 51) 24 rfl w1.heap.size 5 i0 (.int .u8 0) 1 Try.underlying24 hi hz0 hz1 hz2 rfl (fun _ => rfl) (.slice (some ⟨gb, 0, none⟩) 0 0) 0 [] rfl HEb.out (fun _ => True) (some ⟨b0, ow, none⟩) (vlenOf xs) cw (valOf xs) rfl (HRW.out _ (HSRC.out.below HBW.out)) (fun h => by cases h) (by unfold maxLen; omega) (by omega) HZW.out ?_
        intro v25 vz hown hgrow hblk
        rw [List.nil_append, Nat.zero_add] at hown
        have hO3 := HO3.out.kept hgrow (.inr (fun h => HVN.out (by simpa [Value.ownBlock] using h)))
        obtain ⟨A5, c5, rfl, hc1, hn1, hr1⟩ := rowG_own 0 hO3
        obtain ⟨A6, c6, rfl, hc2, hn2, hr2⟩ := rowG_own 0 hown
        have HR1 := Lib.hid hr1
        have HR2 := Lib.hid hr2
        have HBW := Lib.hid (HBW.out.grown hgrow HZW.out (fun g h => by (have h' : gb = g := (by simpa [Value.ownBlock] using h)); have := HGb.out.1; omega))
        clear hown hgrow hblk hO3 hc1 hn1 hr1 hc2 hn2 hr2
        simp only [rd25, Act.put, List.setIfInBounds_toArray, List.set_cons_zero, List.set_cons_succ]
        refine hK.out _ _ (fun _ => (HBW.out.cell HLB.out).trans HCELL.out) (fun hHeld => ?_)
        replace hHeld := hHeld (by decide)
        clear hK K
        refine Tillst.take (i := 26) (oi := rd26) (v := ?_) rfl (by kernel_rfl) (by kernel_rfl) (by kernel_rfl) (by kernel_rfl) (fun _ _ _ h => h) (by rfl) ?_ hHeld ?_
        rotate_left
        · intro W hSW; (try dsimp only at hSW); unfold rd26; go_simp; with_reducible rfl
        simp only [rd26, Act.put, List.setIfInBounds_toArray, List.set_cons_zero, List.set_cons_succ]
        refine Tillst.one (i := 28) (o := rd28) (by kernel_rfl) rfl ?_
        intro K hK
        have HZ := Lib.hid (HRES.out.below HBW.out HRES.out.lt)
        refine step_store_row (.tmp 2) (.tmp 53) 26 rfl rfl w.heap.size (recC (kindOf xs) (flagsOf xs) (expOf xs) (seqOf xs) A5 (klenOf xs) c5 A6 (vlenOf xs) c6) rfl rfl 26 _ HZ.out size_rec rfl (one_rec _ _ _ _ _ _ _ _ _ _) ?_
        simp only [rd28, Act.put, List.setIfInBounds_toArray, List.set_cons_zero, List.set_cons_succ]
        refine hK.out _ _ (fun _ => (World.cell?_of_block (setRow_other _ _ _ _ (Nat.ne_of_lt HLW.out))).trans ((HBW.out.cell HLB.out).trans HCELL.out)) (fun hHeld => ?_)
        replace hHeld := hHeld (by decide)
        clear hK K
        refine Tillst.take (i := 29) (oi := rd29) (v := ?_) rfl (by kernel_rfl) (by kernel_rfl) (by kernel_rfl) (by kernel_rfl) (fun _ _ _ h => h) (by rfl) ?_ hHeld ?_
        rotate_left
        · intro W hSW; (try dsimp only at hSW); unfold rd29; go_simp; with_reducible rfl
        simp only [rd29, Act.put, List.setIfInBounds_toArray, List.set_cons_zero, List.set_cons_succ]
        refine Tillst.take (i := 30) (oi := rd30) (v := ?_) rfl (by kernel_rfl) (by kernel_rfl) (by kernel_rfl) (by kernel_rfl) (fun _ _ _ h => h) (by rfl) ?_ hHeld ?_
        rotate_left
        · intro W hSW; (try dsimp only at hSW); unfold rd30; go_simp; with_reducible rfl
        simp only [rd30, Act.put, List.setIfInBounds_toArray, List.set_cons_zero, List.set_cons_succ]
        refine Tillst.done (by kernel_rfl) ?_ _
        refine NoPanic.normal ?_
        clear hHeld
        go_wp2_with (with_reducible refine halt_end ?_)
        have hst := setRow_heap _ _ _ (recC (kindOf xs) (flagsOf xs) (expOf xs) (seqOf xs) A5 (klenOf xs) c5 A6 (vlenOf xs) c6) _ _ HZ.out
        exact Halt.ret (results_row3 (p := 2) (u := 3) (v := 4) rfl _ _ w.heap.size 26 (recC (kindOf xs) (flagsOf xs) (expOf xs) (seqOf xs) A5 (klenOf xs) c5 A6 (vlenOf xs) c6) _ rfl hst Try.underlying26 rfl size_rec) rfl (rdec_fin xs w w1 vz A5 A6 c5 c6 nd HNN.out HR1.out HR2.out HLW1.out (HB1.out.trans (HBW.out.mono HB1.out.size)))
  · intro K hK
    refine step_empty rfl rfl w1.heap.size HZW.out ?_
    intro ga v_0 hg hown hgrow
    have HEa := Lib.hid hown
    have HGa := Lib.hid hg.1
    have HBW := Lib.hid (HBW.out.grown hgrow HZW.out (fun g h => by cases h))
    have HZW := Lib.hid (Nat.le_trans HZW.out hgrow.size)
    clear hg hown hgrow
    simp only [rd15, Act.put, List.setIfInBounds_toArray, List.set_cons_zero, List.set_cons_succ]
    refine hK.out _ _ (fun _ => (HBW.out.cell HLB.out).trans HCELL.out) (fun hHeld => ?_)
    replace hHeld := hHeld (by decide)
    clear hK K
    refine Tillst.two (i := 6) (j := 20) (o := rd6) (o' := rd20) (by kernel_rfl) rfl rfl ?_ ?_
    · intro K hK
      refine step_call 34 #[.tmp 32] #[24] rfl rfl Try.func34 rfl rfl [.slice (some ⟨b0, o0 + 1, none⟩) 4 (c - 1)] rfl ?_
      refine (rnum_any _ 4 _ _ (fun _ => True) _ ((HSRC.out.below HBW.out).part 1 4 (by omega)) (bytes_part HBY.out 1 4) (by omega)).mono ?_
      rintro e w' ⟨rfl, rfl⟩
      rw [HNF.out]
      refine ⟨_, rfl, ?_⟩
      simp only [rd6, Act.put, List.setIfInBounds_toArray, List.set_cons_zero, List.set_cons_succ]
      refine hK.out _ _ (fun _ => (HBW.out.cell HLB.out).trans HCELL.out) (fun hHeld => ?_)
      replace hHeld := hHeld (by decide)
      clear hK K
      refine Tillst.take (i := 7) (oi := rd7) (v := ?_) rfl (by kernel_rfl) (by kernel_rfl) (by kernel_rfl) (by kernel_rfl) (fun _ _ _ h => h) (by rfl) ?_ hHeld ?_
      rotate_left
      · intro W hSW; (try dsimp only at hSW); unfold rd7; go_simp; with_reducible rfl
      simp only [rd7, Act.put, List.setIfInBounds_toArray, List.set_cons_zero, List.set_cons_succ]
      refine Tillst.two (i := 10) (j := 20) (o := rd10) (o' := rd20) (by kernel_rfl) rfl rfl ?_ ?_
      · intro K hK
        refine step_call 34 #[.tmp 36] #[24] rfl rfl Try.func34 rfl rfl [.slice (some ⟨b0, o0 + 5, none⟩) 4 (c - 5)] rfl ?_
        refine (rnum_any _ 4 _ _ (fun _ => True) _ ((HSRC.out.below HBW.out).part 5 4 (by omega)) (bytes_part HBY.out 5 4) (by omega)).mono ?_
        rintro e w' ⟨rfl, rfl⟩
        rw [HNX.out]
        refine ⟨_, rfl, ?_⟩
        simp only [rd10, Act.put, List.setIfInBounds_toArray, List.set_cons_zero, List.set_cons_succ]
        refine hK.out _ _ (fun _ => (HBW.out.cell HLB.out).trans HCELL.out) (fun hHeld => ?_)
        replace hHeld := hHeld (by decide)
        clear hK K
        refine Tillst.take (i := 11) (oi := rd11) (v := ?_) rfl (by kernel_rfl) (by kernel_rfl) (by kernel_rfl) (by kernel_rfl) (fun _ _ _ h => h) (by rfl) ?_ hHeld ?_
        rotate_left
        · intro W hSW; (try dsimp only at hSW); unfold rd11; go_simp; with_reducible rfl
        simp only [rd11, Act.put, List.setIfInBounds_toArray, List.set_cons_zero, List.set_cons_succ]
        refine Tillst.two (i := 14) (j := 20) (o := rd14) (o' := rd20) (by kernel_rfl) rfl rfl ?_ ?_
        · intro K hK
          refine step_call 34 #[.tmp 40] #[24] rfl rfl Try.func34 rfl rfl [.slice (some ⟨b0, o0 + 9, none⟩) 8 (c - 9)] rfl ?_
          refine (rnum_any _ 8 _ _ (fun _ => True) _ ((HSRC.out.below HBW.out).part 9 8 (by omega)) (bytes_part HBY.out 9 8) (by omega)).mono ?_
          rintro e w' ⟨rfl, rfl⟩
          rw [HNS.out]
          refine ⟨_, rfl, ?_⟩
          simp only [rd14, Act.put, List.setIfInBounds_toArray, List.set_cons_zero, List.set_cons_succ]
          refine hK.out _ _ (fun _ => (HBW.out.cell HLB.out).trans HCELL.out) (fun hHeld => ?_)
          replace hHeld := hHeld (by decide)
          clear hK K
          refine Tillst.two (i := 19) (j := 20) (o := rd19) (o' := rd20) (by kernel_rfl) rfl rfl ?_ ?_
          · intro K hK
            refine step_append_rowG (mk := Value.int .u8) (d := 0) rfl (.tmp 42) (.tmp 45) 24 rfl w1.heap.size 5 i0 (.int .u8 0) 1 Try.underlying24 hi hz0 hz1 hz2 rfl (fun _ => rfl) (.slice (some ⟨ga, 0, none⟩) 0 0) 0 [] rfl HEa.out (fun _ => True) (some ⟨b0, o0 + 21, none⟩) (klenOf xs) (c - 21) (keyOf xs) rfl ((HSRC.out.below HBW.out).part 21 (klenOf xs) HKN.out) (fun h => by cases h) (by unfold maxLen; omega) (by omega) HZW.out ?_
            intro v19 v_4 hown hgrow hblk
            rw [List.nil_append, Nat.zero_add] at hown
            have HO3 := Lib.hid hown
            have HBW := Lib.hid (HBW.out.grown hgrow HZW.out (fun g h => by (have h' : ga = g := (by simpa [Value.ownBlock] using h)); have := HGa.out.1; omega))
            have HZW := Lib.hid (Nat.le_trans HZW.out hgrow.size)
            clear hown hgrow hblk
            simp only [rd19, Act.put, List.setIfInBounds_toArray, List.set_cons_zero, List.set_cons_succ]
            refine hK.out _ _ (fun _ => (HBW.out.cell HLB.out).trans HCELL.out) (fun hHeld => ?_)
            replace hHeld := hHeld (by decide)
            clear hK K
            refine Tillst.one (i := 20) (o := rd20) (by kernel_rfl) rfl ?_
            intro K hK
            refine step_empty rfl rfl w1.heap.size HZW.out ?_
            intro gb v_5 hg hown hgrow
            have HEb := Lib.hid hown
            have HGb := Lib.hid hg.1
            have HVN := Lib.hid (show v19.ownBlock ≠ some gb from fun h => by have h2 := (HO3.out.lt gb h).2; have := hg.2; omega)
            have HO3 := Lib.hid (own_none HO3.out hgrow)
            have HBW := Lib.hid (HBW.out.grown hgrow HZW.out (fun g h => by cases h))
            have HZW := Lib.hid (Nat.le_trans HZW.out hgrow.size)
            clear hg hown hgrow
            simp only [rd20, Act.put, List.setIfInBounds_toArray, List.set_cons_zero, List.set_cons_succ]
            refine hK.out _ _ (fun _ => (HBW.out.cell HLB.out).trans HCELL.out) (fun hHeld => ?_)
            replace hHeld := hHeld (by decide)
            clear hK K
            refine Tillst.one (i := 25) (o := rd25) (by kernel_rfl) rfl ?_
            intro K hK
            refine step_append_rowG (mk := Value.int .u8) (d := 0) rfl (.tmp 47) (.tmp 51) 24 rfl w1.heap.size 5 i0 (.int .u8 0) 1 Try.underlying24 hi hz0 hz1 hz2 rfl (fun _ => rfl) (.slice (some ⟨gb, 0, none⟩) 0 0) 0 [] rfl HEb.out (fun _ => True) (some ⟨b0, ow, none⟩) (vlenOf xs) cw (valOf xs) rfl (HRW.out _ (HSRC.out.below HBW.out)) (fun h => by cases h) (by unfold maxLen; omega) (by omega) HZW.out ?_
            intro v25 vz hown hgrow hblk
            rw [List.nil_append, Nat.zero_add] at hown
            have hO3 := HO3.out.kept hgrow (.inr (fun h => HVN.out (by simpa [Value.ownBlock] using h)))
            obtain ⟨A5, c5, rfl, hc1, hn1, hr1⟩ := rowG_own 0 hO3
            obtain ⟨A6, c6, rfl, hc2, hn2, hr2⟩ := rowG_own 0 hown
            have HR1 := Lib.hid hr1
            have HR2 := Lib.hid hr2
            have HBW := Lib.hid (HBW.out.grown hgrow HZW.out (fun g h => by (have h' : gb = g := (by simpa [Value.ownBlock] using h)); have := HGb.out.1; omega))
            clear hown hgrow hblk hO3 hc1 hn1 hr1 hc2 hn2 hr2
            simp only [rd25, Act.put, List.setIfInBounds_toArray, List.set_cons_zero, List.set_cons_succ]
            refine hK.out _ _ (fun _ => (HBW.out.cell HLB.out).trans HCELL.out) (fun hHeld => ?_)
            replace hHeld := hHeld (by decide)
            clear hK K
            refine Tillst.take (i := 26) (oi := rd26) (v := ?_) rfl (by kernel_rfl) (by kernel_rfl) (by kernel_rfl) (by kernel_rfl) (fun _ _ _ h => h) (by rfl) ?_ hHeld ?_
            rotate_left
            · intro W hSW; (try dsimp only at hSW); unfold rd26; go_simp; with_reducible rfl
            simp only [rd26, Act.put, List.setIfInBounds_toArray, List.set_cons_zero, List.set_cons_succ]
            refine Tillst.one (i := 28) (o := rd28) (by kernel_rfl) rfl ?_
            intro K hK
            have HZ := Lib.hid (HRES.out.below HBW.out HRES.out.lt)
            refine step_store_row (.tmp 2) (.tmp 53) 26 rfl rfl w.heap.size (recC (kindOf xs) (flagsOf xs) (expOf xs) (seqOf xs) A5 (klenOf xs) c5 A6 (vlenOf xs) c6) rfl rfl 26 _ HZ.out size_rec rfl (one_rec _ _ _ _ _ _ _ _ _ _) ?_
            simp only [rd28, Act.put, List.setIfInBounds_toArray, List.set_cons_zero, List.set_cons_succ]
            refine hK.out _ _ (fun _ => (World.cell?_of_block (setRow_other _ _ _ _ (Nat.ne_of_lt HLW.out))).trans ((HBW.out.cell HLB.out).trans HCELL.out)) (fun hHeld => ?_)
            replace hHeld := hHeld (by decide)
            clear hK K
            refine Tillst.take (i := 29) (oi := rd29) (v := ?_) rfl (by kernel_rfl) (by kernel_rfl) (by kernel_rfl) (by kernel_rfl) (fun _ _ _ h => h) (by rfl) ?_ hHeld ?_
            rotate_left
            · intro W hSW; (try dsimp only at hSW); unfold rd29; go_simp; with_reducible rfl
            simp only [rd29, Act.put, List.setIfInBounds_toArray, List.set_cons_zero, List.set_cons_succ]
            refine Tillst.take (i := 30) (oi := rd30) (v := ?_) rfl (by kernel_rfl) (by kernel_rfl) (by kernel_rfl) (by kernel_rfl) (fun _ _ _ h => h) (by rfl) ?_ hHeld ?_
            rotate_left
            · intro W hSW; (try dsimp only at hSW); unfold rd30; go_simp; with_reducible rfl
            simp only [rd30, Act.put, List.setIfInBounds_toArray, List.set_cons_zero, List.set_cons_succ]
            refine Tillst.done (by kernel_rfl) ?_ _
            refine NoPanic.normal ?_
            clear hHeld
            go_wp2_with (with_reducible refine halt_end ?_)
            have hst := setRow_heap _ _ _ (recC (kindOf xs) (flagsOf xs) (expOf xs) (seqOf xs) A5 (klenOf xs) c5 A6 (vlenOf xs) c6) _ _ HZ.out
            exact Halt.ret (results_row3 (p := 2) (u := 3) (v := 4) rfl _ _ w.heap.size 26 (recC (kindOf xs) (flagsOf xs) (expOf xs) (seqOf xs) A5 (klenOf xs) c5 A6 (vlenOf xs) c6) _ rfl hst Try.underlying26 rfl size_rec) rfl (rdec_fin xs w w1 vz A5 A6 c5 c6 nd HNN.out HR1.out HR2.out HLW1.out (HB1.out.trans (HBW.out.mono HB1.out.size)))
          · intro K hK
            refine step_empty rfl rfl w1.heap.size HZW.out ?_
            intro gb v_4 hg hown hgrow
            have HEb := Lib.hid hown
            have HGb := Lib.hid hg.1
            have HNE := Lib.hid (show ga ≠ gb by have h := HGa.out.2; have := hg.2; omega)
            have HEa := Lib.hid (own_none HEa.out hgrow)
            have HGa := Lib.hid (show w1.heap.size ≤ ga ∧ ga < v_4.heap.size from ⟨HGa.out.1, Nat.lt_of_lt_of_le HGa.out.2 hgrow.size⟩)
            have HBW := Lib.hid (HBW.out.grown hgrow HZW.out (fun g h => by cases h))
            have HZW := Lib.hid (Nat.le_trans HZW.out hgrow.size)
            clear hg hown hgrow
            simp only [rd20, Act.put, List.setIfInBounds_toArray, List.set_cons_zero, List.set_cons_succ]
            refine hK.out _ _ (fun _ => (HBW.out.cell HLB.out).trans HCELL.out) (fun hHeld => ?_)
            replace hHeld := hHeld (by decide)
            clear hK K
            refine Tillst.one (i := 19) (o := rd19) (by kernel_rfl) rfl ?_
            intro K hK
            refine step_append_rowG (mk := Value.int .u8) (d := 0) rfl (.tmp 42) (.tmp 45) 24 rfl w1.heap.size 5 i0 (.int .u8 0) 1 Try.underlying24 hi hz0 hz1 hz2 rfl (fun _ => rfl) (.slice (some ⟨ga, 0, none⟩) 0 0) 0 [] rfl HEa.out (fun _ => True) (some ⟨b0, o0 + 21, none⟩) (klenOf xs) (c - 21) (keyOf xs) rfl ((HSRC.out.below HBW.out).part 21 (klenOf xs) HKN.out) (fun h => by cases h) (by unfold maxLen; omega) (by omega) HZW.out ?_
            intro v19 v_5 hown hgrow hblk
            rw [List.nil_append, Nat.zero_add] at hown
            have HO3 := Lib.hid hown
            have HVN := Lib.hid (show v19.ownBlock ≠ some gb from fun h => by rcases hblk with h2 | h2 <;> rw [h] at h2 <;> simp [Value.ownBlock] at h2; exact HNE.out h2.symm; have := HGb.out.2; omega)
            have HEb := Lib.hid (HEb.out.kept hgrow (.inr (fun h => HNE.out (by simpa [Value.ownBlock] using h.symm))))
            have HGb := Lib.hid (show w1.heap.size ≤ gb ∧ gb < v_5.heap.size from ⟨HGb.out.1, Nat.lt_of_lt_of_le HGb.out.2 hgrow.size⟩)
            have HBW := Lib.hid (HBW.out.grown hgrow HZW.out (fun g h => by (have h' : ga = g := (by simpa [Value.ownBlock] using h)); have := HGa.out.1; omega))
            have HZW := Lib.hid (Nat.le_trans HZW.out hgrow.size)
            clear hown hgrow hblk
            simp only [rd19, Act.put, List.setIfInBounds_toArray, List.set_cons_zero, List.set_cons_succ]
            refine hK.out _ _ (fun _ => (HBW.out.cell HLB.out).trans HCELL.out) (fun hHeld => ?_)
            replace hHeld := hHeld (by decide)
            clear hK K
            refine Tillst.one (i := 25) (o := rd25) (by kernel_rfl) rfl ?_
            intro K hK
            refine step_append_rowG (mk := Value.int .u8) (d := 0) rfl (.tmp 47) (.tmp 51) 24 rfl w1.heap.size 5 i0 (.int .u8 0) 1 Try.underlying24 hi hz0 hz1 hz2 rfl (fun _ => rfl) (.slice (some ⟨gb, 0, none⟩) 0 0) 0 [] rfl HEb.out (fun _ => True) (some ⟨b0, ow, none⟩) (vlenOf xs) cw (valOf xs) rfl (HRW.out _ (HSRC.out.below HBW.out)) (fun h => by cases h) (by unfold maxLen; omega) (by omega) HZW.out ?_
            intro v25 vz hown hgrow hblk
            rw [List.nil_append, Nat.zero_add] at hown
            have hO3 := HO3.out.kept hgrow (.inr (fun h => HVN.out (by simpa [Value.ownBlock] using h)))
            obtain ⟨A5, c5, rfl, hc1, hn1, hr1⟩ := rowG_own 0 hO3
            obtain ⟨A6, c6, rfl, hc2, hn2, hr2⟩ := rowG_own 0 hown
            have HR1 := Lib.hid hr1
            have HR2 := Lib.hid hr2
            have HBW := Lib.hid (HBW.out.grown hgrow HZW.out (fun g h => by (have h' : gb = g := (by simpa [Value.ownBlock] using h)); have := HGb.out.1; omega))
            clear hown hgrow hblk hO3 hc1 hn1 hr1 hc2 hn2 hr2
            simp only [rd25, Act.put, List.setIfInBounds_toArray, List.set_cons_zero, List.set_cons_succ]
            refine hK.out _ _ (fun _ => (HBW.out.cell HLB.out).trans HCELL.out) (fun hHeld => ?_)
            replace hHeld := hHeld (by decide)
            clear hK K
            refine Tillst.take (i := 26) (oi := rd26) (v := ?_) rfl (by kernel_rfl) (by kernel_rfl) (by kernel_rfl) (by kernel_rfl) (fun _ _ _ h => h) (by rfl) ?_ hHeld ?_
            rotate_left
            · intro W hSW; (try dsimp only at hSW); unfold rd26; go_simp; with_reducible rfl
            simp only [rd26, Act.put, List.setIfInBounds_toArray, List.set_cons_zero, List.set_cons_succ]
            refine Tillst.one (i := 28) (o := rd28) (by kernel_rfl) rfl ?_
            intro K hK
            have HZ := Lib.hid (HRES.out.below HBW.out HRES.out.lt)
            refine step_store_row (.tmp 2) (.tmp 53) 26 rfl rfl w.heap.size (recC (kindOf xs) (flagsOf xs) (expOf xs) (seqOf xs) A5 (klenOf xs) c5 A6 (vlenOf xs) c6) rfl rfl 26 _ HZ.out size_rec rfl (one_rec _ _ _ _ _ _ _ _ _ _) ?_
            simp only [rd28, Act.put, List.setIfInBounds_toArray, List.set_cons_zero, List.set_cons_succ]
            refine hK.out _ _ (fun _ => (World.cell?_of_block (setRow_other _ _ _ _ (Nat.ne_of_lt HLW.out))).trans ((HBW.out.cell HLB.out).trans HCELL.out)) (fun hHeld => ?_)
            replace hHeld := hHeld (by decide)
            clear hK K
            refine Tillst.take (i := 29) (oi := rd29) (v := ?_) rfl (by kernel_rfl) (by kernel_rfl) (by kernel_rfl) (by kernel_rfl) (fun _ _ _ h => h) (by rfl) ?_ hHeld ?_
            rotate_left
            · intro W hSW; (try dsimp only at hSW); unfold rd29; go_simp; with_reducible rfl
            simp only [rd29, Act.put, List.setIfInBounds_toArray, List.set_cons_zero, List.set_cons_succ]
            refine Tillst.take (i := 30) (oi := rd30) (v := ?_) rfl (by kernel_rfl) (by kernel_rfl) (by kernel_rfl) (by kernel_rfl) (fun _ _ _ h => h) (by rfl) ?_ hHeld ?_
            rotate_left
            · intro W hSW; (try dsimp only at hSW); unfold rd30; go_simp; with_reducible rfl
            simp only [rd30, Act.put, List.setIfInBounds_toArray, List.set_cons_zero, List.set_cons_succ]
            refine Tillst.done (by kernel_rfl) ?_ _
            refine NoPanic.normal ?_
            clear hHeld
            go_wp2_with (with_reducible refine halt_end ?_)
            have hst := setRow_heap _ _ _ (recC (kindOf xs) (flagsOf xs) (expOf xs) (seqOf xs) A5 (klenOf xs) c5 A6 (vlenOf xs) c6) _ _ HZ.out
            exact Halt.ret (results_row3 (p := 2) (u := 3) (v := 4) rfl _ _ w.heap.size 26 (recC (kindOf xs) (flagsOf xs) (expOf xs) (seqOf xs) A5 (klenOf xs) c5 A6 (vlenOf xs) c6) _ rfl hst Try.underlying26 rfl size_rec) rfl (rdec_fin xs w w1 vz A5 A6 c5 c6 nd HNN.out HR1.out HR2.out HLW1.out (HB1.out.trans (HBW.out.mono HB1.out.size)))
        · intro K hK
          refine step_empty rfl rfl w1.heap.size HZW.out ?_
          intro gb v_3 hg hown hgrow
          have HEb := Lib.hid hown
          have HGb := Lib.hid hg.1
          have HNE := Lib.hid (show ga ≠ gb by have h := HGa.out.2; have := hg.2; omega)
          have HEa := Lib.hid (own_none HEa.out hgrow)
          have HGa := Lib.hid (show w1.heap.size ≤ ga ∧ ga < v_3.heap.size from ⟨HGa.out.1, Nat.lt_of_lt_of_le HGa.out.2 hgrow.size⟩)
          have HBW := Lib.hid (HBW.out.grown hgrow HZW.out (fun g h => by cases h))
          have HZW := Lib.hid (Nat.le_trans HZW.out hgrow.size)
          clear hg hown hgrow
          simp only [rd20, Act.put, List.setIfInBounds_toArray, List.set_cons_zero, List.set_cons_succ]
          refine hK.out _ _ (fun _ => (HBW.out.cell HLB.out).trans HCELL.out) (fun hHeld => ?_)
          replace hHeld := hHeld (by decide)
          clear hK K
          refine Tillst.one (i := 14) (o := rd14) (by kernel_rfl) rfl ?_
          intro K hK
          refine step_call 34 #[.tmp 40] #[24] rfl rfl Try.func34 rfl rfl [.slice (some ⟨b0, o0 + 9, none⟩) 8 (c - 9)] rfl ?_
          refine (rnum_any _ 8 _ _ (fun _ => True) _ ((HSRC.out.below HBW.out).part 9 8 (by omega)) (bytes_part HBY.out 9 8) (by omega)).mono ?_
          rintro e w' ⟨rfl, rfl⟩
          rw [HNS.out]
          refine ⟨_, rfl, ?_⟩
          simp only [rd14, Act.put, List.setIfInBounds_toArray, List.set_cons_zero, List.set_cons_succ]
          refine hK.out _ _ (fun _ => (HBW.out.cell HLB.out).trans HCELL.out) (fun hHeld => ?_)
          replace hHeld := hHeld (by decide)
          clear hK K
          refine Tillst.one (i := 19) (o := rd19) (by kernel_rfl) rfl ?_
          intro K hK
          refine step_append_rowG (mk := Value.int .u8) (d := 0) rfl (.tmp 42) (.tmp 45) 24 rfl w1.heap.size 5 i0 (.int .u8 0) 1 Try.underlying24 hi hz0 hz1 hz2 rfl (fun _ => rfl) (.slice (some ⟨ga, 0, none⟩) 0 0) 0 [] rfl HEa.out (fun _ => True) (some ⟨b0, o0 + 21, none⟩) (klenOf xs) (c - 21) (keyOf xs) rfl ((HSRC.out.below HBW.out).part 21 (klenOf xs) HKN.out) (fun h => by cases h) (by unfold maxLen; omega) (by omega) HZW.out ?_
          intro v19 v_5 hown hgrow hblk
          rw [List.nil_append, Nat.zero_add] at hown
          have HO3 := Lib.hid hown
          have HVN := Lib.hid (show v19.ownBlock ≠ some gb from fun h => by rcases hblk with h2 | h2 <;> rw [h] at h2 <;> simp [Value.ownBlock] at h2; exact HNE.out h2.symm; have := HGb.out.2; omega)
          have HEb := Lib.hid (HEb.out.kept hgrow (.inr (fun h => HNE.out (by simpa [Value.ownBlock] using h.symm))))
          have HGb := Lib.hid (show w1.heap.size ≤ gb ∧ gb < v_5.heap.size from ⟨HGb.out.1, Nat.lt_of_lt_of_le HGb.out.2 hgrow.size⟩)
          have HBW := Lib.hid (HBW.out.grown hgrow HZW.out (fun g h => by (have h' : ga = g := (by simpa [Value.ownBlock] using h)); have := HGa.out.1; omega))
          have HZW := Lib.hid (Nat.le_trans HZW.out hgrow.size)
          clear hown hgrow hblk
          simp only [rd19, Act.put, List.setIfInBounds_toArray, List.set_cons_zero, List.set_cons_succ]
          refine hK.out _ _ (fun _ => (HBW.out.cell HLB.out).trans HCELL.out) (fun hHeld => ?_)
          replace hHeld := hHeld (by decide)
          clear hK K
          refine Tillst.one (i := 25) (o := rd25) (by kernel_rfl) rfl ?_
          intro K hK
          refine step_append_rowG (mk := Value.int .u8) (d := 0) rfl (.tmp 47) (.tmp 51) 24 rfl w1.heap.size 5 i0 (.int .u8 0) 1 Try.underlying24 hi hz0 hz1 hz2 rfl (fun _ => rfl) (.slice (some ⟨gb, 0, none⟩) 0 0) 0 [] rfl HEb.out (fun _ => True) (some ⟨b0, ow, none⟩) (vlenOf xs) cw (valOf xs) rfl (HRW.out _ (HSRC.out.below HBW.out)) (fun h => by cases h) (by unfold maxLen; omega) (by omega) HZW.out ?_
          intro v25 vz hown hgrow hblk
          rw [List.nil_append, Nat.zero_add] at hown
          have hO3 := HO3.out.kept hgrow (.inr (fun h => HVN.out (by simpa [Value.ownBlock] using h)))
          obtain ⟨A5, c5, rfl, hc1, hn1, hr1⟩ := rowG_own 0 hO3
          obtain ⟨A6, c6, rfl, hc2, hn2, hr2⟩ := rowG_own 0 hown
          have HR1 := Lib.hid hr1
          have HR2 := Lib.hid hr2
          have HBW := Lib.hid (HBW.out.grown hgrow HZW.out (fun g h => by (have h' : gb = g := (by simpa [Value.ownBlock] using h)); have := HGb.out.1; omega))
          clear hown hgrow hblk hO3 hc1 hn1 hr1 hc2 hn2 hr2
          simp only [rd25, Act.put, List.setIfInBounds_toArray, List.set_cons_zero, List.set_cons_succ]
          refine hK.out _ _ (fun _ => (HBW.out.cell HLB.out).trans HCELL.out) (fun hHeld => ?_)
          replace hHeld := hHeld (by decide)
          clear hK K
          refine Tillst.take (i := 26) (oi := rd26) (v := ?_) rfl (by kernel_rfl) (by kernel_rfl) (by kernel_rfl) (by kernel_rfl) (fun _ _ _ h => h) (by rfl) ?_ hHeld ?_
          rotate_left
          · intro W hSW; (try dsimp only at hSW); unfold rd26; go_simp; with_reducible rfl
          simp only [rd26, Act.put, List.setIfInBounds_toArray, List.set_cons_zero, List.set_cons_succ]
          refine Tillst.one (i := 28) (o := rd28) (by kernel_rfl) rfl ?_
          intro K hK
          have HZ := Lib.hid (HRES.out.below HBW.out HRES.out.lt)
          refine step_store_row (.tmp 2) (.tmp 53) 26 rfl rfl w.heap.size (recC (kindOf xs) (flagsOf xs) (expOf xs) (seqOf xs) A5 (klenOf xs) c5 A6 (vlenOf xs) c6) rfl rfl 26 _ HZ.out size_rec rfl (one_rec _ _ _ _ _ _ _ _ _ _) ?_
          simp only [rd28, Act.put, List.setIfInBounds_toArray, List.set_cons_zero, List.set_cons_succ]
          refine hK.out _ _ (fun _ => (World.cell?_of_block (setRow_other _ _ _ _ (Nat.ne_of_lt HLW.out))).trans ((HBW.out.cell HLB.out).trans HCELL.out)) (fun hHeld => ?_)
          replace hHeld := hHeld (by decide)
          clear hK K
          refine Tillst.take (i := 29) (oi := rd29) (v := ?_) rfl (by kernel_rfl) (by kernel_rfl) (by kernel_rfl) (by kernel_rfl) (fun _ _ _ h => h) (by rfl) ?_ hHeld ?_
          rotate_left
          · intro W hSW; (try dsimp only at hSW); unfold rd29; go_simp; with_reducible rfl
          simp only [rd29, Act.put, List.setIfInBounds_toArray, List.set_cons_zero, List.set_cons_succ]
          refine Tillst.take (i := 30) (oi := rd30) (v := ?_) rfl (by kernel_rfl) (by kernel_rfl) (by kernel_rfl) (by kernel_rfl) (fun _ _ _ h => h) (by rfl) ?_ hHeld ?_
          rotate_left
          · intro W hSW; (try dsimp only at hSW); unfold rd30; go_simp; with_reducible rfl
          simp only [rd30, Act.put, List.setIfInBounds_toArray, List.set_cons_zero, List.set_cons_succ]
          refine Tillst.done (by kernel_rfl) ?_ _
          refine NoPanic.normal ?_
          clear hHeld
          go_wp2_with (with_reducible refine halt_end ?_)
          have hst := setRow_heap _ _ _ (recC (kindOf xs) (flagsOf xs) (expOf xs) (seqOf xs) A5 (klenOf xs) c5 A6 (vlenOf xs) c6) _ _ HZ.out
          exact Halt.ret (results_row3 (p := 2) (u := 3) (v := 4) rfl _ _ w.heap.size 26 (recC (kindOf xs) (flagsOf xs) (expOf xs) (seqOf xs) A5 (klenOf xs) c5 A6 (vlenOf xs) c6) _ rfl hst Try.underlying26 rfl size_rec) rfl (rdec_fin xs w w1 vz A5 A6 c5 c6 nd HNN.out HR1.out HR2.out HLW1.out (HB1.out.trans (HBW.out.mono HB1.out.size)))
      · intro K hK
        refine step_empty rfl rfl w1.heap.size HZW.out ?_
        intro gb v_2 hg hown hgrow
        have HEb := Lib.hid hown
        have HGb := Lib.hid hg.1
        have HNE := Lib.hid (show ga ≠ gb by have h := HGa.out.2; have := hg.2; omega)
        have HEa := Lib.hid (own_none HEa.out hgrow)
        have HGa := Lib.hid (show w1.heap.size ≤ ga ∧ ga < v_2.heap.size from ⟨HGa.out.1, Nat.lt_of_lt_of_le HGa.out.2 hgrow.size⟩)
        have HBW := Lib.hid (HBW.out.grown hgrow HZW.out (fun g h => by cases h))
        have HZW := Lib.hid (Nat.le_trans HZW.out hgrow.size)
        clear hg hown hgrow
        simp only [rd20, Act.put, List.setIfInBounds_toArray, List.set_cons_zero, List.set_cons_succ]
        refine hK.out _ _ (fun _ => (HBW.out.cell HLB.out).trans HCELL.out) (fun hHeld => ?_)
        replace hHeld := hHeld (by decide)
        clear hK K
        refine Tillst.one (i := 10) (o := rd10) (by kernel_rfl) rfl ?_
        intro K hK
        refine step_call 34 #[.tmp 36] #[24] rfl rfl Try.func34 rfl rfl [.slice (some ⟨b0, o0 + 5, none⟩) 4 (c - 5)] rfl ?_
        refine (rnum_any _ 4 _ _ (fun _ => True) _ ((HSRC.out.below HBW.out).part 5 4 (by omega)) (bytes_part HBY.out 5 4) (by omega)).mono ?_
        rintro e w' ⟨rfl, rfl⟩
        rw [HNX.out]
        refine ⟨_, rfl, ?_⟩
        simp only [rd10, Act.put, List.setIfInBounds_toArray, List.set_cons_zero, List.set_cons_succ]
        refine hK.out _ _ (fun _ => (HBW.out.cell HLB.out).trans HCELL.out) (fun hHeld => ?_)
        replace hHeld := hHeld (by decide)
        clear hK K
        refine Tillst.take (i := 11) (oi := rd11) (v := ?_) rfl (by kernel_rfl) (by kernel_rfl) (by kernel_rfl) (by kernel_rfl) (fun _ _ _ h => h) (by rfl) ?_ hHeld ?_
        rotate_left
        · intro W hSW; (try dsimp only at hSW); unfold rd11; go_simp; with_reducible rfl
        simp only [rd11, Act.put, List.setIfInBounds_toArray, List.set_cons_zero, List.set_cons_succ]
        refine Tillst.one (i := 14) (o := rd14) (by kernel_rfl) rfl ?_
        intro K hK
        refine step_call 34 #[.tmp 40] #[24] rfl rfl Try.func34 rfl rfl [.slice (some ⟨b0, o0 + 9, none⟩) 8 (c - 9)] rfl ?_
        refine (rnum_any _ 8 _ _ (fun _ => True) _ ((HSRC.out.below HBW.out).part 9 8 (by omega)) (bytes_part HBY.out 9 8) (by omega)).mono ?_
        rintro e w' ⟨rfl, rfl⟩
        rw [HNS.out]
        refine ⟨_, rfl, ?_⟩
        simp only [rd14, Act.put, List.setIfInBounds_toArray, List.set_cons_zero, List.set_cons_succ]
        refine hK.out _ _ (fun _ => (HBW.out.cell HLB.out).trans HCELL.out) (fun hHeld => ?_)
        replace hHeld := hHeld (by decide)
        clear hK K
        refine Tillst.one (i := 19) (o := rd19) (by kernel_rfl) rfl ?_
        intro K hK
        refine step_append_rowG (mk := Value.int .u8) (d := 0) rfl (.tmp 42) (.tmp 45) 24 rfl w1.heap.size 5 i0 (.int .u8 0) 1 Try.underlying24 hi hz0 hz1 hz2 rfl (fun _ => rfl) (.slice (some ⟨ga, 0, none⟩) 0 0) 0 [] rfl HEa.out (fun _ => True) (some ⟨b0, o0 + 21, none⟩) (klenOf xs) (c - 21) (keyOf xs) rfl ((HSRC.out.below HBW.out).part 21 (klenOf xs) HKN.out) (fun h => by cases h) (by unfold maxLen; omega) (by omega) HZW.out ?_
        intro v19 v_5 hown hgrow hblk
        rw [List.nil_append, Nat.zero_add] at hown
        have HO3 := Lib.hid hown
        have HVN := Lib.hid (show v19.ownBlock ≠ some gb from fun h => by rcases hblk with h2 | h2 <;> rw [h] at h2 <;> simp [Value.ownBlock] at h2; exact HNE.out h2.symm; have := HGb.out.2; omega)
        have HEb := Lib.hid (HEb.out.kept hgrow (.inr (fun h => HNE.out (by simpa [Value.ownBlock] using h.symm))))
        have HGb := Lib.hid (show w1.heap.size ≤ gb ∧ gb < v_5.heap.size from ⟨HGb.out.1, Nat.lt_of_lt_of_le HGb.out.2 hgrow.size⟩)
        have HBW := Lib.hid (HBW.out.grown hgrow HZW.out (fun g h => by (have h' : ga = g := (by simpa [Value.ownBlock] using h)); have := HGa.out.1; omega))
        have HZW := Lib.hid (Nat.le_trans HZW.out hgrow.size)
        clear hown hgrow hblk
        simp only [rd19, Act.put, List.setIfInBounds_toArray, List.set_cons_zero, List.set_cons_succ]
        refine hK.out _ _ (fun _ => (HBW.out.cell HLB.out).trans HCELL.out) (fun hHeld => ?_)
        replace hHeld := hHeld (by decide)
        clear hK K
        refine Tillst.one (i := 25) (o := rd25) (by kernel_rfl) rfl ?_
        intro K hK
        refine step_append_rowG (mk := Value.int .u8) (d := 0) rfl (.tmp 47) (.tmp 51) 24 rfl w1.heap.size 5 i0 (.int .u8 0) 1 Try.underlying24 hi hz0 hz1 hz2 rfl (fun _ => rfl) (.slice (some ⟨gb, 0, none⟩) 0 0) 0 [] rfl HEb.out (fun _ => True) (some ⟨b0, ow, none⟩) (vlenOf xs) cw (valOf xs) rfl (HRW.out _ (HSRC.out.below HBW.out)) (fun h => by cases h) (by unfold maxLen; omega) (by omega) HZW.out ?_
        intro v25 vz hown hgrow hblk
        rw [List.nil_append, Nat.zero_add] at hown
        have hO3 := HO3.out.kept hgrow (.inr (fun h => HVN.out (by simpa [Value.ownBlock] using h)))
        obtain ⟨A5, c5, rfl, hc1, hn1, hr1⟩ := rowG_own 0 hO3
        obtain ⟨A6, c6, rfl, hc2, hn2, hr2⟩ := rowG_own 0 hown
        have HR1 := Lib.hid hr1
        have HR2 := Lib.hid hr2
        have HBW := Lib.hid (HBW.out.grown hgrow HZW.out (fun g h => by (have h' : gb = g := (by simpa [Value.ownBlock] using h)); have := HGb.out.1; omega))
        clear hown hgrow hblk hO3 hc1 hn1 hr1 hc2 hn2 hr2
        simp only [rd25, Act.put, List.setIfInBounds_toArray, List.set_cons_zero, List.set_cons_succ]
        refine hK.out _ _ (fun _ => (HBW.out.cell HLB.out).trans HCELL.out) (fun hHeld => ?_)
        replace hHeld := hHeld (by decide)
        clear hK K
        refine Tillst.take (i := 26) (oi := rd26) (v := ?_) rfl (by kernel_rfl) (by kernel_rfl) (by kernel_rfl) (by kernel_rfl) (fun _ _ _ h => h) (by rfl) ?_ hHeld ?_
        rotate_left
        · intro W hSW; (try dsimp only at hSW); unfold rd26; go_simp; with_reducible rfl
        simp only [rd26, Act.put, List.setIfInBounds_toArray, List.set_cons_zero, List.set_cons_succ]
        refine Tillst.one (i := 28) (o := rd28) (by kernel_rfl) rfl ?_
        intro K hK
        have HZ := Lib.hid (HRES.out.below HBW.out HRES.out.lt)
        refine step_store_row (.tmp 2) (.tmp 53) 26 rfl rfl w.heap.size (recC (kindOf xs) (flagsOf xs) (expOf xs) (seqOf xs) A5 (klenOf xs) c5 A6 (vlenOf xs) c6) rfl rfl 26 _ HZ.out size_rec rfl (one_rec _ _ _ _ _ _ _ _ _ _) ?_
        simp only [rd28, Act.put, List.setIfInBounds_toArray, List.set_cons_zero, List.set_cons_succ]
        refine hK.out _ _ (fun _ => (World.cell?_of_block (setRow_other _ _ _ _ (Nat.ne_of_lt HLW.out))).trans ((HBW.out.cell HLB.out).trans HCELL.out)) (fun hHeld => ?_)
        replace hHeld := hHeld (by decide)
        clear hK K
        refine Tillst.take (i := 29) (oi := rd29) (v := ?_) rfl (by kernel_rfl) (by kernel_rfl) (by kernel_rfl) (by kernel_rfl) (fun _ _ _ h => h) (by rfl) ?_ hHeld ?_
        rotate_left
        · intro W hSW; (try dsimp only at hSW); unfold rd29; go_simp; with_reducible rfl
        simp only [rd29, Act.put, List.setIfInBounds_toArray, List.set_cons_zero, List.set_cons_succ]
        refine Tillst.take (i := 30) (oi := rd30) (v := ?_) rfl (by kernel_rfl) (by kernel_rfl) (by kernel_rfl) (by kernel_rfl) (fun _ _ _ h => h) (by rfl) ?_ hHeld ?_
        rotate_left
        · intro W hSW; (try dsimp only at hSW); unfold rd30; go_simp; with_reducible rfl
        simp only [rd30, Act.put, List.setIfInBounds_toArray, List.set_cons_zero, List.set_cons_succ]
        refine Tillst.done (by kernel_rfl) ?_ _
        refine NoPanic.normal ?_
        clear hHeld
        go_wp2_with (with_reducible refine halt_end ?_)
        have hst := setRow_heap _ _ _ (recC (kindOf xs) (flagsOf xs) (expOf xs) (seqOf xs) A5 (klenOf xs) c5 A6 (vlenOf xs) c6) _ _ HZ.out
        exact Halt.ret (results_row3 (p := 2) (u := 3) (v := 4) rfl _ _ w.heap.size 26 (recC (kindOf xs) (flagsOf xs) (expOf xs) (seqOf xs) A5 (klenOf xs) c5 A6 (vlenOf xs) c6) _ rfl hst Try.underlying26 rfl size_rec) rfl (rdec_fin xs w w1 vz A5 A6 c5 c6 nd HNN.out HR1.out HR2.out HLW1.out (HB1.out.trans (HBW.out.mono HB1.out.size)))
    · intro K hK
      refine step_empty rfl rfl w1.heap.size HZW.out ?_
      intro gb v_1 hg hown hgrow
      have HEb := Lib.hid hown
      have HGb := Lib.hid hg.1
      have HNE := Lib.hid (show ga ≠ gb by have h := HGa.out.2; have := hg.2; omega)
      have HEa := Lib.hid (own_none HEa.out hgrow)
      have HGa := Lib.hid (show w1.heap.size ≤ ga ∧ ga < v_1.heap.size from ⟨HGa.out.1, Nat.lt_of_lt_of_le HGa.out.2 hgrow.size⟩)
      have HBW := Lib.hid (HBW.out.grown hgrow HZW.out (fun g h => by cases h))
      have HZW := Lib.hid (Nat.le_trans HZW.out hgrow.size)
      clear hg hown hgrow
      simp only [rd20, Act.put, List.setIfInBounds_toArray, List.set_cons_zero, List.set_cons_succ]
      refine hK.out _ _ (fun _ => (HBW.out.cell HLB.out).trans HCELL.out) (fun hHeld => ?_)
      replace hHeld := hHeld (by decide)
      clear hK K
      refine Tillst.one (i := 6) (o := rd6) (by kernel_rfl) rfl ?_
      intro K hK
      refine step_call 34 #[.tmp 32] #[24] rfl rfl Try.func34 rfl rfl [.slice (some ⟨b0, o0 + 1, none⟩) 4 (c - 1)] rfl ?_
      refine (rnum_any _ 4 _ _ (fun _ => True) _ ((HSRC.out.below HBW.out).part 1 4 (by omega)) (bytes_part HBY.out 1 4) (by omega)).mono ?_
      rintro e w' ⟨rfl, rfl⟩
      rw [HNF.out]
      refine ⟨_, rfl, ?_⟩
      simp only [rd6, Act.put, List.setIfInBounds_toArray, List.set_cons_zero, List.set_cons_succ]
      refine hK.out _ _ (fun _ => (HBW.out.cell HLB.out).trans HCELL.out) (fun hHeld => ?_)
      replace hHeld := hHeld (by decide)
      clear hK K
      refine Tillst.take (i := 7) (oi := rd7) (v := ?_) rfl (by kernel_rfl) (by kernel_rfl) (by kernel_rfl) (by kernel_rfl) (fun _ _ _ h => h) (by rfl) ?_ hHeld ?_
      rotate_left
      · intro W hSW; (try dsimp only at hSW); unfold rd7; go_simp; with_reducible rfl
      simp only [rd7, Act.put, List.setIfInBounds_toArray, List.set_cons_zero, List.set_cons_succ]
      refine Tillst.one (i := 10) (o := rd10) (by kernel_rfl) rfl ?_
      intro K hK
      refine step_call 34 #[.tmp 36] #[24] rfl rfl Try.func34 rfl rfl [.slice (some ⟨b0, o0 + 5, none⟩) 4 (c - 5)] rfl ?_
      refine (rnum_any _ 4 _ _ (fun _ => True) _ ((HSRC.out.below HBW.out).part 5 4 (by omega)) (bytes_part HBY.out 5 4) (by omega)).mono ?_
      rintro e w' ⟨rfl, rfl⟩
      rw [HNX.out]
      refine ⟨_, rfl, ?_⟩
      simp only [rd10, Act.put, List.setIfInBounds_toArray, List.set_cons_zero, List.set_cons_succ]
      refine hK.out _ _ (fun _ => (HBW.out.cell HLB.out).trans HCELL.out) (fun hHeld => ?_)
      replace hHeld := hHeld (by decide)
      clear hK K
      refine Tillst.take (i := 11) (oi := rd11) (v := ?_) rfl (by kernel_rfl) (by kernel_rfl) (by kernel_rfl) (by kernel_rfl) (fun _ _ _ h => h) (by rfl) ?_ hHeld ?_
      rotate_left
      · intro W hSW; (try dsimp only at hSW); unfold rd11; go_simp; with_reducible rfl
      simp only [rd11, Act.put, List.setIfInBounds_toArray, List.set_cons_zero, List.set_cons_succ]
      refine Tillst.one (i := 14) (o := rd14) (by kernel_rfl) rfl ?_
      intro K hK
      refine step_call 34 #[.tmp 40] #[24] rfl rfl Try.func34 rfl rfl [.slice (some ⟨b0, o0 + 9, none⟩) 8 (c - 9)] rfl ?_
      refine (rnum_any _ 8 _ _ (fun _ => True) _ ((HSRC.out.below HBW.out).part 9 8 (by omega)) (bytes_part HBY.out 9 8) (by omega)).mono ?_
      rintro e w' ⟨rfl, rfl⟩
      rw [HNS.out]
      refine ⟨_, rfl, ?_⟩
      simp only [rd14, Act.put, List.setIfInBounds_toArray, List.set_cons_zero, List.set_cons_succ]
      refine hK.out _ _ (fun _ => (HBW.out.cell HLB.out).trans HCELL.out) (fun hHeld => ?_)
      replace hHeld := hHeld (by decide)
      clear hK K
      refine Tillst.one (i := 19) (o := rd19) (by kernel_rfl) rfl ?_
      intro K hK
      refine step_append_rowG (mk := Value.int .u8) (d := 0) rfl (.tmp 42) (.tmp 45) 24 rfl w1.heap.size 5 i0 (.int .u8 0) 1 Try.underlying24 hi hz0 hz1 hz2 rfl (fun _ => rfl) (.slice (some ⟨ga, 0, none⟩) 0 0) 0 [] rfl HEa.out (fun _ => True) (some ⟨b0, o0 + 21, none⟩) (klenOf xs) (c - 21) (keyOf xs) rfl ((HSRC.out.below HBW.out).part 21 (klenOf xs) HKN.out) (fun h => by cases h) (by unfold maxLen; omega) (by omega) HZW.out ?_
      intro v19 v_5 hown hgrow hblk
      rw [List.nil_append, Nat.zero_add] at hown
      have HO3 := Lib.hid hown
      have HVN := Lib.hid (show v19.ownBlock ≠ some gb from fun h => by rcases hblk with h2 | h2 <;> rw [h] at h2 <;> simp [Value.ownBlock] at h2; exact HNE.out h2.symm; have := HGb.out.2; omega)
      have HEb := Lib.hid (HEb.out.kept hgrow (.inr (fun h => HNE.out (by simpa [Value.ownBlock] using h.symm))))
      have HGb := Lib.hid (show w1.heap.size ≤ gb ∧ gb < v_5.heap.size from ⟨HGb.out.1, Nat.lt_of_lt_of_le HGb.out.2 hgrow.size⟩)
      have HBW := Lib.hid (HBW.out.grown hgrow HZW.out (fun g h => by (have h' : ga = g := (by simpa [Value.ownBlock] using h)); have := HGa.out.1; omega))
      have HZW := Lib.hid (Nat.le_trans HZW.out hgrow.size)
      clear hown hgrow hblk
      simp only [rd19, Act.put, List.setIfInBounds_toArray, List.set_cons_zero, List.set_cons_succ]
      refine hK.out _ _ (fun _ => (HBW.out.cell HLB.out).trans HCELL.out) (fun hHeld => ?_)
      replace hHeld := hHeld (by decide)
      clear hK K
      refine Tillst.one (i := 25) (o := rd25) (by kernel_rfl) rfl ?_
      intro K hK
      refine step_append_rowG (mk := Value.int .u8) (d := 0) rfl (.tmp 47) (.tmp 51) 24 rfl w1.heap.size 5 i0 (.int .u8 0) 1 Try.underlying24 hi hz0 hz1 hz2 rfl (fun _ => rfl) (.slice (some ⟨gb, 0, none⟩) 0 0) 0 [] rfl HEb.out (fun _ => True) (some ⟨b0, ow, none⟩) (vlenOf xs) cw (valOf xs) rfl (HRW.out _ (HSRC.out.below HBW.out)) (fun h => by cases h) (by unfold maxLen; omega) (by omega) HZW.out ?_
      intro v25 vz hown hgrow hblk
      rw [List.nil_append, Nat.zero_add] at hown
      have hO3 := HO3.out.kept hgrow (.inr (fun h => HVN.out (by simpa [Value.ownBlock] using h)))
      obtain ⟨A5, c5, rfl, hc1, hn1, hr1⟩ := rowG_own 0 hO3
      obtain ⟨A6, c6, rfl, hc2, hn2, hr2⟩ := rowG_own 0 hown
      have HR1 := Lib.hid hr1
      have HR2 := Lib.hid hr2
      have HBW := Lib.hid (HBW.out.grown hgrow HZW.out (fun g h => by (have h' : gb = g := (by simpa [Value.ownBlock] using h)); have := HGb.out.1; omega))
      clear hown hgrow hblk hO3 hc1 hn1 hr1 hc2 hn2 hr2
      simp only [rd25, Act.put, List.setIfInBounds_toArray, List.set_cons_zero, List.set_cons_succ]
      refine hK.out _ _ (fun _ => (HBW.out.cell HLB.out).trans HCELL.out) (fun hHeld => ?_)
      replace hHeld := hHeld (by decide)
      clear hK K
      refine Tillst.take (i := 26) (oi := rd26) (v := ?_) rfl (by kernel_rfl) (by kernel_rfl) (by kernel_rfl) (by kernel_rfl) (fun _ _ _ h => h) (by rfl) ?_ hHeld ?_
      rotate_left
      · intro W hSW; (try dsimp only at hSW); unfold rd26; go_simp; with_reducible rfl
      simp only [rd26, Act.put, List.setIfInBounds_toArray, List.set_cons_zero, List.set_cons_succ]
      refine Tillst.one (i := 28) (o := rd28) (by kernel_rfl) rfl ?_
      intro K hK
      have HZ := Lib.hid (HRES.out.below HBW.out HRES.out.lt)
      refine step_store_row (.tmp 2) (.tmp 53) 26 rfl rfl w.heap.size (recC (kindOf xs) (flagsOf xs) (expOf xs) (seqOf xs) A5 (klenOf xs) c5 A6 (vlenOf xs) c6) rfl rfl 26 _ HZ.out size_rec rfl (one_rec _ _ _ _ _ _ _ _ _ _) ?_
      simp only [rd28, Act.put, List.setIfInBounds_toArray, List.set_cons_zero, List.set_cons_succ]
      refine hK.out _ _ (fun _ => (World.cell?_of_block (setRow_other _ _ _ _ (Nat.ne_of_lt HLW.out))).trans ((HBW.out.cell HLB.out).trans HCELL.out)) (fun hHeld => ?_)
      replace hHeld := hHeld (by decide)
      clear hK K
      refine Tillst.take (i := 29) (oi := rd29) (v := ?_) rfl (by kernel_rfl) (by kernel_rfl) (by kernel_rfl) (by kernel_rfl) (fun _ _ _ h => h) (by rfl) ?_ hHeld ?_
      rotate_left
      · intro W hSW; (try dsimp only at hSW); unfold rd29; go_simp; with_reducible rfl
      simp only [rd29, Act.put, List.setIfInBounds_toArray, List.set_cons_zero, List.set_cons_succ]
      refine Tillst.take (i := 30) (oi := rd30) (v := ?_) rfl (by kernel_rfl) (by kernel_rfl) (by kernel_rfl) (by kernel_rfl) (fun _ _ _ h => h) (by rfl) ?_ hHeld ?_
      rotate_left
      · intro W hSW; (try dsimp only at hSW); unfold rd30; go_simp; with_reducible rfl
      simp only [rd30, Act.put, List.setIfInBounds_toArray, List.set_cons_zero, List.set_cons_succ]
      refine Tillst.done (by kernel_rfl) ?_ _
      refine NoPanic.normal ?_
      clear hHeld
      go_wp2_with (with_reducible refine halt_end ?_)
      have hst := setRow_heap _ _ _ (recC (kindOf xs) (flagsOf xs) (expOf xs) (seqOf xs) A5 (klenOf xs) c5 A6 (vlenOf xs) c6) _ _ HZ.out
      exact Halt.ret (results_row3 (p := 2) (u := 3) (v := 4) rfl _ _ w.heap.size 26 (recC (kindOf xs) (flagsOf xs) (expOf xs) (seqOf xs) A5 (klenOf xs) c5 A6 (vlenOf xs) c6) _ rfl hst Try.underlying26 rfl size_rec) rfl (rdec_fin xs w w1 vz A5 A6 c5 c6 nd HNN.out HR1.out HR2.out HLW1.out (HB1.out.trans (HBW.out.mono HB1.out.size)))
  · intro K hK
    refine step_empty rfl rfl w1.heap.size HZW.out ?_
    intro gb v_0 hg hown hgrow
    have HEb := Lib.hid hown
    have HGb := Lib.hid hg.1
    have HBW := Lib.hid (HBW.out.grown hgrow HZW.out (fun g h => by cases h))
    have HZW := Lib.hid (Nat.le_trans HZW.out hgrow.size)
    clear hg hown hgrow
    simp only [rd20, Act.put, List.setIfInBounds_toArray, List.set_cons_zero, List.set_cons_succ]
    refine hK.out _ _ (fun _ => (HBW.out.cell HLB.out).trans HCELL.out) (fun hHeld => ?_)
    replace hHeld := hHeld (by decide)
    clear hK K
    refine Tillst.two (i := 6) (j := 15) (o := rd6) (o' := rd15) (by kernel_rfl) rfl rfl ?_ ?_
    · intro K hK
      refine step_call 34 #[.tmp 32] #[24] rfl rfl Try.func34 rfl rfl [.slice (some ⟨b0, o0 + 1, none⟩) 4 (c - 1)] rfl ?_
      refine (rnum_any _ 4 _ _ (fun _ => True) _ ((HSRC.out.below HBW.out).part 1 4 (by omega)) (bytes_part HBY.out 1 4) (by omega)).mono ?_
      rintro e w' ⟨rfl, rfl⟩
      rw [HNF.out]
      refine ⟨_, rfl, ?_⟩
      simp only [rd6, Act.put, List.setIfInBounds_toArray, List.set_cons_zero, List.set_cons_succ]
      refine hK.out _ _ (fun _ => (HBW.out.cell HLB.out).trans HCELL.out) (fun hHeld => ?_)
      replace hHeld := hHeld (by decide)
      clear hK K
      refine Tillst.take (i := 7) (oi := rd7) (v := ?_) rfl (by kernel_rfl) (by kernel_rfl) (by kernel_rfl) (by kernel_rfl) (fun _ _ _ h => h) (by rfl) ?_ hHeld ?_
      rotate_left
      · intro W hSW; (try dsimp only at hSW); unfold rd7; go_simp; with_reducible rfl
      simp only [rd7, Act.put, List.setIfInBounds_toArray, List.set_cons_zero, List.set_cons_succ]
      refine Tillst.two (i := 10) (j := 15) (o := rd10) (o' := rd15) (by kernel_rfl) rfl rfl ?_ ?_
      · intro K hK
        refine step_call 34 #[.tmp 36] #[24] rfl rfl Try.func34 rfl rfl [.slice (some ⟨b0, o0 + 5, none⟩) 4 (c - 5)] rfl ?_
        refine (rnum_any _ 4 _ _ (fun _ => True) _ ((HSRC.out.below HBW.out).part 5 4 (by omega)) (bytes_part HBY.out 5 4) (by omega)).mono ?_
        rintro e w' ⟨rfl, rfl⟩
        rw [HNX.out]
        refine ⟨_, rfl, ?_⟩
        simp only [rd10, Act.put, List.setIfInBounds_toArray, List.set_cons_zero, List.set_cons_succ]
        refine hK.out _ _ (fun _ => (HBW.out.cell HLB.out).trans HCELL.out) (fun hHeld => ?_)
        replace hHeld := hHeld (by decide)
        clear hK K
        refine Tillst.take (i := 11) (oi := rd11) (v := ?_) rfl (by kernel_rfl) (by kernel_rfl) (by kernel_rfl) (by kernel_rfl) (fun _ _ _ h => h) (by rfl) ?_ hHeld ?_
        rotate_left
        · intro W hSW; (try dsimp only at hSW); unfold rd11; go_simp; with_reducible rfl
        simp only [rd11, Act.put, List.setIfInBounds_toArray, List.set_cons_zero, List.set_cons_succ]
        refine Tillst.two (i := 14) (j := 15) (o := rd14) (o' := rd15) (by kernel_rfl) rfl rfl ?_ ?_
        · intro K hK
          refine step_call 34 #[.tmp 40] #[24] rfl rfl Try.func34 rfl rfl [.slice (some ⟨b0, o0 + 9, none⟩) 8 (c - 9)] rfl ?_
          refine (rnum_any _ 8 _ _ (fun _ => True) _ ((HSRC.out.below HBW.out).part 9 8 (by omega)) (bytes_part HBY.out 9 8) (by omega)).mono ?_
          rintro e w' ⟨rfl, rfl⟩
          rw [HNS.out]
          refine ⟨_, rfl, ?_⟩
          simp only [rd14, Act.put, List.setIfInBounds_toArray, List.set_cons_zero, List.set_cons_succ]
          refine hK.out _ _ (fun _ => (HBW.out.cell HLB.out).trans HCELL.out) (fun hHeld => ?_)
          replace hHeld := hHeld (by decide)
          clear hK K
          refine Tillst.one (i := 15) (o := rd15) (by kernel_rfl) rfl ?_
          intro K hK
          refine step_empty rfl rfl w1.heap.size HZW.out ?_
          intro ga v_4 hg hown hgrow
          have HEa := Lib.hid hown
          have HGa := Lib.hid hg.1
          have HNE := Lib.hid (show ga ≠ gb by have h := HGb.out.2; have := hg.2; omega)
          have HEb := Lib.hid (own_none HEb.out hgrow)
          have HGb := Lib.hid (show w1.heap.size ≤ gb ∧ gb < v_4.heap.size from ⟨HGb.out.1, Nat.lt_of_lt_of_le HGb.out.2 hgrow.size⟩)
          have HBW := Lib.hid (HBW.out.grown hgrow HZW.out (fun g h => by cases h))
          have HZW := Lib.hid (Nat.le_trans HZW.out hgrow.size)
          clear hg hown hgrow
          simp only [rd15, Act.put, List.setIfInBounds_toArray, List.set_cons_zero, List.set_cons_succ]
          refine hK.out _ _ (fun _ => (HBW.out.cell HLB.out).trans HCELL.out) (fun hHeld => ?_)
          replace hHeld := hHeld (by decide)
          clear hK K
          refine Tillst.one (i := 19) (o := rd19) (by kernel_rfl) rfl ?_
          intro K hK
          refine step_append_rowG (mk := Value.int .u8) (d := 0) rfl (.tmp 42) (.tmp 45) 24 rfl w1.heap.size 5 i0 (.int .u8 0) 1 Try.underlying24 hi hz0 hz1 hz2 rfl (fun _ => rfl) (.slice (some ⟨ga, 0, none⟩) 0 0) 0 [] rfl HEa.out (fun _ => True) (some ⟨b0, o0 + 21, none⟩) (klenOf xs) (c - 21) (keyOf xs) rfl ((HSRC.out.below HBW.out).part 21 (klenOf xs) HKN.out) (fun h => by cases h) (by unfold maxLen; omega) (by omega) HZW.out ?_
          intro v19 v_5 hown hgrow hblk
          rw [List.nil_append, Nat.zero_add] at hown
          have HO3 := Lib.hid hown
          have HVN := Lib.hid (show v19.ownBlock ≠ some gb from fun h => by rcases hblk with h2 | h2 <;> rw [h] at h2 <;> simp [Value.ownBlock] at h2; exact HNE.out h2.symm; have := HGb.out.2; omega)
          have HEb := Lib.hid (HEb.out.kept hgrow (.inr (fun h => HNE.out (by simpa [Value.ownBlock] using h.symm))))
          have HGb := Lib.hid (show w1.heap.size ≤ gb ∧ gb < v_5.heap.size from ⟨HGb.out.1, Nat.lt_of_lt_of_le HGb.out.2 hgrow.size⟩)
          have HBW := Lib.hid (HBW.out.grown hgrow HZW.out (fun g h => by (have h' : ga = g := (by simpa [Value.ownBlock] using h)); have := HGa.out.1; omega))
          have HZW := Lib.hid (Nat.le_trans HZW.out hgrow.size)
          clear hown hgrow hblk
          simp only [rd19, Act.put, List.setIfInBounds_toArray, List.set_cons_zero, List.set_cons_succ]
          refine hK.out _ _ (fun _ => (HBW.out.cell HLB.out).trans HCELL.out) (fun hHeld => ?_)
          replace hHeld := hHeld (by decide)
          clear hK K
          refine Tillst.one (i := 25) (o := rd25) (by kernel_rfl) rfl ?_
          intro K hK
          refine step_append_rowG (mk := Value.int .u8) (d := 0) rfl (.tmp 47) (.tmp 51) 24 rfl w1.heap.size 5 i0 (.int .u8 0) 1 Try.underlying24 hi hz0 hz1 hz2 rfl (fun _ => rfl) (.slice (some ⟨gb, 0, none⟩) 0 0) 0 [] rfl HEb.out (fun _ => True) (some ⟨b0, ow, none⟩) (vlenOf xs) cw (valOf xs) rfl (HRW.out _ (HSRC.out.below HBW.out)) (fun h => by cases h) (by unfold maxLen; omega) (by omega) HZW.out ?_
          intro v25 vz hown hgrow hblk
          rw [List.nil_append, Nat.zero_add] at hown
          have hO3 := HO3.out.kept hgrow (.inr (fun h => HVN.out (by simpa [Value.ownBlock] using h)))
          obtain ⟨A5, c5, rfl, hc1, hn1, hr1⟩ := rowG_own 0 hO3
          obtain ⟨A6, c6, rfl, hc2, hn2, hr2⟩ := rowG_own 0 hown
          have HR1 := Lib.hid hr1
          have HR2 := Lib.hid hr2
          have HBW := Lib.hid (HBW.out.grown hgrow HZW.out (fun g h => by (have h' : gb = g := (by simpa [Value.ownBlock] using h)); have := HGb.out.1; omega))
          clear hown hgrow hblk hO3 hc1 hn1 hr1 hc2 hn2 hr2
          simp only [rd25, Act.put, List.setIfInBounds_toArray, List.set_cons_zero, List.set_cons_succ]
          refine hK.out _ _ (fun _ => (HBW.out.cell HLB.out).trans HCELL.out) (fun hHeld => ?_)
          replace hHeld := hHeld (by decide)
          clear hK K
          refine Tillst.take (i := 26) (oi := rd26) (v := ?_) rfl (by kernel_rfl) (by kernel_rfl) (by kernel_rfl) (by kernel_rfl) (fun _ _ _ h => h) (by rfl) ?_ hHeld ?_
          rotate_left
          · intro W hSW; (try dsimp only at hSW); unfold rd26; go_simp; with_reducible rfl
          simp only [rd26, Act.put, List.setIfInBounds_toArray, List.set_cons_zero, List.set_cons_succ]
          refine Tillst.one (i := 28) (o := rd28) (by kernel_rfl) rfl ?_
          intro K hK
          have HZ := Lib.hid (HRES.out.below HBW.out HRES.out.lt)
          refine step_store_row (.tmp 2) (.tmp 53) 26 rfl rfl w.heap.size (recC (kindOf xs) (flagsOf xs) (expOf xs) (seqOf xs) A5 (klenOf xs) c5 A6 (vlenOf xs) c6) rfl rfl 26 _ HZ.out size_rec rfl (one_rec _ _ _ _ _ _ _ _ _ _) ?_
          simp only [rd28, Act.put, List.setIfInBounds_toArray, List.set_cons_zero, List.set_cons_succ]
          refine hK.out _ _ (fun _ => (World.cell?_of_block (setRow_other _ _ _ _ (Nat.ne_of_lt HLW.out))).trans ((HBW.out.cell HLB.out).trans HCELL.out)) (fun hHeld => ?_)
          replace hHeld := hHeld (by decide)
          clear hK K
          refine Tillst.take (i := 29) (oi := rd29) (v := ?_) rfl (by kernel_rfl) (by kernel_rfl) (by kernel_rfl) (by kernel_rfl) (fun _ _ _ h => h) (by rfl) ?_ hHeld ?_
          rotate_left
          · intro W hSW; (try dsimp only at hSW); unfold rd29; go_simp; with_reducible rfl
          simp only [rd29, Act.put, List.setIfInBounds_toArray, List.set_cons_zero, List.set_cons_succ]
          refine Tillst.take (i := 30) (oi := rd30) (v := ?_) rfl (by kernel_rfl) (by kernel_rfl) (by kernel_rfl) (by kernel_rfl) (fun _ _ _ h => h) (by rfl) ?_ hHeld ?_
          rotate_left
          · intro W hSW; (try dsimp only at hSW); unfold rd30; go_simp; with_reducible rfl
          simp only [rd30, Act.put, List.setIfInBounds_toArray, List.set_cons_zero, List.set_cons_succ]
          refine Tillst.done (by kernel_rfl) ?_ _
          refine NoPanic.normal ?_
          clear hHeld
          go_wp2_with (with_reducible refine halt_end ?_)
          have hst := setRow_heap _ _ _ (recC (kindOf xs) (flagsOf xs) (expOf xs) (seqOf xs) A5 (klenOf xs) c5 A6 (vlenOf xs) c6) _ _ HZ.out
          exact Halt.ret (results_row3 (p := 2) (u := 3) (v := 4) rfl _ _ w.heap.size 26 (recC (kindOf xs) (flagsOf xs) (expOf xs) (seqOf xs) A5 (klenOf xs) c5 A6 (vlenOf xs) c6) _ rfl hst Try.underlying26 rfl size_rec) rfl (rdec_fin xs w w1 vz A5 A6 c5 c6 nd HNN.out HR1.out HR2.out HLW1.out (HB1.out.trans (HBW.out.mono HB1.out.size)))
        · intro K hK
          refine step_empty rfl rfl w1.heap.size HZW.out ?_
          intro ga v_3 hg hown hgrow
          have HEa := Lib.hid hown
          have HGa := Lib.hid hg.1
          have HNE := Lib.hid (show ga ≠ gb by have h := HGb.out.2; have := hg.2; omega)
          have HEb := Lib.hid (own_none HEb.out hgrow)
          have HGb := Lib.hid (show w1.heap.size ≤ gb ∧ gb < v_3.heap.size from ⟨HGb.out.1, Nat.lt_of_lt_of_le HGb.out.2 hgrow.size⟩)
          have HBW := Lib.hid (HBW.out.grown hgrow HZW.out (fun g h => by cases h))
          have HZW := Lib.hid (Nat.le_trans HZW.out hgrow.size)
          clear hg hown hgrow
          simp only [rd15, Act.put, List.setIfInBounds_toArray, List.set_cons_zero, List.set_cons_succ]
          refine hK.out _ _ (fun _ => (HBW.out.cell HLB.out).trans HCELL.out) (fun hHeld => ?_)
          replace hHeld := hHeld (by decide)
          clear hK K
          refine Tillst.one (i := 14) (o := rd14) (by kernel_rfl) rfl ?_
          intro K hK
          refine step_call 34 #[.tmp 40] #[24] rfl rfl Try.func34 rfl rfl [.slice (some ⟨b0, o0 + 9, none⟩) 8 (c - 9)] rfl ?_
          refine (rnum_any _ 8 _ _ (fun _ => True) _ ((HSRC.out.below HBW.out).part 9 8 (by omega)) (bytes_part HBY.out 9 8) (by omega)).mono ?_
          rintro e w' ⟨rfl, rfl⟩
          rw [HNS.out]
          refine ⟨_, rfl, ?_⟩
          simp only [rd14, Act.put, List.setIfInBounds_toArray, List.set_cons_zero, List.set_cons_succ]
          refine hK.out _ _ (fun _ => (HBW.out.cell HLB.out).trans HCELL.out) (fun hHeld => ?_)
          replace hHeld := hHeld (by decide)
          clear hK K
          refine Tillst.one (i := 19) (o := rd19) (by kernel_rfl) rfl ?_
          intro K hK
          refine step_append_rowG (mk := Value.int .u8) (d := 0) rfl (.tmp 42) (.tmp 45) 24 rfl w1.heap.size 5 i0 (.int .u8 0) 1 Try.underlying24 hi hz0 hz1 hz2 rfl (fun _ => rfl) (.slice (some ⟨ga, 0, none⟩) 0 0) 0 [] rfl HEa.out (fun _ => True) (some ⟨b0, o0 + 21, none⟩) (klenOf xs) (c - 21) (keyOf xs) rfl ((HSRC.out.below HBW.out).part 21 (klenOf xs) HKN.out) (fun h => by cases h) (by unfold maxLen; omega) (by omega) HZW.out ?_
          intro v19 v_5 hown hgrow hblk
          rw [List.nil_append, Nat.zero_add] at hown
          have HO3 := Lib.hid hown
          have HVN := Lib.hid (show v19.ownBlock ≠ some gb from fun h => by rcases hblk with h2 | h2 <;> rw [h] at h2 <;> simp [Value.ownBlock] at h2; exact HNE.out h2.symm; have := HGb.out.2; omega)
          have HEb := Lib.hid (HEb.out.kept hgrow (.inr (fun h => HNE.out (by simpa [Value.ownBlock] using h.symm))))
          have HGb := Lib.hid (show w1.heap.size ≤ gb ∧ gb < v_5.heap.size from ⟨HGb.out.1, Nat.lt_of_lt_of_le HGb.out.2 hgrow.size⟩)
          have HBW := Lib.hid (HBW.out.grown hgrow HZW.out (fun g h => by (have h' : ga = g := (by simpa [Value.ownBlock] using h)); have := HGa.out.1; omega))
          have HZW := Lib.hid (Nat.le_trans HZW.out hgrow.size)
          clear hown hgrow hblk
          simp only [rd19, Act.put, List.setIfInBounds_toArray, List.set_cons_zero, List.set_cons_succ]
          refine hK.out _ _ (fun _ => (HBW.out.cell HLB.out).trans HCELL.out) (fun hHeld => ?_)
          replace hHeld := hHeld (by decide)
          clear hK K
          refine Tillst.one (i := 25) (o := rd25) (by kernel_rfl) rfl ?_
          intro K hK
          refine step_append_rowG (mk := Value.int .u8) (d := 0) rfl (.tmp 47) (.tmp 51) 24 rfl w1.heap.size 5 i0 (.int .u8 0) 1 Try.underlying24 hi hz0 hz1 hz2 rfl (fun _ => rfl) (.slice (some ⟨gb, 0, none⟩) 0 0) 0 [] rfl HEb.out (fun _ => True) (some ⟨b0, ow, none⟩) (vlenOf xs) cw (valOf xs) rfl (HRW.out _ (HSRC.out.below HBW.out)) (fun h => by cases h) (by unfold maxLen; omega) (by omega) HZW.out ?_
          intro v25 vz hown hgrow hblk
          rw [List.nil_append, Nat.zero_add] at hown
          have hO3 := HO3.out.kept hgrow (.inr (fun h => HVN.out (by simpa [Value.ownBlock] using h)))
          obtain ⟨A5, c5, rfl, hc1, hn1, hr1⟩ := rowG_own 0 hO3
          obtain ⟨A6, c6, rfl, hc2, hn2, hr2⟩ := rowG_own 0 hown
          have HR1 := Lib.hid hr1
          have HR2 := Lib.hid hr2
          have HBW := Lib.hid (HBW.out.grown hgrow HZW.out (fun g h => by (have h' : gb = g := (by simpa [Value.ownBlock] using h)); have := HGb.out.1; omega))
          clear hown hgrow hblk hO3 hc1 hn1 hr1 hc2 hn2 hr2
          simp only [rd25, Act.put, List.setIfInBounds_toArray, List.set_cons_zero, List.set_cons_succ]
          refine hK.out _ _ (fun _ => (HBW.out.cell HLB.out).trans HCELL.out) (fun hHeld => ?_)
          replace hHeld := hHeld (by decide)
          clear hK K
          refine Tillst.take (i := 26) (oi := rd26) (v := ?_) rfl (by kernel_rfl) (by kernel_rfl) (by kernel_rfl) (by kernel_rfl) (fun _ _ _ h => h) (by rfl) ?_ hHeld ?_
          rotate_left
          · intro W hSW; (try dsimp only at hSW); unfold rd26; go_simp; with_reducible rfl
          simp only [rd26, Act.put, List.setIfInBounds_toArray, List.set_cons_zero, List.set_cons_succ]
          refine Tillst.one (i := 28) (o := rd28) (by kernel_rfl) rfl ?_
          intro K hK
          have HZ := Lib.hid (HRES.out.below HBW.out HRES.out.lt)
          refine step_store_row (.tmp 2) (.tmp 53) 26 rfl rfl w.heap.size (recC (kindOf xs) (flagsOf xs) (expOf xs) (seqOf xs) A5 (klenOf xs) c5 A6 (vlenOf xs) c6) rfl rfl 26 _ HZ.out size_rec rfl (one_rec _ _ _ _ _ _ _ _ _ _) ?_
          simp only [rd28, Act.put, List.setIfInBounds_toArray, List.set_cons_zero, List.set_cons_succ]
          refine hK.out _ _ (fun _ => (World.cell?_of_block (setRow_other _ _ _ _ (Nat.ne_of_lt HLW.out))).trans ((HBW.out.cell HLB.out).trans HCELL.out)) (fun hHeld => ?_)
          replace hHeld := hHeld (by decide)
          clear hK K
          refine Tillst.take (i := 29) (oi := rd29) (v := ?_) rfl (by kernel_rfl) (by kernel_rfl) (by kernel_rfl) (by kernel_rfl) (fun _ _ _ h => h) (by rfl) ?_ hHeld ?_
          rotate_left
          · intro W hSW; (try dsimp only at hSW); unfold rd29; go_simp; with_reducible rfl
          simp only [rd29, Act.put, List.setIfInBounds_toArray, List.set_cons_zero, List.set_cons_succ]
          refine Tillst.take (i := 30) (oi := rd30) (v := ?_) rfl (by kernel_rfl) (by kernel_rfl) (by kernel_rfl) (by kernel_rfl) (fun _ _ _ h => h) (by rfl) ?_ hHeld ?_
          rotate_left
          · intro W hSW; (try dsimp only at hSW); unfold rd30; go_simp; with_reducible rfl
          simp only [rd30, Act.put, List.setIfInBounds_toArray, List.set_cons_zero, List.set_cons_succ]
          refine Tillst.done (by kernel_rfl) ?_ _
          refine NoPanic.normal ?_
          clear hHeld
          go_wp2_with (with_reducible refine halt_end ?_)
          have hst := setRow_heap _ _ _ (recC (kindOf xs) (flagsOf xs) (expOf xs) (seqOf xs) A5 (klenOf xs) c5 A6 (vlenOf xs) c6) _ _ HZ.out
          exact Halt.ret (results_row3 (p := 2) (u := 3) (v := 4) rfl _ _ w.heap.size 26 (recC (kindOf xs) (flagsOf xs) (expOf xs) (seqOf xs) A5 (klenOf xs) c5 A6 (vlenOf xs) c6) _ rfl hst Try.underlying26 rfl size_rec) rfl (rdec_fin xs w w1 vz A5 A6 c5 c6 nd HNN.out HR1.out HR2.out HLW1.out (HB1.out.trans (HBW.out.mono HB1.out.size)))
      · intro K hK
        refine step_empty rfl rfl w1.heap.size HZW.out ?_
        intro ga v_2 hg hown hgrow
        have HEa := Lib.hid hown
        have HGa := Lib.hid hg.1
        have HNE := Lib.hid (show ga ≠ gb by have h := HGb.out.2; have := hg.2; omega)
        have HEb := Lib.hid (own_none HEb.out hgrow)
        have HGb := Lib.hid (show w1.heap.size ≤ gb ∧ gb < v_2.heap.size from ⟨HGb.out.1, Nat.lt_of_lt_of_le HGb.out.2 hgrow.size⟩)
        have HBW := Lib.hid (HBW.out.grown hgrow HZW.out (fun g h => by cases h))
        have HZW := Lib.hid (Nat.le_trans HZW.out hgrow.size)
        clear hg hown hgrow
        simp only [rd15, Act.put, List.setIfInBounds_toArray, List.set_cons_zero, List.set_cons_succ]
        refine hK.out _ _ (fun _ => (HBW.out.cell HLB.out).trans HCELL.out) (fun hHeld => ?_)
        replace hHeld := hHeld (by decide)
        clear hK K
        refine Tillst.one (i := 10) (o := rd10) (by kernel_rfl) rfl ?_
        intro K hK
        refine step_call 34 #[.tmp 36] #[24] rfl rfl Try.func34 rfl rfl [.slice (some ⟨b0, o0 + 5, none⟩) 4 (c - 5)] rfl ?_
        refine (rnum_any _ 4 _ _ (fun _ => True) _ ((HSRC.out.below HBW.out).part 5 4 (by omega)) (bytes_part HBY.out 5 4) (by omega)).mono ?_
        rintro e w' ⟨rfl, rfl⟩
        rw [HNX.out]
        refine ⟨_, rfl, ?_⟩
        simp only [rd10, Act.put, List.setIfInBounds_toArray, List.set_cons_zero, List.set_cons_succ]
        refine hK.out _ _ (fun _ => (HBW.out.cell HLB.out).trans HCELL.out) (fun hHeld => ?_)
        replace hHeld := hHeld (by decide)
        clear hK K
        refine Tillst.take (i := 11) (oi := rd11) (v := ?_) rfl (by kernel_rfl) (by kernel_rfl) (by kernel_rfl) (by kernel_rfl) (fun _ _ _ h => h) (by rfl) ?_ hHeld ?_
        rotate_left
        · intro W hSW; (try dsimp only at hSW); unfold rd11; go_simp; with_reducible rfl
        simp only [rd11, Act.put, List.setIfInBounds_toArray, List.set_cons_zero, List.set_cons_succ]
        refine Tillst.one (i := 14) (o := rd14) (by kernel_rfl) rfl ?_
        intro K hK
        refine step_call 34 #[.tmp 40] #[24] rfl rfl Try.func34 rfl rfl [.slice (some ⟨b0, o0 + 9, none⟩) 8 (c - 9)] rfl ?_
        refine (rnum_any _ 8 _ _ (fun _ => True) _ ((HSRC.out.below HBW.out).part 9 8 (by omega)) (bytes_part HBY.out 9 8) (by omega)).mono ?_
        rintro e w' ⟨rfl, rfl⟩
        rw [HNS.out]
        refine ⟨_, rfl, ?_⟩
        simp only [rd14, Act.put, List.setIfInBounds_toArray, List.set_cons_zero, List.set_cons_succ]
        refine hK.out _ _ (fun _ => (HBW.out.cell HLB.out).trans HCELL.out) (fun hHeld => ?_)
        replace hHeld := hHeld (by decide)
        clear hK K
        refine Tillst.one (i := 19) (o := rd19) (by kernel_rfl) rfl ?_
        intro K hK
        refine step_append_rowG (mk := Value.int .u8) (d := 0) rfl (.tmp 42) (.tmp 45) 24 rfl w1.heap.size 5 i0 (.int .u8 0) 1 Try.underlying24 hi hz0 hz1 hz2 rfl (fun _ => rfl) (.slice (some ⟨ga, 0, none⟩) 0 0) 0 [] rfl HEa.out (fun _ => True) (some ⟨b0, o0 + 21, none⟩) (klenOf xs) (c - 21) (keyOf xs) rfl ((HSRC.out.below HBW.out).part 21 (klenOf xs) HKN.out) (fun h => by cases h) (by unfold maxLen; omega) (by omega) HZW.out ?_
        intro v19 v_5 hown hgrow hblk
        rw [List.nil_append, Nat.zero_add] at hown
        have HO3 := Lib.hid hown
        have HVN := Lib.hid (show v19.ownBlock ≠ some gb from fun h => by rcases hblk with h2 | h2 <;> rw [h] at h2 <;> simp [Value.ownBlock] at h2; exact HNE.out h2.symm; have := HGb.out.2; omega)
        have HEb := Lib.hid (HEb.out.kept hgrow (.inr (fun h => HNE.out (by simpa [Value.ownBlock] using h.symm))))
        have HGb := Lib.hid (show w1.heap.size ≤ gb ∧ gb < v_5.heap.size from ⟨HGb.out.1, Nat.lt_of_lt_of_le HGb.out.2 hgrow.size⟩)
        have HBW := Lib.hid (HBW.out.grown hgrow HZW.out (fun g h => by (have h' : ga = g := (by simpa [Value.ownBlock] using h)); have := HGa.out.1; omega))
        have HZW := Lib.hid (Nat.le_trans HZW.out hgrow.size)
        clear hown hgrow hblk
        simp only [rd19, Act.put, List.setIfInBounds_toArray, List.set_cons_zero, List.set_cons_succ]
        refine hK.out _ _ (fun _ => (HBW.out.cell HLB.out).trans HCELL.out) (fun hHeld => ?_)
        replace hHeld := hHeld (by decide)
        clear hK K
        refine Tillst.one (i := 25) (o := rd25) (by kernel_rfl) rfl ?_
        intro K hK
        refine step_append_rowG (mk := Value.int .u8) (d := 0) rfl (.tmp 47) (.tmp 51) 24 rfl w1.heap.size 5 i0 (.int .u8 0) 1 Try.underlying24 hi hz0 hz1 hz2 rfl (fun _ => rfl) (.slice (some ⟨gb, 0, none⟩) 0 0) 0 [] rfl HEb.out (fun _ => True) (some ⟨b0, ow, none⟩) (vlenOf xs) cw (valOf xs) rfl (HRW.out _ (HSRC.out.below HBW.out)) (fun h => by cases h) (by unfold maxLen; omega) (by omega) HZW.out ?_
        intro v25 vz hown hgrow hblk
        rw [List.nil_append, Nat.zero_add] at hown
        have hO3 := HO3.out.kept hgrow (.inr (fun h => HVN.out (by simpa [Value.ownBlock] using h)))
        obtain ⟨A5, c5, rfl, hc1, hn1, hr1⟩ := rowG_own 0 hO3
        obtain ⟨A6, c6, rfl, hc2, hn2, hr2⟩ := rowG_own 0 hown
        have HR1 := Lib.hid hr1
        have HR2 := Lib.hid hr2
        have HBW := Lib.hid (HBW.out.grown hgrow HZW.out (fun g h => by (have h' : gb = g := (by simpa [Value.ownBlock] using h)); have := HGb.out.1; omega))
        clear hown hgrow hblk hO3 hc1 hn1 hr1 hc2 hn2 hr2
        simp only [rd25, Act.put, List.setIfInBounds_toArray, List.set_cons_zero, List.set_cons_succ]
        refine hK.out _ _ (fun _ => (HBW.out.cell HLB.out).trans HCELL.out) (fun hHeld => ?_)
        replace hHeld := hHeld (by decide)
        clear hK K
        refine Tillst.take (i := 26) (oi := rd26) (v := ?_) rfl (by kernel_rfl) (by kernel_rfl) (by kernel_rfl) (by kernel_rfl) (fun _ _ _ h => h) (by rfl) ?_ hHeld ?_
        rotate_left
        · intro W hSW; (try dsimp only at hSW); unfold rd26; go_simp; with_reducible rfl
        simp only [rd26, Act.put, List.setIfInBounds_toArray, List.set_cons_zero, List.set_cons_succ]
        refine Tillst.one (i := 28) (o := rd28) (by kernel_rfl) rfl ?_
        intro K hK
        have HZ := Lib.hid (HRES.out.below HBW.out HRES.out.lt)
        refine step_store_row (.tmp 2) (.tmp 53) 26 rfl rfl w.heap.size (recC (kindOf xs) (flagsOf xs) (expOf xs) (seqOf xs) A5 (klenOf xs) c5 A6 (vlenOf xs) c6) rfl rfl 26 _ HZ.out size_rec rfl (one_rec _ _ _ _ _ _ _ _ _ _) ?_
        simp only [rd28, Act.put, List.setIfInBounds_toArray, List.set_cons_zero, List.set_cons_succ]
        refine hK.out _ _ (fun _ => (World.cell?_of_block (setRow_other _ _ _ _ (Nat.ne_of_lt HLW.out))).trans ((HBW.out.cell HLB.out).trans HCELL.out)) (fun hHeld => ?_)
        replace hHeld := hHeld (by decide)
        clear hK K
        refine Tillst.take (i := 29) (oi := rd29) (v := ?_) rfl (by kernel_rfl) (by kernel_rfl) (by kernel_rfl) (by kernel_rfl) (fun _ _ _ h => h) (by rfl) ?_ hHeld ?_
        rotate_left
        · intro W hSW; (try dsimp only at hSW); unfold rd29; go_simp; with_reducible rfl
        simp only [rd29, Act.put, List.setIfInBounds_toArray, List.set_cons_zero, List.set_cons_succ]
        refine Tillst.take (i := 30) (oi := rd30) (v := ?_) rfl (by kernel_rfl) (by kernel_rfl) (by kernel_rfl) (by kernel_rfl) (fun _ _ _ h => h) (by rfl) ?_ hHeld ?_
        rotate_left
        · intro W hSW; (try dsimp only at hSW); unfold rd30; go_simp; with_reducible rfl
        simp only [rd30, Act.put, List.setIfInBounds_toArray, List.set_cons_zero, List.set_cons_succ]
        refine Tillst.done (by kernel_rfl) ?_ _
        refine NoPanic.normal ?_
        clear hHeld
        go_wp2_with (with_reducible refine halt_end ?_)
        have hst := setRow_heap _ _ _ (recC (kindOf xs) (flagsOf xs) (expOf xs) (seqOf xs) A5 (klenOf xs) c5 A6 (vlenOf xs) c6) _ _ HZ.out
        exact Halt.ret (results_row3 (p := 2) (u := 3) (v := 4) rfl _ _ w.heap.size 26 (recC (kindOf xs) (flagsOf xs) (expOf xs) (seqOf xs) A5 (klenOf xs) c5 A6 (vlenOf xs) c6) _ rfl hst Try.underlying26 rfl size_rec) rfl (rdec_fin xs w w1 vz A5 A6 c5 c6 nd HNN.out HR1.out HR2.out HLW1.out (HB1.out.trans (HBW.out.mono HB1.out.size)))
    · intro K hK
      refine step_empty rfl rfl w1.heap.size HZW.out ?_
      intro ga v_1 hg hown hgrow
      have HEa := Lib.hid hown
      have HGa := Lib.hid hg.1
      have HNE := Lib.hid (show ga ≠ gb by have h := HGb.out.2; have := hg.2; omega)
      have HEb := Lib.hid (own_none HEb.out hgrow)
      have HGb := Lib.hid (show w1.heap.size ≤ gb ∧ gb < v_1.heap.size from ⟨HGb.out.1, Nat.lt_of_lt_of_le HGb.out.2 hgrow.size⟩)
      have HBW := Lib.hid (HBW.out.grown hgrow HZW.out (fun g h => by cases h))
      have HZW := Lib.hid (Nat.le_trans HZW.out hgrow.size)
      clear hg hown hgrow
      simp only [rd15, Act.put, List.setIfInBounds_toArray, List.set_cons_zero, List.set_cons_succ]
      refine hK.out _ _ (fun _ => (HBW.out.cell HLB.out).trans HCELL.out) (fun hHeld => ?_)
      replace hHeld := hHeld (by decide)
      clear hK K
      refine Tillst.one (i := 6) (o := rd6) (by kernel_rfl) rfl ?_
      intro K hK
      refine step_call 34 #[.tmp 32] #[24] rfl rfl Try.func34 rfl rfl [.slice (some ⟨b0, o0 + 1, none⟩) 4 (c - 1)] rfl ?_
      refine (rnum_any _ 4 _ _ (fun _ => True) _ ((HSRC.out.below HBW.out).part 1 4 (by omega)) (bytes_part HBY.out 1 4) (by omega)).mono ?_
      rintro e w' ⟨rfl, rfl⟩
      rw [HNF.out]
      refine ⟨_, rfl, ?_⟩
      simp only [rd6, Act.put, List.setIfInBounds_toArray, List.set_cons_zero, List.set_cons_succ]
      refine hK.out _ _ (fun _ => (HBW.out.cell HLB.out).trans HCELL.out) (fun hHeld => ?_)
      replace hHeld := hHeld (by decide)
      clear hK K
      refine Tillst.take (i := 7) (oi := rd7) (v := ?_) rfl (by kernel_rfl) (by kernel_rfl) (by kernel_rfl) (by kernel_rfl) (fun _ _ _ h => h) (by rfl) ?_ hHeld ?_
      rotate_left
      · intro W hSW; (try dsimp only at hSW); unfold rd7; go_simp; with_reducible rfl
      simp only [rd7, Act.put, List.setIfInBounds_toArray, List.set_cons_zero, List.set_cons_succ]
      refine Tillst.one (i := 10) (o := rd10) (by kernel_rfl) rfl ?_
      intro K hK
      refine step_call 34 #[.tmp 36] #[24] rfl rfl Try.func34 rfl rfl [.slice (some ⟨b0, o0 + 5, none⟩) 4 (c - 5)] rfl ?_
      refine (rnum_any _ 4 _ _ (fun _ => True) _ ((HSRC.out.below HBW.out).part 5 4 (by omega)) (bytes_part HBY.out 5 4) (by omega)).mono ?_
      rintro e w' ⟨rfl, rfl⟩
      rw [HNX.out]
      refine ⟨_, rfl, ?_⟩
      simp only [rd10, Act.put, List.setIfInBounds_toArray, List.set_cons_zero, List.set_cons_succ]
      refine hK.out _ _ (fun _ => (HBW.out.cell HLB.out).trans HCELL.out) (fun hHeld => ?_)
      replace hHeld := hHeld (by decide)
      clear hK K
      refine Tillst.take (i := 11) (oi := rd11) (v := ?_) rfl (by kernel_rfl) (by kernel_rfl) (by kernel_rfl) (by kernel_rfl) (fun _ _ _ h => h) (by rfl) ?_ hHeld ?_
      rotate_left
      · intro W hSW; (try dsimp only at hSW); unfold rd11; go_simp; with_reducible rfl
      simp only [rd11, Act.put, List.setIfInBounds_toArray, List.set_cons_zero, List.set_cons_succ]
      refine Tillst.one (i := 14) (o := rd14) (by kernel_rfl) rfl ?_
      intro K hK
      refine step_call 34 #[.tmp 40] #[24] rfl rfl Try.func34 rfl rfl [.slice (some ⟨b0, o0 + 9, none⟩) 8 (c - 9)] rfl ?_
      refine (rnum_any _ 8 _ _ (fun _ => True) _ ((HSRC.out.below HBW.out).part 9 8 (by omega)) (bytes_part HBY.out 9 8) (by omega)).mono ?_
      rintro e w' ⟨rfl, rfl⟩
      rw [HNS.out]
      refine ⟨_, rfl, ?_⟩
      simp only [rd14, Act.put, List.setIfInBounds_toArray, List.set_cons_zero, List.set_cons_succ]
      refine hK.out _ _ (fun _ => (HBW.out.cell HLB.out).trans HCELL.out) (fun hHeld => ?_)
      replace hHeld := hHeld (by decide)
      clear hK K
      refine Tillst.one (i := 19) (o := rd19) (by kernel_rfl) rfl ?_
      intro K hK
      refine step_append_rowG (mk := Value.int .u8) (d := 0) rfl (.tmp 42) (.tmp 45) 24 rfl w1.heap.size 5 i0 (.int .u8 0) 1 Try.underlying24 hi hz0 hz1 hz2 rfl (fun _ => rfl) (.slice (some ⟨ga, 0, none⟩) 0 0) 0 [] rfl HEa.out (fun _ => True) (some ⟨b0, o0 + 21, none⟩) (klenOf xs) (c - 21) (keyOf xs) rfl ((HSRC.out.below HBW.out).part 21 (klenOf xs) HKN.out) (fun h => by cases h) (by unfold maxLen; omega) (by omega) HZW.out ?_
      intro v19 v_5 hown hgrow hblk
      rw [List.nil_append, Nat.zero_add] at hown
      have HO3 := Lib.hid hown
      have HVN := Lib.hid (show v19.ownBlock ≠ some gb from fun h => by rcases hblk with h2 | h2 <;> rw [h] at h2 <;> simp [Value.ownBlock] at h2; exact HNE.out h2.symm; have := HGb.out.2; omega)
      have HEb := Lib.hid (HEb.out.kept hgrow (.inr (fun h => HNE.out (by simpa [Value.ownBlock] using h.symm))))
      have HGb := Lib.hid (show w1.heap.size ≤ gb ∧ gb < v_5.heap.size from ⟨HGb.out.1, Nat.lt_of_lt_of_le HGb.out.2 hgrow.size⟩)
      have HBW := Lib.hid (HBW.out.grown hgrow HZW.out (fun g h => by (have h' : ga = g := (by simpa [Value.ownBlock] using h)); have := HGa.out.1; omega))
      have HZW := Lib.hid (Nat.le_trans HZW.out hgrow.size)
      clear hown hgrow hblk
      simp only [rd19, Act.put, List.setIfInBounds_toArray, List.set_cons_zero, List.set_cons_succ]
      refine hK.out _ _ (fun _ => (HBW.out.cell HLB.out).trans HCELL.out) (fun hHeld => ?_)
      replace hHeld := hHeld (by decide)
      clear hK K
      refine Tillst.one (i := 25) (o := rd25) (by kernel_rfl) rfl ?_
      intro K hK
      refine step_append_rowG (mk := Value.int .u8) (d := 0) rfl (.tmp 47) (.tmp 51) 24 rfl w1.heap.size 5 i0 (.int .u8 0) 1 Try.underlying24 hi hz0 hz1 hz2 rfl (fun _ => rfl) (.slice (some ⟨gb, 0, none⟩) 0 0) 0 [] rfl HEb.out (fun _ => True) (some ⟨b0, ow, none⟩) (vlenOf xs) cw (valOf xs) rfl (HRW.out _ (HSRC.out.below HBW.out)) (fun h => by cases h) (by unfold maxLen; omega) (by omega) HZW.out ?_
      intro v25 vz hown hgrow hblk
      rw [List.nil_append, Nat.zero_add] at hown
      have hO3 := HO3.out.kept hgrow (.inr (fun h => HVN.out (by simpa [Value.ownBlock] using h)))
      obtain ⟨A5, c5, rfl, hc1, hn1, hr1⟩ := rowG_own 0 hO3
      obtain ⟨A6, c6, rfl, hc2, hn2, hr2⟩ := rowG_own 0 hown
      have HR1 := Lib.hid hr1
      have HR2 := Lib.hid hr2
      have HBW := Lib.hid (HBW.out.grown hgrow HZW.out (fun g h => by (have h' : gb = g := (by simpa [Value.ownBlock] using h)); have := HGb.out.1; omega))
      clear hown hgrow hblk hO3 hc1 hn1 hr1 hc2 hn2 hr2
      simp only [rd25, Act.put, List.setIfInBounds_toArray, List.set_cons_zero, List.set_cons_succ]
      refine hK.out _ _ (fun _ => (HBW.out.cell HLB.out).trans HCELL.out) (fun hHeld => ?_)
      replace hHeld := hHeld (by decide)
      clear hK K
      refine Tillst.take (i := 26) (oi := rd26) (v := ?_) rfl (by kernel_rfl) (by kernel_rfl) (by kernel_rfl) (by kernel_rfl) (fun _ _ _ h => h) (by rfl) ?_ hHeld ?_
      rotate_left
      · intro W hSW; (try dsimp only at hSW); unfold rd26; go_simp; with_reducible rfl
      simp only [rd26, Act.put, List.setIfInBounds_toArray, List.set_cons_zero, List.set_cons_succ]
      refine Tillst.one (i := 28) (o := rd28) (by kernel_rfl) rfl ?_
      intro K hK
      have HZ := Lib.hid (HRES.out.below HBW.out HRES.out.lt)
      refine step_store_row (.tmp 2) (.tmp 53) 26 rfl rfl w.heap.size (recC (kindOf xs) (flagsOf xs) (expOf xs) (seqOf xs) A5 (klenOf xs) c5 A6 (vlenOf xs) c6) rfl rfl 26 _ HZ.out size_rec rfl (one_rec _ _ _ _ _ _ _ _ _ _) ?_
      simp only [rd28, Act.put, List.setIfInBounds_toArray, List.set_cons_zero, List.set_cons_succ]
      refine hK.out _ _ (fun _ => (World.cell?_of_block (setRow_other _ _ _ _ (Nat.ne_of_lt HLW.out))).trans ((HBW.out.cell HLB.out).trans HCELL.out)) (fun hHeld => ?_)
      replace hHeld := hHeld (by decide)
      clear hK K
      refine Tillst.take (i := 29) (oi := rd29) (v := ?_) rfl (by kernel_rfl) (by kernel_rfl) (by kernel_rfl) (by kernel_rfl) (fun _ _ _ h => h) (by rfl) ?_ hHeld ?_
      rotate_left
      · intro W hSW; (try dsimp only at hSW); unfold rd29; go_simp; with_reducible rfl
      simp only [rd29, Act.put, List.setIfInBounds_toArray, List.set_cons_zero, List.set_cons_succ]
      refine Tillst.take (i := 30) (oi := rd30) (v := ?_) rfl (by kernel_rfl) (by kernel_rfl) (by kernel_rfl) (by kernel_rfl) (fun _ _ _ h => h) (by rfl) ?_ hHeld ?_
      rotate_left
      · intro W hSW; (try dsimp only at hSW); unfold rd30; go_simp; with_reducible rfl
      simp only [rd30, Act.put, List.setIfInBounds_toArray, List.set_cons_zero, List.set_cons_succ]
      refine Tillst.done (by kernel_rfl) ?_ _
      refine NoPanic.normal ?_
      clear hHeld
      go_wp2_with (with_reducible refine halt_end ?_)
      have hst := setRow_heap _ _ _ (recC (kindOf xs) (flagsOf xs) (expOf xs) (seqOf xs) A5 (klenOf xs) c5 A6 (vlenOf xs) c6) _ _ HZ.out
      exact Halt.ret (results_row3 (p := 2) (u := 3) (v := 4) rfl _ _ w.heap.size 26 (recC (kindOf xs) (flagsOf xs) (expOf xs) (seqOf xs) A5 (klenOf xs) c5 A6 (vlenOf xs) c6) _ rfl hst Try.underlying26 rfl size_rec) rfl (rdec_fin xs w w1 vz A5 A6 c5 c6 nd HNN.out HR1.out HR2.out HLW1.out (HB1.out.trans (HBW.out.mono HB1.out.size)))

end Go.Proofs.Ytehldhdpeefljaa
