/- Texts of LogScans, packed. -/
import Derived.Test.YtknfblfnfoibkaaGreatPackLogScans4
set_option linter.unusedVariables false
set_option linter.unusedSimpArgs false
set_option maxRecDepth 100000
set_option maxHeartbeats 16000000
namespace Go.Proofs.YtknfblfnfoibkaaGreat
section
open Go.RowKit
def RDecTold (xs : List Int) (w : World) (e : Ending) (w' : World) : Prop :=
 ∃ A1 c1 A2 c2, e = .returned (.tuple #[.agg #[.int .i64 (kindOf xs), .int .u32 (flagsOf xs), .int .u32 (expOf xs), .int .u64 (seqOf xs), .slice A1 (klenOf xs) c1, .slice A2 (vlenOf xs) c2], .int .i64 ((needOf xs : Nat) : Int), .int .i64 0]) ∧
  RowI .u8 w' (fun b => w.heap.size ≤ b ∧ b < w'.heap.size) A1 (klenOf xs) (keyOf xs) ∧ RowI .u8 w' (fun b => w.heap.size ≤ b ∧ b < w'.heap.size) A2 (vlenOf xs) (valOf xs) ∧ Below w.heap.size w w'
section
variable {P : Program} {ops : Array Oper} {Q : Exit → Act → World → Prop} {md : Region.Mode} {S : World → Prop} {st : List Nat}
theorem Tillst.three {i j m : Nat} {o o' o'' : Oper} {k : Nat} {l : Array Bool} {a : Act} {w : World} (hr : Region.ready md ops l = [i, j, m]) (ho : ops[i]? = some o) (ho' : ops[j]? = some o') (ho'' : ops[m]? = some o'')
 (h : ∀ K : Act → World → Prop, Shut (∀ b v, (st.contains i = false → S v) → ((st.contains i = false → S v) → Tillst P md ops Q S st k (l.setIfInBounds i true) b v) → K b v) → if Region.wanted o (yielded ops a.tmps) = true then Oper.wp P o a w K Q else K (a.put o.dst undef) w)
 (h' : ∀ K : Act → World → Prop, Shut (∀ b v, (st.contains j = false → S v) → ((st.contains j = false → S v) → Tillst P md ops Q S st k (l.setIfInBounds j true) b v) → K b v) → if Region.wanted o' (yielded ops a.tmps) = true then Oper.wp P o' a w K Q else K (a.put o'.dst undef) w)
 (h'' : ∀ K : Act → World → Prop, Shut (∀ b v, (st.contains m = false → S v) → ((st.contains m = false → S v) → Tillst P md ops Q S st k (l.setIfInBounds m true) b v) → K b v) → if Region.wanted o'' (yielded ops a.tmps) = true then Oper.wp P o'' a w K Q else K (a.put o''.dst undef) w) :
 Tillst P md ops Q S st (k + 1) l a w := by
 refine ⟨fun e => (by rw [hr] at e; cases e), fun n hn => ?_⟩
 rw [hr] at hn
 rcases List.mem_cons.1 hn with e | hn
 ·rw [e]
  exact Tillst.step (k := k) (l := l) ho fun K hK => h K fun b v h1 h2 => hK b v ⟨h1, h2 h1⟩
 rcases List.mem_cons.1 hn with e | hn
 ·rw [e]
  exact Tillst.step (k := k) (l := l) ho' fun K hK => h' K fun b v h1 h2 => hK b v ⟨h1, h2 h1⟩
 ·obtain rfl : n = m := by simpa using hn
  exact Tillst.step (k := k) (l := l) ho'' fun K hK => h'' K fun b v h1 h2 => hK b v ⟨h1, h2 h1⟩
end
theorem rdec_fin (xs : List Int) (w w1 vz : World) (A5 A6 : Option Addr) (c5 c6 nd : Nat) (hnd : needOf xs = nd) {S1 S2 : Nat → Prop} (hr1 : RowI .u8 vz (fun b => w1.heap.size ≤ b ∧ b < vz.heap.size ∧ S1 b) A5 (klenOf xs) (keyOf xs)) (hr2 : RowI .u8 vz (fun b => w1.heap.size ≤ b ∧ b < vz.heap.size ∧ S2 b) A6 (vlenOf xs) (valOf xs))
 (hlt : w.heap.size < w1.heap.size) (hb : Below w.heap.size w vz) : RDecTold xs w (.returned (.tuple #[.agg (recC (kindOf xs) (flagsOf xs) (expOf xs) (seqOf xs) A5 (klenOf xs) c5 A6 (vlenOf xs) c6), .int .i64 (nd : Int), .int .i64 0])) (vz.setRow w.heap.size (recC (kindOf xs) (flagsOf xs) (expOf xs) (seqOf xs) A5 (klenOf xs) c5 A6 (vlenOf xs) c6)) := by
 subst hnd
 refine ⟨A5, c5, A6, c6, rfl, ?_, ?_, below_setRow hb (nR _) _⟩
 ·exact (hr1.keep (fun p hp => World.cell?_of_block (setRow_other _ _ _ _ (by have := hp.1; omega)))).more (fun b hb => ⟨by have := hb.1; omega, by have := hb.2.1; simpa [World.setRow] using this⟩)
 ·exact (hr2.keep (fun p hp => World.cell?_of_block (setRow_other _ _ _ _ (by have := hp.1; omega)))).more (fun b hb => ⟨by have := hb.1; omega, by have := hb.2.1; simpa [World.setRow] using this⟩)
abbrev rd0 : Oper := ⟨some 27, .move (.tmp 0), 40, "ref.go:71", #[], none⟩
abbrev rd1 : Oper := ⟨some 28, .indexAddr 40 (.tmp 27) (.const (.int .i64 0)), 0, "ref.go:71", #[⟨0, .data⟩], none⟩
abbrev rd2 : Oper := ⟨some 29, .load 5 (.tmp 28), 5, "ref.go:71", #[⟨1, .data⟩], none⟩
abbrev rd3 : Oper := ⟨some 30, .convert 5 3 (.tmp 29), 3, "ref.go:71", #[⟨2, .data⟩], none⟩
abbrev rd4 : Oper := ⟨some 31, .move (.tmp 0), 40, "ref.go:71", #[], none⟩
abbrev rd5 : Oper := ⟨some 32, .slice 40 (.tmp 31) (some (.const (.int .i64 1))) (some (.const (.int .i64 5))) none, 40, "ref.go:71", #[⟨4, .data⟩], none⟩
abbrev rd6 : Oper := ⟨some 33, .call { callee := .value (.func 219), args := #[.tmp 32], argTypes := #[40] }, 34, "ref.go:71", #[⟨5, .data⟩], none⟩
abbrev rd7 : Oper := ⟨some 34, .convert 34 35 (.tmp 33), 35, "ref.go:71", #[⟨6, .data⟩], none⟩
abbrev rd8 : Oper := ⟨some 35, .move (.tmp 0), 40, "ref.go:71", #[], none⟩
abbrev rd9 : Oper := ⟨some 36, .slice 40 (.tmp 35) (some (.const (.int .i64 5))) (some (.const (.int .i64 9))) none, 40, "ref.go:71", #[⟨8, .data⟩], none⟩
abbrev rd10 : Oper := ⟨some 37, .call { callee := .value (.func 219), args := #[.tmp 36], argTypes := #[40] }, 34, "ref.go:71", #[⟨9, .data⟩, ⟨6, .chain⟩], none⟩
abbrev rd11 : Oper := ⟨some 38, .convert 34 35 (.tmp 37), 35, "ref.go:71", #[⟨10, .data⟩], none⟩
abbrev rd12 : Oper := ⟨some 39, .move (.tmp 0), 40, "ref.go:71", #[], none⟩
abbrev rd13 : Oper := ⟨some 40, .slice 40 (.tmp 39) (some (.const (.int .i64 9))) (some (.const (.int .i64 17))) none, 40, "ref.go:71", #[⟨12, .data⟩], none⟩
abbrev rd14 : Oper := ⟨some 41, .call { callee := .value (.func 219), args := #[.tmp 40], argTypes := #[40] }, 34, "ref.go:71", #[⟨13, .data⟩, ⟨10, .chain⟩], none⟩
abbrev rd15 : Oper := ⟨some 42, .buildSlice 40 0 #[], 40, "ref.go:71", #[], none⟩
abbrev rd16 : Oper := ⟨some 43, .move (.tmp 0), 40, "ref.go:71", #[], none⟩
abbrev rd17 : Oper := ⟨some 44, .move (.tmp 7), 3, "ref.go:71", #[], none⟩
abbrev rd18 : Oper := ⟨some 45, .slice 40 (.tmp 43) (some (.const (.int .i64 21))) (some (.tmp 44)) none, 40, "ref.go:71", #[⟨16, .data⟩, ⟨17, .data⟩], none⟩
abbrev rd19 : Oper := ⟨some 46, .call { callee := .builtin Go.Builtin.append, args := #[.tmp 42, .tmp 45], argTypes := #[40, 40] }, 40, "ref.go:71", #[⟨15, .data⟩, ⟨18, .data⟩, ⟨14, .chain⟩], none⟩
abbrev rd20 : Oper := ⟨some 47, .buildSlice 40 0 #[], 40, "ref.go:71", #[], none⟩
abbrev rd21 : Oper := ⟨some 48, .move (.tmp 0), 40, "ref.go:71", #[], none⟩
abbrev rd22 : Oper := ⟨some 49, .move (.tmp 7), 3, "ref.go:71", #[], none⟩
abbrev rd23 : Oper := ⟨some 50, .move (.tmp 5), 3, "ref.go:71", #[], none⟩
abbrev rd24 : Oper := ⟨some 51, .slice 40 (.tmp 48) (some (.tmp 49)) (some (.tmp 50)) none, 40, "ref.go:71", #[⟨21, .data⟩, ⟨22, .data⟩, ⟨23, .data⟩], none⟩
abbrev rd25 : Oper := ⟨some 52, .call { callee := .builtin Go.Builtin.append, args := #[.tmp 47, .tmp 51], argTypes := #[40, 40] }, 40, "ref.go:71", #[⟨20, .data⟩, ⟨24, .data⟩, ⟨19, .chain⟩], none⟩
abbrev rd26 : Oper := ⟨some 53, .build 69 #[(0, .tmp 30), (1, .tmp 34), (2, .tmp 38), (3, .tmp 41), (4, .tmp 46), (5, .tmp 52)], 69, "ref.go:71", #[⟨3, .data⟩, ⟨7, .data⟩, ⟨11, .data⟩, ⟨14, .data⟩, ⟨19, .data⟩, ⟨25, .data⟩], none⟩
abbrev rd27 : Oper := ⟨some 54, .move (.tmp 5), 3, "ref.go:71", #[{ on := 28, ground := Go.Ground.gcOnly Go.Departure.lateStores }], none⟩
abbrev rd28 : Oper := ⟨none, .store 69 (.tmp 2) (.tmp 53), 0, "ref.go:71", #[⟨26, .data⟩, ⟨25, .chain⟩, ⟨0, .phase⟩, ⟨1, .phase⟩, ⟨2, .phase⟩, ⟨3, .phase⟩, ⟨4, .phase⟩, ⟨5, .phase⟩, ⟨6, .phase⟩, ⟨7, .phase⟩, ⟨8, .phase⟩, ⟨9, .phase⟩, ⟨10, .phase⟩, ⟨11, .phase⟩, ⟨12, .phase⟩, ⟨13, .phase⟩, ⟨14, .phase⟩, ⟨15, .phase⟩, ⟨16, .phase⟩, ⟨17, .phase⟩, ⟨18, .phase⟩, ⟨19, .phase⟩, ⟨20, .phase⟩, ⟨21, .phase⟩, ⟨22, .phase⟩, ⟨23, .phase⟩, ⟨24, .phase⟩, ⟨25, .phase⟩, ⟨26, .phase⟩, { on := 27, ground := Go.Ground.textOnly Go.Departure.lateStores }], none⟩
abbrev rd29 : Oper := ⟨some 3, .assign (.tmp 54), 3, "ref.go:71", #[⟨27, .data⟩, ⟨28, .chain⟩, ⟨0, .phase⟩, ⟨1, .phase⟩, ⟨2, .phase⟩, ⟨3, .phase⟩, ⟨4, .phase⟩, ⟨5, .phase⟩, ⟨6, .phase⟩, ⟨7, .phase⟩, ⟨8, .phase⟩, ⟨9, .phase⟩, ⟨10, .phase⟩, ⟨11, .phase⟩, ⟨12, .phase⟩, ⟨13, .phase⟩, ⟨14, .phase⟩, ⟨15, .phase⟩, ⟨16, .phase⟩, ⟨17, .phase⟩, ⟨18, .phase⟩, ⟨19, .phase⟩, ⟨20, .phase⟩, ⟨21, .phase⟩, ⟨22, .phase⟩, ⟨23, .phase⟩, ⟨24, .phase⟩, ⟨25, .phase⟩, ⟨26, .phase⟩, ⟨27, .phase⟩, ⟨28, .phase⟩], none⟩
abbrev rd30 : Oper := ⟨some 4, .assign (.const (.int .i64 0)), 29, "ref.go:71", #[⟨29, .chain⟩, ⟨0, .phase⟩, ⟨1, .phase⟩, ⟨2, .phase⟩, ⟨3, .phase⟩, ⟨4, .phase⟩, ⟨5, .phase⟩, ⟨6, .phase⟩, ⟨7, .phase⟩, ⟨8, .phase⟩, ⟨9, .phase⟩, ⟨10, .phase⟩, ⟨11, .phase⟩, ⟨12, .phase⟩, ⟨13, .phase⟩, ⟨14, .phase⟩, ⟨15, .phase⟩, ⟨16, .phase⟩, ⟨17, .phase⟩, ⟨18, .phase⟩, ⟨19, .phase⟩, ⟨20, .phase⟩, ⟨21, .phase⟩, ⟨22, .phase⟩, ⟨23, .phase⟩, ⟨24, .phase⟩, ⟨25, .phase⟩, ⟨26, .phase⟩, ⟨27, .phase⟩, ⟨28, .phase⟩, ⟨29, .phase⟩], none⟩
theorem rdec_ok (A : Option Addr) (n c : Nat) (xs : List Int) (S : Nat → Prop) (w : World) (hx : RowI .u8 w S A n xs) (hS : ∀ b, S b → b < w.heap.size) (hb : Bytes xs) (hn : 21 ≤ n) (hc : n ≤ c) (hm : MayB xs) (hle : needOf xs ≤ n) :
 Calls Tryz.prog 175 #[.slice A n c] w (RDecTold xs w) := by
 obtain ⟨i0, hi, hz0, hz1, hz2⟩ := info_parts info_u8
 obtain ⟨b0, o0, rfl, hsrc⟩ := src_of hx hS (by omega)
 have hl := hx.1
 have hf := flags_bounds hb
 have hx' := exp_bounds hb
 have hkl := hm.2.2.1
 have hvl := hm.2.2.2.1
 have hkl1 := hm.2.1
 have hk0 : 0 ≤ kindOf xs ∧ kindOf xs ≤ 255 := by rw [kind_first (by omega)]; exact hb 0
 have kw : IntKind.i64.wrap (kindOf xs) = kindOf xs := by rw [IntKind.wrap_i64]; omega
 have fw : IntKind.u32.wrap (flagsOf xs) = flagsOf xs := by rw [IntKind.wrap_u32]; omega
 have xw : IntKind.u32.wrap (expOf xs) = expOf xs := by rw [IntKind.wrap_u32]; omega
 have HNF := hI (show numOf ((xs.drop 1).take 4) = flagsOf xs from rfl)
 have HNX := hI (show numOf ((xs.drop 5).take 4) = expOf xs from rfl)
 have HNS := hI (show numOf ((xs.drop 9).take 8) = seqOf xs from rfl)
 have HX := hI (hx.keep (w' := w.alloc (.cells zeroC 69)) fun p hp => World.cell?_alloc_lt w _ p (hS _ hp))
 have HS0 := hI hsrc
 have HBY := hI hb
 have HM := hI hm
 have HNK := hI (klen_eq hb)
 have hneed : needOf xs = 21 + klenOf xs + vlenOf xs := rfl
 have cell0 : w.cell? ⟨b0, o0, none⟩ = some (.int .u8 (kindOf xs)) := by rw [kind_first (by omega)]; exact hsrc.cell 0 (by omega)
 have HC0 := hI cell0
 have hn0 : 0 < n := by omega
 have hs17 : ∀ W, (Instr.sliceAt 40 (.slice (some ⟨b0, o0, none⟩) n c) (some (.int .i64 17)) (some (.int .i64 19)) none).run Tryz.prog W = .ok (.slice (some ⟨b0, o0 + 17, none⟩) 2 (c - 17)) W := slice_lh b0 o0 n c 17 19 (by omega) (by omega) (by omega)
 have hs1 : ∀ W, (Instr.sliceAt 40 (.slice (some ⟨b0, o0, none⟩) n c) (some (.int .i64 1)) (some (.int .i64 5)) none).run Tryz.prog W = .ok (.slice (some ⟨b0, o0 + 1, none⟩) 4 (c - 1)) W := slice_lh b0 o0 n c 1 5 (by omega) (by omega) (by omega)
 have hs5 : ∀ W, (Instr.sliceAt 40 (.slice (some ⟨b0, o0, none⟩) n c) (some (.int .i64 5)) (some (.int .i64 9)) none).run Tryz.prog W = .ok (.slice (some ⟨b0, o0 + 5, none⟩) 4 (c - 5)) W := slice_lh b0 o0 n c 5 9 (by omega) (by omega) (by omega)
 have hs9 : ∀ W, (Instr.sliceAt 40 (.slice (some ⟨b0, o0, none⟩) n c) (some (.int .i64 9)) (some (.int .i64 17)) none).run Tryz.prog W = .ok (.slice (some ⟨b0, o0 + 9, none⟩) 8 (c - 9)) W := slice_lh b0 o0 n c 9 17 (by omega) (by omega) (by omega)
 have HND := hI hneed
 clear hx hb hsrc hm cell0 hneed
 go_enter Tryz.func175, Tryz.ntmps175
 go_wp2_with fail
 refine (rneed_any _ n c xs S _ HX.out (fun b h => by have := hS b h; simp; omega) HBY.out hn hc).mono ?_
 rintro e w1 ⟨he, _, hb⟩
 obtain rfl := he HM.out
 clear he
 have HB1 := hI (((Below.refl w.heap.size w).alloc (nR _) _).trans (hb.mono (by simp)))
 have HC1 := hI ((World.cell?_alloc_lt w (.cells zeroC 69) ⟨b0, o0, none⟩ HS0.out.lt).trans HC0.out)
 have HH := hI (held_below ⟨HC1.out, HS0.out.alloc (.cells zeroC 69)⟩ hb)
 have HRES := hI ((Blk.new w 69 zeroC).below hb (by simp))
 clear hb
 have hlt' : decide ((n : Int) < (needOf xs : Int)) = false := by simp; omega
 go_wp2_with fail
 refine (rnum_any _ 2 _ _ (fun _ => True) _ (HH.out.2.part 17 2 (by omega)) (bytes_part HBY.out 17 2) (by omega)).mono ?_
 rintro e w' ⟨rfl, rfl⟩
 rw [HNK.out]
 have hneed := HND.out
 have HKN := hI (show 21 + klenOf xs ≤ n by omega)
 have hk21 : IntKind.i64.wrap (21 + (klenOf xs : Int)) = ((21 + klenOf xs : Nat) : Int) := by rw [IntKind.wrap_i64]; omega
 have hk21' : 21 + (klenOf xs : Int) = ((21 + klenOf xs : Nat) : Int) := by omega
 have hsk : ∀ W, (Instr.sliceAt 40 (.slice (some ⟨b0, o0, none⟩) n c) (some (.int .i64 21)) (some (.int .i64 (21 + (klenOf xs : Int)))) none).run Tryz.prog W = .ok (.slice (some ⟨b0, o0 + 21, none⟩) (klenOf xs) (c - 21)) W := fun W => by
  have h := slice_lh b0 o0 n c 21 (21 + klenOf xs) (by omega) (by omega) (by omega) W
  rw [show 21 + klenOf xs - 21 = klenOf xs by omega, ← hk21'] at h
  exact h
 have hsv : vlenOf xs ≤ 512 := hvl
 obtain ⟨ow, cw, hsw, hrw, hcw⟩ : ∃ ow cw : Nat, (∀ W, (Instr.sliceAt 40 (.slice (some ⟨b0, o0, none⟩) n c) (some (.int .i64 (21 + (klenOf xs : Int)))) (some (.int .i64 (needOf xs : Int))) none).run Tryz.prog W = .ok (.slice (some ⟨b0, ow, none⟩) (vlenOf xs) cw) W) ∧
  (∀ W, Src xs b0 o0 n w W → RowI .u8 W (fun _ => True) (some ⟨b0, ow, none⟩) (vlenOf xs) (valOf xs)) ∧ cw ≤ c := by
  by_cases hvc : 21 + klenOf xs < c
  ·refine ⟨o0 + (21 + klenOf xs), c - (21 + klenOf xs), fun W => ?_, fun W h => h.part (21 + klenOf xs) (vlenOf xs) (by omega), by omega⟩
   have h := slice_lh b0 o0 n c (21 + klenOf xs) (needOf xs) (by omega) (by omega) (by omega) W
   rw [show needOf xs - (21 + klenOf xs) = vlenOf xs by omega, ← hk21'] at h
   exact h
  ·have hv0 : vlenOf xs = 0 := by omega
   refine ⟨o0, 0, fun W => ?_, fun W h => ?_, by omega⟩
   ·have h := slice_end b0 o0 n c (21 + klenOf xs) (by omega) W
    rw [← hk21'] at h
    rw [show ((needOf xs : Nat) : Int) = 21 + (klenOf xs : Int) by omega, hv0]
    exact h
   ·rw [hv0, show valOf xs = [] by unfold valOf; rw [hv0]; rfl]
    exact RowG.nil _ _ _ _ _
 have HRW := hI hrw
 clear hrw
 clear hneed hk21'
 generalize hnd : needOf xs = nd at *
 have HNN := hI hnd
 clear hnd
 go_wp2_with fail
 have HSRC := hI HH.out.2
 have HCELL := hI HH.out.1
 have HLW := hI (show b0 < w.heap.size from HH.out.2.lt)
 have HLW1 := hI (show w.heap.size < w1.heap.size from HRES.out.lt)
 have HLB := hI (show b0 < w1.heap.size by have := HLW.out; have := HLW1.out; omega)
 refine wp_region_noPanic ?_
 refine Tillst.region (fun W => W.cell? ⟨b0, o0, none⟩ = some (.int .u8 (kindOf xs))) [] (by kernel_rfl) HH.out.1 (fun hė => ?_)
 have HBW := hI ((Below.refl w1.heap.size w1).drew)
 have HZW := hI (show w1.heap.size ≤ w1.drew.heap.size from nR _)
 generalize w1.drew = vd at *
 refine Tillst.tk 0 rd0 (v := ?_) rfl (by kernel_rfl) (by rfl) ?_ hė ?_
 rotate_left
 ·intro W hSW; (try dsimp only at hSW); unfold rd0; go_simp; with_reducible rfl
 simp only [rd0, Act.put, sA, sZ, sS]
 refine Tillst.tk 1 rd1 (v := ?_) rfl (by kernel_rfl) (by rfl) ?_ hė ?_
 rotate_left
 ·intro W hSW; (try dsimp only at hSW); unfold rd1; go_simp; with_reducible rfl
 simp only [rd1, Act.put, sA, sZ, sS]
 refine Tillst.tk 2 rd2 (v := ?_) rfl (by kernel_rfl) (by rfl) ?_ hė ?_
 rotate_left
 ·intro W hSW; (try dsimp only at hSW); unfold rd2; go_simp; with_reducible rfl
 simp only [rd2, Act.put, sA, sZ, sS]
 refine Tillst.tk 3 rd3 (v := ?_) rfl (by kernel_rfl) (by rfl) ?_ hė ?_
 rotate_left
 ·intro W hSW; (try dsimp only at hSW); unfold rd3; go_simp; with_reducible rfl
 simp only [rd3, Act.put, sA, sZ, sS]
 refine Tillst.tk 4 rd4 (v := ?_) rfl (by kernel_rfl) (by rfl) ?_ hė ?_
 rotate_left
 ·intro W hSW; (try dsimp only at hSW); unfold rd4; go_simp; with_reducible rfl
 simp only [rd4, Act.put, sA, sZ, sS]
 refine Tillst.tk 5 rd5 (v := ?_) rfl (by kernel_rfl) (by rfl) ?_ hė ?_
 rotate_left
 ·intro W hSW; (try dsimp only at hSW); unfold rd5; go_simp; with_reducible rfl
 simp only [rd5, Act.put, sA, sZ, sS]
 refine Tillst.tk 8 rd8 (v := ?_) rfl (by kernel_rfl) (by rfl) ?_ hė ?_
 rotate_left
 ·intro W hSW; (try dsimp only at hSW); unfold rd8; go_simp; with_reducible rfl
 simp only [rd8, Act.put, sA, sZ, sS]
 refine Tillst.tk 9 rd9 (v := ?_) rfl (by kernel_rfl) (by rfl) ?_ hė ?_
 rotate_left
 ·intro W hSW; (try dsimp only at hSW); unfold rd9; go_simp; with_reducible rfl
 simp only [rd9, Act.put, sA, sZ, sS]
 refine Tillst.tk 12 rd12 (v := ?_) rfl (by kernel_rfl) (by rfl) ?_ hė ?_
 rotate_left
 ·intro W hSW; (try dsimp only at hSW); unfold rd12; go_simp; with_reducible rfl
 simp only [rd12, Act.put, sA, sZ, sS]
 refine Tillst.tk 13 rd13 (v := ?_) rfl (by kernel_rfl) (by rfl) ?_ hė ?_
 rotate_left
 ·intro W hSW; (try dsimp only at hSW); unfold rd13; go_simp; with_reducible rfl
 simp only [rd13, Act.put, sA, sZ, sS]
 refine Tillst.tk 16 rd16 (v := ?_) rfl (by kernel_rfl) (by rfl) ?_ hė ?_
 rotate_left
 ·intro W hSW; (try dsimp only at hSW); unfold rd16; go_simp; with_reducible rfl
 simp only [rd16, Act.put, sA, sZ, sS]
 refine Tillst.tk 17 rd17 (v := ?_) rfl (by kernel_rfl) (by rfl) ?_ hė ?_
 rotate_left
 ·intro W hSW; (try dsimp only at hSW); unfold rd17; go_simp; with_reducible rfl
 simp only [rd17, Act.put, sA, sZ, sS]
 refine Tillst.tk 18 rd18 (v := ?_) rfl (by kernel_rfl) (by rfl) ?_ hė ?_
 rotate_left
 ·intro W hSW; (try dsimp only at hSW); unfold rd18; go_simp; with_reducible rfl
 simp only [rd18, Act.put, sA, sZ, sS]
 refine Tillst.tk 21 rd21 (v := ?_) rfl (by kernel_rfl) (by rfl) ?_ hė ?_
 rotate_left
 ·intro W hSW; (try dsimp only at hSW); unfold rd21; go_simp; with_reducible rfl
 simp only [rd21, Act.put, sA, sZ, sS]
 refine Tillst.tk 22 rd22 (v := ?_) rfl (by kernel_rfl) (by rfl) ?_ hė ?_
 rotate_left
 ·intro W hSW; (try dsimp only at hSW); unfold rd22; go_simp; with_reducible rfl
 simp only [rd22, Act.put, sA, sZ, sS]
 refine Tillst.tk 23 rd23 (v := ?_) rfl (by kernel_rfl) (by rfl) ?_ hė ?_
 rotate_left
 ·intro W hSW; (try dsimp only at hSW); unfold rd23; go_simp; with_reducible rfl
 simp only [rd23, Act.put, sA, sZ, sS]
 refine Tillst.tk 24 rd24 (v := ?_) rfl (by kernel_rfl) (by rfl) ?_ hė ?_
 rotate_left
 ·intro W hSW; (try dsimp only at hSW); unfold rd24; go_simp; with_reducible rfl
 simp only [rd24, Act.put, sA, sZ, sS]
 refine Tillst.tk 27 rd27 (v := ?_) rfl (by kernel_rfl) (by rfl) ?_ hė ?_
 rotate_left
 ·intro W hSW; (try dsimp only at hSW); unfold rd27; go_simp; with_reducible rfl
 simp only [rd27, Act.put, sA, sZ, sS]
 refine Tillst.three (i := 6) (j := 15) (m := 20) (o := rd6) (o' := rd15) (o'' := rd20) (by kernel_rfl) rfl rfl rfl ?_ ?_ ?_
 ·intro K hK
  refine step_call 219 #[.tmp 32] #[40] rfl rfl Tryz.func219 rfl rfl [.slice (some ⟨b0, o0 + 1, none⟩) 4 (c - 1)] rfl ?_
  refine (rnum_any _ 4 _ _ (fun _ => True) _ ((HSRC.out.below HBW.out).part 1 4 (by omega)) (bytes_part HBY.out 1 4) (by omega)).mono ?_
  rintro e w' ⟨rfl, rfl⟩
  rw [HNF.out]
  refine ⟨_, rfl, ?_⟩
  simp only [rd6, Act.put, sA, sZ, sS]
  refine hK.out _ _ (fun _ => (HBW.out.cell HLB.out).trans HCELL.out) (fun hė => ?_)
  replace hė := hė (by decide)
  clear hK K
  refine Tillst.tk 7 rd7 (v := ?_) rfl (by kernel_rfl) (by rfl) ?_ hė ?_
  rotate_left
  ·intro W hSW; (try dsimp only at hSW); unfold rd7; go_simp; with_reducible rfl
  simp only [rd7, Act.put, sA, sZ, sS]
  refine Tillst.three (i := 10) (j := 15) (m := 20) (o := rd10) (o' := rd15) (o'' := rd20) (by kernel_rfl) rfl rfl rfl ?_ ?_ ?_
  ·intro K hK
   refine step_call 219 #[.tmp 36] #[40] rfl rfl Tryz.func219 rfl rfl [.slice (some ⟨b0, o0 + 5, none⟩) 4 (c - 5)] rfl ?_
   refine (rnum_any _ 4 _ _ (fun _ => True) _ ((HSRC.out.below HBW.out).part 5 4 (by omega)) (bytes_part HBY.out 5 4) (by omega)).mono ?_
   rintro e w' ⟨rfl, rfl⟩
   rw [HNX.out]
   refine ⟨_, rfl, ?_⟩
   simp only [rd10, Act.put, sA, sZ, sS]
   refine hK.out _ _ (fun _ => (HBW.out.cell HLB.out).trans HCELL.out) (fun hė => ?_)
   replace hė := hė (by decide)
   clear hK K
   refine Tillst.tk 11 rd11 (v := ?_) rfl (by kernel_rfl) (by rfl) ?_ hė ?_
   rotate_left
   ·intro W hSW; (try dsimp only at hSW); unfold rd11; go_simp; with_reducible rfl
   simp only [rd11, Act.put, sA, sZ, sS]
   refine Tillst.three (i := 14) (j := 15) (m := 20) (o := rd14) (o' := rd15) (o'' := rd20) (by kernel_rfl) rfl rfl rfl ?_ ?_ ?_
   ·intro K hK
    refine step_call 219 #[.tmp 40] #[40] rfl rfl Tryz.func219 rfl rfl [.slice (some ⟨b0, o0 + 9, none⟩) 8 (c - 9)] rfl ?_
    refine (rnum_any _ 8 _ _ (fun _ => True) _ ((HSRC.out.below HBW.out).part 9 8 (by omega)) (bytes_part HBY.out 9 8) (by omega)).mono ?_
    rintro e w' ⟨rfl, rfl⟩
    rw [HNS.out]
    refine ⟨_, rfl, ?_⟩
    simp only [rd14, Act.put, sA, sZ, sS]
    refine hK.out _ _ (fun _ => (HBW.out.cell HLB.out).trans HCELL.out) (fun hė => ?_)
    replace hė := hė (by decide)
    clear hK K
    refine Tillst.two (i := 15) (j := 20) (o := rd15) (o' := rd20) (by kernel_rfl) rfl rfl ?_ ?_
    ·intro K hK
     refine step_empty rfl rfl w1.heap.size HZW.out ?_
     intro ga v_3 hg hown hgrow
     have HEa := hI hown
     have HGa := hI hg.1
     have HBW := hI (HBW.out.grown hgrow HZW.out (fun g h => by cases h))
     have HZW := hI (nT HZW.out hgrow.size)
     clear hg hown hgrow
     simp only [rd15, Act.put, sA, sZ, sS]
     refine hK.out _ _ (fun _ => (HBW.out.cell HLB.out).trans HCELL.out) (fun hė => ?_)
     replace hė := hė (by decide)
     clear hK K
     refine Tillst.two (i := 19) (j := 20) (o := rd19) (o' := rd20) (by kernel_rfl) rfl rfl ?_ ?_
     ·intro K hK
      refine step_append_rowG (mk := Value.int .u8) (d := 0) rfl (.tmp 42) (.tmp 45) 40 rfl w1.heap.size 5 i0 (.int .u8 0) 1 Tryz.underlying40 hi hz0 hz1 hz2 rfl (fun _ => rfl) (.slice (some ⟨ga, 0, none⟩) 0 0) 0 [] rfl HEa.out (fun _ => True) (some ⟨b0, o0 + 21, none⟩) (klenOf xs) (c - 21) (keyOf xs) rfl ((HSRC.out.below HBW.out).part 21 (klenOf xs) HKN.out) (fun h => by cases h) (by unfold maxLen; omega) (by omega) HZW.out ?_
      intro v19 v_4 hown hgrow hblk
      rw [List.nil_append, Nat.zero_add] at hown
      have HO3 := hI hown
      have HBW := hI (HBW.out.grown hgrow HZW.out (fun g h => by (have h' : ga = g := (by simpa [Value.ownBlock] using h)); have := HGa.out.1; omega))
      have HZW := hI (nT HZW.out hgrow.size)
      clear hown hgrow hblk
      simp only [rd19, Act.put, sA, sZ, sS]
      refine hK.out _ _ (fun _ => (HBW.out.cell HLB.out).trans HCELL.out) (fun hė => ?_)
      replace hė := hė (by decide)
      clear hK K
      refine Tillst.one (i := 20) (o := rd20) (by kernel_rfl) rfl ?_
      intro K hK
      refine step_empty rfl rfl w1.heap.size HZW.out ?_
      intro gb v_5 hg hown hgrow
      have HEb := hI hown
      have HGb := hI hg.1
      have HVN := hI (show v19.ownBlock ≠ some gb from fun h => by have h2 := (HO3.out.lt gb h).2; have := hg.2; omega)
      have HO3 := hI (own_none HO3.out hgrow)
      have HBW := hI (HBW.out.grown hgrow HZW.out (fun g h => by cases h))
      have HZW := hI (nT HZW.out hgrow.size)
      clear hg hown hgrow
      simp only [rd20, Act.put, sA, sZ, sS]
      refine hK.out _ _ (fun _ => (HBW.out.cell HLB.out).trans HCELL.out) (fun hė => ?_)
      replace hė := hė (by decide)
      clear hK K
      refine Tillst.one (i := 25) (o := rd25) (by kernel_rfl) rfl ?_
      intro K hK
      refine step_append_rowG (mk := Value.int .u8) (d := 0) rfl (.tmp 47) (.tmp 51) 40 rfl w1.heap.size 5 i0 (.int .u8 0) 1 Tryz.underlying40 hi hz0 hz1 hz2 rfl (fun _ => rfl) (.slice (some ⟨gb, 0, none⟩) 0 0) 0 [] rfl HEb.out (fun _ => True) (some ⟨b0, ow, none⟩) (vlenOf xs) cw (valOf xs) rfl (HRW.out _ (HSRC.out.below HBW.out)) (fun h => by cases h) (by unfold maxLen; omega) (by omega) HZW.out ?_
      intro v25 vz hown hgrow hblk
      rw [List.nil_append, Nat.zero_add] at hown
      have hO3 := HO3.out.kept hgrow (.inr (fun h => HVN.out (by simpa [Value.ownBlock] using h)))
      obtain ⟨A5, c5, rfl, hc1, hn1, hr1⟩ := rowG_own 0 hO3
      obtain ⟨A6, c6, rfl, hc2, hn2, hr2⟩ := rowG_own 0 hown
      have HR1 := hI hr1
      have HR2 := hI hr2
      have HBW := hI (HBW.out.grown hgrow HZW.out (fun g h => by (have h' : gb = g := (by simpa [Value.ownBlock] using h)); have := HGb.out.1; omega))
      clear hown hgrow hblk hO3 hc1 hn1 hr1 hc2 hn2 hr2
      simp only [rd25, Act.put, sA, sZ, sS]
      refine hK.out _ _ (fun _ => (HBW.out.cell HLB.out).trans HCELL.out) (fun hė => ?_)
      replace hė := hė (by decide)
      clear hK K
      refine Tillst.tk 26 rd26 (v := ?_) rfl (by kernel_rfl) (by rfl) ?_ hė ?_
      rotate_left
      ·intro W hSW; (try dsimp only at hSW); unfold rd26; go_simp; with_reducible rfl
      simp only [rd26, Act.put, sA, sZ, sS]
      refine Tillst.one (i := 28) (o := rd28) (by kernel_rfl) rfl ?_
      intro K hK
      have HZ := hI (HRES.out.below HBW.out HRES.out.lt)
      refine step_store_row (.tmp 2) (.tmp 53) 69 rfl rfl w.heap.size (recC (kindOf xs) (flagsOf xs) (expOf xs) (seqOf xs) A5 (klenOf xs) c5 A6 (vlenOf xs) c6) rfl rfl 69 _ HZ.out size_rec rfl (one_rec _ _ _ _ _ _ _ _ _ _) ?_
      simp only [rd28, Act.put, sA, sZ, sS]
      refine hK.out _ _ (fun _ => (World.cell?_of_block (setRow_other _ _ _ _ (Nat.ne_of_lt HLW.out))).trans ((HBW.out.cell HLB.out).trans HCELL.out)) (fun hė => ?_)
      replace hė := hė (by decide)
      clear hK K
      refine Tillst.tk 29 rd29 (v := ?_) rfl (by kernel_rfl) (by rfl) ?_ hė ?_
      rotate_left
      ·intro W hSW; (try dsimp only at hSW); unfold rd29; go_simp; with_reducible rfl
      simp only [rd29, Act.put, sA, sZ, sS]
      refine Tillst.tk 30 rd30 (v := ?_) rfl (by kernel_rfl) (by rfl) ?_ hė ?_
      rotate_left
      ·intro W hSW; (try dsimp only at hSW); unfold rd30; go_simp; with_reducible rfl
      simp only [rd30, Act.put, sA, sZ, sS]
      refine Tillst.done (by kernel_rfl) ?_ _
      refine NoPanic.normal ?_
      clear hė
      go_wp2_with (with_reducible refine halt_end ?_)
      have hst := setRow_heap _ _ _ (recC (kindOf xs) (flagsOf xs) (expOf xs) (seqOf xs) A5 (klenOf xs) c5 A6 (vlenOf xs) c6) _ _ HZ.out
      exact Halt.ret (results_row3 (p := 2) (u := 3) (v := 4) rfl _ _ w.heap.size 69 (recC (kindOf xs) (flagsOf xs) (expOf xs) (seqOf xs) A5 (klenOf xs) c5 A6 (vlenOf xs) c6) _ rfl hst Tryz.underlying69 rfl size_rec) rfl (rdec_fin xs w w1 vz A5 A6 c5 c6 nd HNN.out HR1.out HR2.out HLW1.out (HB1.out.trans (HBW.out.mono HB1.out.size)))
     ·intro K hK
      refine step_empty rfl rfl w1.heap.size HZW.out ?_
      intro gb v_4 hg hown hgrow
      have HEb := hI hown
      have HGb := hI hg.1
      have HNE := hI (show ga ≠ gb by have h := HGa.out.2; have := hg.2; omega)
      have HEa := hI (own_none HEa.out hgrow)
      have HGa := hI (show w1.heap.size ≤ ga ∧ ga < v_4.heap.size from ⟨HGa.out.1, nL HGa.out.2 hgrow.size⟩)
      have HBW := hI (HBW.out.grown hgrow HZW.out (fun g h => by cases h))
      have HZW := hI (nT HZW.out hgrow.size)
      clear hg hown hgrow
      simp only [rd20, Act.put, sA, sZ, sS]
      refine hK.out _ _ (fun _ => (HBW.out.cell HLB.out).trans HCELL.out) (fun hė => ?_)
      replace hė := hė (by decide)
      clear hK K
      refine Tillst.one (i := 19) (o := rd19) (by kernel_rfl) rfl ?_
      intro K hK
      refine step_append_rowG (mk := Value.int .u8) (d := 0) rfl (.tmp 42) (.tmp 45) 40 rfl w1.heap.size 5 i0 (.int .u8 0) 1 Tryz.underlying40 hi hz0 hz1 hz2 rfl (fun _ => rfl) (.slice (some ⟨ga, 0, none⟩) 0 0) 0 [] rfl HEa.out (fun _ => True) (some ⟨b0, o0 + 21, none⟩) (klenOf xs) (c - 21) (keyOf xs) rfl ((HSRC.out.below HBW.out).part 21 (klenOf xs) HKN.out) (fun h => by cases h) (by unfold maxLen; omega) (by omega) HZW.out ?_
      intro v19 v_5 hown hgrow hblk
      rw [List.nil_append, Nat.zero_add] at hown
      have HO3 := hI hown
      have HVN := hI (show v19.ownBlock ≠ some gb from fun h => by rcases hblk with h2 | h2 <;> rw [h] at h2 <;> simp [Value.ownBlock] at h2; exact HNE.out h2.symm; have := HGb.out.2; omega)
      have HEb := hI (HEb.out.kept hgrow (.inr (fun h => HNE.out (by simpa [Value.ownBlock] using h.symm))))
      have HGb := hI (show w1.heap.size ≤ gb ∧ gb < v_5.heap.size from ⟨HGb.out.1, nL HGb.out.2 hgrow.size⟩)
      have HBW := hI (HBW.out.grown hgrow HZW.out (fun g h => by (have h' : ga = g := (by simpa [Value.ownBlock] using h)); have := HGa.out.1; omega))
      have HZW := hI (nT HZW.out hgrow.size)
      clear hown hgrow hblk
      simp only [rd19, Act.put, sA, sZ, sS]
      refine hK.out _ _ (fun _ => (HBW.out.cell HLB.out).trans HCELL.out) (fun hė => ?_)
      replace hė := hė (by decide)
      clear hK K
      refine Tillst.one (i := 25) (o := rd25) (by kernel_rfl) rfl ?_
      intro K hK
      refine step_append_rowG (mk := Value.int .u8) (d := 0) rfl (.tmp 47) (.tmp 51) 40 rfl w1.heap.size 5 i0 (.int .u8 0) 1 Tryz.underlying40 hi hz0 hz1 hz2 rfl (fun _ => rfl) (.slice (some ⟨gb, 0, none⟩) 0 0) 0 [] rfl HEb.out (fun _ => True) (some ⟨b0, ow, none⟩) (vlenOf xs) cw (valOf xs) rfl (HRW.out _ (HSRC.out.below HBW.out)) (fun h => by cases h) (by unfold maxLen; omega) (by omega) HZW.out ?_
      intro v25 vz hown hgrow hblk
      rw [List.nil_append, Nat.zero_add] at hown
      have hO3 := HO3.out.kept hgrow (.inr (fun h => HVN.out (by simpa [Value.ownBlock] using h)))
      obtain ⟨A5, c5, rfl, hc1, hn1, hr1⟩ := rowG_own 0 hO3
      obtain ⟨A6, c6, rfl, hc2, hn2, hr2⟩ := rowG_own 0 hown
      have HR1 := hI hr1
      have HR2 := hI hr2
      have HBW := hI (HBW.out.grown hgrow HZW.out (fun g h => by (have h' : gb = g := (by simpa [Value.ownBlock] using h)); have := HGb.out.1; omega))
      clear hown hgrow hblk hO3 hc1 hn1 hr1 hc2 hn2 hr2
      simp only [rd25, Act.put, sA, sZ, sS]
      refine hK.out _ _ (fun _ => (HBW.out.cell HLB.out).trans HCELL.out) (fun hė => ?_)
      replace hė := hė (by decide)
      clear hK K
      refine Tillst.tk 26 rd26 (v := ?_) rfl (by kernel_rfl) (by rfl) ?_ hė ?_
      rotate_left
      ·intro W hSW; (try dsimp only at hSW); unfold rd26; go_simp; with_reducible rfl
      simp only [rd26, Act.put, sA, sZ, sS]
      refine Tillst.one (i := 28) (o := rd28) (by kernel_rfl) rfl ?_
      intro K hK
      have HZ := hI (HRES.out.below HBW.out HRES.out.lt)
      refine step_store_row (.tmp 2) (.tmp 53) 69 rfl rfl w.heap.size (recC (kindOf xs) (flagsOf xs) (expOf xs) (seqOf xs) A5 (klenOf xs) c5 A6 (vlenOf xs) c6) rfl rfl 69 _ HZ.out size_rec rfl (one_rec _ _ _ _ _ _ _ _ _ _) ?_
      simp only [rd28, Act.put, sA, sZ, sS]
      refine hK.out _ _ (fun _ => (World.cell?_of_block (setRow_other _ _ _ _ (Nat.ne_of_lt HLW.out))).trans ((HBW.out.cell HLB.out).trans HCELL.out)) (fun hė => ?_)
      replace hė := hė (by decide)
      clear hK K
      refine Tillst.tk 29 rd29 (v := ?_) rfl (by kernel_rfl) (by rfl) ?_ hė ?_
      rotate_left
      ·intro W hSW; (try dsimp only at hSW); unfold rd29; go_simp; with_reducible rfl
      simp only [rd29, Act.put, sA, sZ, sS]
      refine Tillst.tk 30 rd30 (v := ?_) rfl (by kernel_rfl) (by rfl) ?_ hė ?_
      rotate_left
      ·intro W hSW; (try dsimp only at hSW); unfold rd30; go_simp; with_reducible rfl
      simp only [rd30, Act.put, sA, sZ, sS]
      refine Tillst.done (by kernel_rfl) ?_ _
      refine NoPanic.normal ?_
      clear hė
      go_wp2_with (with_reducible refine halt_end ?_)
      have hst := setRow_heap _ _ _ (recC (kindOf xs) (flagsOf xs) (expOf xs) (seqOf xs) A5 (klenOf xs) c5 A6 (vlenOf xs) c6) _ _ HZ.out
      exact Halt.ret (results_row3 (p := 2) (u := 3) (v := 4) rfl _ _ w.heap.size 69 (recC (kindOf xs) (flagsOf xs) (expOf xs) (seqOf xs) A5 (klenOf xs) c5 A6 (vlenOf xs) c6) _ rfl hst Tryz.underlying69 rfl size_rec) rfl (rdec_fin xs w w1 vz A5 A6 c5 c6 nd HNN.out HR1.out HR2.out HLW1.out (HB1.out.trans (HBW.out.mono HB1.out.size)))
    ·intro K hK
     refine step_empty rfl rfl w1.heap.size HZW.out ?_
     intro gb v_3 hg hown hgrow
     have HEb := hI hown
     have HGb := hI hg.1
     have HBW := hI (HBW.out.grown hgrow HZW.out (fun g h => by cases h))
     have HZW := hI (nT HZW.out hgrow.size)
     clear hg hown hgrow
     simp only [rd20, Act.put, sA, sZ, sS]
     refine hK.out _ _ (fun _ => (HBW.out.cell HLB.out).trans HCELL.out) (fun hė => ?_)
     replace hė := hė (by decide)
     clear hK K
     refine Tillst.one (i := 15) (o := rd15) (by kernel_rfl) rfl ?_
     intro K hK
     refine step_empty rfl rfl w1.heap.size HZW.out ?_
     intro ga v_4 hg hown hgrow
     have HEa := hI hown
     have HGa := hI hg.1
     have HNE := hI (show ga ≠ gb by have h := HGb.out.2; have := hg.2; omega)
     have HEb := hI (own_none HEb.out hgrow)
     have HGb := hI (show w1.heap.size ≤ gb ∧ gb < v_4.heap.size from ⟨HGb.out.1, nL HGb.out.2 hgrow.size⟩)
     have HBW := hI (HBW.out.grown hgrow HZW.out (fun g h => by cases h))
     have HZW := hI (nT HZW.out hgrow.size)
     clear hg hown hgrow
     simp only [rd15, Act.put, sA, sZ, sS]
     refine hK.out _ _ (fun _ => (HBW.out.cell HLB.out).trans HCELL.out) (fun hė => ?_)
     replace hė := hė (by decide)
     clear hK K
     refine Tillst.one (i := 19) (o := rd19) (by kernel_rfl) rfl ?_
     intro K hK
     refine step_append_rowG (mk := Value.int .u8) (d := 0) rfl (.tmp 42) (.tmp 45) 40 rfl w1.heap.size 5 i0 (.int .u8 0) 1 Tryz.underlying40 hi hz0 hz1 hz2 rfl (fun _ => rfl) (.slice (some ⟨ga, 0, none⟩) 0 0) 0 [] rfl HEa.out (fun _ => True) (some ⟨b0, o0 + 21, none⟩) (klenOf xs) (c - 21) (keyOf xs) rfl ((HSRC.out.below HBW.out).part 21 (klenOf xs) HKN.out) (fun h => by cases h) (by unfold maxLen; omega) (by omega) HZW.out ?_
     intro v19 v_5 hown hgrow hblk
     rw [List.nil_append, Nat.zero_add] at hown
     have HO3 := hI hown
     have HVN := hI (show v19.ownBlock ≠ some gb from fun h => by rcases hblk with h2 | h2 <;> rw [h] at h2 <;> simp [Value.ownBlock] at h2; exact HNE.out h2.symm; have := HGb.out.2; omega)
     have HEb := hI (HEb.out.kept hgrow (.inr (fun h => HNE.out (by simpa [Value.ownBlock] using h.symm))))
     have HGb := hI (show w1.heap.size ≤ gb ∧ gb < v_5.heap.size from ⟨HGb.out.1, nL HGb.out.2 hgrow.size⟩)
     have HBW := hI (HBW.out.grown hgrow HZW.out (fun g h => by (have h' : ga = g := (by simpa [Value.ownBlock] using h)); have := HGa.out.1; omega))
     have HZW := hI (nT HZW.out hgrow.size)
     clear hown hgrow hblk
     simp only [rd19, Act.put, sA, sZ, sS]
     refine hK.out _ _ (fun _ => (HBW.out.cell HLB.out).trans HCELL.out) (fun hė => ?_)
     replace hė := hė (by decide)
     clear hK K
     refine Tillst.one (i := 25) (o := rd25) (by kernel_rfl) rfl ?_
     intro K hK
     refine step_append_rowG (mk := Value.int .u8) (d := 0) rfl (.tmp 47) (.tmp 51) 40 rfl w1.heap.size 5 i0 (.int .u8 0) 1 Tryz.underlying40 hi hz0 hz1 hz2 rfl (fun _ => rfl) (.slice (some ⟨gb, 0, none⟩) 0 0) 0 [] rfl HEb.out (fun _ => True) (some ⟨b0, ow, none⟩) (vlenOf xs) cw (valOf xs) rfl (HRW.out _ (HSRC.out.below HBW.out)) (fun h => by cases h) (by unfold maxLen; omega) (by omega) HZW.out ?_
     intro v25 vz hown hgrow hblk
     rw [List.nil_append, Nat.zero_add] at hown
     have hO3 := HO3.out.kept hgrow (.inr (fun h => HVN.out (by simpa [Value.ownBlock] using h)))
     obtain ⟨A5, c5, rfl, hc1, hn1, hr1⟩ := rowG_own 0 hO3
     obtain ⟨A6, c6, rfl, hc2, hn2, hr2⟩ := rowG_own 0 hown
     have HR1 := hI hr1
     have HR2 := hI hr2
     have HBW := hI (HBW.out.grown hgrow HZW.out (fun g h => by (have h' : gb = g := (by simpa [Value.ownBlock] using h)); have := HGb.out.1; omega))
     clear hown hgrow hblk hO3 hc1 hn1 hr1 hc2 hn2 hr2
     simp only [rd25, Act.put, sA, sZ, sS]
     refine hK.out _ _ (fun _ => (HBW.out.cell HLB.out).trans HCELL.out) (fun hė => ?_)
     replace hė := hė (by decide)
     clear hK K
     refine Tillst.tk 26 rd26 (v := ?_) rfl (by kernel_rfl) (by rfl) ?_ hė ?_
     rotate_left
     ·intro W hSW; (try dsimp only at hSW); unfold rd26; go_simp; with_reducible rfl
     simp only [rd26, Act.put, sA, sZ, sS]
     refine Tillst.one (i := 28) (o := rd28) (by kernel_rfl) rfl ?_
     intro K hK
     have HZ := hI (HRES.out.below HBW.out HRES.out.lt)
     refine step_store_row (.tmp 2) (.tmp 53) 69 rfl rfl w.heap.size (recC (kindOf xs) (flagsOf xs) (expOf xs) (seqOf xs) A5 (klenOf xs) c5 A6 (vlenOf xs) c6) rfl rfl 69 _ HZ.out size_rec rfl (one_rec _ _ _ _ _ _ _ _ _ _) ?_
     simp only [rd28, Act.put, sA, sZ, sS]
     refine hK.out _ _ (fun _ => (World.cell?_of_block (setRow_other _ _ _ _ (Nat.ne_of_lt HLW.out))).trans ((HBW.out.cell HLB.out).trans HCELL.out)) (fun hė => ?_)
     replace hė := hė (by decide)
     clear hK K
     refine Tillst.tk 29 rd29 (v := ?_) rfl (by kernel_rfl) (by rfl) ?_ hė ?_
     rotate_left
     ·intro W hSW; (try dsimp only at hSW); unfold rd29; go_simp; with_reducible rfl
     simp only [rd29, Act.put, sA, sZ, sS]
     refine Tillst.tk 30 rd30 (v := ?_) rfl (by kernel_rfl) (by rfl) ?_ hė ?_
     rotate_left
     ·intro W hSW; (try dsimp only at hSW); unfold rd30; go_simp; with_reducible rfl
     simp only [rd30, Act.put, sA, sZ, sS]
     refine Tillst.done (by kernel_rfl) ?_ _
     refine NoPanic.normal ?_
     clear hė
     go_wp2_with (with_reducible refine halt_end ?_)
     have hst := setRow_heap _ _ _ (recC (kindOf xs) (flagsOf xs) (expOf xs) (seqOf xs) A5 (klenOf xs) c5 A6 (vlenOf xs) c6) _ _ HZ.out
     exact Halt.ret (results_row3 (p := 2) (u := 3) (v := 4) rfl _ _ w.heap.size 69 (recC (kindOf xs) (flagsOf xs) (expOf xs) (seqOf xs) A5 (klenOf xs) c5 A6 (vlenOf xs) c6) _ rfl hst Tryz.underlying69 rfl size_rec) rfl (rdec_fin xs w w1 vz A5 A6 c5 c6 nd HNN.out HR1.out HR2.out HLW1.out (HB1.out.trans (HBW.out.mono HB1.out.size)))
   ·intro K hK
    refine step_empty rfl rfl w1.heap.size HZW.out ?_
    intro ga v_2 hg hown hgrow
    have HEa := hI hown
    have HGa := hI hg.1
    have HBW := hI (HBW.out.grown hgrow HZW.out (fun g h => by cases h))
    have HZW := hI (nT HZW.out hgrow.size)
    clear hg hown hgrow
    simp only [rd15, Act.put, sA, sZ, sS]
    refine hK.out _ _ (fun _ => (HBW.out.cell HLB.out).trans HCELL.out) (fun hė => ?_)
    replace hė := hė (by decide)
    clear hK K
    refine Tillst.two (i := 14) (j := 20) (o := rd14) (o' := rd20) (by kernel_rfl) rfl rfl ?_ ?_
    ·intro K hK
     refine step_call 219 #[.tmp 40] #[40] rfl rfl Tryz.func219 rfl rfl [.slice (some ⟨b0, o0 + 9, none⟩) 8 (c - 9)] rfl ?_
     refine (rnum_any _ 8 _ _ (fun _ => True) _ ((HSRC.out.below HBW.out).part 9 8 (by omega)) (bytes_part HBY.out 9 8) (by omega)).mono ?_
     rintro e w' ⟨rfl, rfl⟩
     rw [HNS.out]
     refine ⟨_, rfl, ?_⟩
     simp only [rd14, Act.put, sA, sZ, sS]
     refine hK.out _ _ (fun _ => (HBW.out.cell HLB.out).trans HCELL.out) (fun hė => ?_)
     replace hė := hė (by decide)
     clear hK K
     refine Tillst.two (i := 19) (j := 20) (o := rd19) (o' := rd20) (by kernel_rfl) rfl rfl ?_ ?_
     ·intro K hK
      refine step_append_rowG (mk := Value.int .u8) (d := 0) rfl (.tmp 42) (.tmp 45) 40 rfl w1.heap.size 5 i0 (.int .u8 0) 1 Tryz.underlying40 hi hz0 hz1 hz2 rfl (fun _ => rfl) (.slice (some ⟨ga, 0, none⟩) 0 0) 0 [] rfl HEa.out (fun _ => True) (some ⟨b0, o0 + 21, none⟩) (klenOf xs) (c - 21) (keyOf xs) rfl ((HSRC.out.below HBW.out).part 21 (klenOf xs) HKN.out) (fun h => by cases h) (by unfold maxLen; omega) (by omega) HZW.out ?_
      intro v19 v_4 hown hgrow hblk
      rw [List.nil_append, Nat.zero_add] at hown
      have HO3 := hI hown
      have HBW := hI (HBW.out.grown hgrow HZW.out (fun g h => by (have h' : ga = g := (by simpa [Value.ownBlock] using h)); have := HGa.out.1; omega))
      have HZW := hI (nT HZW.out hgrow.size)
      clear hown hgrow hblk
      simp only [rd19, Act.put, sA, sZ, sS]
      refine hK.out _ _ (fun _ => (HBW.out.cell HLB.out).trans HCELL.out) (fun hė => ?_)
      replace hė := hė (by decide)
      clear hK K
      refine Tillst.one (i := 20) (o := rd20) (by kernel_rfl) rfl ?_
      intro K hK
      refine step_empty rfl rfl w1.heap.size HZW.out ?_
      intro gb v_5 hg hown hgrow
      have HEb := hI hown
      have HGb := hI hg.1
      have HVN := hI (show v19.ownBlock ≠ some gb from fun h => by have h2 := (HO3.out.lt gb h).2; have := hg.2; omega)
      have HO3 := hI (own_none HO3.out hgrow)
      have HBW := hI (HBW.out.grown hgrow HZW.out (fun g h => by cases h))
      have HZW := hI (nT HZW.out hgrow.size)
      clear hg hown hgrow
      simp only [rd20, Act.put, sA, sZ, sS]
      refine hK.out _ _ (fun _ => (HBW.out.cell HLB.out).trans HCELL.out) (fun hė => ?_)
      replace hė := hė (by decide)
      clear hK K
      refine Tillst.one (i := 25) (o := rd25) (by kernel_rfl) rfl ?_
      intro K hK
      refine step_append_rowG (mk := Value.int .u8) (d := 0) rfl (.tmp 47) (.tmp 51) 40 rfl w1.heap.size 5 i0 (.int .u8 0) 1 Tryz.underlying40 hi hz0 hz1 hz2 rfl (fun _ => rfl) (.slice (some ⟨gb, 0, none⟩) 0 0) 0 [] rfl HEb.out (fun _ => True) (some ⟨b0, ow, none⟩) (vlenOf xs) cw (valOf xs) rfl (HRW.out _ (HSRC.out.below HBW.out)) (fun h => by cases h) (by unfold maxLen; omega) (by omega) HZW.out ?_
      intro v25 vz hown hgrow hblk
      rw [List.nil_append, Nat.zero_add] at hown
      have hO3 := HO3.out.kept hgrow (.inr (fun h => HVN.out (by simpa [Value.ownBlock] using h)))
      obtain ⟨A5, c5, rfl, hc1, hn1, hr1⟩ := rowG_own 0 hO3
      obtain ⟨A6, c6, rfl, hc2, hn2, hr2⟩ := rowG_own 0 hown
      have HR1 := hI hr1
      have HR2 := hI hr2
      have HBW := hI (HBW.out.grown hgrow HZW.out (fun g h => by (have h' : gb = g := (by simpa [Value.ownBlock] using h)); have := HGb.out.1; omega))
      clear hown hgrow hblk hO3 hc1 hn1 hr1 hc2 hn2 hr2
      simp only [rd25, Act.put, sA, sZ, sS]
      refine hK.out _ _ (fun _ => (HBW.out.cell HLB.out).trans HCELL.out) (fun hė => ?_)
      replace hė := hė (by decide)
      clear hK K
      refine Tillst.tk 26 rd26 (v := ?_) rfl (by kernel_rfl) (by rfl) ?_ hė ?_
      rotate_left
      ·intro W hSW; (try dsimp only at hSW); unfold rd26; go_simp; with_reducible rfl
      simp only [rd26, Act.put, sA, sZ, sS]
      refine Tillst.one (i := 28) (o := rd28) (by kernel_rfl) rfl ?_
      intro K hK
      have HZ := hI (HRES.out.below HBW.out HRES.out.lt)
      refine step_store_row (.tmp 2) (.tmp 53) 69 rfl rfl w.heap.size (recC (kindOf xs) (flagsOf xs) (expOf xs) (seqOf xs) A5 (klenOf xs) c5 A6 (vlenOf xs) c6) rfl rfl 69 _ HZ.out size_rec rfl (one_rec _ _ _ _ _ _ _ _ _ _) ?_
      simp only [rd28, Act.put, sA, sZ, sS]
      refine hK.out _ _ (fun _ => (World.cell?_of_block (setRow_other _ _ _ _ (Nat.ne_of_lt HLW.out))).trans ((HBW.out.cell HLB.out).trans HCELL.out)) (fun hė => ?_)
      replace hė := hė (by decide)
      clear hK K
      refine Tillst.tk 29 rd29 (v := ?_) rfl (by kernel_rfl) (by rfl) ?_ hė ?_
      rotate_left
      ·intro W hSW; (try dsimp only at hSW); unfold rd29; go_simp; with_reducible rfl
      simp only [rd29, Act.put, sA, sZ, sS]
      refine Tillst.tk 30 rd30 (v := ?_) rfl (by kernel_rfl) (by rfl) ?_ hė ?_
      rotate_left
      ·intro W hSW; (try dsimp only at hSW); unfold rd30; go_simp; with_reducible rfl
      simp only [rd30, Act.put, sA, sZ, sS]
      refine Tillst.done (by kernel_rfl) ?_ _
      refine NoPanic.normal ?_
      clear hė
      go_wp2_with (with_reducible refine halt_end ?_)
      have hst := setRow_heap _ _ _ (recC (kindOf xs) (flagsOf xs) (expOf xs) (seqOf xs) A5 (klenOf xs) c5 A6 (vlenOf xs) c6) _ _ HZ.out
      exact Halt.ret (results_row3 (p := 2) (u := 3) (v := 4) rfl _ _ w.heap.size 69 (recC (kindOf xs) (flagsOf xs) (expOf xs) (seqOf xs) A5 (klenOf xs) c5 A6 (vlenOf xs) c6) _ rfl hst Tryz.underlying69 rfl size_rec) rfl (rdec_fin xs w w1 vz A5 A6 c5 c6 nd HNN.out HR1.out HR2.out HLW1.out (HB1.out.trans (HBW.out.mono HB1.out.size)))
     ·intro K hK
      refine step_empty rfl rfl w1.heap.size HZW.out ?_
      intro gb v_4 hg hown hgrow
      have HEb := hI hown
      have HGb := hI hg.1
      have HNE := hI (show ga ≠ gb by have h := HGa.out.2; have := hg.2; omega)
      have HEa := hI (own_none HEa.out hgrow)
      have HGa := hI (show w1.heap.size ≤ ga ∧ ga < v_4.heap.size from ⟨HGa.out.1, nL HGa.out.2 hgrow.size⟩)
      have HBW := hI (HBW.out.grown hgrow HZW.out (fun g h => by cases h))
      have HZW := hI (nT HZW.out hgrow.size)
      clear hg hown hgrow
      simp only [rd20, Act.put, sA, sZ, sS]
      refine hK.out _ _ (fun _ => (HBW.out.cell HLB.out).trans HCELL.out) (fun hė => ?_)
      replace hė := hė (by decide)
      clear hK K
      refine Tillst.one (i := 19) (o := rd19) (by kernel_rfl) rfl ?_
      intro K hK
      refine step_append_rowG (mk := Value.int .u8) (d := 0) rfl (.tmp 42) (.tmp 45) 40 rfl w1.heap.size 5 i0 (.int .u8 0) 1 Tryz.underlying40 hi hz0 hz1 hz2 rfl (fun _ => rfl) (.slice (some ⟨ga, 0, none⟩) 0 0) 0 [] rfl HEa.out (fun _ => True) (some ⟨b0, o0 + 21, none⟩) (klenOf xs) (c - 21) (keyOf xs) rfl ((HSRC.out.below HBW.out).part 21 (klenOf xs) HKN.out) (fun h => by cases h) (by unfold maxLen; omega) (by omega) HZW.out ?_
      intro v19 v_5 hown hgrow hblk
      rw [List.nil_append, Nat.zero_add] at hown
      have HO3 := hI hown
      have HVN := hI (show v19.ownBlock ≠ some gb from fun h => by rcases hblk with h2 | h2 <;> rw [h] at h2 <;> simp [Value.ownBlock] at h2; exact HNE.out h2.symm; have := HGb.out.2; omega)
      have HEb := hI (HEb.out.kept hgrow (.inr (fun h => HNE.out (by simpa [Value.ownBlock] using h.symm))))
      have HGb := hI (show w1.heap.size ≤ gb ∧ gb < v_5.heap.size from ⟨HGb.out.1, nL HGb.out.2 hgrow.size⟩)
      have HBW := hI (HBW.out.grown hgrow HZW.out (fun g h => by (have h' : ga = g := (by simpa [Value.ownBlock] using h)); have := HGa.out.1; omega))
      have HZW := hI (nT HZW.out hgrow.size)
      clear hown hgrow hblk
      simp only [rd19, Act.put, sA, sZ, sS]
      refine hK.out _ _ (fun _ => (HBW.out.cell HLB.out).trans HCELL.out) (fun hė => ?_)
      replace hė := hė (by decide)
      clear hK K
      refine Tillst.one (i := 25) (o := rd25) (by kernel_rfl) rfl ?_
      intro K hK
      refine step_append_rowG (mk := Value.int .u8) (d := 0) rfl (.tmp 47) (.tmp 51) 40 rfl w1.heap.size 5 i0 (.int .u8 0) 1 Tryz.underlying40 hi hz0 hz1 hz2 rfl (fun _ => rfl) (.slice (some ⟨gb, 0, none⟩) 0 0) 0 [] rfl HEb.out (fun _ => True) (some ⟨b0, ow, none⟩) (vlenOf xs) cw (valOf xs) rfl (HRW.out _ (HSRC.out.below HBW.out)) (fun h => by cases h) (by unfold maxLen; omega) (by omega) HZW.out ?_
      intro v25 vz hown hgrow hblk
      rw [List.nil_append, Nat.zero_add] at hown
      have hO3 := HO3.out.kept hgrow (.inr (fun h => HVN.out (by simpa [Value.ownBlock] using h)))
      obtain ⟨A5, c5, rfl, hc1, hn1, hr1⟩ := rowG_own 0 hO3
      obtain ⟨A6, c6, rfl, hc2, hn2, hr2⟩ := rowG_own 0 hown
      have HR1 := hI hr1
      have HR2 := hI hr2
      have HBW := hI (HBW.out.grown hgrow HZW.out (fun g h => by (have h' : gb = g := (by simpa [Value.ownBlock] using h)); have := HGb.out.1; omega))
      clear hown hgrow hblk hO3 hc1 hn1 hr1 hc2 hn2 hr2
      simp only [rd25, Act.put, sA, sZ, sS]
      refine hK.out _ _ (fun _ => (HBW.out.cell HLB.out).trans HCELL.out) (fun hė => ?_)
      replace hė := hė (by decide)
      clear hK K
      refine Tillst.tk 26 rd26 (v := ?_) rfl (by kernel_rfl) (by rfl) ?_ hė ?_
      rotate_left
      ·intro W hSW; (try dsimp only at hSW); unfold rd26; go_simp; with_reducible rfl
      simp only [rd26, Act.put, sA, sZ, sS]
      refine Tillst.one (i := 28) (o := rd28) (by kernel_rfl) rfl ?_
      intro K hK
      have HZ := hI (HRES.out.below HBW.out HRES.out.lt)
      refine step_store_row (.tmp 2) (.tmp 53) 69 rfl rfl w.heap.size (recC (kindOf xs) (flagsOf xs) (expOf xs) (seqOf xs) A5 (klenOf xs) c5 A6 (vlenOf xs) c6) rfl rfl 69 _ HZ.out size_rec rfl (one_rec _ _ _ _ _ _ _ _ _ _) ?_
      simp only [rd28, Act.put, sA, sZ, sS]
      refine hK.out _ _ (fun _ => (World.cell?_of_block (setRow_other _ _ _ _ (Nat.ne_of_lt HLW.out))).trans ((HBW.out.cell HLB.out).trans HCELL.out)) (fun hė => ?_)
      replace hė := hė (by decide)
      clear hK K
      refine Tillst.tk 29 rd29 (v := ?_) rfl (by kernel_rfl) (by rfl) ?_ hė ?_
      rotate_left
      ·intro W hSW; (try dsimp only at hSW); unfold rd29; go_simp; with_reducible rfl
      simp only [rd29, Act.put, sA, sZ, sS]
      refine Tillst.tk 30 rd30 (v := ?_) rfl (by kernel_rfl) (by rfl) ?_ hė ?_
      rotate_left
      ·intro W hSW; (try dsimp only at hSW); unfold rd30; go_simp; with_reducible rfl
      simp only [rd30, Act.put, sA, sZ, sS]
      refine Tillst.done (by kernel_rfl) ?_ _
      refine NoPanic.normal ?_
      clear hė
      go_wp2_with (with_reducible refine halt_end ?_)
      have hst := setRow_heap _ _ _ (recC (kindOf xs) (flagsOf xs) (expOf xs) (seqOf xs) A5 (klenOf xs) c5 A6 (vlenOf xs) c6) _ _ HZ.out
      exact Halt.ret (results_row3 (p := 2) (u := 3) (v := 4) rfl _ _ w.heap.size 69 (recC (kindOf xs) (flagsOf xs) (expOf xs) (seqOf xs) A5 (klenOf xs) c5 A6 (vlenOf xs) c6) _ rfl hst Tryz.underlying69 rfl size_rec) rfl (rdec_fin xs w w1 vz A5 A6 c5 c6 nd HNN.out HR1.out HR2.out HLW1.out (HB1.out.trans (HBW.out.mono HB1.out.size)))
    ·intro K hK
     refine step_empty rfl rfl w1.heap.size HZW.out ?_
     intro gb v_3 hg hown hgrow
     have HEb := hI hown
     have HGb := hI hg.1
     have HNE := hI (show ga ≠ gb by have h := HGa.out.2; have := hg.2; omega)
     have HEa := hI (own_none HEa.out hgrow)
     have HGa := hI (show w1.heap.size ≤ ga ∧ ga < v_3.heap.size from ⟨HGa.out.1, nL HGa.out.2 hgrow.size⟩)
     have HBW := hI (HBW.out.grown hgrow HZW.out (fun g h => by cases h))
     have HZW := hI (nT HZW.out hgrow.size)
     clear hg hown hgrow
     simp only [rd20, Act.put, sA, sZ, sS]
     refine hK.out _ _ (fun _ => (HBW.out.cell HLB.out).trans HCELL.out) (fun hė => ?_)
     replace hė := hė (by decide)
     clear hK K
     refine Tillst.one (i := 14) (o := rd14) (by kernel_rfl) rfl ?_
     intro K hK
     refine step_call 219 #[.tmp 40] #[40] rfl rfl Tryz.func219 rfl rfl [.slice (some ⟨b0, o0 + 9, none⟩) 8 (c - 9)] rfl ?_
     refine (rnum_any _ 8 _ _ (fun _ => True) _ ((HSRC.out.below HBW.out).part 9 8 (by omega)) (bytes_part HBY.out 9 8) (by omega)).mono ?_
     rintro e w' ⟨rfl, rfl⟩
     rw [HNS.out]
     refine ⟨_, rfl, ?_⟩
     simp only [rd14, Act.put, sA, sZ, sS]
     refine hK.out _ _ (fun _ => (HBW.out.cell HLB.out).trans HCELL.out) (fun hė => ?_)
     replace hė := hė (by decide)
     clear hK K
     refine Tillst.one (i := 19) (o := rd19) (by kernel_rfl) rfl ?_
     intro K hK
     refine step_append_rowG (mk := Value.int .u8) (d := 0) rfl (.tmp 42) (.tmp 45) 40 rfl w1.heap.size 5 i0 (.int .u8 0) 1 Tryz.underlying40 hi hz0 hz1 hz2 rfl (fun _ => rfl) (.slice (some ⟨ga, 0, none⟩) 0 0) 0 [] rfl HEa.out (fun _ => True) (some ⟨b0, o0 + 21, none⟩) (klenOf xs) (c - 21) (keyOf xs) rfl ((HSRC.out.below HBW.out).part 21 (klenOf xs) HKN.out) (fun h => by cases h) (by unfold maxLen; omega) (by omega) HZW.out ?_
     intro v19 v_5 hown hgrow hblk
     rw [List.nil_append, Nat.zero_add] at hown
     have HO3 := hI hown
     have HVN := hI (show v19.ownBlock ≠ some gb from fun h => by rcases hblk with h2 | h2 <;> rw [h] at h2 <;> simp [Value.ownBlock] at h2; exact HNE.out h2.symm; have := HGb.out.2; omega)
     have HEb := hI (HEb.out.kept hgrow (.inr (fun h => HNE.out (by simpa [Value.ownBlock] using h.symm))))
     have HGb := hI (show w1.heap.size ≤ gb ∧ gb < v_5.heap.size from ⟨HGb.out.1, nL HGb.out.2 hgrow.size⟩)
     have HBW := hI (HBW.out.grown hgrow HZW.out (fun g h => by (have h' : ga = g := (by simpa [Value.ownBlock] using h)); have := HGa.out.1; omega))
     have HZW := hI (nT HZW.out hgrow.size)
     clear hown hgrow hblk
     simp only [rd19, Act.put, sA, sZ, sS]
     refine hK.out _ _ (fun _ => (HBW.out.cell HLB.out).trans HCELL.out) (fun hė => ?_)
     replace hė := hė (by decide)
     clear hK K
     refine Tillst.one (i := 25) (o := rd25) (by kernel_rfl) rfl ?_
     intro K hK
     refine step_append_rowG (mk := Value.int .u8) (d := 0) rfl (.tmp 47) (.tmp 51) 40 rfl w1.heap.size 5 i0 (.int .u8 0) 1 Tryz.underlying40 hi hz0 hz1 hz2 rfl (fun _ => rfl) (.slice (some ⟨gb, 0, none⟩) 0 0) 0 [] rfl HEb.out (fun _ => True) (some ⟨b0, ow, none⟩) (vlenOf xs) cw (valOf xs) rfl (HRW.out _ (HSRC.out.below HBW.out)) (fun h => by cases h) (by unfold maxLen; omega) (by omega) HZW.out ?_
     intro v25 vz hown hgrow hblk
     rw [List.nil_append, Nat.zero_add] at hown
     have hO3 := HO3.out.kept hgrow (.inr (fun h => HVN.out (by simpa [Value.ownBlock] using h)))
     obtain ⟨A5, c5, rfl, hc1, hn1, hr1⟩ := rowG_own 0 hO3
     obtain ⟨A6, c6, rfl, hc2, hn2, hr2⟩ := rowG_own 0 hown
     have HR1 := hI hr1
     have HR2 := hI hr2
     have HBW := hI (HBW.out.grown hgrow HZW.out (fun g h => by (have h' : gb = g := (by simpa [Value.ownBlock] using h)); have := HGb.out.1; omega))
     clear hown hgrow hblk hO3 hc1 hn1 hr1 hc2 hn2 hr2
     simp only [rd25, Act.put, sA, sZ, sS]
     refine hK.out _ _ (fun _ => (HBW.out.cell HLB.out).trans HCELL.out) (fun hė => ?_)
     replace hė := hė (by decide)
     clear hK K
     refine Tillst.tk 26 rd26 (v := ?_) rfl (by kernel_rfl) (by rfl) ?_ hė ?_
     rotate_left
     ·intro W hSW; (try dsimp only at hSW); unfold rd26; go_simp; with_reducible rfl
     simp only [rd26, Act.put, sA, sZ, sS]
     refine Tillst.one (i := 28) (o := rd28) (by kernel_rfl) rfl ?_
     intro K hK
     have HZ := hI (HRES.out.below HBW.out HRES.out.lt)
     refine step_store_row (.tmp 2) (.tmp 53) 69 rfl rfl w.heap.size (recC (kindOf xs) (flagsOf xs) (expOf xs) (seqOf xs) A5 (klenOf xs) c5 A6 (vlenOf xs) c6) rfl rfl 69 _ HZ.out size_rec rfl (one_rec _ _ _ _ _ _ _ _ _ _) ?_
     simp only [rd28, Act.put, sA, sZ, sS]
     refine hK.out _ _ (fun _ => (World.cell?_of_block (setRow_other _ _ _ _ (Nat.ne_of_lt HLW.out))).trans ((HBW.out.cell HLB.out).trans HCELL.out)) (fun hė => ?_)
     replace hė := hė (by decide)
     clear hK K
     refine Tillst.tk 29 rd29 (v := ?_) rfl (by kernel_rfl) (by rfl) ?_ hė ?_
     rotate_left
     ·intro W hSW; (try dsimp only at hSW); unfold rd29; go_simp; with_reducible rfl
     simp only [rd29, Act.put, sA, sZ, sS]
     refine Tillst.tk 30 rd30 (v := ?_) rfl (by kernel_rfl) (by rfl) ?_ hė ?_
     rotate_left
     ·intro W hSW; (try dsimp only at hSW); unfold rd30; go_simp; with_reducible rfl
     simp only [rd30, Act.put, sA, sZ, sS]
     refine Tillst.done (by kernel_rfl) ?_ _
     refine NoPanic.normal ?_
     clear hė
     go_wp2_with (with_reducible refine halt_end ?_)
     have hst := setRow_heap _ _ _ (recC (kindOf xs) (flagsOf xs) (expOf xs) (seqOf xs) A5 (klenOf xs) c5 A6 (vlenOf xs) c6) _ _ HZ.out
     exact Halt.ret (results_row3 (p := 2) (u := 3) (v := 4) rfl _ _ w.heap.size 69 (recC (kindOf xs) (flagsOf xs) (expOf xs) (seqOf xs) A5 (klenOf xs) c5 A6 (vlenOf xs) c6) _ rfl hst Tryz.underlying69 rfl size_rec) rfl (rdec_fin xs w w1 vz A5 A6 c5 c6 nd HNN.out HR1.out HR2.out HLW1.out (HB1.out.trans (HBW.out.mono HB1.out.size)))
   ·intro K hK
    refine step_empty rfl rfl w1.heap.size HZW.out ?_
    intro gb v_2 hg hown hgrow
    have HEb := hI hown
    have HGb := hI hg.1
    have HBW := hI (HBW.out.grown hgrow HZW.out (fun g h => by cases h))
    have HZW := hI (nT HZW.out hgrow.size)
    clear hg hown hgrow
    simp only [rd20, Act.put, sA, sZ, sS]
    refine hK.out _ _ (fun _ => (HBW.out.cell HLB.out).trans HCELL.out) (fun hė => ?_)
    replace hė := hė (by decide)
    clear hK K
    refine Tillst.two (i := 14) (j := 15) (o := rd14) (o' := rd15) (by kernel_rfl) rfl rfl ?_ ?_
    ·intro K hK
     refine step_call 219 #[.tmp 40] #[40] rfl rfl Tryz.func219 rfl rfl [.slice (some ⟨b0, o0 + 9, none⟩) 8 (c - 9)] rfl ?_
     refine (rnum_any _ 8 _ _ (fun _ => True) _ ((HSRC.out.below HBW.out).part 9 8 (by omega)) (bytes_part HBY.out 9 8) (by omega)).mono ?_
     rintro e w' ⟨rfl, rfl⟩
     rw [HNS.out]
     refine ⟨_, rfl, ?_⟩
     simp only [rd14, Act.put, sA, sZ, sS]
     refine hK.out _ _ (fun _ => (HBW.out.cell HLB.out).trans HCELL.out) (fun hė => ?_)
     replace hė := hė (by decide)
     clear hK K
     refine Tillst.one (i := 15) (o := rd15) (by kernel_rfl) rfl ?_
     intro K hK
     refine step_empty rfl rfl w1.heap.size HZW.out ?_
     intro ga v_4 hg hown hgrow
     have HEa := hI hown
     have HGa := hI hg.1
     have HNE := hI (show ga ≠ gb by have h := HGb.out.2; have := hg.2; omega)
     have HEb := hI (own_none HEb.out hgrow)
     have HGb := hI (show w1.heap.size ≤ gb ∧ gb < v_4.heap.size from ⟨HGb.out.1, nL HGb.out.2 hgrow.size⟩)
     have HBW := hI (HBW.out.grown hgrow HZW.out (fun g h => by cases h))
     have HZW := hI (nT HZW.out hgrow.size)
     clear hg hown hgrow
     simp only [rd15, Act.put, sA, sZ, sS]
     refine hK.out _ _ (fun _ => (HBW.out.cell HLB.out).trans HCELL.out) (fun hė => ?_)
     replace hė := hė (by decide)
     clear hK K
     refine Tillst.one (i := 19) (o := rd19) (by kernel_rfl) rfl ?_
     intro K hK
     refine step_append_rowG (mk := Value.int .u8) (d := 0) rfl (.tmp 42) (.tmp 45) 40 rfl w1.heap.size 5 i0 (.int .u8 0) 1 Tryz.underlying40 hi hz0 hz1 hz2 rfl (fun _ => rfl) (.slice (some ⟨ga, 0, none⟩) 0 0) 0 [] rfl HEa.out (fun _ => True) (some ⟨b0, o0 + 21, none⟩) (klenOf xs) (c - 21) (keyOf xs) rfl ((HSRC.out.below HBW.out).part 21 (klenOf xs) HKN.out) (fun h => by cases h) (by unfold maxLen; omega) (by omega) HZW.out ?_
     intro v19 v_5 hown hgrow hblk
     rw [List.nil_append, Nat.zero_add] at hown
     have HO3 := hI hown
     have HVN := hI (show v19.ownBlock ≠ some gb from fun h => by rcases hblk with h2 | h2 <;> rw [h] at h2 <;> simp [Value.ownBlock] at h2; exact HNE.out h2.symm; have := HGb.out.2; omega)
     have HEb := hI (HEb.out.kept hgrow (.inr (fun h => HNE.out (by simpa [Value.ownBlock] using h.symm))))
     have HGb := hI (show w1.heap.size ≤ gb ∧ gb < v_5.heap.size from ⟨HGb.out.1, nL HGb.out.2 hgrow.size⟩)
     have HBW := hI (HBW.out.grown hgrow HZW.out (fun g h => by (have h' : ga = g := (by simpa [Value.ownBlock] using h)); have := HGa.out.1; omega))
     have HZW := hI (nT HZW.out hgrow.size)
     clear hown hgrow hblk
     simp only [rd19, Act.put, sA, sZ, sS]
     refine hK.out _ _ (fun _ => (HBW.out.cell HLB.out).trans HCELL.out) (fun hė => ?_)
     replace hė := hė (by decide)
     clear hK K
     refine Tillst.one (i := 25) (o := rd25) (by kernel_rfl) rfl ?_
     intro K hK
     refine step_append_rowG (mk := Value.int .u8) (d := 0) rfl (.tmp 47) (.tmp 51) 40 rfl w1.heap.size 5 i0 (.int .u8 0) 1 Tryz.underlying40 hi hz0 hz1 hz2 rfl (fun _ => rfl) (.slice (some ⟨gb, 0, none⟩) 0 0) 0 [] rfl HEb.out (fun _ => True) (some ⟨b0, ow, none⟩) (vlenOf xs) cw (valOf xs) rfl (HRW.out _ (HSRC.out.below HBW.out)) (fun h => by cases h) (by unfold maxLen; omega) (by omega) HZW.out ?_
     intro v25 vz hown hgrow hblk
     rw [List.nil_append, Nat.zero_add] at hown
     have hO3 := HO3.out.kept hgrow (.inr (fun h => HVN.out (by simpa [Value.ownBlock] using h)))
     obtain ⟨A5, c5, rfl, hc1, hn1, hr1⟩ := rowG_own 0 hO3
     obtain ⟨A6, c6, rfl, hc2, hn2, hr2⟩ := rowG_own 0 hown
     have HR1 := hI hr1
     have HR2 := hI hr2
     have HBW := hI (HBW.out.grown hgrow HZW.out (fun g h => by (have h' : gb = g := (by simpa [Value.ownBlock] using h)); have := HGb.out.1; omega))
     clear hown hgrow hblk hO3 hc1 hn1 hr1 hc2 hn2 hr2
     simp only [rd25, Act.put, sA, sZ, sS]
     refine hK.out _ _ (fun _ => (HBW.out.cell HLB.out).trans HCELL.out) (fun hė => ?_)
     replace hė := hė (by decide)
     clear hK K
     refine Tillst.tk 26 rd26 (v := ?_) rfl (by kernel_rfl) (by rfl) ?_ hė ?_
     rotate_left
     ·intro W hSW; (try dsimp only at hSW); unfold rd26; go_simp; with_reducible rfl
     simp only [rd26, Act.put, sA, sZ, sS]
     refine Tillst.one (i := 28) (o := rd28) (by kernel_rfl) rfl ?_
     intro K hK
     have HZ := hI (HRES.out.below HBW.out HRES.out.lt)
     refine step_store_row (.tmp 2) (.tmp 53) 69 rfl rfl w.heap.size (recC (kindOf xs) (flagsOf xs) (expOf xs) (seqOf xs) A5 (klenOf xs) c5 A6 (vlenOf xs) c6) rfl rfl 69 _ HZ.out size_rec rfl (one_rec _ _ _ _ _ _ _ _ _ _) ?_
     simp only [rd28, Act.put, sA, sZ, sS]
     refine hK.out _ _ (fun _ => (World.cell?_of_block (setRow_other _ _ _ _ (Nat.ne_of_lt HLW.out))).trans ((HBW.out.cell HLB.out).trans HCELL.out)) (fun hė => ?_)
     replace hė := hė (by decide)
     clear hK K
     refine Tillst.tk 29 rd29 (v := ?_) rfl (by kernel_rfl) (by rfl) ?_ hė ?_
     rotate_left
     ·intro W hSW; (try dsimp only at hSW); unfold rd29; go_simp; with_reducible rfl
     simp only [rd29, Act.put, sA, sZ, sS]
     refine Tillst.tk 30 rd30 (v := ?_) rfl (by kernel_rfl) (by rfl) ?_ hė ?_
     rotate_left
     ·intro W hSW; (try dsimp only at hSW); unfold rd30; go_simp; with_reducible rfl
     simp only [rd30, Act.put, sA, sZ, sS]
     refine Tillst.done (by kernel_rfl) ?_ _
     refine NoPanic.normal ?_
     clear hė
     go_wp2_with (with_reducible refine halt_end ?_)
     have hst := setRow_heap _ _ _ (recC (kindOf xs) (flagsOf xs) (expOf xs) (seqOf xs) A5 (klenOf xs) c5 A6 (vlenOf xs) c6) _ _ HZ.out
     exact Halt.ret (results_row3 (p := 2) (u := 3) (v := 4) rfl _ _ w.heap.size 69 (recC (kindOf xs) (flagsOf xs) (expOf xs) (seqOf xs) A5 (klenOf xs) c5 A6 (vlenOf xs) c6) _ rfl hst Tryz.underlying69 rfl size_rec) rfl (rdec_fin xs w w1 vz A5 A6 c5 c6 nd HNN.out HR1.out HR2.out HLW1.out (HB1.out.trans (HBW.out.mono HB1.out.size)))
    ·intro K hK
     refine step_empty rfl rfl w1.heap.size HZW.out ?_
     intro ga v_3 hg hown hgrow
     have HEa := hI hown
     have HGa := hI hg.1
     have HNE := hI (show ga ≠ gb by have h := HGb.out.2; have := hg.2; omega)
     have HEb := hI (own_none HEb.out hgrow)
     have HGb := hI (show w1.heap.size ≤ gb ∧ gb < v_3.heap.size from ⟨HGb.out.1, nL HGb.out.2 hgrow.size⟩)
     have HBW := hI (HBW.out.grown hgrow HZW.out (fun g h => by cases h))
     have HZW := hI (nT HZW.out hgrow.size)
     clear hg hown hgrow
     simp only [rd15, Act.put, sA, sZ, sS]
     refine hK.out _ _ (fun _ => (HBW.out.cell HLB.out).trans HCELL.out) (fun hė => ?_)
     replace hė := hė (by decide)
     clear hK K
     refine Tillst.one (i := 14) (o := rd14) (by kernel_rfl) rfl ?_
     intro K hK
     refine step_call 219 #[.tmp 40] #[40] rfl rfl Tryz.func219 rfl rfl [.slice (some ⟨b0, o0 + 9, none⟩) 8 (c - 9)] rfl ?_
     refine (rnum_any _ 8 _ _ (fun _ => True) _ ((HSRC.out.below HBW.out).part 9 8 (by omega)) (bytes_part HBY.out 9 8) (by omega)).mono ?_
     rintro e w' ⟨rfl, rfl⟩
     rw [HNS.out]
     refine ⟨_, rfl, ?_⟩
     simp only [rd14, Act.put, sA, sZ, sS]
     refine hK.out _ _ (fun _ => (HBW.out.cell HLB.out).trans HCELL.out) (fun hė => ?_)
     replace hė := hė (by decide)
     clear hK K
     refine Tillst.one (i := 19) (o := rd19) (by kernel_rfl) rfl ?_
     intro K hK
     refine step_append_rowG (mk := Value.int .u8) (d := 0) rfl (.tmp 42) (.tmp 45) 40 rfl w1.heap.size 5 i0 (.int .u8 0) 1 Tryz.underlying40 hi hz0 hz1 hz2 rfl (fun _ => rfl) (.slice (some ⟨ga, 0, none⟩) 0 0) 0 [] rfl HEa.out (fun _ => True) (some ⟨b0, o0 + 21, none⟩) (klenOf xs) (c - 21) (keyOf xs) rfl ((HSRC.out.below HBW.out).part 21 (klenOf xs) HKN.out) (fun h => by cases h) (by unfold maxLen; omega) (by omega) HZW.out ?_
     intro v19 v_5 hown hgrow hblk
     rw [List.nil_append, Nat.zero_add] at hown
     have HO3 := hI hown
     have HVN := hI (show v19.ownBlock ≠ some gb from fun h => by rcases hblk with h2 | h2 <;> rw [h] at h2 <;> simp [Value.ownBlock] at h2; exact HNE.out h2.symm; have := HGb.out.2; omega)
     have HEb := hI (HEb.out.kept hgrow (.inr (fun h => HNE.out (by simpa [Value.ownBlock] using h.symm))))
     have HGb := hI (show w1.heap.size ≤ gb ∧ gb < v_5.heap.size from ⟨HGb.out.1, nL HGb.out.2 hgrow.size⟩)
     have HBW := hI (HBW.out.grown hgrow HZW.out (fun g h => by (have h' : ga = g := (by simpa [Value.ownBlock] using h)); have := HGa.out.1; omega))
     have HZW := hI (nT HZW.out hgrow.size)
     clear hown hgrow hblk
     simp only [rd19, Act.put, sA, sZ, sS]
     refine hK.out _ _ (fun _ => (HBW.out.cell HLB.out).trans HCELL.out) (fun hė => ?_)
     replace hė := hė (by decide)
     clear hK K
     refine Tillst.one (i := 25) (o := rd25) (by kernel_rfl) rfl ?_
     intro K hK
     refine step_append_rowG (mk := Value.int .u8) (d := 0) rfl (.tmp 47) (.tmp 51) 40 rfl w1.heap.size 5 i0 (.int .u8 0) 1 Tryz.underlying40 hi hz0 hz1 hz2 rfl (fun _ => rfl) (.slice (some ⟨gb, 0, none⟩) 0 0) 0 [] rfl HEb.out (fun _ => True) (some ⟨b0, ow, none⟩) (vlenOf xs) cw (valOf xs) rfl (HRW.out _ (HSRC.out.below HBW.out)) (fun h => by cases h) (by unfold maxLen; omega) (by omega) HZW.out ?_
     intro v25 vz hown hgrow hblk
     rw [List.nil_append, Nat.zero_add] at hown
     have hO3 := HO3.out.kept hgrow (.inr (fun h => HVN.out (by simpa [Value.ownBlock] using h)))
     obtain ⟨A5, c5, rfl, hc1, hn1, hr1⟩ := rowG_own 0 hO3
     obtain ⟨A6, c6, rfl, hc2, hn2, hr2⟩ := rowG_own 0 hown
     have HR1 := hI hr1
     have HR2 := hI hr2
     have HBW := hI (HBW.out.grown hgrow HZW.out (fun g h => by (have h' : gb = g := (by simpa [Value.ownBlock] using h)); have := HGb.out.1; omega))
     clear hown hgrow hblk hO3 hc1 hn1 hr1 hc2 hn2 hr2
     simp only [rd25, Act.put, sA, sZ, sS]
     refine hK.out _ _ (fun _ => (HBW.out.cell HLB.out).trans HCELL.out) (fun hė => ?_)
     replace hė := hė (by decide)
     clear hK K
     refine Tillst.tk 26 rd26 (v := ?_) rfl (by kernel_rfl) (by rfl) ?_ hė ?_
     rotate_left
     ·intro W hSW; (try dsimp only at hSW); unfold rd26; go_simp; with_reducible rfl
     simp only [rd26, Act.put, sA, sZ, sS]
     refine Tillst.one (i := 28) (o := rd28) (by kernel_rfl) rfl ?_
     intro K hK
     have HZ := hI (HRES.out.below HBW.out HRES.out.lt)
     refine step_store_row (.tmp 2) (.tmp 53) 69 rfl rfl w.heap.size (recC (kindOf xs) (flagsOf xs) (expOf xs) (seqOf xs) A5 (klenOf xs) c5 A6 (vlenOf xs) c6) rfl rfl 69 _ HZ.out size_rec rfl (one_rec _ _ _ _ _ _ _ _ _ _) ?_
     simp only [rd28, Act.put, sA, sZ, sS]
     refine hK.out _ _ (fun _ => (World.cell?_of_block (setRow_other _ _ _ _ (Nat.ne_of_lt HLW.out))).trans ((HBW.out.cell HLB.out).trans HCELL.out)) (fun hė => ?_)
     replace hė := hė (by decide)
     clear hK K
     refine Tillst.tk 29 rd29 (v := ?_) rfl (by kernel_rfl) (by rfl) ?_ hė ?_
     rotate_left
     ·intro W hSW; (try dsimp only at hSW); unfold rd29; go_simp; with_reducible rfl
     simp only [rd29, Act.put, sA, sZ, sS]
     refine Tillst.tk 30 rd30 (v := ?_) rfl (by kernel_rfl) (by rfl) ?_ hė ?_
     rotate_left
     ·intro W hSW; (try dsimp only at hSW); unfold rd30; go_simp; with_reducible rfl
     simp only [rd30, Act.put, sA, sZ, sS]
     refine Tillst.done (by kernel_rfl) ?_ _
     refine NoPanic.normal ?_
     clear hė
     go_wp2_with (with_reducible refine halt_end ?_)
     have hst := setRow_heap _ _ _ (recC (kindOf xs) (flagsOf xs) (expOf xs) (seqOf xs) A5 (klenOf xs) c5 A6 (vlenOf xs) c6) _ _ HZ.out
     exact Halt.ret (results_row3 (p := 2) (u := 3) (v := 4) rfl _ _ w.heap.size 69 (recC (kindOf xs) (flagsOf xs) (expOf xs) (seqOf xs) A5 (klenOf xs) c5 A6 (vlenOf xs) c6) _ rfl hst Tryz.underlying69 rfl size_rec) rfl (rdec_fin xs w w1 vz A5 A6 c5 c6 nd HNN.out HR1.out HR2.out HLW1.out (HB1.out.trans (HBW.out.mono HB1.out.size)))
  ·intro K hK
   refine step_empty rfl rfl w1.heap.size HZW.out ?_
   intro ga v_1 hg hown hgrow
   have HEa := hI hown
   have HGa := hI hg.1
   have HBW := hI (HBW.out.grown hgrow HZW.out (fun g h => by cases h))
   have HZW := hI (nT HZW.out hgrow.size)
   clear hg hown hgrow
   simp only [rd15, Act.put, sA, sZ, sS]
   refine hK.out _ _ (fun _ => (HBW.out.cell HLB.out).trans HCELL.out) (fun hė => ?_)
   replace hė := hė (by decide)
   clear hK K
   refine Tillst.two (i := 10) (j := 20) (o := rd10) (o' := rd20) (by kernel_rfl) rfl rfl ?_ ?_
   ·intro K hK
    refine step_call 219 #[.tmp 36] #[40] rfl rfl Tryz.func219 rfl rfl [.slice (some ⟨b0, o0 + 5, none⟩) 4 (c - 5)] rfl ?_
    refine (rnum_any _ 4 _ _ (fun _ => True) _ ((HSRC.out.below HBW.out).part 5 4 (by omega)) (bytes_part HBY.out 5 4) (by omega)).mono ?_
    rintro e w' ⟨rfl, rfl⟩
    rw [HNX.out]
    refine ⟨_, rfl, ?_⟩
    simp only [rd10, Act.put, sA, sZ, sS]
    refine hK.out _ _ (fun _ => (HBW.out.cell HLB.out).trans HCELL.out) (fun hė => ?_)
    replace hė := hė (by decide)
    clear hK K
    refine Tillst.tk 11 rd11 (v := ?_) rfl (by kernel_rfl) (by rfl) ?_ hė ?_
    rotate_left
    ·intro W hSW; (try dsimp only at hSW); unfold rd11; go_simp; with_reducible rfl
    simp only [rd11, Act.put, sA, sZ, sS]
    refine Tillst.two (i := 14) (j := 20) (o := rd14) (o' := rd20) (by kernel_rfl) rfl rfl ?_ ?_
    ·intro K hK
     refine step_call 219 #[.tmp 40] #[40] rfl rfl Tryz.func219 rfl rfl [.slice (some ⟨b0, o0 + 9, none⟩) 8 (c - 9)] rfl ?_
     refine (rnum_any _ 8 _ _ (fun _ => True) _ ((HSRC.out.below HBW.out).part 9 8 (by omega)) (bytes_part HBY.out 9 8) (by omega)).mono ?_
     rintro e w' ⟨rfl, rfl⟩
     rw [HNS.out]
     refine ⟨_, rfl, ?_⟩
     simp only [rd14, Act.put, sA, sZ, sS]
     refine hK.out _ _ (fun _ => (HBW.out.cell HLB.out).trans HCELL.out) (fun hė => ?_)
     replace hė := hė (by decide)
     clear hK K
     refine Tillst.two (i := 19) (j := 20) (o := rd19) (o' := rd20) (by kernel_rfl) rfl rfl ?_ ?_
     ·intro K hK
      refine step_append_rowG (mk := Value.int .u8) (d := 0) rfl (.tmp 42) (.tmp 45) 40 rfl w1.heap.size 5 i0 (.int .u8 0) 1 Tryz.underlying40 hi hz0 hz1 hz2 rfl (fun _ => rfl) (.slice (some ⟨ga, 0, none⟩) 0 0) 0 [] rfl HEa.out (fun _ => True) (some ⟨b0, o0 + 21, none⟩) (klenOf xs) (c - 21) (keyOf xs) rfl ((HSRC.out.below HBW.out).part 21 (klenOf xs) HKN.out) (fun h => by cases h) (by unfold maxLen; omega) (by omega) HZW.out ?_
      intro v19 v_4 hown hgrow hblk
      rw [List.nil_append, Nat.zero_add] at hown
      have HO3 := hI hown
      have HBW := hI (HBW.out.grown hgrow HZW.out (fun g h => by (have h' : ga = g := (by simpa [Value.ownBlock] using h)); have := HGa.out.1; omega))
      have HZW := hI (nT HZW.out hgrow.size)
      clear hown hgrow hblk
      simp only [rd19, Act.put, sA, sZ, sS]
      refine hK.out _ _ (fun _ => (HBW.out.cell HLB.out).trans HCELL.out) (fun hė => ?_)
      replace hė := hė (by decide)
      clear hK K
      refine Tillst.one (i := 20) (o := rd20) (by kernel_rfl) rfl ?_
      intro K hK
      refine step_empty rfl rfl w1.heap.size HZW.out ?_
      intro gb v_5 hg hown hgrow
      have HEb := hI hown
      have HGb := hI hg.1
      have HVN := hI (show v19.ownBlock ≠ some gb from fun h => by have h2 := (HO3.out.lt gb h).2; have := hg.2; omega)
      have HO3 := hI (own_none HO3.out hgrow)
      have HBW := hI (HBW.out.grown hgrow HZW.out (fun g h => by cases h))
      have HZW := hI (nT HZW.out hgrow.size)
      clear hg hown hgrow
      simp only [rd20, Act.put, sA, sZ, sS]
      refine hK.out _ _ (fun _ => (HBW.out.cell HLB.out).trans HCELL.out) (fun hė => ?_)
      replace hė := hė (by decide)
      clear hK K
      refine Tillst.one (i := 25) (o := rd25) (by kernel_rfl) rfl ?_
      intro K hK
      refine step_append_rowG (mk := Value.int .u8) (d := 0) rfl (.tmp 47) (.tmp 51) 40 rfl w1.heap.size 5 i0 (.int .u8 0) 1 Tryz.underlying40 hi hz0 hz1 hz2 rfl (fun _ => rfl) (.slice (some ⟨gb, 0, none⟩) 0 0) 0 [] rfl HEb.out (fun _ => True) (some ⟨b0, ow, none⟩) (vlenOf xs) cw (valOf xs) rfl (HRW.out _ (HSRC.out.below HBW.out)) (fun h => by cases h) (by unfold maxLen; omega) (by omega) HZW.out ?_
      intro v25 vz hown hgrow hblk
      rw [List.nil_append, Nat.zero_add] at hown
      have hO3 := HO3.out.kept hgrow (.inr (fun h => HVN.out (by simpa [Value.ownBlock] using h)))
      obtain ⟨A5, c5, rfl, hc1, hn1, hr1⟩ := rowG_own 0 hO3
      obtain ⟨A6, c6, rfl, hc2, hn2, hr2⟩ := rowG_own 0 hown
      have HR1 := hI hr1
      have HR2 := hI hr2
      have HBW := hI (HBW.out.grown hgrow HZW.out (fun g h => by (have h' : gb = g := (by simpa [Value.ownBlock] using h)); have := HGb.out.1; omega))
      clear hown hgrow hblk hO3 hc1 hn1 hr1 hc2 hn2 hr2
      simp only [rd25, Act.put, sA, sZ, sS]
      refine hK.out _ _ (fun _ => (HBW.out.cell HLB.out).trans HCELL.out) (fun hė => ?_)
      replace hė := hė (by decide)
      clear hK K
      refine Tillst.tk 26 rd26 (v := ?_) rfl (by kernel_rfl) (by rfl) ?_ hė ?_
      rotate_left
      ·intro W hSW; (try dsimp only at hSW); unfold rd26; go_simp; with_reducible rfl
      simp only [rd26, Act.put, sA, sZ, sS]
      refine Tillst.one (i := 28) (o := rd28) (by kernel_rfl) rfl ?_
      intro K hK
      have HZ := hI (HRES.out.below HBW.out HRES.out.lt)
      refine step_store_row (.tmp 2) (.tmp 53) 69 rfl rfl w.heap.size (recC (kindOf xs) (flagsOf xs) (expOf xs) (seqOf xs) A5 (klenOf xs) c5 A6 (vlenOf xs) c6) rfl rfl 69 _ HZ.out size_rec rfl (one_rec _ _ _ _ _ _ _ _ _ _) ?_
      simp only [rd28, Act.put, sA, sZ, sS]
      refine hK.out _ _ (fun _ => (World.cell?_of_block (setRow_other _ _ _ _ (Nat.ne_of_lt HLW.out))).trans ((HBW.out.cell HLB.out).trans HCELL.out)) (fun hė => ?_)
      replace hė := hė (by decide)
      clear hK K
      refine Tillst.tk 29 rd29 (v := ?_) rfl (by kernel_rfl) (by rfl) ?_ hė ?_
      rotate_left
      ·intro W hSW; (try dsimp only at hSW); unfold rd29; go_simp; with_reducible rfl
      simp only [rd29, Act.put, sA, sZ, sS]
      refine Tillst.tk 30 rd30 (v := ?_) rfl (by kernel_rfl) (by rfl) ?_ hė ?_
      rotate_left
      ·intro W hSW; (try dsimp only at hSW); unfold rd30; go_simp; with_reducible rfl
      simp only [rd30, Act.put, sA, sZ, sS]
      refine Tillst.done (by kernel_rfl) ?_ _
      refine NoPanic.normal ?_
      clear hė
      go_wp2_with (with_reducible refine halt_end ?_)
      have hst := setRow_heap _ _ _ (recC (kindOf xs) (flagsOf xs) (expOf xs) (seqOf xs) A5 (klenOf xs) c5 A6 (vlenOf xs) c6) _ _ HZ.out
      exact Halt.ret (results_row3 (p := 2) (u := 3) (v := 4) rfl _ _ w.heap.size 69 (recC (kindOf xs) (flagsOf xs) (expOf xs) (seqOf xs) A5 (klenOf xs) c5 A6 (vlenOf xs) c6) _ rfl hst Tryz.underlying69 rfl size_rec) rfl (rdec_fin xs w w1 vz A5 A6 c5 c6 nd HNN.out HR1.out HR2.out HLW1.out (HB1.out.trans (HBW.out.mono HB1.out.size)))
     ·intro K hK
      refine step_empty rfl rfl w1.heap.size HZW.out ?_
      intro gb v_4 hg hown hgrow
      have HEb := hI hown
      have HGb := hI hg.1
      have HNE := hI (show ga ≠ gb by have h := HGa.out.2; have := hg.2; omega)
      have HEa := hI (own_none HEa.out hgrow)
      have HGa := hI (show w1.heap.size ≤ ga ∧ ga < v_4.heap.size from ⟨HGa.out.1, nL HGa.out.2 hgrow.size⟩)
      have HBW := hI (HBW.out.grown hgrow HZW.out (fun g h => by cases h))
      have HZW := hI (nT HZW.out hgrow.size)
      clear hg hown hgrow
      simp only [rd20, Act.put, sA, sZ, sS]
      refine hK.out _ _ (fun _ => (HBW.out.cell HLB.out).trans HCELL.out) (fun hė => ?_)
      replace hė := hė (by decide)
      clear hK K
      refine Tillst.one (i := 19) (o := rd19) (by kernel_rfl) rfl ?_
      intro K hK
      refine step_append_rowG (mk := Value.int .u8) (d := 0) rfl (.tmp 42) (.tmp 45) 40 rfl w1.heap.size 5 i0 (.int .u8 0) 1 Tryz.underlying40 hi hz0 hz1 hz2 rfl (fun _ => rfl) (.slice (some ⟨ga, 0, none⟩) 0 0) 0 [] rfl HEa.out (fun _ => True) (some ⟨b0, o0 + 21, none⟩) (klenOf xs) (c - 21) (keyOf xs) rfl ((HSRC.out.below HBW.out).part 21 (klenOf xs) HKN.out) (fun h => by cases h) (by unfold maxLen; omega) (by omega) HZW.out ?_
      intro v19 v_5 hown hgrow hblk
      rw [List.nil_append, Nat.zero_add] at hown
      have HO3 := hI hown
      have HVN := hI (show v19.ownBlock ≠ some gb from fun h => by rcases hblk with h2 | h2 <;> rw [h] at h2 <;> simp [Value.ownBlock] at h2; exact HNE.out h2.symm; have := HGb.out.2; omega)
      have HEb := hI (HEb.out.kept hgrow (.inr (fun h => HNE.out (by simpa [Value.ownBlock] using h.symm))))
      have HGb := hI (show w1.heap.size ≤ gb ∧ gb < v_5.heap.size from ⟨HGb.out.1, nL HGb.out.2 hgrow.size⟩)
      have HBW := hI (HBW.out.grown hgrow HZW.out (fun g h => by (have h' : ga = g := (by simpa [Value.ownBlock] using h)); have := HGa.out.1; omega))
      have HZW := hI (nT HZW.out hgrow.size)
      clear hown hgrow hblk
      simp only [rd19, Act.put, sA, sZ, sS]
      refine hK.out _ _ (fun _ => (HBW.out.cell HLB.out).trans HCELL.out) (fun hė => ?_)
      replace hė := hė (by decide)
      clear hK K
      refine Tillst.one (i := 25) (o := rd25) (by kernel_rfl) rfl ?_
      intro K hK
      refine step_append_rowG (mk := Value.int .u8) (d := 0) rfl (.tmp 47) (.tmp 51) 40 rfl w1.heap.size 5 i0 (.int .u8 0) 1 Tryz.underlying40 hi hz0 hz1 hz2 rfl (fun _ => rfl) (.slice (some ⟨gb, 0, none⟩) 0 0) 0 [] rfl HEb.out (fun _ => True) (some ⟨b0, ow, none⟩) (vlenOf xs) cw (valOf xs) rfl (HRW.out _ (HSRC.out.below HBW.out)) (fun h => by cases h) (by unfold maxLen; omega) (by omega) HZW.out ?_
      intro v25 vz hown hgrow hblk
      rw [List.nil_append, Nat.zero_add] at hown
      have hO3 := HO3.out.kept hgrow (.inr (fun h => HVN.out (by simpa [Value.ownBlock] using h)))
      obtain ⟨A5, c5, rfl, hc1, hn1, hr1⟩ := rowG_own 0 hO3
      obtain ⟨A6, c6, rfl, hc2, hn2, hr2⟩ := rowG_own 0 hown
      have HR1 := hI hr1
      have HR2 := hI hr2
      have HBW := hI (HBW.out.grown hgrow HZW.out (fun g h => by (have h' : gb = g := (by simpa [Value.ownBlock] using h)); have := HGb.out.1; omega))
      clear hown hgrow hblk hO3 hc1 hn1 hr1 hc2 hn2 hr2
      simp only [rd25, Act.put, sA, sZ, sS]
      refine hK.out _ _ (fun _ => (HBW.out.cell HLB.out).trans HCELL.out) (fun hė => ?_)
      replace hė := hė (by decide)
      clear hK K
      refine Tillst.tk 26 rd26 (v := ?_) rfl (by kernel_rfl) (by rfl) ?_ hė ?_
      rotate_left
      ·intro W hSW; (try dsimp only at hSW); unfold rd26; go_simp; with_reducible rfl
      simp only [rd26, Act.put, sA, sZ, sS]
      refine Tillst.one (i := 28) (o := rd28) (by kernel_rfl) rfl ?_
      intro K hK
      have HZ := hI (HRES.out.below HBW.out HRES.out.lt)
      refine step_store_row (.tmp 2) (.tmp 53) 69 rfl rfl w.heap.size (recC (kindOf xs) (flagsOf xs) (expOf xs) (seqOf xs) A5 (klenOf xs) c5 A6 (vlenOf xs) c6) rfl rfl 69 _ HZ.out size_rec rfl (one_rec _ _ _ _ _ _ _ _ _ _) ?_
      simp only [rd28, Act.put, sA, sZ, sS]
      refine hK.out _ _ (fun _ => (World.cell?_of_block (setRow_other _ _ _ _ (Nat.ne_of_lt HLW.out))).trans ((HBW.out.cell HLB.out).trans HCELL.out)) (fun hė => ?_)
      replace hė := hė (by decide)
      clear hK K
      refine Tillst.tk 29 rd29 (v := ?_) rfl (by kernel_rfl) (by rfl) ?_ hė ?_
      rotate_left
      ·intro W hSW; (try dsimp only at hSW); unfold rd29; go_simp; with_reducible rfl
      simp only [rd29, Act.put, sA, sZ, sS]
      refine Tillst.tk 30 rd30 (v := ?_) rfl (by kernel_rfl) (by rfl) ?_ hė ?_
      rotate_left
      ·intro W hSW; (try dsimp only at hSW); unfold rd30; go_simp; with_reducible rfl
      simp only [rd30, Act.put, sA, sZ, sS]
      refine Tillst.done (by kernel_rfl) ?_ _
      refine NoPanic.normal ?_
      clear hė
      go_wp2_with (with_reducible refine halt_end ?_)
      have hst := setRow_heap _ _ _ (recC (kindOf xs) (flagsOf xs) (expOf xs) (seqOf xs) A5 (klenOf xs) c5 A6 (vlenOf xs) c6) _ _ HZ.out
      exact Halt.ret (results_row3 (p := 2) (u := 3) (v := 4) rfl _ _ w.heap.size 69 (recC (kindOf xs) (flagsOf xs) (expOf xs) (seqOf xs) A5 (klenOf xs) c5 A6 (vlenOf xs) c6) _ rfl hst Tryz.underlying69 rfl size_rec) rfl (rdec_fin xs w w1 vz A5 A6 c5 c6 nd HNN.out HR1.out HR2.out HLW1.out (HB1.out.trans (HBW.out.mono HB1.out.size)))
    ·intro K hK
     refine step_empty rfl rfl w1.heap.size HZW.out ?_
     intro gb v_3 hg hown hgrow
     have HEb := hI hown
     have HGb := hI hg.1
     have HNE := hI (show ga ≠ gb by have h := HGa.out.2; have := hg.2; omega)
     have HEa := hI (own_none HEa.out hgrow)
     have HGa := hI (show w1.heap.size ≤ ga ∧ ga < v_3.heap.size from ⟨HGa.out.1, nL HGa.out.2 hgrow.size⟩)
     have HBW := hI (HBW.out.grown hgrow HZW.out (fun g h => by cases h))
     have HZW := hI (nT HZW.out hgrow.size)
     clear hg hown hgrow
     simp only [rd20, Act.put, sA, sZ, sS]
     refine hK.out _ _ (fun _ => (HBW.out.cell HLB.out).trans HCELL.out) (fun hė => ?_)
     replace hė := hė (by decide)
     clear hK K
     refine Tillst.one (i := 14) (o := rd14) (by kernel_rfl) rfl ?_
     intro K hK
     refine step_call 219 #[.tmp 40] #[40] rfl rfl Tryz.func219 rfl rfl [.slice (some ⟨b0, o0 + 9, none⟩) 8 (c - 9)] rfl ?_
     refine (rnum_any _ 8 _ _ (fun _ => True) _ ((HSRC.out.below HBW.out).part 9 8 (by omega)) (bytes_part HBY.out 9 8) (by omega)).mono ?_
     rintro e w' ⟨rfl, rfl⟩
     rw [HNS.out]
     refine ⟨_, rfl, ?_⟩
     simp only [rd14, Act.put, sA, sZ, sS]
     refine hK.out _ _ (fun _ => (HBW.out.cell HLB.out).trans HCELL.out) (fun hė => ?_)
     replace hė := hė (by decide)
     clear hK K
     refine Tillst.one (i := 19) (o := rd19) (by kernel_rfl) rfl ?_
     intro K hK
     refine step_append_rowG (mk := Value.int .u8) (d := 0) rfl (.tmp 42) (.tmp 45) 40 rfl w1.heap.size 5 i0 (.int .u8 0) 1 Tryz.underlying40 hi hz0 hz1 hz2 rfl (fun _ => rfl) (.slice (some ⟨ga, 0, none⟩) 0 0) 0 [] rfl HEa.out (fun _ => True) (some ⟨b0, o0 + 21, none⟩) (klenOf xs) (c - 21) (keyOf xs) rfl ((HSRC.out.below HBW.out).part 21 (klenOf xs) HKN.out) (fun h => by cases h) (by unfold maxLen; omega) (by omega) HZW.out ?_
     intro v19 v_5 hown hgrow hblk
     rw [List.nil_append, Nat.zero_add] at hown
     have HO3 := hI hown
     have HVN := hI (show v19.ownBlock ≠ some gb from fun h => by rcases hblk with h2 | h2 <;> rw [h] at h2 <;> simp [Value.ownBlock] at h2; exact HNE.out h2.symm; have := HGb.out.2; omega)
     have HEb := hI (HEb.out.kept hgrow (.inr (fun h => HNE.out (by simpa [Value.ownBlock] using h.symm))))
     have HGb := hI (show w1.heap.size ≤ gb ∧ gb < v_5.heap.size from ⟨HGb.out.1, nL HGb.out.2 hgrow.size⟩)
     have HBW := hI (HBW.out.grown hgrow HZW.out (fun g h => by (have h' : ga = g := (by simpa [Value.ownBlock] using h)); have := HGa.out.1; omega))
     have HZW := hI (nT HZW.out hgrow.size)
     clear hown hgrow hblk
     simp only [rd19, Act.put, sA, sZ, sS]
     refine hK.out _ _ (fun _ => (HBW.out.cell HLB.out).trans HCELL.out) (fun hė => ?_)
     replace hė := hė (by decide)
     clear hK K
     refine Tillst.one (i := 25) (o := rd25) (by kernel_rfl) rfl ?_
     intro K hK
     refine step_append_rowG (mk := Value.int .u8) (d := 0) rfl (.tmp 47) (.tmp 51) 40 rfl w1.heap.size 5 i0 (.int .u8 0) 1 Tryz.underlying40 hi hz0 hz1 hz2 rfl (fun _ => rfl) (.slice (some ⟨gb, 0, none⟩) 0 0) 0 [] rfl HEb.out (fun _ => True) (some ⟨b0, ow, none⟩) (vlenOf xs) cw (valOf xs) rfl (HRW.out _ (HSRC.out.below HBW.out)) (fun h => by cases h) (by unfold maxLen; omega) (by omega) HZW.out ?_
     intro v25 vz hown hgrow hblk
     rw [List.nil_append, Nat.zero_add] at hown
     have hO3 := HO3.out.kept hgrow (.inr (fun h => HVN.out (by simpa [Value.ownBlock] using h)))
     obtain ⟨A5, c5, rfl, hc1, hn1, hr1⟩ := rowG_own 0 hO3
     obtain ⟨A6, c6, rfl, hc2, hn2, hr2⟩ := rowG_own 0 hown
     have HR1 := hI hr1
     have HR2 := hI hr2
     have HBW := hI (HBW.out.grown hgrow HZW.out (fun g h => by (have h' : gb = g := (by simpa [Value.ownBlock] using h)); have := HGb.out.1; omega))
     clear hown hgrow hblk hO3 hc1 hn1 hr1 hc2 hn2 hr2
     simp only [rd25, Act.put, sA, sZ, sS]
     refine hK.out _ _ (fun _ => (HBW.out.cell HLB.out).trans HCELL.out) (fun hė => ?_)
     replace hė := hė (by decide)
     clear hK K
     refine Tillst.tk 26 rd26 (v := ?_) rfl (by kernel_rfl) (by rfl) ?_ hė ?_
     rotate_left
     ·intro W hSW; (try dsimp only at hSW); unfold rd26; go_simp; with_reducible rfl
     simp only [rd26, Act.put, sA, sZ, sS]
     refine Tillst.one (i := 28) (o := rd28) (by kernel_rfl) rfl ?_
     intro K hK
     have HZ := hI (HRES.out.below HBW.out HRES.out.lt)
     refine step_store_row (.tmp 2) (.tmp 53) 69 rfl rfl w.heap.size (recC (kindOf xs) (flagsOf xs) (expOf xs) (seqOf xs) A5 (klenOf xs) c5 A6 (vlenOf xs) c6) rfl rfl 69 _ HZ.out size_rec rfl (one_rec _ _ _ _ _ _ _ _ _ _) ?_
     simp only [rd28, Act.put, sA, sZ, sS]
     refine hK.out _ _ (fun _ => (World.cell?_of_block (setRow_other _ _ _ _ (Nat.ne_of_lt HLW.out))).trans ((HBW.out.cell HLB.out).trans HCELL.out)) (fun hė => ?_)
     replace hė := hė (by decide)
     clear hK K
     refine Tillst.tk 29 rd29 (v := ?_) rfl (by kernel_rfl) (by rfl) ?_ hė ?_
     rotate_left
     ·intro W hSW; (try dsimp only at hSW); unfold rd29; go_simp; with_reducible rfl
     simp only [rd29, Act.put, sA, sZ, sS]
     refine Tillst.tk 30 rd30 (v := ?_) rfl (by kernel_rfl) (by rfl) ?_ hė ?_
     rotate_left
     ·intro W hSW; (try dsimp only at hSW); unfold rd30; go_simp; with_reducible rfl
     simp only [rd30, Act.put, sA, sZ, sS]
     refine Tillst.done (by kernel_rfl) ?_ _
     refine NoPanic.normal ?_
     clear hė
     go_wp2_with (with_reducible refine halt_end ?_)
     have hst := setRow_heap _ _ _ (recC (kindOf xs) (flagsOf xs) (expOf xs) (seqOf xs) A5 (klenOf xs) c5 A6 (vlenOf xs) c6) _ _ HZ.out
     exact Halt.ret (results_row3 (p := 2) (u := 3) (v := 4) rfl _ _ w.heap.size 69 (recC (kindOf xs) (flagsOf xs) (expOf xs) (seqOf xs) A5 (klenOf xs) c5 A6 (vlenOf xs) c6) _ rfl hst Tryz.underlying69 rfl size_rec) rfl (rdec_fin xs w w1 vz A5 A6 c5 c6 nd HNN.out HR1.out HR2.out HLW1.out (HB1.out.trans (HBW.out.mono HB1.out.size)))
   ·intro K hK
    refine step_empty rfl rfl w1.heap.size HZW.out ?_
    intro gb v_2 hg hown hgrow
    have HEb := hI hown
    have HGb := hI hg.1
    have HNE := hI (show ga ≠ gb by have h := HGa.out.2; have := hg.2; omega)
    have HEa := hI (own_none HEa.out hgrow)
    have HGa := hI (show w1.heap.size ≤ ga ∧ ga < v_2.heap.size from ⟨HGa.out.1, nL HGa.out.2 hgrow.size⟩)
    have HBW := hI (HBW.out.grown hgrow HZW.out (fun g h => by cases h))
    have HZW := hI (nT HZW.out hgrow.size)
    clear hg hown hgrow
    simp only [rd20, Act.put, sA, sZ, sS]
    refine hK.out _ _ (fun _ => (HBW.out.cell HLB.out).trans HCELL.out) (fun hė => ?_)
    replace hė := hė (by decide)
    clear hK K
    refine Tillst.one (i := 10) (o := rd10) (by kernel_rfl) rfl ?_
    intro K hK
    refine step_call 219 #[.tmp 36] #[40] rfl rfl Tryz.func219 rfl rfl [.slice (some ⟨b0, o0 + 5, none⟩) 4 (c - 5)] rfl ?_
    refine (rnum_any _ 4 _ _ (fun _ => True) _ ((HSRC.out.below HBW.out).part 5 4 (by omega)) (bytes_part HBY.out 5 4) (by omega)).mono ?_
    rintro e w' ⟨rfl, rfl⟩
    rw [HNX.out]
    refine ⟨_, rfl, ?_⟩
    simp only [rd10, Act.put, sA, sZ, sS]
    refine hK.out _ _ (fun _ => (HBW.out.cell HLB.out).trans HCELL.out) (fun hė => ?_)
    replace hė := hė (by decide)
    clear hK K
    refine Tillst.tk 11 rd11 (v := ?_) rfl (by kernel_rfl) (by rfl) ?_ hė ?_
    rotate_left
    ·intro W hSW; (try dsimp only at hSW); unfold rd11; go_simp; with_reducible rfl
    simp only [rd11, Act.put, sA, sZ, sS]
    refine Tillst.one (i := 14) (o := rd14) (by kernel_rfl) rfl ?_
    intro K hK
    refine step_call 219 #[.tmp 40] #[40] rfl rfl Tryz.func219 rfl rfl [.slice (some ⟨b0, o0 + 9, none⟩) 8 (c - 9)] rfl ?_
    refine (rnum_any _ 8 _ _ (fun _ => True) _ ((HSRC.out.below HBW.out).part 9 8 (by omega)) (bytes_part HBY.out 9 8) (by omega)).mono ?_
    rintro e w' ⟨rfl, rfl⟩
    rw [HNS.out]
    refine ⟨_, rfl, ?_⟩
    simp only [rd14, Act.put, sA, sZ, sS]
    refine hK.out _ _ (fun _ => (HBW.out.cell HLB.out).trans HCELL.out) (fun hė => ?_)
    replace hė := hė (by decide)
    clear hK K
    refine Tillst.one (i := 19) (o := rd19) (by kernel_rfl) rfl ?_
    intro K hK
    refine step_append_rowG (mk := Value.int .u8) (d := 0) rfl (.tmp 42) (.tmp 45) 40 rfl w1.heap.size 5 i0 (.int .u8 0) 1 Tryz.underlying40 hi hz0 hz1 hz2 rfl (fun _ => rfl) (.slice (some ⟨ga, 0, none⟩) 0 0) 0 [] rfl HEa.out (fun _ => True) (some ⟨b0, o0 + 21, none⟩) (klenOf xs) (c - 21) (keyOf xs) rfl ((HSRC.out.below HBW.out).part 21 (klenOf xs) HKN.out) (fun h => by cases h) (by unfold maxLen; omega) (by omega) HZW.out ?_
    intro v19 v_5 hown hgrow hblk
    rw [List.nil_append, Nat.zero_add] at hown
    have HO3 := hI hown
    have HVN := hI (show v19.ownBlock ≠ some gb from fun h => by rcases hblk with h2 | h2 <;> rw [h] at h2 <;> simp [Value.ownBlock] at h2; exact HNE.out h2.symm; have := HGb.out.2; omega)
    have HEb := hI (HEb.out.kept hgrow (.inr (fun h => HNE.out (by simpa [Value.ownBlock] using h.symm))))
    have HGb := hI (show w1.heap.size ≤ gb ∧ gb < v_5.heap.size from ⟨HGb.out.1, nL HGb.out.2 hgrow.size⟩)
    have HBW := hI (HBW.out.grown hgrow HZW.out (fun g h => by (have h' : ga = g := (by simpa [Value.ownBlock] using h)); have := HGa.out.1; omega))
    have HZW := hI (nT HZW.out hgrow.size)
    clear hown hgrow hblk
    simp only [rd19, Act.put, sA, sZ, sS]
    refine hK.out _ _ (fun _ => (HBW.out.cell HLB.out).trans HCELL.out) (fun hė => ?_)
    replace hė := hė (by decide)
    clear hK K
    refine Tillst.one (i := 25) (o := rd25) (by kernel_rfl) rfl ?_
    intro K hK
    refine step_append_rowG (mk := Value.int .u8) (d := 0) rfl (.tmp 47) (.tmp 51) 40 rfl w1.heap.size 5 i0 (.int .u8 0) 1 Tryz.underlying40 hi hz0 hz1 hz2 rfl (fun _ => rfl) (.slice (some ⟨gb, 0, none⟩) 0 0) 0 [] rfl HEb.out (fun _ => True) (some ⟨b0, ow, none⟩) (vlenOf xs) cw (valOf xs) rfl (HRW.out _ (HSRC.out.below HBW.out)) (fun h => by cases h) (by unfold maxLen; omega) (by omega) HZW.out ?_
    intro v25 vz hown hgrow hblk
    rw [List.nil_append, Nat.zero_add] at hown
    have hO3 := HO3.out.kept hgrow (.inr (fun h => HVN.out (by simpa [Value.ownBlock] using h)))
    obtain ⟨A5, c5, rfl, hc1, hn1, hr1⟩ := rowG_own 0 hO3
    obtain ⟨A6, c6, rfl, hc2, hn2, hr2⟩ := rowG_own 0 hown
    have HR1 := hI hr1
    have HR2 := hI hr2
    have HBW := hI (HBW.out.grown hgrow HZW.out (fun g h => by (have h' : gb = g := (by simpa [Value.ownBlock] using h)); have := HGb.out.1; omega))
    clear hown hgrow hblk hO3 hc1 hn1 hr1 hc2 hn2 hr2
    simp only [rd25, Act.put, sA, sZ, sS]
    refine hK.out _ _ (fun _ => (HBW.out.cell HLB.out).trans HCELL.out) (fun hė => ?_)
    replace hė := hė (by decide)
    clear hK K
    refine Tillst.tk 26 rd26 (v := ?_) rfl (by kernel_rfl) (by rfl) ?_ hė ?_
    rotate_left
    ·intro W hSW; (try dsimp only at hSW); unfold rd26; go_simp; with_reducible rfl
    simp only [rd26, Act.put, sA, sZ, sS]
    refine Tillst.one (i := 28) (o := rd28) (by kernel_rfl) rfl ?_
    intro K hK
    have HZ := hI (HRES.out.below HBW.out HRES.out.lt)
    refine step_store_row (.tmp 2) (.tmp 53) 69 rfl rfl w.heap.size (recC (kindOf xs) (flagsOf xs) (expOf xs) (seqOf xs) A5 (klenOf xs) c5 A6 (vlenOf xs) c6) rfl rfl 69 _ HZ.out size_rec rfl (one_rec _ _ _ _ _ _ _ _ _ _) ?_
    simp only [rd28, Act.put, sA, sZ, sS]
    refine hK.out _ _ (fun _ => (World.cell?_of_block (setRow_other _ _ _ _ (Nat.ne_of_lt HLW.out))).trans ((HBW.out.cell HLB.out).trans HCELL.out)) (fun hė => ?_)
    replace hė := hė (by decide)
    clear hK K
    refine Tillst.tk 29 rd29 (v := ?_) rfl (by kernel_rfl) (by rfl) ?_ hė ?_
    rotate_left
    ·intro W hSW; (try dsimp only at hSW); unfold rd29; go_simp; with_reducible rfl
    simp only [rd29, Act.put, sA, sZ, sS]
    refine Tillst.tk 30 rd30 (v := ?_) rfl (by kernel_rfl) (by rfl) ?_ hė ?_
    rotate_left
    ·intro W hSW; (try dsimp only at hSW); unfold rd30; go_simp; with_reducible rfl
    simp only [rd30, Act.put, sA, sZ, sS]
    refine Tillst.done (by kernel_rfl) ?_ _
    refine NoPanic.normal ?_
    clear hė
    go_wp2_with (with_reducible refine halt_end ?_)
    have hst := setRow_heap _ _ _ (recC (kindOf xs) (flagsOf xs) (expOf xs) (seqOf xs) A5 (klenOf xs) c5 A6 (vlenOf xs) c6) _ _ HZ.out
    exact Halt.ret (results_row3 (p := 2) (u := 3) (v := 4) rfl _ _ w.heap.size 69 (recC (kindOf xs) (flagsOf xs) (expOf xs) (seqOf xs) A5 (klenOf xs) c5 A6 (vlenOf xs) c6) _ rfl hst Tryz.underlying69 rfl size_rec) rfl (rdec_fin xs w w1 vz A5 A6 c5 c6 nd HNN.out HR1.out HR2.out HLW1.out (HB1.out.trans (HBW.out.mono HB1.out.size)))
  ·intro K hK
   refine step_empty rfl rfl w1.heap.size HZW.out ?_
   intro gb v_1 hg hown hgrow
   have HEb := hI hown
   have HGb := hI hg.1
   have HBW := hI (HBW.out.grown hgrow HZW.out (fun g h => by cases h))
   have HZW := hI (nT HZW.out hgrow.size)
   clear hg hown hgrow
   simp only [rd20, Act.put, sA, sZ, sS]
   refine hK.out _ _ (fun _ => (HBW.out.cell HLB.out).trans HCELL.out) (fun hė => ?_)
   replace hė := hė (by decide)
   clear hK K
   refine Tillst.two (i := 10) (j := 15) (o := rd10) (o' := rd15) (by kernel_rfl) rfl rfl ?_ ?_
   ·intro K hK
    refine step_call 219 #[.tmp 36] #[40] rfl rfl Tryz.func219 rfl rfl [.slice (some ⟨b0, o0 + 5, none⟩) 4 (c - 5)] rfl ?_
    refine (rnum_any _ 4 _ _ (fun _ => True) _ ((HSRC.out.below HBW.out).part 5 4 (by omega)) (bytes_part HBY.out 5 4) (by omega)).mono ?_
    rintro e w' ⟨rfl, rfl⟩
    rw [HNX.out]
    refine ⟨_, rfl, ?_⟩
    simp only [rd10, Act.put, sA, sZ, sS]
    refine hK.out _ _ (fun _ => (HBW.out.cell HLB.out).trans HCELL.out) (fun hė => ?_)
    replace hė := hė (by decide)
    clear hK K
    refine Tillst.tk 11 rd11 (v := ?_) rfl (by kernel_rfl) (by rfl) ?_ hė ?_
    rotate_left
    ·intro W hSW; (try dsimp only at hSW); unfold rd11; go_simp; with_reducible rfl
    simp only [rd11, Act.put, sA, sZ, sS]
    refine Tillst.two (i := 14) (j := 15) (o := rd14) (o' := rd15) (by kernel_rfl) rfl rfl ?_ ?_
    ·intro K hK
     refine step_call 219 #[.tmp 40] #[40] rfl rfl Tryz.func219 rfl rfl [.slice (some ⟨b0, o0 + 9, none⟩) 8 (c - 9)] rfl ?_
     refine (rnum_any _ 8 _ _ (fun _ => True) _ ((HSRC.out.below HBW.out).part 9 8 (by omega)) (bytes_part HBY.out 9 8) (by omega)).mono ?_
     rintro e w' ⟨rfl, rfl⟩
     rw [HNS.out]
     refine ⟨_, rfl, ?_⟩
     simp only [rd14, Act.put, sA, sZ, sS]
     refine hK.out _ _ (fun _ => (HBW.out.cell HLB.out).trans HCELL.out) (fun hė => ?_)
     replace hė := hė (by decide)
     clear hK K
     refine Tillst.one (i := 15) (o := rd15) (by kernel_rfl) rfl ?_
     intro K hK
     refine step_empty rfl rfl w1.heap.size HZW.out ?_
     intro ga v_4 hg hown hgrow
     have HEa := hI hown
     have HGa := hI hg.1
     have HNE := hI (show ga ≠ gb by have h := HGb.out.2; have := hg.2; omega)
     have HEb := hI (own_none HEb.out hgrow)
     have HGb := hI (show w1.heap.size ≤ gb ∧ gb < v_4.heap.size from ⟨HGb.out.1, nL HGb.out.2 hgrow.size⟩)
     have HBW := hI (HBW.out.grown hgrow HZW.out (fun g h => by cases h))
     have HZW := hI (nT HZW.out hgrow.size)
     clear hg hown hgrow
     simp only [rd15, Act.put, sA, sZ, sS]
     refine hK.out _ _ (fun _ => (HBW.out.cell HLB.out).trans HCELL.out) (fun hė => ?_)
     replace hė := hė (by decide)
     clear hK K
     refine Tillst.one (i := 19) (o := rd19) (by kernel_rfl) rfl ?_
     intro K hK
     refine step_append_rowG (mk := Value.int .u8) (d := 0) rfl (.tmp 42) (.tmp 45) 40 rfl w1.heap.size 5 i0 (.int .u8 0) 1 Tryz.underlying40 hi hz0 hz1 hz2 rfl (fun _ => rfl) (.slice (some ⟨ga, 0, none⟩) 0 0) 0 [] rfl HEa.out (fun _ => True) (some ⟨b0, o0 + 21, none⟩) (klenOf xs) (c - 21) (keyOf xs) rfl ((HSRC.out.below HBW.out).part 21 (klenOf xs) HKN.out) (fun h => by cases h) (by unfold maxLen; omega) (by omega) HZW.out ?_
     intro v19 v_5 hown hgrow hblk
     rw [List.nil_append, Nat.zero_add] at hown
     have HO3 := hI hown
     have HVN := hI (show v19.ownBlock ≠ some gb from fun h => by rcases hblk with h2 | h2 <;> rw [h] at h2 <;> simp [Value.ownBlock] at h2; exact HNE.out h2.symm; have := HGb.out.2; omega)
     have HEb := hI (HEb.out.kept hgrow (.inr (fun h => HNE.out (by simpa [Value.ownBlock] using h.symm))))
     have HGb := hI (show w1.heap.size ≤ gb ∧ gb < v_5.heap.size from ⟨HGb.out.1, nL HGb.out.2 hgrow.size⟩)
     have HBW := hI (HBW.out.grown hgrow HZW.out (fun g h => by (have h' : ga = g := (by simpa [Value.ownBlock] using h)); have := HGa.out.1; omega))
     have HZW := hI (nT HZW.out hgrow.size)
     clear hown hgrow hblk
     simp only [rd19, Act.put, sA, sZ, sS]
     refine hK.out _ _ (fun _ => (HBW.out.cell HLB.out).trans HCELL.out) (fun hė => ?_)
     replace hė := hė (by decide)
     clear hK K
     refine Tillst.one (i := 25) (o := rd25) (by kernel_rfl) rfl ?_
     intro K hK
     refine step_append_rowG (mk := Value.int .u8) (d := 0) rfl (.tmp 47) (.tmp 51) 40 rfl w1.heap.size 5 i0 (.int .u8 0) 1 Tryz.underlying40 hi hz0 hz1 hz2 rfl (fun _ => rfl) (.slice (some ⟨gb, 0, none⟩) 0 0) 0 [] rfl HEb.out (fun _ => True) (some ⟨b0, ow, none⟩) (vlenOf xs) cw (valOf xs) rfl (HRW.out _ (HSRC.out.below HBW.out)) (fun h => by cases h) (by unfold maxLen; omega) (by omega) HZW.out ?_
     intro v25 vz hown hgrow hblk
     rw [List.nil_append, Nat.zero_add] at hown
     have hO3 := HO3.out.kept hgrow (.inr (fun h => HVN.out (by simpa [Value.ownBlock] using h)))
     obtain ⟨A5, c5, rfl, hc1, hn1, hr1⟩ := rowG_own 0 hO3
     obtain ⟨A6, c6, rfl, hc2, hn2, hr2⟩ := rowG_own 0 hown
     have HR1 := hI hr1
     have HR2 := hI hr2
     have HBW := hI (HBW.out.grown hgrow HZW.out (fun g h => by (have h' : gb = g := (by simpa [Value.ownBlock] using h)); have := HGb.out.1; omega))
     clear hown hgrow hblk hO3 hc1 hn1 hr1 hc2 hn2 hr2
     simp only [rd25, Act.put, sA, sZ, sS]
     refine hK.out _ _ (fun _ => (HBW.out.cell HLB.out).trans HCELL.out) (fun hė => ?_)
     replace hė := hė (by decide)
     clear hK K
     refine Tillst.tk 26 rd26 (v := ?_) rfl (by kernel_rfl) (by rfl) ?_ hė ?_
     rotate_left
     ·intro W hSW; (try dsimp only at hSW); unfold rd26; go_simp; with_reducible rfl
     simp only [rd26, Act.put, sA, sZ, sS]
     refine Tillst.one (i := 28) (o := rd28) (by kernel_rfl) rfl ?_
     intro K hK
     have HZ := hI (HRES.out.below HBW.out HRES.out.lt)
     refine step_store_row (.tmp 2) (.tmp 53) 69 rfl rfl w.heap.size (recC (kindOf xs) (flagsOf xs) (expOf xs) (seqOf xs) A5 (klenOf xs) c5 A6 (vlenOf xs) c6) rfl rfl 69 _ HZ.out size_rec rfl (one_rec _ _ _ _ _ _ _ _ _ _) ?_
     simp only [rd28, Act.put, sA, sZ, sS]
     refine hK.out _ _ (fun _ => (World.cell?_of_block (setRow_other _ _ _ _ (Nat.ne_of_lt HLW.out))).trans ((HBW.out.cell HLB.out).trans HCELL.out)) (fun hė => ?_)
     replace hė := hė (by decide)
     clear hK K
     refine Tillst.tk 29 rd29 (v := ?_) rfl (by kernel_rfl) (by rfl) ?_ hė ?_
     rotate_left
     ·intro W hSW; (try dsimp only at hSW); unfold rd29; go_simp; with_reducible rfl
     simp only [rd29, Act.put, sA, sZ, sS]
     refine Tillst.tk 30 rd30 (v := ?_) rfl (by kernel_rfl) (by rfl) ?_ hė ?_
     rotate_left
     ·intro W hSW; (try dsimp only at hSW); unfold rd30; go_simp; with_reducible rfl
     simp only [rd30, Act.put, sA, sZ, sS]
     refine Tillst.done (by kernel_rfl) ?_ _
     refine NoPanic.normal ?_
     clear hė
     go_wp2_with (with_reducible refine halt_end ?_)
     have hst := setRow_heap _ _ _ (recC (kindOf xs) (flagsOf xs) (expOf xs) (seqOf xs) A5 (klenOf xs) c5 A6 (vlenOf xs) c6) _ _ HZ.out
     exact Halt.ret (results_row3 (p := 2) (u := 3) (v := 4) rfl _ _ w.heap.size 69 (recC (kindOf xs) (flagsOf xs) (expOf xs) (seqOf xs) A5 (klenOf xs) c5 A6 (vlenOf xs) c6) _ rfl hst Tryz.underlying69 rfl size_rec) rfl (rdec_fin xs w w1 vz A5 A6 c5 c6 nd HNN.out HR1.out HR2.out HLW1.out (HB1.out.trans (HBW.out.mono HB1.out.size)))
    ·intro K hK
     refine step_empty rfl rfl w1.heap.size HZW.out ?_
     intro ga v_3 hg hown hgrow
     have HEa := hI hown
     have HGa := hI hg.1
     have HNE := hI (show ga ≠ gb by have h := HGb.out.2; have := hg.2; omega)
     have HEb := hI (own_none HEb.out hgrow)
     have HGb := hI (show w1.heap.size ≤ gb ∧ gb < v_3.heap.size from ⟨HGb.out.1, nL HGb.out.2 hgrow.size⟩)
     have HBW := hI (HBW.out.grown hgrow HZW.out (fun g h => by cases h))
     have HZW := hI (nT HZW.out hgrow.size)
     clear hg hown hgrow
     simp only [rd15, Act.put, sA, sZ, sS]
     refine hK.out _ _ (fun _ => (HBW.out.cell HLB.out).trans HCELL.out) (fun hė => ?_)
     replace hė := hė (by decide)
     clear hK K
     refine Tillst.one (i := 14) (o := rd14) (by kernel_rfl) rfl ?_
     intro K hK
     refine step_call 219 #[.tmp 40] #[40] rfl rfl Tryz.func219 rfl rfl [.slice (some ⟨b0, o0 + 9, none⟩) 8 (c - 9)] rfl ?_
     refine (rnum_any _ 8 _ _ (fun _ => True) _ ((HSRC.out.below HBW.out).part 9 8 (by omega)) (bytes_part HBY.out 9 8) (by omega)).mono ?_
     rintro e w' ⟨rfl, rfl⟩
     rw [HNS.out]
     refine ⟨_, rfl, ?_⟩
     simp only [rd14, Act.put, sA, sZ, sS]
     refine hK.out _ _ (fun _ => (HBW.out.cell HLB.out).trans HCELL.out) (fun hė => ?_)
     replace hė := hė (by decide)
     clear hK K
     refine Tillst.one (i := 19) (o := rd19) (by kernel_rfl) rfl ?_
     intro K hK
     refine step_append_rowG (mk := Value.int .u8) (d := 0) rfl (.tmp 42) (.tmp 45) 40 rfl w1.heap.size 5 i0 (.int .u8 0) 1 Tryz.underlying40 hi hz0 hz1 hz2 rfl (fun _ => rfl) (.slice (some ⟨ga, 0, none⟩) 0 0) 0 [] rfl HEa.out (fun _ => True) (some ⟨b0, o0 + 21, none⟩) (klenOf xs) (c - 21) (keyOf xs) rfl ((HSRC.out.below HBW.out).part 21 (klenOf xs) HKN.out) (fun h => by cases h) (by unfold maxLen; omega) (by omega) HZW.out ?_
     intro v19 v_5 hown hgrow hblk
     rw [List.nil_append, Nat.zero_add] at hown
     have HO3 := hI hown
     have HVN := hI (show v19.ownBlock ≠ some gb from fun h => by rcases hblk with h2 | h2 <;> rw [h] at h2 <;> simp [Value.ownBlock] at h2; exact HNE.out h2.symm; have := HGb.out.2; omega)
     have HEb := hI (HEb.out.kept hgrow (.inr (fun h => HNE.out (by simpa [Value.ownBlock] using h.symm))))
     have HGb := hI (show w1.heap.size ≤ gb ∧ gb < v_5.heap.size from ⟨HGb.out.1, nL HGb.out.2 hgrow.size⟩)
     have HBW := hI (HBW.out.grown hgrow HZW.out (fun g h => by (have h' : ga = g := (by simpa [Value.ownBlock] using h)); have := HGa.out.1; omega))
     have HZW := hI (nT HZW.out hgrow.size)
     clear hown hgrow hblk
     simp only [rd19, Act.put, sA, sZ, sS]
     refine hK.out _ _ (fun _ => (HBW.out.cell HLB.out).trans HCELL.out) (fun hė => ?_)
     replace hė := hė (by decide)
     clear hK K
     refine Tillst.one (i := 25) (o := rd25) (by kernel_rfl) rfl ?_
     intro K hK
     refine step_append_rowG (mk := Value.int .u8) (d := 0) rfl (.tmp 47) (.tmp 51) 40 rfl w1.heap.size 5 i0 (.int .u8 0) 1 Tryz.underlying40 hi hz0 hz1 hz2 rfl (fun _ => rfl) (.slice (some ⟨gb, 0, none⟩) 0 0) 0 [] rfl HEb.out (fun _ => True) (some ⟨b0, ow, none⟩) (vlenOf xs) cw (valOf xs) rfl (HRW.out _ (HSRC.out.below HBW.out)) (fun h => by cases h) (by unfold maxLen; omega) (by omega) HZW.out ?_
     intro v25 vz hown hgrow hblk
     rw [List.nil_append, Nat.zero_add] at hown
     have hO3 := HO3.out.kept hgrow (.inr (fun h => HVN.out (by simpa [Value.ownBlock] using h)))
     obtain ⟨A5, c5, rfl, hc1, hn1, hr1⟩ := rowG_own 0 hO3
     obtain ⟨A6, c6, rfl, hc2, hn2, hr2⟩ := rowG_own 0 hown
     have HR1 := hI hr1
     have HR2 := hI hr2
     have HBW := hI (HBW.out.grown hgrow HZW.out (fun g h => by (have h' : gb = g := (by simpa [Value.ownBlock] using h)); have := HGb.out.1; omega))
     clear hown hgrow hblk hO3 hc1 hn1 hr1 hc2 hn2 hr2
     simp only [rd25, Act.put, sA, sZ, sS]
     refine hK.out _ _ (fun _ => (HBW.out.cell HLB.out).trans HCELL.out) (fun hė => ?_)
     replace hė := hė (by decide)
     clear hK K
     refine Tillst.tk 26 rd26 (v := ?_) rfl (by kernel_rfl) (by rfl) ?_ hė ?_
     rotate_left
     ·intro W hSW; (try dsimp only at hSW); unfold rd26; go_simp; with_reducible rfl
     simp only [rd26, Act.put, sA, sZ, sS]
     refine Tillst.one (i := 28) (o := rd28) (by kernel_rfl) rfl ?_
     intro K hK
     have HZ := hI (HRES.out.below HBW.out HRES.out.lt)
     refine step_store_row (.tmp 2) (.tmp 53) 69 rfl rfl w.heap.size (recC (kindOf xs) (flagsOf xs) (expOf xs) (seqOf xs) A5 (klenOf xs) c5 A6 (vlenOf xs) c6) rfl rfl 69 _ HZ.out size_rec rfl (one_rec _ _ _ _ _ _ _ _ _ _) ?_
     simp only [rd28, Act.put, sA, sZ, sS]
     refine hK.out _ _ (fun _ => (World.cell?_of_block (setRow_other _ _ _ _ (Nat.ne_of_lt HLW.out))).trans ((HBW.out.cell HLB.out).trans HCELL.out)) (fun hė => ?_)
     replace hė := hė (by decide)
     clear hK K
     refine Tillst.tk 29 rd29 (v := ?_) rfl (by kernel_rfl) (by rfl) ?_ hė ?_
     rotate_left
     ·intro W hSW; (try dsimp only at hSW); unfold rd29; go_simp; with_reducible rfl
     simp only [rd29, Act.put, sA, sZ, sS]
     refine Tillst.tk 30 rd30 (v := ?_) rfl (by kernel_rfl) (by rfl) ?_ hė ?_
     rotate_left
     ·intro W hSW; (try dsimp only at hSW); unfold rd30; go_simp; with_reducible rfl
     simp only [rd30, Act.put, sA, sZ, sS]
     refine Tillst.done (by kernel_rfl) ?_ _
     refine NoPanic.normal ?_
     clear hė
     go_wp2_with (with_reducible refine halt_end ?_)
     have hst := setRow_heap _ _ _ (recC (kindOf xs) (flagsOf xs) (expOf xs) (seqOf xs) A5 (klenOf xs) c5 A6 (vlenOf xs) c6) _ _ HZ.out
     exact Halt.ret (results_row3 (p := 2) (u := 3) (v := 4) rfl _ _ w.heap.size 69 (recC (kindOf xs) (flagsOf xs) (expOf xs) (seqOf xs) A5 (klenOf xs) c5 A6 (vlenOf xs) c6) _ rfl hst Tryz.underlying69 rfl size_rec) rfl (rdec_fin xs w w1 vz A5 A6 c5 c6 nd HNN.out HR1.out HR2.out HLW1.out (HB1.out.trans (HBW.out.mono HB1.out.size)))
   ·intro K hK
    refine step_empty rfl rfl w1.heap.size HZW.out ?_
    intro ga v_2 hg hown hgrow
    have HEa := hI hown
    have HGa := hI hg.1
    have HNE := hI (show ga ≠ gb by have h := HGb.out.2; have := hg.2; omega)
    have HEb := hI (own_none HEb.out hgrow)
    have HGb := hI (show w1.heap.size ≤ gb ∧ gb < v_2.heap.size from ⟨HGb.out.1, nL HGb.out.2 hgrow.size⟩)
    have HBW := hI (HBW.out.grown hgrow HZW.out (fun g h => by cases h))
    have HZW := hI (nT HZW.out hgrow.size)
    clear hg hown hgrow
    simp only [rd15, Act.put, sA, sZ, sS]
    refine hK.out _ _ (fun _ => (HBW.out.cell HLB.out).trans HCELL.out) (fun hė => ?_)
    replace hė := hė (by decide)
    clear hK K
    refine Tillst.one (i := 10) (o := rd10) (by kernel_rfl) rfl ?_
    intro K hK
    refine step_call 219 #[.tmp 36] #[40] rfl rfl Tryz.func219 rfl rfl [.slice (some ⟨b0, o0 + 5, none⟩) 4 (c - 5)] rfl ?_
    refine (rnum_any _ 4 _ _ (fun _ => True) _ ((HSRC.out.below HBW.out).part 5 4 (by omega)) (bytes_part HBY.out 5 4) (by omega)).mono ?_
    rintro e w' ⟨rfl, rfl⟩
    rw [HNX.out]
    refine ⟨_, rfl, ?_⟩
    simp only [rd10, Act.put, sA, sZ, sS]
    refine hK.out _ _ (fun _ => (HBW.out.cell HLB.out).trans HCELL.out) (fun hė => ?_)
    replace hė := hė (by decide)
    clear hK K
    refine Tillst.tk 11 rd11 (v := ?_) rfl (by kernel_rfl) (by rfl) ?_ hė ?_
    rotate_left
    ·intro W hSW; (try dsimp only at hSW); unfold rd11; go_simp; with_reducible rfl
    simp only [rd11, Act.put, sA, sZ, sS]
    refine Tillst.one (i := 14) (o := rd14) (by kernel_rfl) rfl ?_
    intro K hK
    refine step_call 219 #[.tmp 40] #[40] rfl rfl Tryz.func219 rfl rfl [.slice (some ⟨b0, o0 + 9, none⟩) 8 (c - 9)] rfl ?_
    refine (rnum_any _ 8 _ _ (fun _ => True) _ ((HSRC.out.below HBW.out).part 9 8 (by omega)) (bytes_part HBY.out 9 8) (by omega)).mono ?_
    rintro e w' ⟨rfl, rfl⟩
    rw [HNS.out]
    refine ⟨_, rfl, ?_⟩
    simp only [rd14, Act.put, sA, sZ, sS]
    refine hK.out _ _ (fun _ => (HBW.out.cell HLB.out).trans HCELL.out) (fun hė => ?_)
    replace hė := hė (by decide)
    clear hK K
    refine Tillst.one (i := 19) (o := rd19) (by kernel_rfl) rfl ?_
    intro K hK
    refine step_append_rowG (mk := Value.int .u8) (d := 0) rfl (.tmp 42) (.tmp 45) 40 rfl w1.heap.size 5 i0 (.int .u8 0) 1 Tryz.underlying40 hi hz0 hz1 hz2 rfl (fun _ => rfl) (.slice (some ⟨ga, 0, none⟩) 0 0) 0 [] rfl HEa.out (fun _ => True) (some ⟨b0, o0 + 21, none⟩) (klenOf xs) (c - 21) (keyOf xs) rfl ((HSRC.out.below HBW.out).part 21 (klenOf xs) HKN.out) (fun h => by cases h) (by unfold maxLen; omega) (by omega) HZW.out ?_
    intro v19 v_5 hown hgrow hblk
    rw [List.nil_append, Nat.zero_add] at hown
    have HO3 := hI hown
    have HVN := hI (show v19.ownBlock ≠ some gb from fun h => by rcases hblk with h2 | h2 <;> rw [h] at h2 <;> simp [Value.ownBlock] at h2; exact HNE.out h2.symm; have := HGb.out.2; omega)
    have HEb := hI (HEb.out.kept hgrow (.inr (fun h => HNE.out (by simpa [Value.ownBlock] using h.symm))))
    have HGb := hI (show w1.heap.size ≤ gb ∧ gb < v_5.heap.size from ⟨HGb.out.1, nL HGb.out.2 hgrow.size⟩)
    have HBW := hI (HBW.out.grown hgrow HZW.out (fun g h => by (have h' : ga = g := (by simpa [Value.ownBlock] using h)); have := HGa.out.1; omega))
    have HZW := hI (nT HZW.out hgrow.size)
    clear hown hgrow hblk
    simp only [rd19, Act.put, sA, sZ, sS]
    refine hK.out _ _ (fun _ => (HBW.out.cell HLB.out).trans HCELL.out) (fun hė => ?_)
    replace hė := hė (by decide)
    clear hK K
    refine Tillst.one (i := 25) (o := rd25) (by kernel_rfl) rfl ?_
    intro K hK
    refine step_append_rowG (mk := Value.int .u8) (d := 0) rfl (.tmp 47) (.tmp 51) 40 rfl w1.heap.size 5 i0 (.int .u8 0) 1 Tryz.underlying40 hi hz0 hz1 hz2 rfl (fun _ => rfl) (.slice (some ⟨gb, 0, none⟩) 0 0) 0 [] rfl HEb.out (fun _ => True) (some ⟨b0, ow, none⟩) (vlenOf xs) cw (valOf xs) rfl (HRW.out _ (HSRC.out.below HBW.out)) (fun h => by cases h) (by unfold maxLen; omega) (by omega) HZW.out ?_
    intro v25 vz hown hgrow hblk
    rw [List.nil_append, Nat.zero_add] at hown
    have hO3 := HO3.out.kept hgrow (.inr (fun h => HVN.out (by simpa [Value.ownBlock] using h)))
    obtain ⟨A5, c5, rfl, hc1, hn1, hr1⟩ := rowG_own 0 hO3
    obtain ⟨A6, c6, rfl, hc2, hn2, hr2⟩ := rowG_own 0 hown
    have HR1 := hI hr1
    have HR2 := hI hr2
    have HBW := hI (HBW.out.grown hgrow HZW.out (fun g h => by (have h' : gb = g := (by simpa [Value.ownBlock] using h)); have := HGb.out.1; omega))
    clear hown hgrow hblk hO3 hc1 hn1 hr1 hc2 hn2 hr2
    simp only [rd25, Act.put, sA, sZ, sS]
    refine hK.out _ _ (fun _ => (HBW.out.cell HLB.out).trans HCELL.out) (fun hė => ?_)
    replace hė := hė (by decide)
    clear hK K
    refine Tillst.tk 26 rd26 (v := ?_) rfl (by kernel_rfl) (by rfl) ?_ hė ?_
    rotate_left
    ·intro W hSW; (try dsimp only at hSW); unfold rd26; go_simp; with_reducible rfl
    simp only [rd26, Act.put, sA, sZ, sS]
    refine Tillst.one (i := 28) (o := rd28) (by kernel_rfl) rfl ?_
    intro K hK
    have HZ := hI (HRES.out.below HBW.out HRES.out.lt)
    refine step_store_row (.tmp 2) (.tmp 53) 69 rfl rfl w.heap.size (recC (kindOf xs) (flagsOf xs) (expOf xs) (seqOf xs) A5 (klenOf xs) c5 A6 (vlenOf xs) c6) rfl rfl 69 _ HZ.out size_rec rfl (one_rec _ _ _ _ _ _ _ _ _ _) ?_
    simp only [rd28, Act.put, sA, sZ, sS]
    refine hK.out _ _ (fun _ => (World.cell?_of_block (setRow_other _ _ _ _ (Nat.ne_of_lt HLW.out))).trans ((HBW.out.cell HLB.out).trans HCELL.out)) (fun hė => ?_)
    replace hė := hė (by decide)
    clear hK K
    refine Tillst.tk 29 rd29 (v := ?_) rfl (by kernel_rfl) (by rfl) ?_ hė ?_
    rotate_left
    ·intro W hSW; (try dsimp only at hSW); unfold rd29; go_simp; with_reducible rfl
    simp only [rd29, Act.put, sA, sZ, sS]
    refine Tillst.tk 30 rd30 (v := ?_) rfl (by kernel_rfl) (by rfl) ?_ hė ?_
    rotate_left
    ·intro W hSW; (try dsimp only at hSW); unfold rd30; go_simp; with_reducible rfl
    simp only [rd30, Act.put, sA, sZ, sS]
    refine Tillst.done (by kernel_rfl) ?_ _
    refine NoPanic.normal ?_
    clear hė
    go_wp2_with (with_reducible refine halt_end ?_)
    have hst := setRow_heap _ _ _ (recC (kindOf xs) (flagsOf xs) (expOf xs) (seqOf xs) A5 (klenOf xs) c5 A6 (vlenOf xs) c6) _ _ HZ.out
    exact Halt.ret (results_row3 (p := 2) (u := 3) (v := 4) rfl _ _ w.heap.size 69 (recC (kindOf xs) (flagsOf xs) (expOf xs) (seqOf xs) A5 (klenOf xs) c5 A6 (vlenOf xs) c6) _ rfl hst Tryz.underlying69 rfl size_rec) rfl (rdec_fin xs w w1 vz A5 A6 c5 c6 nd HNN.out HR1.out HR2.out HLW1.out (HB1.out.trans (HBW.out.mono HB1.out.size)))
 ·intro K hK
  refine step_empty rfl rfl w1.heap.size HZW.out ?_
  intro ga v_0 hg hown hgrow
  have HEa := hI hown
  have HGa := hI hg.1
  have HBW := hI (HBW.out.grown hgrow HZW.out (fun g h => by cases h))
  have HZW := hI (nT HZW.out hgrow.size)
  clear hg hown hgrow
  simp only [rd15, Act.put, sA, sZ, sS]
  refine hK.out _ _ (fun _ => (HBW.out.cell HLB.out).trans HCELL.out) (fun hė => ?_)
  replace hė := hė (by decide)
  clear hK K
  refine Tillst.two (i := 6) (j := 20) (o := rd6) (o' := rd20) (by kernel_rfl) rfl rfl ?_ ?_
  ·intro K hK
   refine step_call 219 #[.tmp 32] #[40] rfl rfl Tryz.func219 rfl rfl [.slice (some ⟨b0, o0 + 1, none⟩) 4 (c - 1)] rfl ?_
   refine (rnum_any _ 4 _ _ (fun _ => True) _ ((HSRC.out.below HBW.out).part 1 4 (by omega)) (bytes_part HBY.out 1 4) (by omega)).mono ?_
   rintro e w' ⟨rfl, rfl⟩
   rw [HNF.out]
   refine ⟨_, rfl, ?_⟩
   simp only [rd6, Act.put, sA, sZ, sS]
   refine hK.out _ _ (fun _ => (HBW.out.cell HLB.out).trans HCELL.out) (fun hė => ?_)
   replace hė := hė (by decide)
   clear hK K
   refine Tillst.tk 7 rd7 (v := ?_) rfl (by kernel_rfl) (by rfl) ?_ hė ?_
   rotate_left
   ·intro W hSW; (try dsimp only at hSW); unfold rd7; go_simp; with_reducible rfl
   simp only [rd7, Act.put, sA, sZ, sS]
   refine Tillst.two (i := 10) (j := 20) (o := rd10) (o' := rd20) (by kernel_rfl) rfl rfl ?_ ?_
   ·intro K hK
    refine step_call 219 #[.tmp 36] #[40] rfl rfl Tryz.func219 rfl rfl [.slice (some ⟨b0, o0 + 5, none⟩) 4 (c - 5)] rfl ?_
    refine (rnum_any _ 4 _ _ (fun _ => True) _ ((HSRC.out.below HBW.out).part 5 4 (by omega)) (bytes_part HBY.out 5 4) (by omega)).mono ?_
    rintro e w' ⟨rfl, rfl⟩
    rw [HNX.out]
    refine ⟨_, rfl, ?_⟩
    simp only [rd10, Act.put, sA, sZ, sS]
    refine hK.out _ _ (fun _ => (HBW.out.cell HLB.out).trans HCELL.out) (fun hė => ?_)
    replace hė := hė (by decide)
    clear hK K
    refine Tillst.tk 11 rd11 (v := ?_) rfl (by kernel_rfl) (by rfl) ?_ hė ?_
    rotate_left
    ·intro W hSW; (try dsimp only at hSW); unfold rd11; go_simp; with_reducible rfl
    simp only [rd11, Act.put, sA, sZ, sS]
    refine Tillst.two (i := 14) (j := 20) (o := rd14) (o' := rd20) (by kernel_rfl) rfl rfl ?_ ?_
    ·intro K hK
     refine step_call 219 #[.tmp 40] #[40] rfl rfl Tryz.func219 rfl rfl [.slice (some ⟨b0, o0 + 9, none⟩) 8 (c - 9)] rfl ?_
     refine (rnum_any _ 8 _ _ (fun _ => True) _ ((HSRC.out.below HBW.out).part 9 8 (by omega)) (bytes_part HBY.out 9 8) (by omega)).mono ?_
     rintro e w' ⟨rfl, rfl⟩
     rw [HNS.out]
     refine ⟨_, rfl, ?_⟩
     simp only [rd14, Act.put, sA, sZ, sS]
     refine hK.out _ _ (fun _ => (HBW.out.cell HLB.out).trans HCELL.out) (fun hė => ?_)
     replace hė := hė (by decide)
     clear hK K
     refine Tillst.two (i := 19) (j := 20) (o := rd19) (o' := rd20) (by kernel_rfl) rfl rfl ?_ ?_
     ·intro K hK
      refine step_append_rowG (mk := Value.int .u8) (d := 0) rfl (.tmp 42) (.tmp 45) 40 rfl w1.heap.size 5 i0 (.int .u8 0) 1 Tryz.underlying40 hi hz0 hz1 hz2 rfl (fun _ => rfl) (.slice (some ⟨ga, 0, none⟩) 0 0) 0 [] rfl HEa.out (fun _ => True) (some ⟨b0, o0 + 21, none⟩) (klenOf xs) (c - 21) (keyOf xs) rfl ((HSRC.out.below HBW.out).part 21 (klenOf xs) HKN.out) (fun h => by cases h) (by unfold maxLen; omega) (by omega) HZW.out ?_
      intro v19 v_4 hown hgrow hblk
      rw [List.nil_append, Nat.zero_add] at hown
      have HO3 := hI hown
      have HBW := hI (HBW.out.grown hgrow HZW.out (fun g h => by (have h' : ga = g := (by simpa [Value.ownBlock] using h)); have := HGa.out.1; omega))
      have HZW := hI (nT HZW.out hgrow.size)
      clear hown hgrow hblk
      simp only [rd19, Act.put, sA, sZ, sS]
      refine hK.out _ _ (fun _ => (HBW.out.cell HLB.out).trans HCELL.out) (fun hė => ?_)
      replace hė := hė (by decide)
      clear hK K
      refine Tillst.one (i := 20) (o := rd20) (by kernel_rfl) rfl ?_
      intro K hK
      refine step_empty rfl rfl w1.heap.size HZW.out ?_
      intro gb v_5 hg hown hgrow
      have HEb := hI hown
      have HGb := hI hg.1
      have HVN := hI (show v19.ownBlock ≠ some gb from fun h => by have h2 := (HO3.out.lt gb h).2; have := hg.2; omega)
      have HO3 := hI (own_none HO3.out hgrow)
      have HBW := hI (HBW.out.grown hgrow HZW.out (fun g h => by cases h))
      have HZW := hI (nT HZW.out hgrow.size)
      clear hg hown hgrow
      simp only [rd20, Act.put, sA, sZ, sS]
      refine hK.out _ _ (fun _ => (HBW.out.cell HLB.out).trans HCELL.out) (fun hė => ?_)
      replace hė := hė (by decide)
      clear hK K
      refine Tillst.one (i := 25) (o := rd25) (by kernel_rfl) rfl ?_
      intro K hK
      refine step_append_rowG (mk := Value.int .u8) (d := 0) rfl (.tmp 47) (.tmp 51) 40 rfl w1.heap.size 5 i0 (.int .u8 0) 1 Tryz.underlying40 hi hz0 hz1 hz2 rfl (fun _ => rfl) (.slice (some ⟨gb, 0, none⟩) 0 0) 0 [] rfl HEb.out (fun _ => True) (some ⟨b0, ow, none⟩) (vlenOf xs) cw (valOf xs) rfl (HRW.out _ (HSRC.out.below HBW.out)) (fun h => by cases h) (by unfold maxLen; omega) (by omega) HZW.out ?_
      intro v25 vz hown hgrow hblk
      rw [List.nil_append, Nat.zero_add] at hown
      have hO3 := HO3.out.kept hgrow (.inr (fun h => HVN.out (by simpa [Value.ownBlock] using h)))
      obtain ⟨A5, c5, rfl, hc1, hn1, hr1⟩ := rowG_own 0 hO3
      obtain ⟨A6, c6, rfl, hc2, hn2, hr2⟩ := rowG_own 0 hown
      have HR1 := hI hr1
      have HR2 := hI hr2
      have HBW := hI (HBW.out.grown hgrow HZW.out (fun g h => by (have h' : gb = g := (by simpa [Value.ownBlock] using h)); have := HGb.out.1; omega))
      clear hown hgrow hblk hO3 hc1 hn1 hr1 hc2 hn2 hr2
      simp only [rd25, Act.put, sA, sZ, sS]
      refine hK.out _ _ (fun _ => (HBW.out.cell HLB.out).trans HCELL.out) (fun hė => ?_)
      replace hė := hė (by decide)
      clear hK K
      refine Tillst.tk 26 rd26 (v := ?_) rfl (by kernel_rfl) (by rfl) ?_ hė ?_
      rotate_left
      ·intro W hSW; (try dsimp only at hSW); unfold rd26; go_simp; with_reducible rfl
      simp only [rd26, Act.put, sA, sZ, sS]
      refine Tillst.one (i := 28) (o := rd28) (by kernel_rfl) rfl ?_
      intro K hK
      have HZ := hI (HRES.out.below HBW.out HRES.out.lt)
      refine step_store_row (.tmp 2) (.tmp 53) 69 rfl rfl w.heap.size (recC (kindOf xs) (flagsOf xs) (expOf xs) (seqOf xs) A5 (klenOf xs) c5 A6 (vlenOf xs) c6) rfl rfl 69 _ HZ.out size_rec rfl (one_rec _ _ _ _ _ _ _ _ _ _) ?_
      simp only [rd28, Act.put, sA, sZ, sS]
      refine hK.out _ _ (fun _ => (World.cell?_of_block (setRow_other _ _ _ _ (Nat.ne_of_lt HLW.out))).trans ((HBW.out.cell HLB.out).trans HCELL.out)) (fun hė => ?_)
      replace hė := hė (by decide)
      clear hK K
      refine Tillst.tk 29 rd29 (v := ?_) rfl (by kernel_rfl) (by rfl) ?_ hė ?_
      rotate_left
      ·intro W hSW; (try dsimp only at hSW); unfold rd29; go_simp; with_reducible rfl
      simp only [rd29, Act.put, sA, sZ, sS]
      refine Tillst.tk 30 rd30 (v := ?_) rfl (by kernel_rfl) (by rfl) ?_ hė ?_
      rotate_left
      ·intro W hSW; (try dsimp only at hSW); unfold rd30; go_simp; with_reducible rfl
      simp only [rd30, Act.put, sA, sZ, sS]
      refine Tillst.done (by kernel_rfl) ?_ _
      refine NoPanic.normal ?_
      clear hė
      go_wp2_with (with_reducible refine halt_end ?_)
      have hst := setRow_heap _ _ _ (recC (kindOf xs) (flagsOf xs) (expOf xs) (seqOf xs) A5 (klenOf xs) c5 A6 (vlenOf xs) c6) _ _ HZ.out
      exact Halt.ret (results_row3 (p := 2) (u := 3) (v := 4) rfl _ _ w.heap.size 69 (recC (kindOf xs) (flagsOf xs) (expOf xs) (seqOf xs) A5 (klenOf xs) c5 A6 (vlenOf xs) c6) _ rfl hst Tryz.underlying69 rfl size_rec) rfl (rdec_fin xs w w1 vz A5 A6 c5 c6 nd HNN.out HR1.out HR2.out HLW1.out (HB1.out.trans (HBW.out.mono HB1.out.size)))
     ·intro K hK
      refine step_empty rfl rfl w1.heap.size HZW.out ?_
      intro gb v_4 hg hown hgrow
      have HEb := hI hown
      have HGb := hI hg.1
      have HNE := hI (show ga ≠ gb by have h := HGa.out.2; have := hg.2; omega)
      have HEa := hI (own_none HEa.out hgrow)
      have HGa := hI (show w1.heap.size ≤ ga ∧ ga < v_4.heap.size from ⟨HGa.out.1, nL HGa.out.2 hgrow.size⟩)
      have HBW := hI (HBW.out.grown hgrow HZW.out (fun g h => by cases h))
      have HZW := hI (nT HZW.out hgrow.size)
      clear hg hown hgrow
      simp only [rd20, Act.put, sA, sZ, sS]
      refine hK.out _ _ (fun _ => (HBW.out.cell HLB.out).trans HCELL.out) (fun hė => ?_)
      replace hė := hė (by decide)
      clear hK K
      refine Tillst.one (i := 19) (o := rd19) (by kernel_rfl) rfl ?_
      intro K hK
      refine step_append_rowG (mk := Value.int .u8) (d := 0) rfl (.tmp 42) (.tmp 45) 40 rfl w1.heap.size 5 i0 (.int .u8 0) 1 Tryz.underlying40 hi hz0 hz1 hz2 rfl (fun _ => rfl) (.slice (some ⟨ga, 0, none⟩) 0 0) 0 [] rfl HEa.out (fun _ => True) (some ⟨b0, o0 + 21, none⟩) (klenOf xs) (c - 21) (keyOf xs) rfl ((HSRC.out.below HBW.out).part 21 (klenOf xs) HKN.out) (fun h => by cases h) (by unfold maxLen; omega) (by omega) HZW.out ?_
      intro v19 v_5 hown hgrow hblk
      rw [List.nil_append, Nat.zero_add] at hown
      have HO3 := hI hown
      have HVN := hI (show v19.ownBlock ≠ some gb from fun h => by rcases hblk with h2 | h2 <;> rw [h] at h2 <;> simp [Value.ownBlock] at h2; exact HNE.out h2.symm; have := HGb.out.2; omega)
      have HEb := hI (HEb.out.kept hgrow (.inr (fun h => HNE.out (by simpa [Value.ownBlock] using h.symm))))
      have HGb := hI (show w1.heap.size ≤ gb ∧ gb < v_5.heap.size from ⟨HGb.out.1, nL HGb.out.2 hgrow.size⟩)
      have HBW := hI (HBW.out.grown hgrow HZW.out (fun g h => by (have h' : ga = g := (by simpa [Value.ownBlock] using h)); have := HGa.out.1; omega))
      have HZW := hI (nT HZW.out hgrow.size)
      clear hown hgrow hblk
      simp only [rd19, Act.put, sA, sZ, sS]
      refine hK.out _ _ (fun _ => (HBW.out.cell HLB.out).trans HCELL.out) (fun hė => ?_)
      replace hė := hė (by decide)
      clear hK K
      refine Tillst.one (i := 25) (o := rd25) (by kernel_rfl) rfl ?_
      intro K hK
      refine step_append_rowG (mk := Value.int .u8) (d := 0) rfl (.tmp 47) (.tmp 51) 40 rfl w1.heap.size 5 i0 (.int .u8 0) 1 Tryz.underlying40 hi hz0 hz1 hz2 rfl (fun _ => rfl) (.slice (some ⟨gb, 0, none⟩) 0 0) 0 [] rfl HEb.out (fun _ => True) (some ⟨b0, ow, none⟩) (vlenOf xs) cw (valOf xs) rfl (HRW.out _ (HSRC.out.below HBW.out)) (fun h => by cases h) (by unfold maxLen; omega) (by omega) HZW.out ?_
      intro v25 vz hown hgrow hblk
      rw [List.nil_append, Nat.zero_add] at hown
      have hO3 := HO3.out.kept hgrow (.inr (fun h => HVN.out (by simpa [Value.ownBlock] using h)))
      obtain ⟨A5, c5, rfl, hc1, hn1, hr1⟩ := rowG_own 0 hO3
      obtain ⟨A6, c6, rfl, hc2, hn2, hr2⟩ := rowG_own 0 hown
      have HR1 := hI hr1
      have HR2 := hI hr2
      have HBW := hI (HBW.out.grown hgrow HZW.out (fun g h => by (have h' : gb = g := (by simpa [Value.ownBlock] using h)); have := HGb.out.1; omega))
      clear hown hgrow hblk hO3 hc1 hn1 hr1 hc2 hn2 hr2
      simp only [rd25, Act.put, sA, sZ, sS]
      refine hK.out _ _ (fun _ => (HBW.out.cell HLB.out).trans HCELL.out) (fun hė => ?_)
      replace hė := hė (by decide)
      clear hK K
      refine Tillst.tk 26 rd26 (v := ?_) rfl (by kernel_rfl) (by rfl) ?_ hė ?_
      rotate_left
      ·intro W hSW; (try dsimp only at hSW); unfold rd26; go_simp; with_reducible rfl
      simp only [rd26, Act.put, sA, sZ, sS]
      refine Tillst.one (i := 28) (o := rd28) (by kernel_rfl) rfl ?_
      intro K hK
      have HZ := hI (HRES.out.below HBW.out HRES.out.lt)
      refine step_store_row (.tmp 2) (.tmp 53) 69 rfl rfl w.heap.size (recC (kindOf xs) (flagsOf xs) (expOf xs) (seqOf xs) A5 (klenOf xs) c5 A6 (vlenOf xs) c6) rfl rfl 69 _ HZ.out size_rec rfl (one_rec _ _ _ _ _ _ _ _ _ _) ?_
      simp only [rd28, Act.put, sA, sZ, sS]
      refine hK.out _ _ (fun _ => (World.cell?_of_block (setRow_other _ _ _ _ (Nat.ne_of_lt HLW.out))).trans ((HBW.out.cell HLB.out).trans HCELL.out)) (fun hė => ?_)
      replace hė := hė (by decide)
      clear hK K
      refine Tillst.tk 29 rd29 (v := ?_) rfl (by kernel_rfl) (by rfl) ?_ hė ?_
      rotate_left
      ·intro W hSW; (try dsimp only at hSW); unfold rd29; go_simp; with_reducible rfl
      simp only [rd29, Act.put, sA, sZ, sS]
      refine Tillst.tk 30 rd30 (v := ?_) rfl (by kernel_rfl) (by rfl) ?_ hė ?_
      rotate_left
      ·intro W hSW; (try dsimp only at hSW); unfold rd30; go_simp; with_reducible rfl
      simp only [rd30, Act.put, sA, sZ, sS]
      refine Tillst.done (by kernel_rfl) ?_ _
      refine NoPanic.normal ?_
      clear hė
      go_wp2_with (with_reducible refine halt_end ?_)
      have hst := setRow_heap _ _ _ (recC (kindOf xs) (flagsOf xs) (expOf xs) (seqOf xs) A5 (klenOf xs) c5 A6 (vlenOf xs) c6) _ _ HZ.out
      exact Halt.ret (results_row3 (p := 2) (u := 3) (v := 4) rfl _ _ w.heap.size 69 (recC (kindOf xs) (flagsOf xs) (expOf xs) (seqOf xs) A5 (klenOf xs) c5 A6 (vlenOf xs) c6) _ rfl hst Tryz.underlying69 rfl size_rec) rfl (rdec_fin xs w w1 vz A5 A6 c5 c6 nd HNN.out HR1.out HR2.out HLW1.out (HB1.out.trans (HBW.out.mono HB1.out.size)))
    ·intro K hK
     refine step_empty rfl rfl w1.heap.size HZW.out ?_
     intro gb v_3 hg hown hgrow
     have HEb := hI hown
     have HGb := hI hg.1
     have HNE := hI (show ga ≠ gb by have h := HGa.out.2; have := hg.2; omega)
     have HEa := hI (own_none HEa.out hgrow)
     have HGa := hI (show w1.heap.size ≤ ga ∧ ga < v_3.heap.size from ⟨HGa.out.1, nL HGa.out.2 hgrow.size⟩)
     have HBW := hI (HBW.out.grown hgrow HZW.out (fun g h => by cases h))
     have HZW := hI (nT HZW.out hgrow.size)
     clear hg hown hgrow
     simp only [rd20, Act.put, sA, sZ, sS]
     refine hK.out _ _ (fun _ => (HBW.out.cell HLB.out).trans HCELL.out) (fun hė => ?_)
     replace hė := hė (by decide)
     clear hK K
     refine Tillst.one (i := 14) (o := rd14) (by kernel_rfl) rfl ?_
     intro K hK
     refine step_call 219 #[.tmp 40] #[40] rfl rfl Tryz.func219 rfl rfl [.slice (some ⟨b0, o0 + 9, none⟩) 8 (c - 9)] rfl ?_
     refine (rnum_any _ 8 _ _ (fun _ => True) _ ((HSRC.out.below HBW.out).part 9 8 (by omega)) (bytes_part HBY.out 9 8) (by omega)).mono ?_
     rintro e w' ⟨rfl, rfl⟩
     rw [HNS.out]
     refine ⟨_, rfl, ?_⟩
     simp only [rd14, Act.put, sA, sZ, sS]
     refine hK.out _ _ (fun _ => (HBW.out.cell HLB.out).trans HCELL.out) (fun hė => ?_)
     replace hė := hė (by decide)
     clear hK K
     refine Tillst.one (i := 19) (o := rd19) (by kernel_rfl) rfl ?_
     intro K hK
     refine step_append_rowG (mk := Value.int .u8) (d := 0) rfl (.tmp 42) (.tmp 45) 40 rfl w1.heap.size 5 i0 (.int .u8 0) 1 Tryz.underlying40 hi hz0 hz1 hz2 rfl (fun _ => rfl) (.slice (some ⟨ga, 0, none⟩) 0 0) 0 [] rfl HEa.out (fun _ => True) (some ⟨b0, o0 + 21, none⟩) (klenOf xs) (c - 21) (keyOf xs) rfl ((HSRC.out.below HBW.out).part 21 (klenOf xs) HKN.out) (fun h => by cases h) (by unfold maxLen; omega) (by omega) HZW.out ?_
     intro v19 v_5 hown hgrow hblk
     rw [List.nil_append, Nat.zero_add] at hown
     have HO3 := hI hown
     have HVN := hI (show v19.ownBlock ≠ some gb from fun h => by rcases hblk with h2 | h2 <;> rw [h] at h2 <;> simp [Value.ownBlock] at h2; exact HNE.out h2.symm; have := HGb.out.2; omega)
     have HEb := hI (HEb.out.kept hgrow (.inr (fun h => HNE.out (by simpa [Value.ownBlock] using h.symm))))
     have HGb := hI (show w1.heap.size ≤ gb ∧ gb < v_5.heap.size from ⟨HGb.out.1, nL HGb.out.2 hgrow.size⟩)
     have HBW := hI (HBW.out.grown hgrow HZW.out (fun g h => by (have h' : ga = g := (by simpa [Value.ownBlock] using h)); have := HGa.out.1; omega))
     have HZW := hI (nT HZW.out hgrow.size)
     clear hown hgrow hblk
     simp only [rd19, Act.put, sA, sZ, sS]
     refine hK.out _ _ (fun _ => (HBW.out.cell HLB.out).trans HCELL.out) (fun hė => ?_)
     replace hė := hė (by decide)
     clear hK K
     refine Tillst.one (i := 25) (o := rd25) (by kernel_rfl) rfl ?_
     intro K hK
     refine step_append_rowG (mk := Value.int .u8) (d := 0) rfl (.tmp 47) (.tmp 51) 40 rfl w1.heap.size 5 i0 (.int .u8 0) 1 Tryz.underlying40 hi hz0 hz1 hz2 rfl (fun _ => rfl) (.slice (some ⟨gb, 0, none⟩) 0 0) 0 [] rfl HEb.out (fun _ => True) (some ⟨b0, ow, none⟩) (vlenOf xs) cw (valOf xs) rfl (HRW.out _ (HSRC.out.below HBW.out)) (fun h => by cases h) (by unfold maxLen; omega) (by omega) HZW.out ?_
     intro v25 vz hown hgrow hblk
     rw [List.nil_append, Nat.zero_add] at hown
     have hO3 := HO3.out.kept hgrow (.inr (fun h => HVN.out (by simpa [Value.ownBlock] using h)))
     obtain ⟨A5, c5, rfl, hc1, hn1, hr1⟩ := rowG_own 0 hO3
     obtain ⟨A6, c6, rfl, hc2, hn2, hr2⟩ := rowG_own 0 hown
     have HR1 := hI hr1
     have HR2 := hI hr2
     have HBW := hI (HBW.out.grown hgrow HZW.out (fun g h => by (have h' : gb = g := (by simpa [Value.ownBlock] using h)); have := HGb.out.1; omega))
     clear hown hgrow hblk hO3 hc1 hn1 hr1 hc2 hn2 hr2
     simp only [rd25, Act.put, sA, sZ, sS]
     refine hK.out _ _ (fun _ => (HBW.out.cell HLB.out).trans HCELL.out) (fun hė => ?_)
     replace hė := hė (by decide)
     clear hK K
     refine Tillst.tk 26 rd26 (v := ?_) rfl (by kernel_rfl) (by rfl) ?_ hė ?_
     rotate_left
     ·intro W hSW; (try dsimp only at hSW); unfold rd26; go_simp; with_reducible rfl
     simp only [rd26, Act.put, sA, sZ, sS]
     refine Tillst.one (i := 28) (o := rd28) (by kernel_rfl) rfl ?_
     intro K hK
     have HZ := hI (HRES.out.below HBW.out HRES.out.lt)
     refine step_store_row (.tmp 2) (.tmp 53) 69 rfl rfl w.heap.size (recC (kindOf xs) (flagsOf xs) (expOf xs) (seqOf xs) A5 (klenOf xs) c5 A6 (vlenOf xs) c6) rfl rfl 69 _ HZ.out size_rec rfl (one_rec _ _ _ _ _ _ _ _ _ _) ?_
     simp only [rd28, Act.put, sA, sZ, sS]
     refine hK.out _ _ (fun _ => (World.cell?_of_block (setRow_other _ _ _ _ (Nat.ne_of_lt HLW.out))).trans ((HBW.out.cell HLB.out).trans HCELL.out)) (fun hė => ?_)
     replace hė := hė (by decide)
     clear hK K
     refine Tillst.tk 29 rd29 (v := ?_) rfl (by kernel_rfl) (by rfl) ?_ hė ?_
     rotate_left
     ·intro W hSW; (try dsimp only at hSW); unfold rd29; go_simp; with_reducible rfl
     simp only [rd29, Act.put, sA, sZ, sS]
     refine Tillst.tk 30 rd30 (v := ?_) rfl (by kernel_rfl) (by rfl) ?_ hė ?_
     rotate_left
     ·intro W hSW; (try dsimp only at hSW); unfold rd30; go_simp; with_reducible rfl
     simp only [rd30, Act.put, sA, sZ, sS]
     refine Tillst.done (by kernel_rfl) ?_ _
     refine NoPanic.normal ?_
     clear hė
     go_wp2_with (with_reducible refine halt_end ?_)
     have hst := setRow_heap _ _ _ (recC (kindOf xs) (flagsOf xs) (expOf xs) (seqOf xs) A5 (klenOf xs) c5 A6 (vlenOf xs) c6) _ _ HZ.out
     exact Halt.ret (results_row3 (p := 2) (u := 3) (v := 4) rfl _ _ w.heap.size 69 (recC (kindOf xs) (flagsOf xs) (expOf xs) (seqOf xs) A5 (klenOf xs) c5 A6 (vlenOf xs) c6) _ rfl hst Tryz.underlying69 rfl size_rec) rfl (rdec_fin xs w w1 vz A5 A6 c5 c6 nd HNN.out HR1.out HR2.out HLW1.out (HB1.out.trans (HBW.out.mono HB1.out.size)))
   ·intro K hK
    refine step_empty rfl rfl w1.heap.size HZW.out ?_
    intro gb v_2 hg hown hgrow
    have HEb := hI hown
    have HGb := hI hg.1
    have HNE := hI (show ga ≠ gb by have h := HGa.out.2; have := hg.2; omega)
    have HEa := hI (own_none HEa.out hgrow)
    have HGa := hI (show w1.heap.size ≤ ga ∧ ga < v_2.heap.size from ⟨HGa.out.1, nL HGa.out.2 hgrow.size⟩)
    have HBW := hI (HBW.out.grown hgrow HZW.out (fun g h => by cases h))
    have HZW := hI (nT HZW.out hgrow.size)
    clear hg hown hgrow
    simp only [rd20, Act.put, sA, sZ, sS]
    refine hK.out _ _ (fun _ => (HBW.out.cell HLB.out).trans HCELL.out) (fun hė => ?_)
    replace hė := hė (by decide)
    clear hK K
    refine Tillst.one (i := 10) (o := rd10) (by kernel_rfl) rfl ?_
    intro K hK
    refine step_call 219 #[.tmp 36] #[40] rfl rfl Tryz.func219 rfl rfl [.slice (some ⟨b0, o0 + 5, none⟩) 4 (c - 5)] rfl ?_
    refine (rnum_any _ 4 _ _ (fun _ => True) _ ((HSRC.out.below HBW.out).part 5 4 (by omega)) (bytes_part HBY.out 5 4) (by omega)).mono ?_
    rintro e w' ⟨rfl, rfl⟩
    rw [HNX.out]
    refine ⟨_, rfl, ?_⟩
    simp only [rd10, Act.put, sA, sZ, sS]
    refine hK.out _ _ (fun _ => (HBW.out.cell HLB.out).trans HCELL.out) (fun hė => ?_)
    replace hė := hė (by decide)
    clear hK K
    refine Tillst.tk 11 rd11 (v := ?_) rfl (by kernel_rfl) (by rfl) ?_ hė ?_
    rotate_left
    ·intro W hSW; (try dsimp only at hSW); unfold rd11; go_simp; with_reducible rfl
    simp only [rd11, Act.put, sA, sZ, sS]
    refine Tillst.one (i := 14) (o := rd14) (by kernel_rfl) rfl ?_
    intro K hK
    refine step_call 219 #[.tmp 40] #[40] rfl rfl Tryz.func219 rfl rfl [.slice (some ⟨b0, o0 + 9, none⟩) 8 (c - 9)] rfl ?_
    refine (rnum_any _ 8 _ _ (fun _ => True) _ ((HSRC.out.below HBW.out).part 9 8 (by omega)) (bytes_part HBY.out 9 8) (by omega)).mono ?_
    rintro e w' ⟨rfl, rfl⟩
    rw [HNS.out]
    refine ⟨_, rfl, ?_⟩
    simp only [rd14, Act.put, sA, sZ, sS]
    refine hK.out _ _ (fun _ => (HBW.out.cell HLB.out).trans HCELL.out) (fun hė => ?_)
    replace hė := hė (by decide)
    clear hK K
    refine Tillst.one (i := 19) (o := rd19) (by kernel_rfl) rfl ?_
    intro K hK
    refine step_append_rowG (mk := Value.int .u8) (d := 0) rfl (.tmp 42) (.tmp 45) 40 rfl w1.heap.size 5 i0 (.int .u8 0) 1 Tryz.underlying40 hi hz0 hz1 hz2 rfl (fun _ => rfl) (.slice (some ⟨ga, 0, none⟩) 0 0) 0 [] rfl HEa.out (fun _ => True) (some ⟨b0, o0 + 21, none⟩) (klenOf xs) (c - 21) (keyOf xs) rfl ((HSRC.out.below HBW.out).part 21 (klenOf xs) HKN.out) (fun h => by cases h) (by unfold maxLen; omega) (by omega) HZW.out ?_
    intro v19 v_5 hown hgrow hblk
    rw [List.nil_append, Nat.zero_add] at hown
    have HO3 := hI hown
    have HVN := hI (show v19.ownBlock ≠ some gb from fun h => by rcases hblk with h2 | h2 <;> rw [h] at h2 <;> simp [Value.ownBlock] at h2; exact HNE.out h2.symm; have := HGb.out.2; omega)
    have HEb := hI (HEb.out.kept hgrow (.inr (fun h => HNE.out (by simpa [Value.ownBlock] using h.symm))))
    have HGb := hI (show w1.heap.size ≤ gb ∧ gb < v_5.heap.size from ⟨HGb.out.1, nL HGb.out.2 hgrow.size⟩)
    have HBW := hI (HBW.out.grown hgrow HZW.out (fun g h => by (have h' : ga = g := (by simpa [Value.ownBlock] using h)); have := HGa.out.1; omega))
    have HZW := hI (nT HZW.out hgrow.size)
    clear hown hgrow hblk
    simp only [rd19, Act.put, sA, sZ, sS]
    refine hK.out _ _ (fun _ => (HBW.out.cell HLB.out).trans HCELL.out) (fun hė => ?_)
    replace hė := hė (by decide)
    clear hK K
    refine Tillst.one (i := 25) (o := rd25) (by kernel_rfl) rfl ?_
    intro K hK
    refine step_append_rowG (mk := Value.int .u8) (d := 0) rfl (.tmp 47) (.tmp 51) 40 rfl w1.heap.size 5 i0 (.int .u8 0) 1 Tryz.underlying40 hi hz0 hz1 hz2 rfl (fun _ => rfl) (.slice (some ⟨gb, 0, none⟩) 0 0) 0 [] rfl HEb.out (fun _ => True) (some ⟨b0, ow, none⟩) (vlenOf xs) cw (valOf xs) rfl (HRW.out _ (HSRC.out.below HBW.out)) (fun h => by cases h) (by unfold maxLen; omega) (by omega) HZW.out ?_
    intro v25 vz hown hgrow hblk
    rw [List.nil_append, Nat.zero_add] at hown
    have hO3 := HO3.out.kept hgrow (.inr (fun h => HVN.out (by simpa [Value.ownBlock] using h)))
    obtain ⟨A5, c5, rfl, hc1, hn1, hr1⟩ := rowG_own 0 hO3
    obtain ⟨A6, c6, rfl, hc2, hn2, hr2⟩ := rowG_own 0 hown
    have HR1 := hI hr1
    have HR2 := hI hr2
    have HBW := hI (HBW.out.grown hgrow HZW.out (fun g h => by (have h' : gb = g := (by simpa [Value.ownBlock] using h)); have := HGb.out.1; omega))
    clear hown hgrow hblk hO3 hc1 hn1 hr1 hc2 hn2 hr2
    simp only [rd25, Act.put, sA, sZ, sS]
    refine hK.out _ _ (fun _ => (HBW.out.cell HLB.out).trans HCELL.out) (fun hė => ?_)
    replace hė := hė (by decide)
    clear hK K
    refine Tillst.tk 26 rd26 (v := ?_) rfl (by kernel_rfl) (by rfl) ?_ hė ?_
    rotate_left
    ·intro W hSW; (try dsimp only at hSW); unfold rd26; go_simp; with_reducible rfl
    simp only [rd26, Act.put, sA, sZ, sS]
    refine Tillst.one (i := 28) (o := rd28) (by kernel_rfl) rfl ?_
    intro K hK
    have HZ := hI (HRES.out.below HBW.out HRES.out.lt)
    refine step_store_row (.tmp 2) (.tmp 53) 69 rfl rfl w.heap.size (recC (kindOf xs) (flagsOf xs) (expOf xs) (seqOf xs) A5 (klenOf xs) c5 A6 (vlenOf xs) c6) rfl rfl 69 _ HZ.out size_rec rfl (one_rec _ _ _ _ _ _ _ _ _ _) ?_
    simp only [rd28, Act.put, sA, sZ, sS]
    refine hK.out _ _ (fun _ => (World.cell?_of_block (setRow_other _ _ _ _ (Nat.ne_of_lt HLW.out))).trans ((HBW.out.cell HLB.out).trans HCELL.out)) (fun hė => ?_)
    replace hė := hė (by decide)
    clear hK K
    refine Tillst.tk 29 rd29 (v := ?_) rfl (by kernel_rfl) (by rfl) ?_ hė ?_
    rotate_left
    ·intro W hSW; (try dsimp only at hSW); unfold rd29; go_simp; with_reducible rfl
    simp only [rd29, Act.put, sA, sZ, sS]
    refine Tillst.tk 30 rd30 (v := ?_) rfl (by kernel_rfl) (by rfl) ?_ hė ?_
    rotate_left
    ·intro W hSW; (try dsimp only at hSW); unfold rd30; go_simp; with_reducible rfl
    simp only [rd30, Act.put, sA, sZ, sS]
    refine Tillst.done (by kernel_rfl) ?_ _
    refine NoPanic.normal ?_
    clear hė
    go_wp2_with (with_reducible refine halt_end ?_)
    have hst := setRow_heap _ _ _ (recC (kindOf xs) (flagsOf xs) (expOf xs) (seqOf xs) A5 (klenOf xs) c5 A6 (vlenOf xs) c6) _ _ HZ.out
    exact Halt.ret (results_row3 (p := 2) (u := 3) (v := 4) rfl _ _ w.heap.size 69 (recC (kindOf xs) (flagsOf xs) (expOf xs) (seqOf xs) A5 (klenOf xs) c5 A6 (vlenOf xs) c6) _ rfl hst Tryz.underlying69 rfl size_rec) rfl (rdec_fin xs w w1 vz A5 A6 c5 c6 nd HNN.out HR1.out HR2.out HLW1.out (HB1.out.trans (HBW.out.mono HB1.out.size)))
  ·intro K hK
   refine step_empty rfl rfl w1.heap.size HZW.out ?_
   intro gb v_1 hg hown hgrow
   have HEb := hI hown
   have HGb := hI hg.1
   have HNE := hI (show ga ≠ gb by have h := HGa.out.2; have := hg.2; omega)
   have HEa := hI (own_none HEa.out hgrow)
   have HGa := hI (show w1.heap.size ≤ ga ∧ ga < v_1.heap.size from ⟨HGa.out.1, nL HGa.out.2 hgrow.size⟩)
   have HBW := hI (HBW.out.grown hgrow HZW.out (fun g h => by cases h))
   have HZW := hI (nT HZW.out hgrow.size)
   clear hg hown hgrow
   simp only [rd20, Act.put, sA, sZ, sS]
   refine hK.out _ _ (fun _ => (HBW.out.cell HLB.out).trans HCELL.out) (fun hė => ?_)
   replace hė := hė (by decide)
   clear hK K
   refine Tillst.one (i := 6) (o := rd6) (by kernel_rfl) rfl ?_
   intro K hK
   refine step_call 219 #[.tmp 32] #[40] rfl rfl Tryz.func219 rfl rfl [.slice (some ⟨b0, o0 + 1, none⟩) 4 (c - 1)] rfl ?_
   refine (rnum_any _ 4 _ _ (fun _ => True) _ ((HSRC.out.below HBW.out).part 1 4 (by omega)) (bytes_part HBY.out 1 4) (by omega)).mono ?_
   rintro e w' ⟨rfl, rfl⟩
   rw [HNF.out]
   refine ⟨_, rfl, ?_⟩
   simp only [rd6, Act.put, sA, sZ, sS]
   refine hK.out _ _ (fun _ => (HBW.out.cell HLB.out).trans HCELL.out) (fun hė => ?_)
   replace hė := hė (by decide)
   clear hK K
   refine Tillst.tk 7 rd7 (v := ?_) rfl (by kernel_rfl) (by rfl) ?_ hė ?_
   rotate_left
   ·intro W hSW; (try dsimp only at hSW); unfold rd7; go_simp; with_reducible rfl
   simp only [rd7, Act.put, sA, sZ, sS]
   refine Tillst.one (i := 10) (o := rd10) (by kernel_rfl) rfl ?_
   intro K hK
   refine step_call 219 #[.tmp 36] #[40] rfl rfl Tryz.func219 rfl rfl [.slice (some ⟨b0, o0 + 5, none⟩) 4 (c - 5)] rfl ?_
   refine (rnum_any _ 4 _ _ (fun _ => True) _ ((HSRC.out.below HBW.out).part 5 4 (by omega)) (bytes_part HBY.out 5 4) (by omega)).mono ?_
   rintro e w' ⟨rfl, rfl⟩
   rw [HNX.out]
   refine ⟨_, rfl, ?_⟩
   simp only [rd10, Act.put, sA, sZ, sS]
   refine hK.out _ _ (fun _ => (HBW.out.cell HLB.out).trans HCELL.out) (fun hė => ?_)
   replace hė := hė (by decide)
   clear hK K
   refine Tillst.tk 11 rd11 (v := ?_) rfl (by kernel_rfl) (by rfl) ?_ hė ?_
   rotate_left
   ·intro W hSW; (try dsimp only at hSW); unfold rd11; go_simp; with_reducible rfl
   simp only [rd11, Act.put, sA, sZ, sS]
   refine Tillst.one (i := 14) (o := rd14) (by kernel_rfl) rfl ?_
   intro K hK
   refine step_call 219 #[.tmp 40] #[40] rfl rfl Tryz.func219 rfl rfl [.slice (some ⟨b0, o0 + 9, none⟩) 8 (c - 9)] rfl ?_
   refine (rnum_any _ 8 _ _ (fun _ => True) _ ((HSRC.out.below HBW.out).part 9 8 (by omega)) (bytes_part HBY.out 9 8) (by omega)).mono ?_
   rintro e w' ⟨rfl, rfl⟩
   rw [HNS.out]
   refine ⟨_, rfl, ?_⟩
   simp only [rd14, Act.put, sA, sZ, sS]
   refine hK.out _ _ (fun _ => (HBW.out.cell HLB.out).trans HCELL.out) (fun hė => ?_)
   replace hė := hė (by decide)
   clear hK K
   refine Tillst.one (i := 19) (o := rd19) (by kernel_rfl) rfl ?_
   intro K hK
   refine step_append_rowG (mk := Value.int .u8) (d := 0) rfl (.tmp 42) (.tmp 45) 40 rfl w1.heap.size 5 i0 (.int .u8 0) 1 Tryz.underlying40 hi hz0 hz1 hz2 rfl (fun _ => rfl) (.slice (some ⟨ga, 0, none⟩) 0 0) 0 [] rfl HEa.out (fun _ => True) (some ⟨b0, o0 + 21, none⟩) (klenOf xs) (c - 21) (keyOf xs) rfl ((HSRC.out.below HBW.out).part 21 (klenOf xs) HKN.out) (fun h => by cases h) (by unfold maxLen; omega) (by omega) HZW.out ?_
   intro v19 v_5 hown hgrow hblk
   rw [List.nil_append, Nat.zero_add] at hown
   have HO3 := hI hown
   have HVN := hI (show v19.ownBlock ≠ some gb from fun h => by rcases hblk with h2 | h2 <;> rw [h] at h2 <;> simp [Value.ownBlock] at h2; exact HNE.out h2.symm; have := HGb.out.2; omega)
   have HEb := hI (HEb.out.kept hgrow (.inr (fun h => HNE.out (by simpa [Value.ownBlock] using h.symm))))
   have HGb := hI (show w1.heap.size ≤ gb ∧ gb < v_5.heap.size from ⟨HGb.out.1, nL HGb.out.2 hgrow.size⟩)
   have HBW := hI (HBW.out.grown hgrow HZW.out (fun g h => by (have h' : ga = g := (by simpa [Value.ownBlock] using h)); have := HGa.out.1; omega))
   have HZW := hI (nT HZW.out hgrow.size)
   clear hown hgrow hblk
   simp only [rd19, Act.put, sA, sZ, sS]
   refine hK.out _ _ (fun _ => (HBW.out.cell HLB.out).trans HCELL.out) (fun hė => ?_)
   replace hė := hė (by decide)
   clear hK K
   refine Tillst.one (i := 25) (o := rd25) (by kernel_rfl) rfl ?_
   intro K hK
   refine step_append_rowG (mk := Value.int .u8) (d := 0) rfl (.tmp 47) (.tmp 51) 40 rfl w1.heap.size 5 i0 (.int .u8 0) 1 Tryz.underlying40 hi hz0 hz1 hz2 rfl (fun _ => rfl) (.slice (some ⟨gb, 0, none⟩) 0 0) 0 [] rfl HEb.out (fun _ => True) (some ⟨b0, ow, none⟩) (vlenOf xs) cw (valOf xs) rfl (HRW.out _ (HSRC.out.below HBW.out)) (fun h => by cases h) (by unfold maxLen; omega) (by omega) HZW.out ?_
   intro v25 vz hown hgrow hblk
   rw [List.nil_append, Nat.zero_add] at hown
   have hO3 := HO3.out.kept hgrow (.inr (fun h => HVN.out (by simpa [Value.ownBlock] using h)))
   obtain ⟨A5, c5, rfl, hc1, hn1, hr1⟩ := rowG_own 0 hO3
   obtain ⟨A6, c6, rfl, hc2, hn2, hr2⟩ := rowG_own 0 hown
   have HR1 := hI hr1
   have HR2 := hI hr2
   have HBW := hI (HBW.out.grown hgrow HZW.out (fun g h => by (have h' : gb = g := (by simpa [Value.ownBlock] using h)); have := HGb.out.1; omega))
   clear hown hgrow hblk hO3 hc1 hn1 hr1 hc2 hn2 hr2
   simp only [rd25, Act.put, sA, sZ, sS]
   refine hK.out _ _ (fun _ => (HBW.out.cell HLB.out).trans HCELL.out) (fun hė => ?_)
   replace hė := hė (by decide)
   clear hK K
   refine Tillst.tk 26 rd26 (v := ?_) rfl (by kernel_rfl) (by rfl) ?_ hė ?_
   rotate_left
   ·intro W hSW; (try dsimp only at hSW); unfold rd26; go_simp; with_reducible rfl
   simp only [rd26, Act.put, sA, sZ, sS]
   refine Tillst.one (i := 28) (o := rd28) (by kernel_rfl) rfl ?_
   intro K hK
   have HZ := hI (HRES.out.below HBW.out HRES.out.lt)
   refine step_store_row (.tmp 2) (.tmp 53) 69 rfl rfl w.heap.size (recC (kindOf xs) (flagsOf xs) (expOf xs) (seqOf xs) A5 (klenOf xs) c5 A6 (vlenOf xs) c6) rfl rfl 69 _ HZ.out size_rec rfl (one_rec _ _ _ _ _ _ _ _ _ _) ?_
   simp only [rd28, Act.put, sA, sZ, sS]
   refine hK.out _ _ (fun _ => (World.cell?_of_block (setRow_other _ _ _ _ (Nat.ne_of_lt HLW.out))).trans ((HBW.out.cell HLB.out).trans HCELL.out)) (fun hė => ?_)
   replace hė := hė (by decide)
   clear hK K
   refine Tillst.tk 29 rd29 (v := ?_) rfl (by kernel_rfl) (by rfl) ?_ hė ?_
   rotate_left
   ·intro W hSW; (try dsimp only at hSW); unfold rd29; go_simp; with_reducible rfl
   simp only [rd29, Act.put, sA, sZ, sS]
   refine Tillst.tk 30 rd30 (v := ?_) rfl (by kernel_rfl) (by rfl) ?_ hė ?_
   rotate_left
   ·intro W hSW; (try dsimp only at hSW); unfold rd30; go_simp; with_reducible rfl
   simp only [rd30, Act.put, sA, sZ, sS]
   refine Tillst.done (by kernel_rfl) ?_ _
   refine NoPanic.normal ?_
   clear hė
   go_wp2_with (with_reducible refine halt_end ?_)
   have hst := setRow_heap _ _ _ (recC (kindOf xs) (flagsOf xs) (expOf xs) (seqOf xs) A5 (klenOf xs) c5 A6 (vlenOf xs) c6) _ _ HZ.out
   exact Halt.ret (results_row3 (p := 2) (u := 3) (v := 4) rfl _ _ w.heap.size 69 (recC (kindOf xs) (flagsOf xs) (expOf xs) (seqOf xs) A5 (klenOf xs) c5 A6 (vlenOf xs) c6) _ rfl hst Tryz.underlying69 rfl size_rec) rfl (rdec_fin xs w w1 vz A5 A6 c5 c6 nd HNN.out HR1.out HR2.out HLW1.out (HB1.out.trans (HBW.out.mono HB1.out.size)))
 ·intro K hK
  refine step_empty rfl rfl w1.heap.size HZW.out ?_
  intro gb v_0 hg hown hgrow
  have HEb := hI hown
  have HGb := hI hg.1
  have HBW := hI (HBW.out.grown hgrow HZW.out (fun g h => by cases h))
  have HZW := hI (nT HZW.out hgrow.size)
  clear hg hown hgrow
  simp only [rd20, Act.put, sA, sZ, sS]
  refine hK.out _ _ (fun _ => (HBW.out.cell HLB.out).trans HCELL.out) (fun hė => ?_)
  replace hė := hė (by decide)
  clear hK K
  refine Tillst.two (i := 6) (j := 15) (o := rd6) (o' := rd15) (by kernel_rfl) rfl rfl ?_ ?_
  ·intro K hK
   refine step_call 219 #[.tmp 32] #[40] rfl rfl Tryz.func219 rfl rfl [.slice (some ⟨b0, o0 + 1, none⟩) 4 (c - 1)] rfl ?_
   refine (rnum_any _ 4 _ _ (fun _ => True) _ ((HSRC.out.below HBW.out).part 1 4 (by omega)) (bytes_part HBY.out 1 4) (by omega)).mono ?_
   rintro e w' ⟨rfl, rfl⟩
   rw [HNF.out]
   refine ⟨_, rfl, ?_⟩
   simp only [rd6, Act.put, sA, sZ, sS]
   refine hK.out _ _ (fun _ => (HBW.out.cell HLB.out).trans HCELL.out) (fun hė => ?_)
   replace hė := hė (by decide)
   clear hK K
   refine Tillst.tk 7 rd7 (v := ?_) rfl (by kernel_rfl) (by rfl) ?_ hė ?_
   rotate_left
   ·intro W hSW; (try dsimp only at hSW); unfold rd7; go_simp; with_reducible rfl
   simp only [rd7, Act.put, sA, sZ, sS]
   refine Tillst.two (i := 10) (j := 15) (o := rd10) (o' := rd15) (by kernel_rfl) rfl rfl ?_ ?_
   ·intro K hK
    refine step_call 219 #[.tmp 36] #[40] rfl rfl Tryz.func219 rfl rfl [.slice (some ⟨b0, o0 + 5, none⟩) 4 (c - 5)] rfl ?_
    refine (rnum_any _ 4 _ _ (fun _ => True) _ ((HSRC.out.below HBW.out).part 5 4 (by omega)) (bytes_part HBY.out 5 4) (by omega)).mono ?_
    rintro e w' ⟨rfl, rfl⟩
    rw [HNX.out]
    refine ⟨_, rfl, ?_⟩
    simp only [rd10, Act.put, sA, sZ, sS]
    refine hK.out _ _ (fun _ => (HBW.out.cell HLB.out).trans HCELL.out) (fun hė => ?_)
    replace hė := hė (by decide)
    clear hK K
    refine Tillst.tk 11 rd11 (v := ?_) rfl (by kernel_rfl) (by rfl) ?_ hė ?_
    rotate_left
    ·intro W hSW; (try dsimp only at hSW); unfold rd11; go_simp; with_reducible rfl
    simp only [rd11, Act.put, sA, sZ, sS]
    refine Tillst.two (i := 14) (j := 15) (o := rd14) (o' := rd15) (by kernel_rfl) rfl rfl ?_ ?_
    ·intro K hK
     refine step_call 219 #[.tmp 40] #[40] rfl rfl Tryz.func219 rfl rfl [.slice (some ⟨b0, o0 + 9, none⟩) 8 (c - 9)] rfl ?_
     refine (rnum_any _ 8 _ _ (fun _ => True) _ ((HSRC.out.below HBW.out).part 9 8 (by omega)) (bytes_part HBY.out 9 8) (by omega)).mono ?_
     rintro e w' ⟨rfl, rfl⟩
     rw [HNS.out]
     refine ⟨_, rfl, ?_⟩
     simp only [rd14, Act.put, sA, sZ, sS]
     refine hK.out _ _ (fun _ => (HBW.out.cell HLB.out).trans HCELL.out) (fun hė => ?_)
     replace hė := hė (by decide)
     clear hK K
     refine Tillst.one (i := 15) (o := rd15) (by kernel_rfl) rfl ?_
     intro K hK
     refine step_empty rfl rfl w1.heap.size HZW.out ?_
     intro ga v_4 hg hown hgrow
     have HEa := hI hown
     have HGa := hI hg.1
     have HNE := hI (show ga ≠ gb by have h := HGb.out.2; have := hg.2; omega)
     have HEb := hI (own_none HEb.out hgrow)
     have HGb := hI (show w1.heap.size ≤ gb ∧ gb < v_4.heap.size from ⟨HGb.out.1, nL HGb.out.2 hgrow.size⟩)
     have HBW := hI (HBW.out.grown hgrow HZW.out (fun g h => by cases h))
     have HZW := hI (nT HZW.out hgrow.size)
     clear hg hown hgrow
     simp only [rd15, Act.put, sA, sZ, sS]
     refine hK.out _ _ (fun _ => (HBW.out.cell HLB.out).trans HCELL.out) (fun hė => ?_)
     replace hė := hė (by decide)
     clear hK K
     refine Tillst.one (i := 19) (o := rd19) (by kernel_rfl) rfl ?_
     intro K hK
     refine step_append_rowG (mk := Value.int .u8) (d := 0) rfl (.tmp 42) (.tmp 45) 40 rfl w1.heap.size 5 i0 (.int .u8 0) 1 Tryz.underlying40 hi hz0 hz1 hz2 rfl (fun _ => rfl) (.slice (some ⟨ga, 0, none⟩) 0 0) 0 [] rfl HEa.out (fun _ => True) (some ⟨b0, o0 + 21, none⟩) (klenOf xs) (c - 21) (keyOf xs) rfl ((HSRC.out.below HBW.out).part 21 (klenOf xs) HKN.out) (fun h => by cases h) (by unfold maxLen; omega) (by omega) HZW.out ?_
     intro v19 v_5 hown hgrow hblk
     rw [List.nil_append, Nat.zero_add] at hown
     have HO3 := hI hown
     have HVN := hI (show v19.ownBlock ≠ some gb from fun h => by rcases hblk with h2 | h2 <;> rw [h] at h2 <;> simp [Value.ownBlock] at h2; exact HNE.out h2.symm; have := HGb.out.2; omega)
     have HEb := hI (HEb.out.kept hgrow (.inr (fun h => HNE.out (by simpa [Value.ownBlock] using h.symm))))
     have HGb := hI (show w1.heap.size ≤ gb ∧ gb < v_5.heap.size from ⟨HGb.out.1, nL HGb.out.2 hgrow.size⟩)
     have HBW := hI (HBW.out.grown hgrow HZW.out (fun g h => by (have h' : ga = g := (by simpa [Value.ownBlock] using h)); have := HGa.out.1; omega))
     have HZW := hI (nT HZW.out hgrow.size)
     clear hown hgrow hblk
     simp only [rd19, Act.put, sA, sZ, sS]
     refine hK.out _ _ (fun _ => (HBW.out.cell HLB.out).trans HCELL.out) (fun hė => ?_)
     replace hė := hė (by decide)
     clear hK K
     refine Tillst.one (i := 25) (o := rd25) (by kernel_rfl) rfl ?_
     intro K hK
     refine step_append_rowG (mk := Value.int .u8) (d := 0) rfl (.tmp 47) (.tmp 51) 40 rfl w1.heap.size 5 i0 (.int .u8 0) 1 Tryz.underlying40 hi hz0 hz1 hz2 rfl (fun _ => rfl) (.slice (some ⟨gb, 0, none⟩) 0 0) 0 [] rfl HEb.out (fun _ => True) (some ⟨b0, ow, none⟩) (vlenOf xs) cw (valOf xs) rfl (HRW.out _ (HSRC.out.below HBW.out)) (fun h => by cases h) (by unfold maxLen; omega) (by omega) HZW.out ?_
     intro v25 vz hown hgrow hblk
     rw [List.nil_append, Nat.zero_add] at hown
     have hO3 := HO3.out.kept hgrow (.inr (fun h => HVN.out (by simpa [Value.ownBlock] using h)))
     obtain ⟨A5, c5, rfl, hc1, hn1, hr1⟩ := rowG_own 0 hO3
     obtain ⟨A6, c6, rfl, hc2, hn2, hr2⟩ := rowG_own 0 hown
     have HR1 := hI hr1
     have HR2 := hI hr2
     have HBW := hI (HBW.out.grown hgrow HZW.out (fun g h => by (have h' : gb = g := (by simpa [Value.ownBlock] using h)); have := HGb.out.1; omega))
     clear hown hgrow hblk hO3 hc1 hn1 hr1 hc2 hn2 hr2
     simp only [rd25, Act.put, sA, sZ, sS]
     refine hK.out _ _ (fun _ => (HBW.out.cell HLB.out).trans HCELL.out) (fun hė => ?_)
     replace hė := hė (by decide)
     clear hK K
     refine Tillst.tk 26 rd26 (v := ?_) rfl (by kernel_rfl) (by rfl) ?_ hė ?_
     rotate_left
     ·intro W hSW; (try dsimp only at hSW); unfold rd26; go_simp; with_reducible rfl
     simp only [rd26, Act.put, sA, sZ, sS]
     refine Tillst.one (i := 28) (o := rd28) (by kernel_rfl) rfl ?_
     intro K hK
     have HZ := hI (HRES.out.below HBW.out HRES.out.lt)
     refine step_store_row (.tmp 2) (.tmp 53) 69 rfl rfl w.heap.size (recC (kindOf xs) (flagsOf xs) (expOf xs) (seqOf xs) A5 (klenOf xs) c5 A6 (vlenOf xs) c6) rfl rfl 69 _ HZ.out size_rec rfl (one_rec _ _ _ _ _ _ _ _ _ _) ?_
     simp only [rd28, Act.put, sA, sZ, sS]
     refine hK.out _ _ (fun _ => (World.cell?_of_block (setRow_other _ _ _ _ (Nat.ne_of_lt HLW.out))).trans ((HBW.out.cell HLB.out).trans HCELL.out)) (fun hė => ?_)
     replace hė := hė (by decide)
     clear hK K
     refine Tillst.tk 29 rd29 (v := ?_) rfl (by kernel_rfl) (by rfl) ?_ hė ?_
     rotate_left
     ·intro W hSW; (try dsimp only at hSW); unfold rd29; go_simp; with_reducible rfl
     simp only [rd29, Act.put, sA, sZ, sS]
     refine Tillst.tk 30 rd30 (v := ?_) rfl (by kernel_rfl) (by rfl) ?_ hė ?_
     rotate_left
     ·intro W hSW; (try dsimp only at hSW); unfold rd30; go_simp; with_reducible rfl
     simp only [rd30, Act.put, sA, sZ, sS]
     refine Tillst.done (by kernel_rfl) ?_ _
     refine NoPanic.normal ?_
     clear hė
     go_wp2_with (with_reducible refine halt_end ?_)
     have hst := setRow_heap _ _ _ (recC (kindOf xs) (flagsOf xs) (expOf xs) (seqOf xs) A5 (klenOf xs) c5 A6 (vlenOf xs) c6) _ _ HZ.out
     exact Halt.ret (results_row3 (p := 2) (u := 3) (v := 4) rfl _ _ w.heap.size 69 (recC (kindOf xs) (flagsOf xs) (expOf xs) (seqOf xs) A5 (klenOf xs) c5 A6 (vlenOf xs) c6) _ rfl hst Tryz.underlying69 rfl size_rec) rfl (rdec_fin xs w w1 vz A5 A6 c5 c6 nd HNN.out HR1.out HR2.out HLW1.out (HB1.out.trans (HBW.out.mono HB1.out.size)))
    ·intro K hK
     refine step_empty rfl rfl w1.heap.size HZW.out ?_
     intro ga v_3 hg hown hgrow
     have HEa := hI hown
     have HGa := hI hg.1
     have HNE := hI (show ga ≠ gb by have h := HGb.out.2; have := hg.2; omega)
     have HEb := hI (own_none HEb.out hgrow)
     have HGb := hI (show w1.heap.size ≤ gb ∧ gb < v_3.heap.size from ⟨HGb.out.1, nL HGb.out.2 hgrow.size⟩)
     have HBW := hI (HBW.out.grown hgrow HZW.out (fun g h => by cases h))
     have HZW := hI (nT HZW.out hgrow.size)
     clear hg hown hgrow
     simp only [rd15, Act.put, sA, sZ, sS]
     refine hK.out _ _ (fun _ => (HBW.out.cell HLB.out).trans HCELL.out) (fun hė => ?_)
     replace hė := hė (by decide)
     clear hK K
     refine Tillst.one (i := 14) (o := rd14) (by kernel_rfl) rfl ?_
     intro K hK
     refine step_call 219 #[.tmp 40] #[40] rfl rfl Tryz.func219 rfl rfl [.slice (some ⟨b0, o0 + 9, none⟩) 8 (c - 9)] rfl ?_
     refine (rnum_any _ 8 _ _ (fun _ => True) _ ((HSRC.out.below HBW.out).part 9 8 (by omega)) (bytes_part HBY.out 9 8) (by omega)).mono ?_
     rintro e w' ⟨rfl, rfl⟩
     rw [HNS.out]
     refine ⟨_, rfl, ?_⟩
     simp only [rd14, Act.put, sA, sZ, sS]
     refine hK.out _ _ (fun _ => (HBW.out.cell HLB.out).trans HCELL.out) (fun hė => ?_)
     replace hė := hė (by decide)
     clear hK K
     refine Tillst.one (i := 19) (o := rd19) (by kernel_rfl) rfl ?_
     intro K hK
     refine step_append_rowG (mk := Value.int .u8) (d := 0) rfl (.tmp 42) (.tmp 45) 40 rfl w1.heap.size 5 i0 (.int .u8 0) 1 Tryz.underlying40 hi hz0 hz1 hz2 rfl (fun _ => rfl) (.slice (some ⟨ga, 0, none⟩) 0 0) 0 [] rfl HEa.out (fun _ => True) (some ⟨b0, o0 + 21, none⟩) (klenOf xs) (c - 21) (keyOf xs) rfl ((HSRC.out.below HBW.out).part 21 (klenOf xs) HKN.out) (fun h => by cases h) (by unfold maxLen; omega) (by omega) HZW.out ?_
     intro v19 v_5 hown hgrow hblk
     rw [List.nil_append, Nat.zero_add] at hown
     have HO3 := hI hown
     have HVN := hI (show v19.ownBlock ≠ some gb from fun h => by rcases hblk with h2 | h2 <;> rw [h] at h2 <;> simp [Value.ownBlock] at h2; exact HNE.out h2.symm; have := HGb.out.2; omega)
     have HEb := hI (HEb.out.kept hgrow (.inr (fun h => HNE.out (by simpa [Value.ownBlock] using h.symm))))
     have HGb := hI (show w1.heap.size ≤ gb ∧ gb < v_5.heap.size from ⟨HGb.out.1, nL HGb.out.2 hgrow.size⟩)
     have HBW := hI (HBW.out.grown hgrow HZW.out (fun g h => by (have h' : ga = g := (by simpa [Value.ownBlock] using h)); have := HGa.out.1; omega))
     have HZW := hI (nT HZW.out hgrow.size)
     clear hown hgrow hblk
     simp only [rd19, Act.put, sA, sZ, sS]
     refine hK.out _ _ (fun _ => (HBW.out.cell HLB.out).trans HCELL.out) (fun hė => ?_)
     replace hė := hė (by decide)
     clear hK K
     refine Tillst.one (i := 25) (o := rd25) (by kernel_rfl) rfl ?_
     intro K hK
     refine step_append_rowG (mk := Value.int .u8) (d := 0) rfl (.tmp 47) (.tmp 51) 40 rfl w1.heap.size 5 i0 (.int .u8 0) 1 Tryz.underlying40 hi hz0 hz1 hz2 rfl (fun _ => rfl) (.slice (some ⟨gb, 0, none⟩) 0 0) 0 [] rfl HEb.out (fun _ => True) (some ⟨b0, ow, none⟩) (vlenOf xs) cw (valOf xs) rfl (HRW.out _ (HSRC.out.below HBW.out)) (fun h => by cases h) (by unfold maxLen; omega) (by omega) HZW.out ?_
     intro v25 vz hown hgrow hblk
     rw [List.nil_append, Nat.zero_add] at hown
     have hO3 := HO3.out.kept hgrow (.inr (fun h => HVN.out (by simpa [Value.ownBlock] using h)))
     obtain ⟨A5, c5, rfl, hc1, hn1, hr1⟩ := rowG_own 0 hO3
     obtain ⟨A6, c6, rfl, hc2, hn2, hr2⟩ := rowG_own 0 hown
     have HR1 := hI hr1
     have HR2 := hI hr2
     have HBW := hI (HBW.out.grown hgrow HZW.out (fun g h => by (have h' : gb = g := (by simpa [Value.ownBlock] using h)); have := HGb.out.1; omega))
     clear hown hgrow hblk hO3 hc1 hn1 hr1 hc2 hn2 hr2
     simp only [rd25, Act.put, sA, sZ, sS]
     refine hK.out _ _ (fun _ => (HBW.out.cell HLB.out).trans HCELL.out) (fun hė => ?_)
     replace hė := hė (by decide)
     clear hK K
     refine Tillst.tk 26 rd26 (v := ?_) rfl (by kernel_rfl) (by rfl) ?_ hė ?_
     rotate_left
     ·intro W hSW; (try dsimp only at hSW); unfold rd26; go_simp; with_reducible rfl
     simp only [rd26, Act.put, sA, sZ, sS]
     refine Tillst.one (i := 28) (o := rd28) (by kernel_rfl) rfl ?_
     intro K hK
     have HZ := hI (HRES.out.below HBW.out HRES.out.lt)
     refine step_store_row (.tmp 2) (.tmp 53) 69 rfl rfl w.heap.size (recC (kindOf xs) (flagsOf xs) (expOf xs) (seqOf xs) A5 (klenOf xs) c5 A6 (vlenOf xs) c6) rfl rfl 69 _ HZ.out size_rec rfl (one_rec _ _ _ _ _ _ _ _ _ _) ?_
     simp only [rd28, Act.put, sA, sZ, sS]
     refine hK.out _ _ (fun _ => (World.cell?_of_block (setRow_other _ _ _ _ (Nat.ne_of_lt HLW.out))).trans ((HBW.out.cell HLB.out).trans HCELL.out)) (fun hė => ?_)
     replace hė := hė (by decide)
     clear hK K
     refine Tillst.tk 29 rd29 (v := ?_) rfl (by kernel_rfl) (by rfl) ?_ hė ?_
     rotate_left
     ·intro W hSW; (try dsimp only at hSW); unfold rd29; go_simp; with_reducible rfl
     simp only [rd29, Act.put, sA, sZ, sS]
     refine Tillst.tk 30 rd30 (v := ?_) rfl (by kernel_rfl) (by rfl) ?_ hė ?_
     rotate_left
     ·intro W hSW; (try dsimp only at hSW); unfold rd30; go_simp; with_reducible rfl
     simp only [rd30, Act.put, sA, sZ, sS]
     refine Tillst.done (by kernel_rfl) ?_ _
     refine NoPanic.normal ?_
     clear hė
     go_wp2_with (with_reducible refine halt_end ?_)
     have hst := setRow_heap _ _ _ (recC (kindOf xs) (flagsOf xs) (expOf xs) (seqOf xs) A5 (klenOf xs) c5 A6 (vlenOf xs) c6) _ _ HZ.out
     exact Halt.ret (results_row3 (p := 2) (u := 3) (v := 4) rfl _ _ w.heap.size 69 (recC (kindOf xs) (flagsOf xs) (expOf xs) (seqOf xs) A5 (klenOf xs) c5 A6 (vlenOf xs) c6) _ rfl hst Tryz.underlying69 rfl size_rec) rfl (rdec_fin xs w w1 vz A5 A6 c5 c6 nd HNN.out HR1.out HR2.out HLW1.out (HB1.out.trans (HBW.out.mono HB1.out.size)))
   ·intro K hK
    refine step_empty rfl rfl w1.heap.size HZW.out ?_
    intro ga v_2 hg hown hgrow
    have HEa := hI hown
    have HGa := hI hg.1
    have HNE := hI (show ga ≠ gb by have h := HGb.out.2; have := hg.2; omega)
    have HEb := hI (own_none HEb.out hgrow)
    have HGb := hI (show w1.heap.size ≤ gb ∧ gb < v_2.heap.size from ⟨HGb.out.1, nL HGb.out.2 hgrow.size⟩)
    have HBW := hI (HBW.out.grown hgrow HZW.out (fun g h => by cases h))
    have HZW := hI (nT HZW.out hgrow.size)
    clear hg hown hgrow
    simp only [rd15, Act.put, sA, sZ, sS]
    refine hK.out _ _ (fun _ => (HBW.out.cell HLB.out).trans HCELL.out) (fun hė => ?_)
    replace hė := hė (by decide)
    clear hK K
    refine Tillst.one (i := 10) (o := rd10) (by kernel_rfl) rfl ?_
    intro K hK
    refine step_call 219 #[.tmp 36] #[40] rfl rfl Tryz.func219 rfl rfl [.slice (some ⟨b0, o0 + 5, none⟩) 4 (c - 5)] rfl ?_
    refine (rnum_any _ 4 _ _ (fun _ => True) _ ((HSRC.out.below HBW.out).part 5 4 (by omega)) (bytes_part HBY.out 5 4) (by omega)).mono ?_
    rintro e w' ⟨rfl, rfl⟩
    rw [HNX.out]
    refine ⟨_, rfl, ?_⟩
    simp only [rd10, Act.put, sA, sZ, sS]
    refine hK.out _ _ (fun _ => (HBW.out.cell HLB.out).trans HCELL.out) (fun hė => ?_)
    replace hė := hė (by decide)
    clear hK K
    refine Tillst.tk 11 rd11 (v := ?_) rfl (by kernel_rfl) (by rfl) ?_ hė ?_
    rotate_left
    ·intro W hSW; (try dsimp only at hSW); unfold rd11; go_simp; with_reducible rfl
    simp only [rd11, Act.put, sA, sZ, sS]
    refine Tillst.one (i := 14) (o := rd14) (by kernel_rfl) rfl ?_
    intro K hK
    refine step_call 219 #[.tmp 40] #[40] rfl rfl Tryz.func219 rfl rfl [.slice (some ⟨b0, o0 + 9, none⟩) 8 (c - 9)] rfl ?_
    refine (rnum_any _ 8 _ _ (fun _ => True) _ ((HSRC.out.below HBW.out).part 9 8 (by omega)) (bytes_part HBY.out 9 8) (by omega)).mono ?_
    rintro e w' ⟨rfl, rfl⟩
    rw [HNS.out]
    refine ⟨_, rfl, ?_⟩
    simp only [rd14, Act.put, sA, sZ, sS]
    refine hK.out _ _ (fun _ => (HBW.out.cell HLB.out).trans HCELL.out) (fun hė => ?_)
    replace hė := hė (by decide)
    clear hK K
    refine Tillst.one (i := 19) (o := rd19) (by kernel_rfl) rfl ?_
    intro K hK
    refine step_append_rowG (mk := Value.int .u8) (d := 0) rfl (.tmp 42) (.tmp 45) 40 rfl w1.heap.size 5 i0 (.int .u8 0) 1 Tryz.underlying40 hi hz0 hz1 hz2 rfl (fun _ => rfl) (.slice (some ⟨ga, 0, none⟩) 0 0) 0 [] rfl HEa.out (fun _ => True) (some ⟨b0, o0 + 21, none⟩) (klenOf xs) (c - 21) (keyOf xs) rfl ((HSRC.out.below HBW.out).part 21 (klenOf xs) HKN.out) (fun h => by cases h) (by unfold maxLen; omega) (by omega) HZW.out ?_
    intro v19 v_5 hown hgrow hblk
    rw [List.nil_append, Nat.zero_add] at hown
    have HO3 := hI hown
    have HVN := hI (show v19.ownBlock ≠ some gb from fun h => by rcases hblk with h2 | h2 <;> rw [h] at h2 <;> simp [Value.ownBlock] at h2; exact HNE.out h2.symm; have := HGb.out.2; omega)
    have HEb := hI (HEb.out.kept hgrow (.inr (fun h => HNE.out (by simpa [Value.ownBlock] using h.symm))))
    have HGb := hI (show w1.heap.size ≤ gb ∧ gb < v_5.heap.size from ⟨HGb.out.1, nL HGb.out.2 hgrow.size⟩)
    have HBW := hI (HBW.out.grown hgrow HZW.out (fun g h => by (have h' : ga = g := (by simpa [Value.ownBlock] using h)); have := HGa.out.1; omega))
    have HZW := hI (nT HZW.out hgrow.size)
    clear hown hgrow hblk
    simp only [rd19, Act.put, sA, sZ, sS]
    refine hK.out _ _ (fun _ => (HBW.out.cell HLB.out).trans HCELL.out) (fun hė => ?_)
    replace hė := hė (by decide)
    clear hK K
    refine Tillst.one (i := 25) (o := rd25) (by kernel_rfl) rfl ?_
    intro K hK
    refine step_append_rowG (mk := Value.int .u8) (d := 0) rfl (.tmp 47) (.tmp 51) 40 rfl w1.heap.size 5 i0 (.int .u8 0) 1 Tryz.underlying40 hi hz0 hz1 hz2 rfl (fun _ => rfl) (.slice (some ⟨gb, 0, none⟩) 0 0) 0 [] rfl HEb.out (fun _ => True) (some ⟨b0, ow, none⟩) (vlenOf xs) cw (valOf xs) rfl (HRW.out _ (HSRC.out.below HBW.out)) (fun h => by cases h) (by unfold maxLen; omega) (by omega) HZW.out ?_
    intro v25 vz hown hgrow hblk
    rw [List.nil_append, Nat.zero_add] at hown
    have hO3 := HO3.out.kept hgrow (.inr (fun h => HVN.out (by simpa [Value.ownBlock] using h)))
    obtain ⟨A5, c5, rfl, hc1, hn1, hr1⟩ := rowG_own 0 hO3
    obtain ⟨A6, c6, rfl, hc2, hn2, hr2⟩ := rowG_own 0 hown
    have HR1 := hI hr1
    have HR2 := hI hr2
    have HBW := hI (HBW.out.grown hgrow HZW.out (fun g h => by (have h' : gb = g := (by simpa [Value.ownBlock] using h)); have := HGb.out.1; omega))
    clear hown hgrow hblk hO3 hc1 hn1 hr1 hc2 hn2 hr2
    simp only [rd25, Act.put, sA, sZ, sS]
    refine hK.out _ _ (fun _ => (HBW.out.cell HLB.out).trans HCELL.out) (fun hė => ?_)
    replace hė := hė (by decide)
    clear hK K
    refine Tillst.tk 26 rd26 (v := ?_) rfl (by kernel_rfl) (by rfl) ?_ hė ?_
    rotate_left
    ·intro W hSW; (try dsimp only at hSW); unfold rd26; go_simp; with_reducible rfl
    simp only [rd26, Act.put, sA, sZ, sS]
    refine Tillst.one (i := 28) (o := rd28) (by kernel_rfl) rfl ?_
    intro K hK
    have HZ := hI (HRES.out.below HBW.out HRES.out.lt)
    refine step_store_row (.tmp 2) (.tmp 53) 69 rfl rfl w.heap.size (recC (kindOf xs) (flagsOf xs) (expOf xs) (seqOf xs) A5 (klenOf xs) c5 A6 (vlenOf xs) c6) rfl rfl 69 _ HZ.out size_rec rfl (one_rec _ _ _ _ _ _ _ _ _ _) ?_
    simp only [rd28, Act.put, sA, sZ, sS]
    refine hK.out _ _ (fun _ => (World.cell?_of_block (setRow_other _ _ _ _ (Nat.ne_of_lt HLW.out))).trans ((HBW.out.cell HLB.out).trans HCELL.out)) (fun hė => ?_)
    replace hė := hė (by decide)
    clear hK K
    refine Tillst.tk 29 rd29 (v := ?_) rfl (by kernel_rfl) (by rfl) ?_ hė ?_
    rotate_left
    ·intro W hSW; (try dsimp only at hSW); unfold rd29; go_simp; with_reducible rfl
    simp only [rd29, Act.put, sA, sZ, sS]
    refine Tillst.tk 30 rd30 (v := ?_) rfl (by kernel_rfl) (by rfl) ?_ hė ?_
    rotate_left
    ·intro W hSW; (try dsimp only at hSW); unfold rd30; go_simp; with_reducible rfl
    simp only [rd30, Act.put, sA, sZ, sS]
    refine Tillst.done (by kernel_rfl) ?_ _
    refine NoPanic.normal ?_
    clear hė
    go_wp2_with (with_reducible refine halt_end ?_)
    have hst := setRow_heap _ _ _ (recC (kindOf xs) (flagsOf xs) (expOf xs) (seqOf xs) A5 (klenOf xs) c5 A6 (vlenOf xs) c6) _ _ HZ.out
    exact Halt.ret (results_row3 (p := 2) (u := 3) (v := 4) rfl _ _ w.heap.size 69 (recC (kindOf xs) (flagsOf xs) (expOf xs) (seqOf xs) A5 (klenOf xs) c5 A6 (vlenOf xs) c6) _ rfl hst Tryz.underlying69 rfl size_rec) rfl (rdec_fin xs w w1 vz A5 A6 c5 c6 nd HNN.out HR1.out HR2.out HLW1.out (HB1.out.trans (HBW.out.mono HB1.out.size)))
  ·intro K hK
   refine step_empty rfl rfl w1.heap.size HZW.out ?_
   intro ga v_1 hg hown hgrow
   have HEa := hI hown
   have HGa := hI hg.1
   have HNE := hI (show ga ≠ gb by have h := HGb.out.2; have := hg.2; omega)
   have HEb := hI (own_none HEb.out hgrow)
   have HGb := hI (show w1.heap.size ≤ gb ∧ gb < v_1.heap.size from ⟨HGb.out.1, nL HGb.out.2 hgrow.size⟩)
   have HBW := hI (HBW.out.grown hgrow HZW.out (fun g h => by cases h))
   have HZW := hI (nT HZW.out hgrow.size)
   clear hg hown hgrow
   simp only [rd15, Act.put, sA, sZ, sS]
   refine hK.out _ _ (fun _ => (HBW.out.cell HLB.out).trans HCELL.out) (fun hė => ?_)
   replace hė := hė (by decide)
   clear hK K
   refine Tillst.one (i := 6) (o := rd6) (by kernel_rfl) rfl ?_
   intro K hK
   refine step_call 219 #[.tmp 32] #[40] rfl rfl Tryz.func219 rfl rfl [.slice (some ⟨b0, o0 + 1, none⟩) 4 (c - 1)] rfl ?_
   refine (rnum_any _ 4 _ _ (fun _ => True) _ ((HSRC.out.below HBW.out).part 1 4 (by omega)) (bytes_part HBY.out 1 4) (by omega)).mono ?_
   rintro e w' ⟨rfl, rfl⟩
   rw [HNF.out]
   refine ⟨_, rfl, ?_⟩
   simp only [rd6, Act.put, sA, sZ, sS]
   refine hK.out _ _ (fun _ => (HBW.out.cell HLB.out).trans HCELL.out) (fun hė => ?_)
   replace hė := hė (by decide)
   clear hK K
   refine Tillst.tk 7 rd7 (v := ?_) rfl (by kernel_rfl) (by rfl) ?_ hė ?_
   rotate_left
   ·intro W hSW; (try dsimp only at hSW); unfold rd7; go_simp; with_reducible rfl
   simp only [rd7, Act.put, sA, sZ, sS]
   refine Tillst.one (i := 10) (o := rd10) (by kernel_rfl) rfl ?_
   intro K hK
   refine step_call 219 #[.tmp 36] #[40] rfl rfl Tryz.func219 rfl rfl [.slice (some ⟨b0, o0 + 5, none⟩) 4 (c - 5)] rfl ?_
   refine (rnum_any _ 4 _ _ (fun _ => True) _ ((HSRC.out.below HBW.out).part 5 4 (by omega)) (bytes_part HBY.out 5 4) (by omega)).mono ?_
   rintro e w' ⟨rfl, rfl⟩
   rw [HNX.out]
   refine ⟨_, rfl, ?_⟩
   simp only [rd10, Act.put, sA, sZ, sS]
   refine hK.out _ _ (fun _ => (HBW.out.cell HLB.out).trans HCELL.out) (fun hė => ?_)
   replace hė := hė (by decide)
   clear hK K
   refine Tillst.tk 11 rd11 (v := ?_) rfl (by kernel_rfl) (by rfl) ?_ hė ?_
   rotate_left
   ·intro W hSW; (try dsimp only at hSW); unfold rd11; go_simp; with_reducible rfl
   simp only [rd11, Act.put, sA, sZ, sS]
   refine Tillst.one (i := 14) (o := rd14) (by kernel_rfl) rfl ?_
   intro K hK
   refine step_call 219 #[.tmp 40] #[40] rfl rfl Tryz.func219 rfl rfl [.slice (some ⟨b0, o0 + 9, none⟩) 8 (c - 9)] rfl ?_
   refine (rnum_any _ 8 _ _ (fun _ => True) _ ((HSRC.out.below HBW.out).part 9 8 (by omega)) (bytes_part HBY.out 9 8) (by omega)).mono ?_
   rintro e w' ⟨rfl, rfl⟩
   rw [HNS.out]
   refine ⟨_, rfl, ?_⟩
   simp only [rd14, Act.put, sA, sZ, sS]
   refine hK.out _ _ (fun _ => (HBW.out.cell HLB.out).trans HCELL.out) (fun hė => ?_)
   replace hė := hė (by decide)
   clear hK K
   refine Tillst.one (i := 19) (o := rd19) (by kernel_rfl) rfl ?_
   intro K hK
   refine step_append_rowG (mk := Value.int .u8) (d := 0) rfl (.tmp 42) (.tmp 45) 40 rfl w1.heap.size 5 i0 (.int .u8 0) 1 Tryz.underlying40 hi hz0 hz1 hz2 rfl (fun _ => rfl) (.slice (some ⟨ga, 0, none⟩) 0 0) 0 [] rfl HEa.out (fun _ => True) (some ⟨b0, o0 + 21, none⟩) (klenOf xs) (c - 21) (keyOf xs) rfl ((HSRC.out.below HBW.out).part 21 (klenOf xs) HKN.out) (fun h => by cases h) (by unfold maxLen; omega) (by omega) HZW.out ?_
   intro v19 v_5 hown hgrow hblk
   rw [List.nil_append, Nat.zero_add] at hown
   have HO3 := hI hown
   have HVN := hI (show v19.ownBlock ≠ some gb from fun h => by rcases hblk with h2 | h2 <;> rw [h] at h2 <;> simp [Value.ownBlock] at h2; exact HNE.out h2.symm; have := HGb.out.2; omega)
   have HEb := hI (HEb.out.kept hgrow (.inr (fun h => HNE.out (by simpa [Value.ownBlock] using h.symm))))
   have HGb := hI (show w1.heap.size ≤ gb ∧ gb < v_5.heap.size from ⟨HGb.out.1, nL HGb.out.2 hgrow.size⟩)
   have HBW := hI (HBW.out.grown hgrow HZW.out (fun g h => by (have h' : ga = g := (by simpa [Value.ownBlock] using h)); have := HGa.out.1; omega))
   have HZW := hI (nT HZW.out hgrow.size)
   clear hown hgrow hblk
   simp only [rd19, Act.put, sA, sZ, sS]
   refine hK.out _ _ (fun _ => (HBW.out.cell HLB.out).trans HCELL.out) (fun hė => ?_)
   replace hė := hė (by decide)
   clear hK K
   refine Tillst.one (i := 25) (o := rd25) (by kernel_rfl) rfl ?_
   intro K hK
   refine step_append_rowG (mk := Value.int .u8) (d := 0) rfl (.tmp 47) (.tmp 51) 40 rfl w1.heap.size 5 i0 (.int .u8 0) 1 Tryz.underlying40 hi hz0 hz1 hz2 rfl (fun _ => rfl) (.slice (some ⟨gb, 0, none⟩) 0 0) 0 [] rfl HEb.out (fun _ => True) (some ⟨b0, ow, none⟩) (vlenOf xs) cw (valOf xs) rfl (HRW.out _ (HSRC.out.below HBW.out)) (fun h => by cases h) (by unfold maxLen; omega) (by omega) HZW.out ?_
   intro v25 vz hown hgrow hblk
   rw [List.nil_append, Nat.zero_add] at hown
   have hO3 := HO3.out.kept hgrow (.inr (fun h => HVN.out (by simpa [Value.ownBlock] using h)))
   obtain ⟨A5, c5, rfl, hc1, hn1, hr1⟩ := rowG_own 0 hO3
   obtain ⟨A6, c6, rfl, hc2, hn2, hr2⟩ := rowG_own 0 hown
   have HR1 := hI hr1
   have HR2 := hI hr2
   have HBW := hI (HBW.out.grown hgrow HZW.out (fun g h => by (have h' : gb = g := (by simpa [Value.ownBlock] using h)); have := HGb.out.1; omega))
   clear hown hgrow hblk hO3 hc1 hn1 hr1 hc2 hn2 hr2
   simp only [rd25, Act.put, sA, sZ, sS]
   refine hK.out _ _ (fun _ => (HBW.out.cell HLB.out).trans HCELL.out) (fun hė => ?_)
   replace hė := hė (by decide)
   clear hK K
   refine Tillst.tk 26 rd26 (v := ?_) rfl (by kernel_rfl) (by rfl) ?_ hė ?_
   rotate_left
   ·intro W hSW; (try dsimp only at hSW); unfold rd26; go_simp; with_reducible rfl
   simp only [rd26, Act.put, sA, sZ, sS]
   refine Tillst.one (i := 28) (o := rd28) (by kernel_rfl) rfl ?_
   intro K hK
   have HZ := hI (HRES.out.below HBW.out HRES.out.lt)
   refine step_store_row (.tmp 2) (.tmp 53) 69 rfl rfl w.heap.size (recC (kindOf xs) (flagsOf xs) (expOf xs) (seqOf xs) A5 (klenOf xs) c5 A6 (vlenOf xs) c6) rfl rfl 69 _ HZ.out size_rec rfl (one_rec _ _ _ _ _ _ _ _ _ _) ?_
   simp only [rd28, Act.put, sA, sZ, sS]
   refine hK.out _ _ (fun _ => (World.cell?_of_block (setRow_other _ _ _ _ (Nat.ne_of_lt HLW.out))).trans ((HBW.out.cell HLB.out).trans HCELL.out)) (fun hė => ?_)
   replace hė := hė (by decide)
   clear hK K
   refine Tillst.tk 29 rd29 (v := ?_) rfl (by kernel_rfl) (by rfl) ?_ hė ?_
   rotate_left
   ·intro W hSW; (try dsimp only at hSW); unfold rd29; go_simp; with_reducible rfl
   simp only [rd29, Act.put, sA, sZ, sS]
   refine Tillst.tk 30 rd30 (v := ?_) rfl (by kernel_rfl) (by rfl) ?_ hė ?_
   rotate_left
   ·intro W hSW; (try dsimp only at hSW); unfold rd30; go_simp; with_reducible rfl
   simp only [rd30, Act.put, sA, sZ, sS]
   refine Tillst.done (by kernel_rfl) ?_ _
   refine NoPanic.normal ?_
   clear hė
   go_wp2_with (with_reducible refine halt_end ?_)
   have hst := setRow_heap _ _ _ (recC (kindOf xs) (flagsOf xs) (expOf xs) (seqOf xs) A5 (klenOf xs) c5 A6 (vlenOf xs) c6) _ _ HZ.out
   exact Halt.ret (results_row3 (p := 2) (u := 3) (v := 4) rfl _ _ w.heap.size 69 (recC (kindOf xs) (flagsOf xs) (expOf xs) (seqOf xs) A5 (klenOf xs) c5 A6 (vlenOf xs) c6) _ rfl hst Tryz.underlying69 rfl size_rec) rfl (rdec_fin xs w w1 vz A5 A6 c5 c6 nd HNN.out HR1.out HR2.out HLW1.out (HB1.out.trans (HBW.out.mono HB1.out.size)))
end
end Go.Proofs.YtknfblfnfoibkaaGreat
