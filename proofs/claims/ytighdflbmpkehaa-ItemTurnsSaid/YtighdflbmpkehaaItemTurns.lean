/- For every list of bytes, every number of 64 bits, up and down: Turn of package item answers what the document says; the arguments read as they did. No condition. -/
import Derived.Test.YtighdflbmpkehaaRows
import Derived.WalkKit
import Derived.ProofKit
import Derived.OpenShut
import Derived.ShutString
import Derived.ChangeOld
import Derived.Below
import Derived.SizedLaws
import Derived.Test.YtighdflbmpkehaaLaw17
import Derived.Test.YtighdflbmpkehaaCalm
namespace Go.Proofs.Ytighdflbmpkehaa.itemTurns
open Go.ChangeShapes Go.WideShapes Go.ChangeAt Go.RowKit
open Go.ChangeMaps (open_string shut_string)
set_option linter.unusedVariables false

theorem own : ownKnob Try.prog.godebug = none := by kernel_rfl
theorem laidOut : laidOutB Try.prog = true := by kernel_rfl
theorem bytes5 : Try.prog.bytesOf 5 = 1 := by kernel_rfl

/-- A slice of integers that came in: nil; or a row of 'cap' cells, the numbers 'zs', each fitting its kind. -/
def IsRow (k : IntKind) (w : World) (a : Option Addr) (len cap : Nat) (zs : List Int) : Prop :=
  (a = none ∧ len = 0 ∧ cap = 0 ∧ zs = []) ∨
  ∃ x : Addr, a = some x ∧ len ≤ cap ∧ cap ≤ maxLen ∧ zs.length = cap ∧ (∀ i, i < zs.length → w.cell? (x.add i) = some (.int k (zs.getD i 0))) ∧ ∀ n ∈ zs, (Lit.int k n).wf = true

set_option maxHeartbeats 4000000 in
set_option maxRecDepth 100000 in
theorem walk (a0 : Option Addr) (len0 cap0 : Nat) (z0 : List Int) (a1 : Int) (a2 : Bool) (w : World) (w0 : IsRow .u8 w a0 len0 cap0 z0) (b0 : cap0 ≤ 140737488351232) (w1 : (Lit.int .u64 a1).wf = true) :
    Calls Try.prog 5 #[.slice a0 len0 cap0, .int .u64 a1, .bool a2] w fun e w' => e = .returned (.bool true) ∧ Below w.heap.size w w' := by
  obtain ⟨hx, hbx, hlc0, hl0, hn0⟩ := row8_of w0
  obtain ⟨n, rfl, hn⟩ := u64_of w1 -- HEARTS
  clear w0 w1
  generalize z0.take len0 = xs at hx hbx
  have HX := Lib.hid hx
  have HI := Lib.hid (info_parts info_u8)
  clear hx
  go_enter Try.func5, Try.ntmps5
  go_wp2_with fail
  refine (wakes_any w).mono ?_
  rintro e w1 ⟨rfl, hb1⟩
  have HX1 := Lib.hid (HX.out.below hb1 (fun b h => h))
  have HB1 := Lib.hid hb1
  clear hb1
  obtain ⟨i0, hi, hz0, hz1, hz2⟩ := HI.out
  have HIP := Lib.hid (show _ ∧ _ ∧ _ ∧ _ from ⟨hi, hz0, hz1, hz2⟩)
  have HE := Lib.hid (own_empty w1 5)
  have HBE := Lib.hid ((Below.refl w1.heap.size w1).alloc (Nat.le_refl _) (.cells #[] 5))
  clear hi hz0 hz1 hz2
  go_wp2_with (first
    | (at_builtin; refine wpList_append_rowG (mk := Value.int .u8) (d := 0) rfl (.tmp 16) (.tmp 17) 27 rfl w1.heap.size 5 i0 (.int .u8 0) 1 Try.underlying27 HIP.out.1 HIP.out.2.1 HIP.out.2.2.1 HIP.out.2.2.2 rfl (fun _ => rfl) _ 0 _ rfl HE.out (fun b => b < w.heap.size) a0 len0 cap0 xs rfl (HX1.out.below HBE.out (fun b h => Nat.lt_of_lt_of_le h HB1.out.size)) hn0 (by unfold maxLen; omega) (by omega) HBE.out.size ?_
       intro v2 w2 hown hgrow _
       rw [List.nil_append, Nat.zero_add] at hown
       have HO2 := Lib.hid hown
       have HB2 := Lib.hid (HBE.out.grown hgrow HBE.out.size (fun g hg => (HE.out.lt g hg).1))
       clear hown hgrow
       obtain ⟨A2, c2, rfl, hc2, hn2, hr2⟩ := rowG_own 0 HO2.out
       have HR2 := Lib.hid hr2
       clear hc2 hn2 hr2)
    | fail)
  refine (turn_any A2 len0 c2 xs _ n a2 w2 HR2.out (fun b h => h.2.1) hbx hn).mono ?_
  intro e w3 ht
  rcases hN : numT xs with _ | m
  · rw [TurnT, hN] at ht
    obtain ⟨rfl, hb3⟩ := ht
    have HB3 := Lib.hid (HB1.out.trans ((HB2.out.trans (hb3.mono HB2.out.size)).mono HB1.out.size))
    have HX3 := Lib.hid (HX.out.below HB3.out (fun b h => h))
    have h1 := (numV_none hN).1
    have h3 : (numT xs).isSome = false := by rw [hN]; rfl
    clear hb3 hN
    go_wp2_with fail
    refine (ref_number a0 len0 cap0 xs _ w3 HX3.out (fun b h => Nat.lt_of_lt_of_le h HB3.out.size) hbx).mono ?_
    rintro e w4 ⟨rfl, hb4⟩
    have HB4 := Lib.hid (HB3.out.trans (hb4.mono HB3.out.size))
    clear hb4
    rw [h1, h3]
    go_wp2
    go_ret
    exact ⟨rfl, HB4.out⟩
  · rw [TurnT, hN] at ht
    obtain ⟨g3, at3, rfl, hg3, hr3, hb3⟩ := ht
    have HB3 := Lib.hid (HB1.out.trans ((HB2.out.trans (hb3.mono HB2.out.size)).mono HB1.out.size))
    have HX3 := Lib.hid (HX.out.below HB3.out (fun b h => h))
    have HR3 := Lib.hid hr3
    have h1 := (numV_some hN).1
    have h3 : (numT xs).isSome = true := by rw [hN]; rfl
    have hm := numT_le hN
    have HT := Lib.hid (turnN_le m n a2 hm)
    clear hb3 hN hr3
    go_wp2_with fail
    refine (ref_number a0 len0 cap0 xs _ w3 HX3.out (fun b h => Nat.lt_of_lt_of_le h HB3.out.size) hbx).mono ?_
    rintro e w4 ⟨rfl, hb4⟩
    have HB4 := Lib.hid (HB3.out.trans (hb4.mono HB3.out.size))
    have HR4 := Lib.hid (HR3.out.below hb4 (fun b h => h.2))
    have HS4 := Lib.hid hb4.size
    clear hb4
    rw [h1, h3]
    go_wp2_with fail
    refine (ref_turn m n a2 w4 hm hn).mono ?_
    rintro e w5 ⟨rfl, rfl⟩
    have hcv := fun k => conv_txt (txt (turnN m n a2)).length (w4.drewN k) (HR4.out.drawn k) (fun b h => Nat.lt_of_lt_of_le h.2 HS4.out) (txt_bytes _)
    have HRT := Lib.hid (fun u : World => ref_text (turnN m n a2) u HT.out)
    go_wp2_with fail
    refine wp_region_quiet_lit (by kernel_rfl) (by kernel_rfl) ?_
    repeat (go_big_quiet_step (fail))
    refine calm_call 17 #[.tmp 57] #[28] rfl rfl Try.func17 rfl rfl (.string (txtS (txt (turnN m n a2)))) [.int .u64 (turnN m n a2)] rfl (fun W hW => (HRT.out W).mono (by rintro e W' ⟨rfl, rfl⟩; exact ⟨rfl, hW⟩)) ?_
    simp only [Act.put, List.setIfInBounds_toArray, List.set_cons_zero, List.set_cons_succ]
    repeat (go_big_quiet_step (fail))
    refine wpQuiet_nil ?_
    rintro w6 ⟨nq, rfl⟩
    go_wp2
    go_ret
    exact ⟨by first | rfl | (refine ret_bool ?_; simp), below_drewN HB4.out _⟩

set_option maxRecDepth 100000 in
theorem lifted (os : Os) (started : os.Started) (H : Type) (enc : TypeId × Value → H) :
    ReturnsInHanded {} Try.checked os 5 .any (Rows.itemTurnsSpec.pre6 enc Try.prog Try.f5 Rows.itemTurnsRow.domain false) (Rows.itemTurnsSpec.post enc Try.prog Try.f5 false true false false) := by
  refine returnsInHanded_of_change_sized (C := Try.checked) own started (by kernel_rfl) Try.func5
    (ChangeSpec.witness6 (enc := enc) (C := Try.checked) false ⟨#[], #[.slice none 0 0, .int .u64 0, .bool false], []⟩ 8 (by kernel_rfl) (by kernel_rfl) (by kernel_rfl) (by kernel_rfl)) ?_
  intro W base args ds gs before hval0 hW hcnd hsz0 _
  have hval : ∀ (j : Nat) t v, Try.f5.params[j]? = some t → args[j]? = some v → Value.okWide Try.prog W .any base t v := hval0
  have hW' := hW
  have hsz : (DataW.weightsEach Try.prog (Try.f5.params.toList ++ Rows.itemTurnsSpec.plain.varTypes Try.prog) (ds ++ gs)).all (· ≤ reachBytes) = true := hsz0
  obtain ⟨p, q, hA0, hV, rfl, hfz, hnd⟩ := hW
  have hA : DataW.TrodAll enc Try.prog W 0 (fun _ => true) true Try.f5.params.toList args.toList ds p := hA0
  rw [Try.params5] at hA hval hsz
  obtain ⟨v0, vs0, d0, ds0, p0, q0, hargs, rfl, rfl, h0, r0⟩ := trodAll_cons hA
  obtain ⟨v1, vs1, d1, ds1, p1, q1, rfl, rfl, rfl, h1, r1⟩ := trodAll_cons r0
  obtain ⟨v2, vs2, d2, ds2, p2, q2, rfl, rfl, rfl, h2, r2⟩ := trodAll_cons r1
  obtain ⟨rfl, rfl, rfl⟩ := trodAll_nil r2
  obtain rfl : args = #[v0, v1, v2] := by cases args; simp_all
  obtain ⟨rfl, rfl⟩ := trodVars_none hV
  obtain ⟨a0, len0, cap0, rfl⟩ := okWide_slice Try.underlying27 (hval 0 27 v0 rfl rfl)
  have k0 := h0
  have lt0 : ∀ x ∈ p0, x.block < W.heap.size := by obtain ⟨m, hm⟩ := k0; exact DataW.trod_lt m _ _ _ hm
  obtain ⟨z0, w0, e0⟩ : ∃ zs, IsRow .u8 W a0 len0 cap0 zs ∧ (cap0 = 0 ∨ d0 = .slice (ChangeShapes.lits .u8 (zs.take len0)) (ChangeShapes.lits .u8 (zs.drop len0)) ∧ zs.length = cap0) := by
    obtain ⟨fuel, hf⟩ := h0
    rcases open_ints Try.underlying27 Try.underlying5 (by kernel_rfl) hf with ⟨hcs, _⟩ | ⟨x, l, c, zs, hcs, _, hl, hm, hz, hx, hcell, hwz⟩
    · simp [Value.cells] at hcs
      obtain ⟨rfl, rfl, rfl⟩ := hcs
      exact ⟨[], .inl ⟨rfl, rfl, rfl, rfl⟩, .inl rfl⟩
    · simp [Value.cells] at hcs
      obtain ⟨rfl, rfl, rfl⟩ := hcs
      have hz' : zs.length = cap0 := by simpa using hz
      exact ⟨zs, .inr ⟨_, rfl, hl, hm, hz', hcell, hwz⟩, .inr ⟨(Prod.mk.injEq _ _ _ _ ▸ hx).1, hz'⟩⟩
  obtain ⟨a1, rfl, rfl, rfl, w1⟩ := open_int Try.underlying28 (hval 1 28 v1 rfl rfl) h1
  obtain ⟨a2, rfl, rfl, rfl⟩ := open_bool Try.underlying4 (hval 2 4 v2 rfl rfl) h2
  have b0 : cap0 ≤ 140737488351232 := by
    rcases e0 with h | ⟨rfl, hl⟩
    · omega
    · have h := sized_slice hsz (j := 0) (t := 27) (e := 5) rfl rfl Try.underlying27
      rw [bytes5] at h
      simp only [ChangeShapes.lits, List.length_map, List.length_take, List.length_drop, reachBytes] at h
      omega
  clear hA0 hval0
  refine (walk a0 len0 cap0 z0 a1 a2 W w0 b0 w1).mono fun e W' ⟨he, bel⟩ => ?_
  subst he
  exact ⟨_, rfl, _, _, _, [], _, [], hW', trodAll_mk1 (shut_bool Try.underlying4 _), (trodAll_cons_mk (Below.trod laidOut (by kernel_rfl) (of_decide_eq_true (by kernel_rfl)) k0 bel lt0) (trodAll_cons_mk (shut_int Try.underlying28 w1) (trodAll_cons_mk (shut_bool Try.underlying4 _) trodAll_mk0))), rfl, bel.frame _, fun h => by cases h⟩

theorem over : Rows.itemTurnsRow.holds Try.pinned (OpenSpec.ofChange Rows.itemTurnsSpec) :=
  OpenClaim.holds_of_wide 5 Try.f5 rfl rfl rfl rfl rfl rfl rfl ⟨rfl, rfl, rfl, rfl, rfl⟩ rfl rfl rfl rfl rfl (by kernel_rfl) Try.func5 (by kernel_rfl)
    (of_decide_eq_true (by kernel_rfl)) (by unfold Func.isWrapper; first | (rw [if_pos (by decide +kernel)]; kernel_rfl) | (rw [if_neg (by decide +kernel)]; exact ⟨rfl, rfl⟩))
    (fun os started H enc _ => lifted os started H enc)

theorem proved : Rows.ItemTurnsSaid := over
end Go.Proofs.Ytighdflbmpkehaa.itemTurns
