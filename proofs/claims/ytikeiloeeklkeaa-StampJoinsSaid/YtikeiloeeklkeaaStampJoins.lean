/- For every sectors (more than 300 the law itself lets by): Join answers what is meant in them, as the document says, or ErrStamp and nothing. No condition. -/
import Derived.Test.YtikeiloeeklkeaaRows
import Derived.WalkKit
import Derived.ProofKit
import Derived.OpenShut
import Derived.ShutString
import Derived.ChangeOld
import Derived.Below
import Derived.SizedLaws
import Derived.Test.YtikeiloeeklkeaaWakes
import Derived.Test.YtikeiloeeklkeaaRJoin
import Derived.Test.YtikeiloeeklkeaaArgsBks
import Derived.Test.YtikeiloeeklkeaaSame1
namespace Go.Proofs.Ytikeiloeeklkeaa.stampJoins
open Go.ChangeShapes Go.WideShapes Go.ChangeAt Go.RowKit
open Go.ChangeMaps (open_string shut_string)
set_option linter.unusedVariables false

theorem own : ownKnob Try.prog.godebug = none := by kernel_rfl
theorem laidOut : laidOutB Try.prog = true := by kernel_rfl
theorem bytes27 : Try.prog.bytesOf 27 = 64 := by kernel_rfl

set_option maxRecDepth 100000 in
theorem walk (a0 : Option Addr) (len0 cap0 : Nat) (z0 : List (List Int)) (w : World) (w0 : IsBlocks w a0 len0 cap0 z0) (b0 : cap0 * 64 ≤ 140737488351232) :
    Calls Try.prog 6 #[.slice a0 len0 cap0] w fun e w' => e = .returned (.bool true) ∧ Below w.heap.size w w' := by
  obtain ⟨hx0, hs0, hby0, hc0, hnl0⟩ := blocks_of w0
  generalize z0.take len0 = xss at *
  have HX := Lib.hid hx0
  have HL := Lib.hid hx0.1
  have HS := Lib.hid hs0
  have HBY := Lib.hid hby0
  clear w0 hx0 hs0 hby0
  go_enter Try.func6, Try.ntmps6
  go_wp2_with fail
  refine (wakes_any w).mono ?_
  rintro e w1 ⟨rfl, hb1⟩
  have HB1 := Lib.hid hb1
  have HX1 := Lib.hid ((HX.out.below hb1 (fun b h => h)).more (T := fun b => b < w1.heap.size) (fun b h => Nat.lt_of_lt_of_le h hb1.size))
  clear hb1
  by_cases d0 : 300 < len0
  · have e0 : (300 : Int) < len0 := by omega
    clear d0
    go_wp2
    go_ret
    exact ⟨rfl, HB1.out⟩
  have e0 : ¬ (300 : Int) < len0 := by omega
  have hn : len0 ≤ 300 := by omega
  have HO1 := Lib.hid (show (w1.alloc (.cells #[] 27)).ownsRow w1.heap.size 27 64 (.slice (some ⟨w1.heap.size, 0, none⟩) 0 0) 0 [] from World.ownsRow_made w1 #[] 0 (Nat.le_refl _) (by unfold maxLen; omega) (by simp))
  have HX1' := Lib.hid (HX1.out.keep (w' := w1.alloc (.cells #[] 27)) (fun p hp => World.cell?_alloc_lt w1 _ p hp))
  clear d0
  go_wp2_with (refine wpList_append_rowK (.tmp 13) (.tmp 14) rfl rfl w1.heap.size (.slice (some ⟨w1.heap.size, 0, none⟩) 0 0) 0 [] rfl HO1.out (fun b => b < w1.heap.size) a0 len0 cap0 xss rfl HX1'.out HS.out hnl0 (by unfold maxLen; omega) (by omega) (by simp) ?_; intro v2 w2 hown2 hgrow2 _; have HO2 := Lib.hid hown2; have HG2 := Lib.hid hgrow2; clear hown2 hgrow2; refine halt_list ?_)
  have hb2 : Below w1.heap.size w1 w2 := ((Below.refl _ _).alloc (Nat.le_refl _) _).grown HG2.out (by simp) (fun k hk => by simp [Value.ownBlock] at hk; omega)
  have ho2 : w2.ownsRow w1.heap.size 27 64 v2 len0 ((flat xss).map (Value.int .u8)) := by simpa using HO2.out
  obtain ⟨A2, c2, rfl, _, _, hr2⟩ := rowK_own ho2 HS.out
  have HR2 := Lib.hid (hr2.more (T := fun b => b < w2.heap.size) (fun b h => h.2.1))
  have HX2 := Lib.hid ((HX1.out.below hb2 (fun b h => h)).more (T := fun b => b < w2.heap.size) (fun b h => Nat.lt_of_lt_of_le h hb2.size))
  have HB2 := Lib.hid (HB1.out.trans (hb2.mono HB1.out.size))
  clear hb2 ho2 hr2 HO2 HG2
  refine Halt.on ?_
  go_wp2_with fail
  refine (join_any A2 len0 c2 xss _ w2 HR2.out (fun b h => h) HS.out HBY.out (by omega)).mono ?_
  rintro e w3 ⟨hyes, hno⟩
  by_cases hch : 1 ≤ xss.length ∧ Chain xss
  · obtain ⟨A3, c3, rfl, hr3, hb3⟩ := hyes hch
    have HCH := Lib.hid hch
    have HR3 := Lib.hid hr3
    have HX3 := Lib.hid ((HX2.out.below hb3 (fun b h => h)).more (T := fun b => b < w3.heap.size) (fun b h => Nat.lt_of_lt_of_le h hb3.size))
    have HB3 := Lib.hid (HB2.out.trans (hb3.mono HB2.out.size))
    clear hch hr3 hb3 hyes hno
    go_wp2_with fail
    refine (rjoin_any a0 len0 cap0 xss _ w3 HX3.out (fun b h => h) HS.out HBY.out (by omega)).mono ?_
    rintro e w4 ⟨hyes, _⟩
    obtain ⟨A4, c4, rfl, hr4, hb4⟩ := hyes HCH.out
    have HR4 := Lib.hid hr4
    have HR34 := Lib.hid (HR3.out.below hb4 (fun b h => h.2))
    have HB4 := Lib.hid (HB3.out.trans (hb4.mono HB3.out.size))
    have hml := meants_length xss len0 (by have := HL.out; omega)
    rw [List.take_of_length_le (by have := HL.out; omega)] at hml
    clear hr4 hb4 hyes
    go_wp2_with fail
    refine (same1_yes A3 A4 (meants xss).length c3 c4 (meants xss) _ _ w4 HR34.out HR4.out (by omega)).mono ?_
    rintro e w' ⟨rfl, d, rfl⟩
    go_wp2_with fail
    go_ret
    exact ⟨rfl, below_drewN HB4.out _⟩
  · obtain ⟨rfl, hb3⟩ := hno hch
    have HCH := Lib.hid hch
    have HX3 := Lib.hid ((HX2.out.below hb3 (fun b h => h)).more (T := fun b => b < w3.heap.size) (fun b h => Nat.lt_of_lt_of_le h hb3.size))
    have HB3 := Lib.hid (HB2.out.trans (hb3.mono HB2.out.size))
    clear hch hb3 hyes hno
    go_wp2_with fail
    refine (rjoin_any a0 len0 cap0 xss _ w3 HX3.out (fun b h => h) HS.out HBY.out (by omega)).mono ?_
    rintro e w4 ⟨_, hno⟩
    obtain ⟨⟨A4, n4, c4, rfl⟩, hb4⟩ := hno HCH.out
    have HB4 := Lib.hid (HB3.out.trans (hb4.mono HB3.out.size))
    clear hb4 hno
    go_wp2_with fail
    go_ret
    exact ⟨rfl, HB4.out⟩

set_option maxRecDepth 100000 in
theorem lifted (os : Os) (started : os.Started) (H : Type) (enc : TypeId × Value → H) :
    ReturnsInHanded {} Try.checked os 6 .any (Rows.stampJoinsSpec.pre6 enc Try.prog Try.f6 Rows.stampJoinsRow.domain false) (Rows.stampJoinsSpec.post enc Try.prog Try.f6 false true false false) := by
  refine returnsInHanded_of_change_sized (C := Try.checked) own started (by kernel_rfl) Try.func6
    (ChangeSpec.witness6 (enc := enc) (C := Try.checked) false ⟨#[], #[.slice none 0 0], []⟩ 8 (by kernel_rfl) (by kernel_rfl) (by kernel_rfl) (by kernel_rfl)) ?_
  intro W base args ds gs before hval0 hW hcnd hsz0 _
  have hval : ∀ (j : Nat) t v, Try.f6.params[j]? = some t → args[j]? = some v → Value.okWide Try.prog W .any base t v := hval0
  have hW' := hW
  have hsz : (DataW.weightsEach Try.prog (Try.f6.params.toList ++ Rows.stampJoinsSpec.plain.varTypes Try.prog) (ds ++ gs)).all (· ≤ reachBytes) = true := hsz0
  obtain ⟨p, q, hA0, hV, rfl, hfz, hnd⟩ := hW
  have hA : DataW.TrodAll enc Try.prog W 0 (fun _ => true) true Try.f6.params.toList args.toList ds p := hA0
  rw [Try.params6] at hA hval hsz
  obtain ⟨v0, vs0, d0, ds0, p0, q0, hargs, rfl, rfl, h0, r0⟩ := trodAll_cons hA
  obtain ⟨rfl, rfl, rfl⟩ := trodAll_nil r0
  obtain rfl : args = #[v0] := by cases args; simp_all
  obtain ⟨rfl, rfl⟩ := trodVars_none hV
  obtain ⟨a0, len0, cap0, rfl⟩ := okWide_slice Try.underlying41 (hval 0 41 v0 rfl rfl)
  have k0 := h0
  have lt0 : ∀ x ∈ p0, x.block < W.heap.size := by obtain ⟨m, hm⟩ := k0; exact DataW.trod_lt m _ _ _ hm
  obtain ⟨z0, w0, e0⟩ : ∃ zss, IsBlocks W a0 len0 cap0 zss ∧ (cap0 = 0 ∨ ∃ el sp : List (DataW H), d0 = .slice el sp ∧ el.length + sp.length = cap0) := by
    obtain ⟨fuel, hf⟩ := h0
    obtain ⟨a, l, c, zss, hcs, hz, hx⟩ := open_blocks Try.underlying41 Try.underlying27 Try.underlying5 (by kernel_rfl) (by kernel_rfl) hf
    simp [Value.cells] at hcs
    obtain ⟨rfl, rfl, rfl⟩ := hcs
    exact ⟨zss, hz, hx⟩
  have b0 : cap0 * 64 ≤ 140737488351232 := by
    rcases e0 with h | ⟨el, sp, rfl, hl⟩
    · omega
    · have h := sized_slice hsz (j := 0) (t := 41) (e := 27) rfl rfl Try.underlying41
      rw [bytes27] at h
      simp only [reachBytes] at h
      omega
  clear hA0 hval0
  refine (walk a0 len0 cap0 z0 W w0 b0).mono fun e W' ⟨he, bel⟩ => ?_
  subst he
  exact ⟨_, rfl, _, _, _, [], _, [], hW', trodAll_mk1 (shut_bool Try.underlying4 _), (trodAll_cons_mk (Below.trod laidOut (by kernel_rfl) (of_decide_eq_true (by kernel_rfl)) k0 bel lt0) trodAll_mk0), rfl, bel.frame _, fun h => by cases h⟩

theorem over : Rows.stampJoinsRow.holds Try.pinned (OpenSpec.ofChange Rows.stampJoinsSpec) :=
  OpenClaim.holds_of_wide 6 Try.f6 rfl rfl rfl rfl rfl rfl rfl ⟨rfl, rfl, rfl, rfl, rfl⟩ rfl rfl rfl rfl rfl (by kernel_rfl) Try.func6 (by kernel_rfl)
    (of_decide_eq_true (by kernel_rfl)) (by unfold Func.isWrapper; first | (rw [if_pos (by decide +kernel)]; kernel_rfl) | (rw [if_neg (by decide +kernel)]; exact ⟨rfl, rfl⟩))
    (fun os started H enc _ => lifted os started H enc)

theorem proved : Rows.StampJoinsSaid := over
end Go.Proofs.Ytikeiloeeklkeaa.stampJoins
