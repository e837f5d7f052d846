/- For every record (of its lists the first 600 bytes) and every place: what is cut off of its bytes is decoded as ErrShort and nothing, and its head, if it is there, says how long the record is; a record that may not be is not encoded. No condition. -/
import Derived.Test.YtehldhdpeefljaaRows
import Derived.WalkKit
import Derived.ProofKit
import Derived.OpenShut
import Derived.ShutString
import Derived.ChangeOld
import Derived.Below
import Derived.SizedLaws
import Derived.Test.YtehldhdpeefljaaWakes
import Derived.Test.YtehldhdpeefljaaShort
import Derived.Test.YtehldhdpeefljaaDecAll
import Derived.Test.YtehldhdpeefljaaArgsRec
namespace Go.Proofs.Ytehldhdpeefljaa.recordCut
open Go.ChangeShapes Go.WideShapes Go.ChangeAt Go.RowKit
open Go.ChangeMaps (open_string shut_string)
set_option linter.unusedVariables false

theorem own : ownKnob Try.prog.godebug = none := by kernel_rfl
theorem laidOut : laidOutB Try.prog = true := by kernel_rfl

theorem cut_err {L : List Int} {n : Nat} (hm : MayB L) (hn : n < needOf L) : ¬ DecOk (L.take n) n ∧ errOf (L.take n) n = 9 := by
  by_cases h : n < 21
  · exact ⟨fun h' => by have := h'.1; omega, errOf_short h⟩
  · have hm' : MayB (L.take n) := by
      unfold MayB
      rw [kind_take _ _ (by omega), flags_take _ _ (by omega), exp_take _ _ (by omega), seq_take _ _ (by omega), klen_take _ _ (by omega), vlen_take _ _ (by omega)]
      exact hm
    refine ⟨fun h' => ?_, errOf_cut hm'⟩
    have h2 := h'.2.2
    unfold needOf at h2 hn
    rw [klen_take _ _ (by omega), vlen_take _ _ (by omega)] at h2
    omega

set_option maxRecDepth 100000 in
set_option maxHeartbeats 4000000 in
theorem walk_any (k f x s : Int) (A B : Option Addr) (n c m d p q : Nat) (xs ys : List Int) (at_ : Int) (w : World) (hr : IsRec w k f x s A n c B m d xs ys) (ha : -9223372036854775808 ≤ at_ ∧ at_ ≤ 9223372036854775807)
    (hp : (n ≤ 600 ∧ p = n) ∨ (600 < n ∧ p = 600)) (hq : (m ≤ 600 ∧ q = m) ∨ (600 < m ∧ q = 600)) :
    Calls Try.prog 9 #[.agg #[.int .i64 k, .int .u32 f, .int .u32 x, .int .u64 s, .slice A n c, .slice B m d], .int .i64 at_] w fun e w' => e = .returned (.bool true) ∧ Below w.heap.size w w' := by
  have HR := Lib.hid hr
  have HP := Lib.hid hp
  have HQ := Lib.hid hq
  have HLX := Lib.hid (show (xs.take p).length = p by simp [hr.key.1]; omega)
  have HLY := Lib.hid (show (ys.take q).length = q by simp [hr.value.1]; omega)
  have HBX := Lib.hid (hr.bkey.take p)
  have HBY := Lib.hid (hr.bvalue.take q)
  clear hr hp hq
  go_enter Try.func9, Try.ntmps9
  go_wp2_with fail
  refine (wakes_any _).mono ?_
  rintro e w1 ⟨rfl, hb⟩
  have hb0 : Below w.heap.size w w1 := ((Below.refl _ _).alloc (Nat.le_refl _) (.cells (recC k f x s A n c B m d) 26)).trans (hb.mono (by simp))
  have HB1 := Lib.hid hb0
  have HG1 := Lib.hid (show Blk w1 w.heap.size 26 (recC k f x s A n c B m d) from (Blk.new w _ _).below hb (by simp))
  have HX1 := Lib.hid ((HR.out.key.below hb0 (fun b h => h)).more (T := fun b => b < w1.heap.size) (fun b h => Nat.lt_of_lt_of_le h hb0.size))
  have HY1 := Lib.hid ((HR.out.value.below hb0 (fun b h => h)).more (T := fun b => b < w1.heap.size) (fun b h => Nat.lt_of_lt_of_le h hb0.size))
  clear hb hb0
  go_wp2_with (refine wpList_load_rowB (.tmp 2) 26 rfl rfl w.heap.size rfl 26 [.int .i64 k, .int .u32 f, .int .u32 x, .int .u64 s, .slice A n c, .slice B m d] _ Try.underlying26 rfl size_rec HG1.out ?_)
  refine (short_any k f x s A B n c m d p q xs ys w1 HX1.out HY1.out HR.out.nc HR.out.md HR.out.nA HR.out.nB HR.out.n63 HR.out.m63 HP.out HQ.out).mono ?_
  rintro e w2 ⟨g1, cap1, g2, cap2, rfl, hr1, hr2, hne, hb⟩
  have HB2 := Lib.hid (HB1.out.trans (hb.mono HB1.out.size))
  have HG2 := Lib.hid (HG1.out.below hb HG1.out.lt)
  have HW12 := Lib.hid hb.size
  have hlt : w.heap.size < w1.heap.size := HG1.out.lt
  have HK3 := Lib.hid (room_setRow hr1 (q := w.heap.size) (by have := hr1.lt.1; omega) (recC k f x s (some ⟨g1, 0, none⟩) p cap1 (some ⟨g2, 0, none⟩) q cap2))
  have HV3 := Lib.hid (room_setRow hr2 (q := w.heap.size) (by have := hr2.lt.1; omega) (recC k f x s (some ⟨g1, 0, none⟩) p cap1 (some ⟨g2, 0, none⟩) q cap2))
  have HG3 := Lib.hid (show Blk (w2.setRow w.heap.size (recC k f x s (some ⟨g1, 0, none⟩) p cap1 (some ⟨g2, 0, none⟩) q cap2)) w.heap.size 26 (recC k f x s (some ⟨g1, 0, none⟩) p cap1 (some ⟨g2, 0, none⟩) q cap2) from setRow_heap _ _ _ _ _ _ HG2.out)
  have HB3 := Lib.hid (show Below w.heap.size w (w2.setRow w.heap.size (recC k f x s (some ⟨g1, 0, none⟩) p cap1 (some ⟨g2, 0, none⟩) q cap2)) from below_setRow HB2.out (Nat.le_refl _) _)
  clear hr1 hr2 hne hb hlt
  go_wp2_with (first
    | (refine wpList_store_rowB (.tmp 2) (.tmp 16) 26 rfl rfl w.heap.size (recC k f x s (some ⟨g1, 0, none⟩) p cap1 (some ⟨g2, 0, none⟩) q cap2) rfl rfl 26 _ HG2.out size_rec rfl (one_rec _ _ _ _ _ _ _ _ _ _) ?_)
    | (refine wpList_load_rowB (.tmp 2) 26 rfl rfl w.heap.size rfl 26 [.int .i64 k, .int .u32 f, .int .u32 x, .int .u64 s, .slice (some ⟨g1, 0, none⟩) p cap1, .slice (some ⟨g2, 0, none⟩) q cap2] _ Try.underlying26 rfl size_rec HG3.out ?_))
  generalize hw3 : w2.setRow w.heap.size _ = w3 at *
  clear hw3
  by_cases hmay : May k f x s p q
  · have hmay' : May k f x s (xs.take p).length (ys.take q).length := by rw [HLX.out, HLY.out]; exact hmay
    have hsaid := rec_may (xs := xs.take p) (ys := ys.take q) [] hmay' HR.out.rng
    rw [List.append_nil] at hsaid
    have hll := recB_length k f x s (xs.take p) (ys.take q)
    have hlb := recB_bytes (k := k) (f := f) (x := x) (s := s) (by have := hmay.2.2.2.2; omega) HBX.out HBY.out
    have hne1 : needOf (recB k f x s (xs.take p) (ys.take q)) = (recB k f x s (xs.take p) (ys.take q)).length := by unfold needOf; rw [hsaid.2.2.2.2.2.1, hsaid.2.2.2.2.2.2.1, hll]
    have hpq : p ≤ 250 ∧ q ≤ 512 := ⟨hmay.2.2.1, hmay.2.2.2.1⟩
    rw [HLX.out, HLY.out] at hll
    refine (encode_yes k f x s _ _ p cap1 q cap2 (xs.take p) (ys.take q) (fun b => b < w3.heap.size) w3 hmay HR.out.rng (HK3.out.row HK3.out.lt.2) (HV3.out.row HV3.out.lt.2) (fun b h => h) (fun h => by cases h) (fun h => by cases h)).mono ?_
    rintro e w4 ⟨v, rfl, hown, hb⟩
    have hmb := hsaid.1
    generalize recB k f x s (xs.take p) (ys.take q) = L at *
    clear hsaid hmay'
    obtain ⟨A4, c4, rfl, hcc, hnn, hrow⟩ := rowG_own 0 hown
    have hrow := hrow.more (T := fun b => b < w4.heap.size) (fun b h => h.2.1)
    generalize hll2 : L.length = l at *
    have hl1 : 22 ≤ l := by have := hmay.2.1; omega
    have hl2 : l ≤ 800 := by omega
    obtain ⟨j, hj, hjl⟩ : ∃ j : Nat, (at_ % 18446744073709551616) % (l : Int) = (j : Int) ∧ j < l := by
      have h1 := Int.emod_nonneg (at_ % 18446744073709551616) (show (l : Int) ≠ 0 by omega)
      have h2 := Int.emod_lt_of_pos (at_ % 18446744073709551616) (show (0 : Int) < l by omega)
      exact ⟨((at_ % 18446744073709551616) % (l : Int)).toNat, by omega, by omega⟩
    have HROW := Lib.hid (hrow.take j (by omega))
    have HB4 := Lib.hid (HB3.out.trans (hb.mono HB3.out.size))
    have HLB := Lib.hid (hlb.take j)
    have hcut := cut_err (n := j) hmb (by omega)
    have HCUT := Lib.hid hcut
    have HMB := Lib.hid hmb
    have HNE := Lib.hid hne1
    have HJ := Lib.hid hj
    have hjc : (j : Int) ≤ c4 := by omega
    have hl0 : ((l : Int) == 0) = false := by simp; omega
    have hlw : (l : Int) % 18446744073709551616 = l := by omega
    have hjj : wrap64 ((IntKind.u64.wrap at_).tmod (l : Int)) = (j : Int) := by
      rw [IntKind.wrap_u64, Int.tmod_eq_emod_of_nonneg (by omega), hj]
      unfold wrap64
      omega
    clear hown hcc hnn hrow hb hcut hmb hne1 hj hll hlb hll2 hmay
    go_wp2_with fail
    rw [hjj]
    clear hjj
    refine (dec_no A4 j c4 (L.take j) (fun b => b < w4.heap.size) w4 HROW.out (fun b h => h) HLB.out (by omega) HCUT.out.1).mono ?_
    rintro e w5 ⟨rfl, hb⟩
    rw [HCUT.out.2]
    have HB5 := Lib.hid (HB4.out.trans (hb.mono HB4.out.size))
    have HROW6 := Lib.hid (((HROW.out.below hb (fun b h => h)).keep (w' := w5.alloc (.cells zeroC 26)) (fun p hp => World.cell?_alloc_lt _ _ p (Nat.lt_of_lt_of_le hp hb.size))).more (T := fun b => b < (w5.alloc (.cells zeroC 26)).heap.size) (fun b h => by have := hb.size; simp; omega))
    have HZ5 := Lib.hid (Blk.new w5 26 zeroC)
    clear hb
    go_wp2_with fail
    by_cases h21 : j < 21
    · refine (need_short A4 j c4 _ h21).mono ?_
      rintro e w6 ⟨rfl, hb⟩
      have HB6 := Lib.hid ((HB5.out.alloc HB5.out.size _).trans (hb.mono (by have := HB5.out.size; simp; omega)))
      have q4 := (HZ5.out.below hb HZ5.out.lt).cell 4
      simp only [List.getElem?_toArray, List.getElem?_cons_zero, List.getElem?_cons_succ] at q4
      have hj21 : decide ((j : Int) < 21) = true := by simp; omega
      clear hb
      go_wp2_with fail
      go_ret
      exact ⟨rfl, HB6.out⟩
    · have hmj : MayB (L.take j) := by
        unfold MayB
        rw [kind_take _ _ (by omega), flags_take _ _ (by omega), exp_take _ _ (by omega), seq_take _ _ (by omega), klen_take _ _ (by omega), vlen_take _ _ (by omega)]
        exact HMB.out
      have hnj : needOf (L.take j) = l := by
        rw [← HNE.out]
        unfold needOf
        rw [klen_take _ _ (by omega), vlen_take _ _ (by omega)]
      refine (need_ok A4 j c4 (L.take j) (fun b => b < (w5.alloc (.cells zeroC 26)).heap.size) _ HROW6.out (fun b h => h) HLB.out (by omega) (by omega) hmj).mono ?_
      rintro e w6 ⟨rfl, hb⟩
      rw [hnj]
      have HB6 := Lib.hid ((HB5.out.alloc HB5.out.size _).trans (hb.mono (by have := HB5.out.size; simp; omega)))
      have q4 := (HZ5.out.below hb HZ5.out.lt).cell 4
      simp only [List.getElem?_toArray, List.getElem?_cons_zero, List.getElem?_cons_succ] at q4
      have hj21 : decide ((j : Int) < 21) = false := by simp; omega
      clear hb hmj hnj
      go_wp2_with fail
      go_ret
      exact ⟨rfl, HB6.out⟩
  · refine (encode_no k f x s _ _ p cap1 q cap2 w3 hmay).mono ?_
    rintro e w4 ⟨rfl, hb⟩
    have HB4 := Lib.hid (HB3.out.trans (hb.mono HB3.out.size))
    clear hb hmay
    go_wp2_with fail
    go_ret
    exact ⟨rfl, HB4.out⟩

set_option maxHeartbeats 4000000 in
set_option maxRecDepth 100000 in
theorem walk (k0 f0 x0 s0 : Int) (A0 : Option Addr) (n0 c0 : Nat) (B0 : Option Addr) (m0 d0 : Nat) (z0 y0 : List Int) (a1 : Int) (w : World) (w0 : IsRec w k0 f0 x0 s0 A0 n0 c0 B0 m0 d0 z0 y0) (w1 : (Lit.int .i64 a1).wf = true) :
    Calls Try.prog 9 #[.agg #[.int .i64 k0, .int .u32 f0, .int .u32 x0, .int .u64 s0, .slice A0 n0 c0, .slice B0 m0 d0], .int .i64 a1] w fun e w' => e = .returned (.bool true) ∧ Below w.heap.size w w' := by
  -- HEARTS
  have ha : -9223372036854775808 ≤ a1 ∧ a1 ≤ 9223372036854775807 := by simpa [Lit.wf, IntKind.min, IntKind.max, IntKind.signed, IntKind.bits] using w1
  obtain ⟨p, hp⟩ : ∃ p, p = min n0 600 := ⟨_, rfl⟩
  obtain ⟨q, hq⟩ : ∃ q, q = min m0 600 := ⟨_, rfl⟩
  exact walk_any k0 f0 x0 s0 A0 B0 n0 c0 m0 d0 p q z0 y0 a1 w w0 ha (by omega) (by omega)

set_option maxRecDepth 100000 in
theorem lifted (os : Os) (started : os.Started) (H : Type) (enc : TypeId × Value → H) :
    ReturnsInHanded {} Try.checked os 9 .any (Rows.recordCutSpec.pre6 enc Try.prog Try.f9 Rows.recordCutRow.domain false) (Rows.recordCutSpec.post enc Try.prog Try.f9 false true false false) := by
  refine returnsInHanded_of_change_sized (C := Try.checked) own started (by kernel_rfl) Try.func9
    (ChangeSpec.witness6 (enc := enc) (C := Try.checked) false ⟨#[], #[.agg #[.int .i64 0, .int .u32 0, .int .u32 0, .int .u64 0, .slice none 0 0, .slice none 0 0], .int .i64 0], []⟩ 8 (by kernel_rfl) (by kernel_rfl) (by kernel_rfl) (by kernel_rfl)) ?_
  intro W base args ds gs before hval0 hW hcnd hsz0 _
  have hval : ∀ (j : Nat) t v, Try.f9.params[j]? = some t → args[j]? = some v → Value.okWide Try.prog W .any base t v := hval0
  have hW' := hW
  have hsz : (DataW.weightsEach Try.prog (Try.f9.params.toList ++ Rows.recordCutSpec.plain.varTypes Try.prog) (ds ++ gs)).all (· ≤ reachBytes) = true := hsz0
  obtain ⟨p, q, hA0, hV, rfl, hfz, hnd⟩ := hW
  have hA : DataW.TrodAll enc Try.prog W 0 (fun _ => true) true Try.f9.params.toList args.toList ds p := hA0
  rw [Try.params9] at hA hval hsz
  obtain ⟨v0, vs0, d0, ds0, p0, q0, hargs, rfl, rfl, h0, r0⟩ := trodAll_cons hA
  obtain ⟨v1, vs1, d1, ds1, p1, q1, rfl, rfl, rfl, h1, r1⟩ := trodAll_cons r0
  obtain ⟨rfl, rfl, rfl⟩ := trodAll_nil r1
  obtain rfl : args = #[v0, v1] := by cases args; simp_all
  obtain ⟨rfl, rfl⟩ := trodVars_none hV
  have kk0 := h0
  have lt0 : ∀ x ∈ p0, x.block < W.heap.size := by obtain ⟨m, hm⟩ := kk0; exact DataW.trod_lt m _ _ _ hm
  obtain ⟨k0, f0, x0, s0, A0, n0, c0, B0, m0, dd0, z0, y0, rfl, w0⟩ := open_rec (hval 0 26 v0 rfl rfl) h0
  obtain ⟨a1, rfl, rfl, rfl, w1⟩ := open_int Try.underlying3 (hval 1 3 v1 rfl rfl) h1
  clear hA0 hval0
  refine (walk k0 f0 x0 s0 A0 n0 c0 B0 m0 dd0 z0 y0 a1 W w0 w1).mono fun e W' ⟨he, bel⟩ => ?_
  subst he
  exact ⟨_, rfl, _, _, _, [], _, [], hW', trodAll_mk1 (shut_bool Try.underlying4 _), (trodAll_cons_mk (Below.trod laidOut (by kernel_rfl) (of_decide_eq_true (by kernel_rfl)) kk0 bel lt0) (trodAll_cons_mk (shut_int Try.underlying3 w1) trodAll_mk0)), rfl, bel.frame _, fun h => by cases h⟩

theorem over : Rows.recordCutRow.holds Try.pinned (OpenSpec.ofChange Rows.recordCutSpec) :=
  OpenClaim.holds_of_wide 9 Try.f9 rfl rfl rfl rfl rfl rfl rfl ⟨rfl, rfl, rfl, rfl, rfl⟩ rfl rfl rfl rfl rfl (by kernel_rfl) Try.func9 (by kernel_rfl)
    (of_decide_eq_true (by kernel_rfl)) (by unfold Func.isWrapper; first | (rw [if_pos (by decide +kernel)]; kernel_rfl) | (rw [if_neg (by decide +kernel)]; exact ⟨rfl, rfl⟩))
    (fun os started H enc _ => lifted os started H enc)

theorem proved : Rows.RecordCutSaid := over
end Go.Proofs.Ytehldhdpeefljaa.recordCut
