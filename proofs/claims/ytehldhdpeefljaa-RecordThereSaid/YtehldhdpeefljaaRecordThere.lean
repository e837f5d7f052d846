/- For every list of bytes (of its first 1200): what Decode tells of it, encoded, is the bytes that it had; where it tells none, its error is one of the two and it tells nothing. No condition. -/
import Derived.Test.YtehldhdpeefljaaRows
import Derived.WalkKit
import Derived.ProofKit
import Derived.OpenShut
import Derived.ShutString
import Derived.ChangeOld
import Derived.Below
import Derived.SizedLaws
import Derived.Test.YtehldhdpeefljaaWakes
import Derived.Test.YtehldhdpeefljaaDecAll
import Derived.Test.YtehldhdpeefljaaEqual
import Derived.Test.YtehldhdpeefljaaArgs
import Derived.Deep.DeepCutAuto
namespace Go.Proofs.Ytehldhdpeefljaa.recordThere
open Go.ChangeShapes Go.WideShapes Go.ChangeAt Go.RowKit
open Go.ChangeMaps (open_string shut_string)
set_option linter.unusedVariables false

theorem own : ownKnob Try.prog.godebug = none := by kernel_rfl
theorem laidOut : laidOutB Try.prog = true := by kernel_rfl
theorem bytes5 : Try.prog.bytesOf 5 = 1 := by kernel_rfl

/-- A slice of integers that came in: nil; or a row of 'cap' cells, the numbers 'zs', each fitting its kind. -/
def IsRow (k : IntKind) (w : World) (a : Option Addr) (len cap : Nat) (zs : List Int) : Prop :=
  (a = none ∧ len = 0 ∧ cap = 0 ∧ zs = []) ∨
  ∃ x : Addr, a = some x ∧ len ≤ cap ∧ cap ≤ maxLen ∧ zs.length = cap ∧ (∀ i, i < zs.length → w.cell? (x.add i) = some (.int k (zs.getD i 0))) ∧ ∀ n ∈ zs, (Lit.int k n).wf = true

set_option maxRecDepth 100000 in
set_option maxHeartbeats 2000000 in
theorem walk_no (A : Option Addr) (len n c : Nat) (xs : List Int) (w : World) (hx : RowI .u8 w (· < w.heap.size) A n xs) (hby : Bytes xs) (hmin : (len ≤ 1200 ∧ n = len) ∨ (1200 < len ∧ n = 1200)) (hnc : len ≤ c) (hno : ¬ DecOk xs n) :
    Calls Try.prog 8 #[.slice A len c] w fun e w' => e = .returned (.bool true) ∧ Below w.heap.size w w' := by
  have n9 : n ≤ 1200 := by omega
  have hnc2 : n ≤ c := by omega
  have HMIN := Lib.hid hmin
  have HX := Lib.hid hx
  have HBY := Lib.hid hby
  have HNO := Lib.hid hno
  clear hx hby hmin hno
  go_enter Try.func8, Try.ntmps8
  go_wp2_with fail
  refine (wakes_any w).mono ?_
  rintro e w1 ⟨rfl, hb1⟩
  have HB1 := Lib.hid hb1
  clear hb1
  go_upto_region 3 with fail
  go_cut [0] (fun s wx => s = .slice A n c ∧ wx = w1)
  case first =>
    rcases HMIN.out with ⟨hle, rfl⟩ | ⟨hgt, rfl⟩
    · have h2 : ¬ (1200 : Int) < n := by omega
      go_wp2
      go_meet
      exact ⟨rfl, rfl⟩
    · have h2 : (1200 : Int) < len := by omega
      go_wp2
      go_meet
      exact ⟨rfl, rfl⟩
  case rest =>
    obtain ⟨rfl, rfl⟩ := hcut
    go_wp2_with fail
    refine (dec_no A n c xs (· < w.heap.size) _ (HX.out.below HB1.out (fun b h => h)) (fun b h => Nat.lt_of_lt_of_le h HB1.out.size) HBY.out hnc2 HNO.out).mono ?_
    rintro e w2 ⟨rfl, hb2⟩
    have HB2 := Lib.hid (HB1.out.trans (hb2.mono HB1.out.size))
    clear hb2
    rcases errOf_cases xs n with h | h
    · rw [h]
      clear h
      go_wp2_with fail
      go_ret
      exact ⟨rfl, HB2.out.alloc HB2.out.size _⟩
    · rw [h]
      clear h
      go_wp2_with fail
      go_ret
      exact ⟨rfl, HB2.out.alloc HB2.out.size _⟩

set_option maxRecDepth 100000 in
set_option maxHeartbeats 2000000 in
theorem walk_ok (A : Option Addr) (len n c : Nat) (xs : List Int) (w : World) (hx : RowI .u8 w (· < w.heap.size) A n xs) (hby : Bytes xs) (hmin : (len ≤ 1200 ∧ n = len) ∨ (1200 < len ∧ n = 1200)) (hnc : len ≤ c) (hok : DecOk xs n) :
    Calls Try.prog 8 #[.slice A len c] w fun e w' => e = .returned (.bool true) ∧ Below w.heap.size w w' := by
  obtain ⟨hn21, hmb, hle⟩ := hok
  have n9 : n ≤ 1200 := by omega
  have hnc2 : n ≤ c := by omega
  have hlx := hx.1
  have hback := rec_back hby (by omega)
  have hkl : (keyOf xs).length = klenOf xs := by unfold keyOf; unfold needOf at hle; simp; omega
  have hvl : (valOf xs).length = vlenOf xs := by unfold valOf; unfold needOf at hle; simp; omega
  have HRNG := Lib.hid (show Rng (flagsOf xs) (expOf xs) (seqOf xs) from ⟨(flags_bounds hby).1, (flags_bounds hby).2, (exp_bounds hby).1, (exp_bounds hby).2, (seq_bounds hby).1, (seq_bounds hby).2⟩)
  have HBACK := Lib.hid hback
  have HKL := Lib.hid hkl
  have HVL := Lib.hid hvl
  have HMB := Lib.hid hmb
  have HMIN := Lib.hid hmin
  have HX := Lib.hid hx
  have HBY := Lib.hid hby
  clear hx hby hmin hback hkl hvl hmb
  go_enter Try.func8, Try.ntmps8
  go_wp2_with fail
  refine (wakes_any w).mono ?_
  rintro e w1 ⟨rfl, hb1⟩
  have HB1 := Lib.hid hb1
  clear hb1
  go_upto_region 3 with fail
  go_cut [0] (fun s wx => s = .slice A n c ∧ wx = w1)
  case first =>
    rcases HMIN.out with ⟨hle, rfl⟩ | ⟨hgt, rfl⟩
    · have h2 : ¬ (1200 : Int) < n := by omega
      go_wp2
      go_meet
      exact ⟨rfl, rfl⟩
    · have h2 : (1200 : Int) < len := by omega
      go_wp2
      go_meet
      exact ⟨rfl, rfl⟩
  case rest =>
    obtain ⟨rfl, rfl⟩ := hcut
    go_wp2_with fail
    refine (dec_ok A n c xs (· < w.heap.size) _ (HX.out.below HB1.out (fun b h => h)) (fun b h => Nat.lt_of_lt_of_le h HB1.out.size) HBY.out hn21 hnc2 HMB.out hle).mono ?_
    rintro e w2 ⟨b1, b2, rfl, hb1, hb2, hne, ha1, ha2, hb⟩
    have HB2 := Lib.hid (HB1.out.trans (hb.mono HB1.out.size))
    have HX2 := Lib.hid ((HX.out.below HB1.out (fun b h => h)).below hb (fun b h => Nat.lt_of_lt_of_le h HB1.out.size))
    obtain ⟨w3, hw3⟩ : ∃ w3, w3 = w2.alloc (.cells (recC (kindOf xs) (flagsOf xs) (expOf xs) (seqOf xs) (some ⟨b1, 0, none⟩) (klenOf xs) (klenOf xs) (some ⟨b2, 0, none⟩) (vlenOf xs) (vlenOf xs)) 26) := ⟨_, rfl⟩
    have HK3 := Lib.hid (show RowI .u8 w3 (fun b => b < w3.heap.size) (some ⟨b1, 0, none⟩) (klenOf xs) (keyOf xs) by rw [hw3]; have h : ArrU (w2.alloc (.cells (recC (kindOf xs) (flagsOf xs) (expOf xs) (seqOf xs) (some ⟨b1, 0, none⟩) (klenOf xs) (klenOf xs) (some ⟨b2, 0, none⟩) (vlenOf xs) (vlenOf xs)) 26)) b1 (keyOf xs) := Blk.alloc ha1 _; exact h.rowN 0 HKL.out h.lt)
    have HV3 := Lib.hid (show RowI .u8 w3 (fun b => b < w3.heap.size) (some ⟨b2, 0, none⟩) (vlenOf xs) (valOf xs) by rw [hw3]; have h : ArrU (w2.alloc (.cells (recC (kindOf xs) (flagsOf xs) (expOf xs) (seqOf xs) (some ⟨b1, 0, none⟩) (klenOf xs) (klenOf xs) (some ⟨b2, 0, none⟩) (vlenOf xs) (vlenOf xs)) 26)) b2 (valOf xs) := Blk.alloc ha2 _; exact h.rowN 0 HVL.out h.lt)
    have HB3 := Lib.hid (show Below w.heap.size w w3 by rw [hw3]; exact HB2.out.alloc HB2.out.size _)
    have HX3 := Lib.hid (show RowI .u8 w3 (fun b => b < w.heap.size) A n xs by rw [hw3]; exact HX2.out.keep fun p hp => World.cell?_alloc_lt _ _ p (Nat.lt_of_lt_of_le hp HB2.out.size))
    have HR3 := Lib.hid (show Blk w3 w2.heap.size 26 (recC (kindOf xs) (flagsOf xs) (expOf xs) (seqOf xs) (some ⟨b1, 0, none⟩) (klenOf xs) (klenOf xs) (some ⟨b2, 0, none⟩) (vlenOf xs) (vlenOf xs)) by rw [hw3]; exact Blk.new w2 _ _)
    have HW3 := Lib.hid hw3
    clear hb1 hb2 hne ha1 ha2 hb hw3
    go_wp2_with fail
    rw [← HW3.out]
    refine (encode_yes (kindOf xs) (flagsOf xs) (expOf xs) (seqOf xs) _ _ _ _ _ _ (keyOf xs) (valOf xs) (fun b => b < w3.heap.size) w3 HMB.out HRNG.out HK3.out HV3.out (fun b h => h) (fun h => by cases h) (fun h => by cases h)).mono ?_
    rintro e w4 ⟨v, rfl, hown, hb⟩
    rw [HBACK.out] at hown
    have hlt : (xs.take (needOf xs)).length = needOf xs := by simp; omega
    rw [hlt] at hown
    obtain ⟨A4, c4, rfl, hcc, hnn, hrow⟩ := rowG_own 0 hown
    have HROW := Lib.hid (hrow.more (T := fun b => b < w4.heap.size) (fun b h => h.2.1))
    have HB4 := Lib.hid (HB3.out.trans (hb.mono HB3.out.size))
    have HR4 := Lib.hid (HR3.out.below hb HR3.out.lt)
    have HX4 := Lib.hid (((HX3.out.below hb (fun b h => Nat.lt_of_lt_of_le h HB3.out.size)).take (needOf xs) hle).more (T := fun b => b < w4.heap.size) (fun b h => Nat.lt_of_lt_of_le h HB4.out.size))
    have HBT := Lib.hid (HBY.out.take (needOf xs))
    have hd : decide ((needOf xs : Int) ≤ (n : Int)) = true := by simp; omega
    have hnd0 : (0 : Int) ≤ (needOf xs : Int) := by omega
    have hndc : (needOf xs : Int) ≤ c := by omega
    generalize needOf xs = nd at *
    clear hown hcc hnn hrow hb hlt
    go_wp2_with fail
    refine (equal_yes A4 A nd c4 c _ _ _ w4 HROW.out HX4.out (fun b h => h) (fun b h => h) HBT.out).mono ?_
    rintro e w5 ⟨rfl, rfl⟩
    go_wp2_with (refine wpList_load_rowB (.tmp 3) 26 rfl rfl w2.heap.size rfl 26 [.int .i64 (kindOf xs), .int .u32 (flagsOf xs), .int .u32 (expOf xs), .int .u64 (seqOf xs), .slice (some ⟨b1, 0, none⟩) (klenOf xs) (klenOf xs), .slice (some ⟨b2, 0, none⟩) (vlenOf xs) (vlenOf xs)] _ Try.underlying26 rfl size_rec HR4.out ?_)
    refine (check_yes (kindOf xs) (flagsOf xs) (expOf xs) (seqOf xs) _ _ _ _ _ _ w4 HMB.out).mono ?_
    rintro e w6 ⟨rfl, hb⟩
    have HB6 := Lib.hid (HB4.out.trans (hb.mono HB4.out.size))
    clear hb
    go_wp2_with fail
    go_ret
    exact ⟨rfl, HB6.out⟩

set_option maxRecDepth 100000 in
theorem walk (a0 : Option Addr) (len0 cap0 : Nat) (z0 : List Int) (w : World) (w0 : IsRow .u8 w a0 len0 cap0 z0) (b0 : cap0 ≤ 140737488351232) :
    Calls Try.prog 8 #[.slice a0 len0 cap0] w fun e w' => e = .returned (.bool true) ∧ Below w.heap.size w w' := by
  have r0 := row8_of w0
  obtain ⟨hx, hby, hnc, hl, hnil⟩ := r0
  obtain ⟨n, hn⟩ : ∃ n, n = min len0 1200 := ⟨_, rfl⟩
  have hmin : (len0 ≤ 1200 ∧ n = len0) ∨ (1200 < len0 ∧ n = 1200) := by omega
  have hx2 := hx.take n (by omega)
  have hby2 := hby.take n
  generalize (z0.take len0).take n = xs at *
  by_cases h4 : DecOk xs n
  · exact walk_ok a0 len0 n cap0 xs w hx2 hby2 hmin hnc h4
  · exact walk_no a0 len0 n cap0 xs w hx2 hby2 hmin hnc h4

set_option maxRecDepth 100000 in
theorem lifted (os : Os) (started : os.Started) (H : Type) (enc : TypeId × Value → H) :
    ReturnsInHanded {} Try.checked os 8 .any (Rows.recordThereSpec.pre6 enc Try.prog Try.f8 Rows.recordThereRow.domain false) (Rows.recordThereSpec.post enc Try.prog Try.f8 false true false false) := by
  refine returnsInHanded_of_change_sized (C := Try.checked) own started (by kernel_rfl) Try.func8
    (ChangeSpec.witness6 (enc := enc) (C := Try.checked) false ⟨#[], #[.slice none 0 0], []⟩ 8 (by kernel_rfl) (by kernel_rfl) (by kernel_rfl) (by kernel_rfl)) ?_
  intro W base args ds gs before hval0 hW hcnd hsz0 _
  have hval : ∀ (j : Nat) t v, Try.f8.params[j]? = some t → args[j]? = some v → Value.okWide Try.prog W .any base t v := hval0
  have hW' := hW
  have hsz : (DataW.weightsEach Try.prog (Try.f8.params.toList ++ Rows.recordThereSpec.plain.varTypes Try.prog) (ds ++ gs)).all (· ≤ reachBytes) = true := hsz0
  obtain ⟨p, q, hA0, hV, rfl, hfz, hnd⟩ := hW
  have hA : DataW.TrodAll enc Try.prog W 0 (fun _ => true) true Try.f8.params.toList args.toList ds p := hA0
  rw [Try.params8] at hA hval hsz
  obtain ⟨v0, vs0, d0, ds0, p0, q0, hargs, rfl, rfl, h0, r0⟩ := trodAll_cons hA
  obtain ⟨rfl, rfl, rfl⟩ := trodAll_nil r0
  obtain rfl : args = #[v0] := by cases args; simp_all
  obtain ⟨rfl, rfl⟩ := trodVars_none hV
  obtain ⟨a0, len0, cap0, rfl⟩ := okWide_slice Try.underlying24 (hval 0 24 v0 rfl rfl)
  have k0 := h0
  have lt0 : ∀ x ∈ p0, x.block < W.heap.size := by obtain ⟨m, hm⟩ := k0; exact DataW.trod_lt m _ _ _ hm
  obtain ⟨z0, w0, e0⟩ : ∃ zs, IsRow .u8 W a0 len0 cap0 zs ∧ (cap0 = 0 ∨ d0 = .slice (ChangeShapes.lits .u8 (zs.take len0)) (ChangeShapes.lits .u8 (zs.drop len0)) ∧ zs.length = cap0) := by
    obtain ⟨fuel, hf⟩ := h0
    rcases open_ints Try.underlying24 Try.underlying5 (by kernel_rfl) hf with ⟨hcs, _⟩ | ⟨x, l, c, zs, hcs, _, hl, hm, hz, hx, hcell, hwz⟩
    · simp [Value.cells] at hcs
      obtain ⟨rfl, rfl, rfl⟩ := hcs
      exact ⟨[], .inl ⟨rfl, rfl, rfl, rfl⟩, .inl rfl⟩
    · simp [Value.cells] at hcs
      obtain ⟨rfl, rfl, rfl⟩ := hcs
      have hz' : zs.length = cap0 := by simpa using hz
      exact ⟨zs, .inr ⟨_, rfl, hl, hm, hz', hcell, hwz⟩, .inr ⟨(Prod.mk.injEq _ _ _ _ ▸ hx).1, hz'⟩⟩
  have b0 : cap0 ≤ 140737488351232 := by
    rcases e0 with h | ⟨rfl, hl⟩
    · omega
    · have h := sized_slice hsz (j := 0) (t := 24) (e := 5) rfl rfl Try.underlying24
      rw [bytes5] at h
      simp only [ChangeShapes.lits, List.length_map, List.length_take, List.length_drop, reachBytes] at h
      omega
  clear hA0 hval0
  refine (walk a0 len0 cap0 z0 W w0 b0).mono fun e W' ⟨he, bel⟩ => ?_
  subst he
  exact ⟨_, rfl, _, _, _, [], _, [], hW', trodAll_mk1 (shut_bool Try.underlying4 _), (trodAll_cons_mk (Below.trod laidOut (by kernel_rfl) (of_decide_eq_true (by kernel_rfl)) k0 bel lt0) trodAll_mk0), rfl, bel.frame _, fun h => by cases h⟩

theorem over : Rows.recordThereRow.holds Try.pinned (OpenSpec.ofChange Rows.recordThereSpec) :=
  OpenClaim.holds_of_wide 8 Try.f8 rfl rfl rfl rfl rfl rfl rfl ⟨rfl, rfl, rfl, rfl, rfl⟩ rfl rfl rfl rfl rfl (by kernel_rfl) Try.func8 (by kernel_rfl)
    (of_decide_eq_true (by kernel_rfl)) (by unfold Func.isWrapper; first | (rw [if_pos (by decide +kernel)]; kernel_rfl) | (rw [if_neg (by decide +kernel)]; exact ⟨rfl, rfl⟩))
    (fun os started H enc _ => lifted os started H enc)

theorem proved : Rows.RecordThereSaid := over
end Go.Proofs.Ytehldhdpeefljaa.recordThere
