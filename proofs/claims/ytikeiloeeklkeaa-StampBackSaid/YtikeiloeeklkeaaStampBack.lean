/- For every generation, position and bytes (longer ones than 16384 the law itself lets by): the sectors of Split are read as they were packed, packed again they are the same, and Join of them is the bytes. No condition. -/
import Derived.Test.YtikeiloeeklkeaaRows
import Derived.WalkKit
import Derived.ProofKit
import Derived.OpenShut
import Derived.ShutString
import Derived.ChangeOld
import Derived.Below
import Derived.SizedLaws
import Derived.Test.YtikeiloeeklkeaaWakes
import Derived.Test.YtikeiloeeklkeaaSplit2
import Derived.Test.YtikeiloeeklkeaaSplitM
import Derived.Test.YtikeiloeeklkeaaArgs
namespace Go.Proofs.Ytikeiloeeklkeaa.stampBack
open Go.ChangeShapes Go.WideShapes Go.ChangeAt Go.RowKit
open Go.ChangeMaps (open_string shut_string)
set_option linter.unusedVariables false

theorem own : ownKnob Try.prog.godebug = none := by kernel_rfl
theorem laidOut : laidOutB Try.prog = true := by kernel_rfl
theorem bytes5 : Try.prog.bytesOf 5 = 1 := by kernel_rfl

/-- A slice of integers that came in: nil; or a row of 'cap' cells, the numbers 'zs', each fitting its kind. -/
def IsRow (k : IntKind) (w : World) (a : Option Addr) (len cap : Nat) (zs : List Int) : Prop :=
  (a = none ∧ len = 0 ∧ cap = 0 ∧ zs = []) ∨
  ∃ x : Addr, a = some x ∧ len ≤ cap ∧ cap ≤ maxLen ∧ zs.length = cap ∧ (∀ i, i < zs.length → w.cell? (x.add i) = some (.int k (zs.getD i 0))) ∧ ∀ n ∈ zs, (Lit.int k n).wf = true

set_option maxHeartbeats 4000000 in
set_option maxRecDepth 100000 in
theorem walk (a0 : Int) (a1 : Int) (a2 : Option Addr) (len2 cap2 : Nat) (z2 : List Int) (w : World) (w0 : (Lit.int .u64 a0).wf = true) (w1 : (Lit.int .u32 a1).wf = true) (w2 : IsRow .u8 w a2 len2 cap2 z2) (b2 : cap2 ≤ 140737488351232) :
    Calls Try.prog 7 #[.int .u64 a0, .int .u32 a1, .slice a2 len2 cap2] w fun e w' => e = .returned (.bool true) ∧ Below w.heap.size w w' := by
  -- HEARTS
  have r2 := row8_of w2
  obtain ⟨hx2, hv2, hc2, hl2, hnl2⟩ := r2
  have hw0 : 0 ≤ a0 ∧ a0 ≤ 18446744073709551615 := by simpa [Lit.wf, IntKind.min, IntKind.max, IntKind.signed, IntKind.bits] using w0
  have hw1 : 0 ≤ a1 ∧ a1 ≤ 4294967295 := by simpa [Lit.wf, IntKind.min, IntKind.max, IntKind.signed, IntKind.bits] using w1
  generalize z2.take len2 = xs at *
  have HX := Lib.hid hx2
  have HL := Lib.hid hx2.1
  have HV := Lib.hid hv2
  have HW0 := Lib.hid hw0
  have HW1 := Lib.hid hw1
  clear w0 w1 w2 hx2 hv2 hw0 hw1
  go_enter Try.func7, Try.ntmps7
  go_wp2_with fail
  refine (wakes_any w).mono ?_
  rintro e w1 ⟨rfl, hb1⟩
  have HB1 := Lib.hid hb1
  have HX1 := Lib.hid ((HX.out.below hb1 (fun b h => h)).more (T := fun b => b < w1.heap.size) (fun b h => Nat.lt_of_lt_of_le h hb1.size))
  clear hb1
  by_cases d0 : 16384 < len2
  · have e0 : (16384 : Int) < len2 := by omega
    clear d0
    go_wp2
    go_ret
    exact ⟨rfl, HB1.out⟩
  have e0 : ¬ (16384 : Int) < len2 := by omega
  have hn : len2 ≤ 16384 := by omega
  clear d0
  have hcb := cnt_bounds len2 hn
  by_cases d1 : 4294967296 < a1 + cntOf len2
  · go_wp2_with fail
    refine (split_over a0 a1 a2 len2 cap2 w1 hn HW1.out.1 HW1.out.2 d1).mono ?_
    rintro e w' ⟨rfl, rfl⟩
    clear d1
    go_wp2_with fail
    go_ret
    exact ⟨rfl, HB1.out⟩
  by_cases d2 : a0 = 0
  · subst d2
    go_wp2_with fail
    refine (split_zero a1 a2 len2 cap2 xs _ w1 HX1.out (fun b h => h) hnl2 hc2 hn HW1.out.1 HW1.out.2 (by omega)).mono ?_
    rintro e w3 ⟨rfl, hb⟩
    have HB3 := Lib.hid (HB1.out.trans (hb.mono HB1.out.size))
    clear hb d1
    go_wp2_with fail
    go_ret
    exact ⟨rfl, HB3.out⟩
  have hg1 : 1 ≤ a0 := by have := HW0.out; omega
  have hle : a1 + cntOf len2 ≤ 4294967296 := by omega
  have HLE := Lib.hid hle
  have HD2 := Lib.hid d2
  have hchain := split_chain (xs := xs) hg1 HW0.out.2 HW1.out.1 (by rw [HL.out]; exact hle)
  have hmeant := split_meants (xs := xs) hg1 HW0.out.2 HW1.out.1 (by rw [HL.out]; exact hle)
  have hsaid := fun k hk hp => split_said (xs := xs) hg1 HW0.out.2 HW1.out.1 k hk hp
  rw [HL.out] at hsaid
  have hsl := split_length a0 a1 xs
  rw [HL.out] at hsl
  have hsg := split_get a0 a1 xs
  rw [HL.out] at hsg
  have HCH := Lib.hid hchain
  have HMT := Lib.hid hmeant
  have HSD := Lib.hid hsaid
  have HSL := Lib.hid hsl
  have HSG := Lib.hid hsg
  have HSB := Lib.hid (fun i => split_bytes (gen := a0) (pos := a1) HV.out i)
  have HSC := Lib.hid (split_secs a0 a1 xs)
  clear d1 d2 hchain hmeant hsaid hsl hsg hle
  go_wp2_with fail
  refine (split_ok a0 a1 a2 len2 cap2 xs _ w1 HX1.out (fun b h => h) hnl2 hc2 hn hg1 HW0.out.2 HW1.out.1 HW1.out.2 HLE.out).mono ?_
  rintro e w3 ⟨rfl, ha, hb⟩
  have HA3 := Lib.hid ha
  have HRK := Lib.hid (ha.rowK HSC.out HSL.out (S := fun b => b = w1.heap.size) rfl)
  have HX3 := Lib.hid ((HX1.out.below hb (fun b h => h)).more (T := fun b => b < w3.heap.size) (fun b h => Nat.lt_of_lt_of_le h hb.size))
  have HB3 := Lib.hid (HB1.out.trans (hb.mono HB1.out.size))
  have hkc := HLE.out
  have hse := fun W => sectors_any len2 W (by omega)
  have HSE := Lib.hid hse
  clear ha hb hse
  generalize cntOf len2 = c at *
  have HKC := Lib.hid hkc
  clear hkc
  go_wp2_with fail
  go_loopw [41] (fun i wr => ∃ k : Nat, k ≤ c ∧ i = .int .i64 k ∧ Below w3.heap.size w3 wr) (fun i _ => c - (intOf i).toNat)
  case atStart => exact ⟨0, by omega, rfl, Below.refl _ _⟩
  case round =>
    obtain ⟨k, hk, rfl, hbel⟩ := hrel
    by_cases hlt : k < c
    · obtain ⟨b, off, e, hbb, hcc⟩ := (HRK.out.below hbel (fun b h => by rw [h]; exact HA3.out.lt)).2 (by omega)
      injection e with e
      injection e with eb eo _
      subst eb eo
      have hpk : a1 + (k : Int) ≤ 4294967295 := by have := HKC.out; omega
      have hr := hcc k hlt
      obtain ⟨s1, s2, s3, s4, s5⟩ := HSD.out k hlt hpk
      have hxl := HSC.out.get k (by rw [HSL.out]; exact hlt)
      have hxb := HSB.out k
      have hpe := HSG.out k hlt
      generalize (splitL a0 a1 xs).getD k [] = ys at *
      have hpl := part_le xs k
      have S1 := Lib.hid s1
      have S2 := Lib.hid s2
      have S4 := Lib.hid s4
      have S5 := Lib.hid s5
      have HR := Lib.hid hr
      have HXL := Lib.hid hxl
      have HXB := Lib.hid hxb
      have HPE := Lib.hid hpe
      have HBEL := Lib.hid hbel
      have hk342 : (k : Int) ≤ 342 := by omega
      have hw1a := HW1.out.1
      obtain ⟨w4, hw4⟩ : ∃ w4, w4 = wr.alloc (.cells (cells8 ys) 27) := ⟨_, rfl⟩
      have HW4 := Lib.hid hw4
      have HY4 := Lib.hid (show ArrB w4 wr.heap.size ys by rw [hw4]; exact Blk.new wr _ _)
      have HB4 := Lib.hid (show Below wr.heap.size wr w4 by rw [hw4]; exact (Below.refl _ _).alloc (Nat.le_refl _) _)
      clear hcc hbel hr s1 s2 s3 s4 s5 hxl hxb hpe hw4
      go_wp2_with (first
        | (refine wpList_load_blk (.tmp 44) rfl rfl w1.heap.size (0 + k * 64) rfl ys HXL.out HR.out ?_)
        | (refine wpList_load_blk (.tmp 44) rfl rfl w1.heap.size (k * 64) rfl ys HXL.out (by rw [← Nat.zero_add (k * 64)]; exact HR.out) ?_)
        | (refine wpList_alloc_blk rfl rfl ?_)
        | (refine wpList_store_new (.tmp 10) (.tmp 45) rfl rfl wr ys rfl rfl (noughts 64) rfl (noughts_length 64) HXL.out ?_; rw [← HW4.out])
        | (refine wpList_load_blk (.tmp 10) rfl rfl wr.heap.size 0 rfl ys HXL.out HY4.out.range ?_))
      refine (read_ok ys w4 HXL.out HXB.out S5.out).mono ?_
      rintro e w5 ⟨A5, c5, rfl, hr5, hb5, hn5⟩
      rw [S1.out, S2.out]
      rw [S4.out] at hr5 ⊢
      generalize fillOf ys = fl at *
      have HR5 := Lib.hid hr5
      obtain ⟨w6, hw6⟩ : ∃ w6, w6 = w5.alloc (.cells #[.int .u64 a0, .int .u32 (a1 + k), .int .i64 fl] 34) := ⟨_, rfl⟩
      have hb6 : Below w5.heap.size w5 w6 := by rw [hw6]; exact (Below.refl _ _).alloc (Nat.le_refl _) _
      have HS6 := Lib.hid (show Blk w6 w5.heap.size 34 #[.int .u64 a0, .int .u32 (a1 + k), .int .i64 fl] by rw [hw6]; exact Blk.new w5 _ _)
      have HR6 := Lib.hid (hr5.below hb6 (fun b h => h.2))
      have HY6 := Lib.hid ((HY4.out.below hb5 HY4.out.lt).below hb6 (Nat.lt_of_lt_of_le HY4.out.lt hb5.size))
      have HB6 := Lib.hid ((HB4.out.trans (hb5.mono HB4.out.size)).trans (hb6.mono (Nat.le_trans HB4.out.size hb5.size)))
      have HW6 := Lib.hid hw6
      have hlt6 := HS6.out.lt
      have d0 := HS6.out.cell 0
      have d1 := HS6.out.cell 1
      simp only [List.getElem?_toArray, List.getElem?_cons_zero, List.getElem?_cons_succ] at d0 d1
      clear hr5 hb5 hn5 hw6 hb6
      go_wp2_with (rw [← HW6.out])
      refine (pack_ok a0 (a1 + k) A5 (partOf xs k).length c5 (partOf xs k) _ w6 HR6.out (fun b h => Nat.lt_trans h.2 hlt6) hg1 HW0.out.2 (by omega) hpk hpl).mono ?_
      rintro e w7 ⟨rfl, hb7⟩
      rw [← HPE.out]
      have hne : (!(ys == ys)) = false := by simp
      have HNE := Lib.hid hne
      obtain ⟨w8, hw8⟩ : ∃ w8, w8 = w7.alloc (.cells (cells8 ys) 27) := ⟨_, rfl⟩
      have HZ8 := Lib.hid (show ArrB w8 w7.heap.size ys by rw [hw8]; exact Blk.new w7 _ _)
      have HY8 := Lib.hid (show ArrB w8 wr.heap.size ys by rw [hw8]; exact (HY6.out.below hb7 HY6.out.lt).alloc _)
      have hs8 : Blk w8 w5.heap.size 34 #[.int .u64 a0, .int .u32 (a1 + k), .int .i64 fl] := by rw [hw8]; exact (HS6.out.below hb7 HS6.out.lt).alloc _
      have HB8 := Lib.hid (show Below wr.heap.size wr w8 by rw [hw8]; exact (HB6.out.trans (hb7.mono HB6.out.size)).alloc (Nat.le_trans HB6.out.size hb7.size) _)
      have HW8 := Lib.hid hw8
      clear d0 d1
      have d0 := hs8.cell 0
      have d1 := hs8.cell 1
      simp only [List.getElem?_toArray, List.getElem?_cons_zero, List.getElem?_cons_succ] at d0 d1
      clear hb7 hw8 hne hs8
      go_wp2_with (first
        | (refine wpList_alloc_blk rfl rfl ?_)
        | (refine wpList_store_new (.tmp 14) (.tmp 59) rfl rfl w7 ys rfl rfl (noughts 64) rfl (noughts_length 64) HXL.out ?_; rw [← HW8.out])
        | (refine wpList_load_blk (.tmp 14) rfl rfl w7.heap.size 0 rfl ys HXL.out HZ8.out.range ?_)
        | (refine wpList_load_blk (.tmp 10) rfl rfl wr.heap.size 0 rfl ys HXL.out HY8.out.range ?_)
        | (refine wpList_neq_blk (.tmp 68) (.tmp 69) _ rfl rfl ys ys rfl rfl HXL.out HXL.out ?_; rw [HNE.out]))
      go_roundw
      case rel => exact ⟨k + 1, by omega, by go_num, HBEL.out.trans (HB8.out.mono HBEL.out.size)⟩
      case measure => (simp [intOf] <;> omega)
    · obtain rfl : k = c := by omega
      have HBEL := Lib.hid hbel
      have HRK5 := Lib.hid ((HRK.out.below hbel (fun b h => by rw [h]; exact HA3.out.lt)).more (T := fun b => b < wr.heap.size) (fun b h => by rw [h]; exact Nat.lt_of_lt_of_le HA3.out.lt hbel.size))
      have HX5 := Lib.hid ((HX3.out.below hbel (fun b h => h)).more (T := fun b => b < wr.heap.size) (fun b h => Nat.lt_of_lt_of_le h hbel.size))
      have HB5 := Lib.hid (HB3.out.trans (hbel.mono HB3.out.size))
      clear hbel
      go_wp2_with fail
      refine (join_any (some ⟨w1.heap.size, 0, none⟩) k k (splitL a0 a1 xs) _ wr HRK5.out (fun b h => h) HSC.out HSB.out (by omega)).mono ?_
      rintro e w6 ⟨hyes, _⟩
      obtain ⟨A6, c6, rfl, hr6, hb6⟩ := hyes ⟨by rw [HSL.out]; omega, HCH.out⟩
      rw [HMT.out] at hr6 ⊢
      rw [HL.out] at hr6 ⊢
      have HR6 := Lib.hid hr6
      have HX6 := Lib.hid ((HX5.out.below hb6 (fun b h => h)).more (T := fun b => b < w6.heap.size) (fun b h => Nat.lt_of_lt_of_le h hb6.size))
      have HB6 := Lib.hid (HB5.out.trans (hb6.mono HB5.out.size))
      clear hr6 hb6 hyes
      go_wp2_with fail
      refine (oequal_yes a2 A6 len2 cap2 c6 xs _ _ w6 HX6.out HR6.out (fun b h => h) (fun b h => h.2) HV.out).mono ?_
      rintro e w' ⟨rfl, rfl⟩
      go_wp2_with fail
      refine (HSE.out _).mono ?_
      rintro e w' ⟨rfl, rfl⟩
      go_wp2_with fail
      go_ret
      exact ⟨rfl, HB6.out⟩

set_option maxRecDepth 100000 in
theorem lifted (os : Os) (started : os.Started) (H : Type) (enc : TypeId × Value → H) :
    ReturnsInHanded {} Try.checked os 7 .any (Rows.stampBackSpec.pre6 enc Try.prog Try.f7 Rows.stampBackRow.domain false) (Rows.stampBackSpec.post enc Try.prog Try.f7 false true false false) := by
  refine returnsInHanded_of_change_sized (C := Try.checked) own started (by kernel_rfl) Try.func7
    (ChangeSpec.witness6 (enc := enc) (C := Try.checked) false ⟨#[], #[.int .u64 0, .int .u32 0, .slice none 0 0], []⟩ 8 (by kernel_rfl) (by kernel_rfl) (by kernel_rfl) (by kernel_rfl)) ?_
  intro W base args ds gs before hval0 hW hcnd hsz0 _
  have hval : ∀ (j : Nat) t v, Try.f7.params[j]? = some t → args[j]? = some v → Value.okWide Try.prog W .any base t v := hval0
  have hW' := hW
  have hsz : (DataW.weightsEach Try.prog (Try.f7.params.toList ++ Rows.stampBackSpec.plain.varTypes Try.prog) (ds ++ gs)).all (· ≤ reachBytes) = true := hsz0
  obtain ⟨p, q, hA0, hV, rfl, hfz, hnd⟩ := hW
  have hA : DataW.TrodAll enc Try.prog W 0 (fun _ => true) true Try.f7.params.toList args.toList ds p := hA0
  rw [Try.params7] at hA hval hsz
  obtain ⟨v0, vs0, d0, ds0, p0, q0, hargs, rfl, rfl, h0, r0⟩ := trodAll_cons hA
  obtain ⟨v1, vs1, d1, ds1, p1, q1, rfl, rfl, rfl, h1, r1⟩ := trodAll_cons r0
  obtain ⟨v2, vs2, d2, ds2, p2, q2, rfl, rfl, rfl, h2, r2⟩ := trodAll_cons r1
  obtain ⟨rfl, rfl, rfl⟩ := trodAll_nil r2
  obtain rfl : args = #[v0, v1, v2] := by cases args; simp_all
  obtain ⟨rfl, rfl⟩ := trodVars_none hV
  obtain ⟨a0, rfl, rfl, rfl, w0⟩ := open_int Try.underlying22 (hval 0 22 v0 rfl rfl) h0
  obtain ⟨a1, rfl, rfl, rfl, w1⟩ := open_int Try.underlying23 (hval 1 23 v1 rfl rfl) h1
  obtain ⟨a2, len2, cap2, rfl⟩ := okWide_slice Try.underlying24 (hval 2 24 v2 rfl rfl)
  have k2 := h2
  have lt2 : ∀ x ∈ p2, x.block < W.heap.size := by obtain ⟨m, hm⟩ := k2; exact DataW.trod_lt m _ _ _ hm
  obtain ⟨z2, w2, e2⟩ : ∃ zs, IsRow .u8 W a2 len2 cap2 zs ∧ (cap2 = 0 ∨ d2 = .slice (ChangeShapes.lits .u8 (zs.take len2)) (ChangeShapes.lits .u8 (zs.drop len2)) ∧ zs.length = cap2) := by
    obtain ⟨fuel, hf⟩ := h2
    rcases open_ints Try.underlying24 Try.underlying5 (by kernel_rfl) hf with ⟨hcs, _⟩ | ⟨x, l, c, zs, hcs, _, hl, hm, hz, hx, hcell, hwz⟩
    · simp [Value.cells] at hcs
      obtain ⟨rfl, rfl, rfl⟩ := hcs
      exact ⟨[], .inl ⟨rfl, rfl, rfl, rfl⟩, .inl rfl⟩
    · simp [Value.cells] at hcs
      obtain ⟨rfl, rfl, rfl⟩ := hcs
      have hz' : zs.length = cap2 := by simpa using hz
      exact ⟨zs, .inr ⟨_, rfl, hl, hm, hz', hcell, hwz⟩, .inr ⟨(Prod.mk.injEq _ _ _ _ ▸ hx).1, hz'⟩⟩
  have b2 : cap2 ≤ 140737488351232 := by
    rcases e2 with h | ⟨rfl, hl⟩
    · omega
    · have h := sized_slice hsz (j := 2) (t := 24) (e := 5) rfl rfl Try.underlying24
      rw [bytes5] at h
      simp only [ChangeShapes.lits, List.length_map, List.length_take, List.length_drop, reachBytes] at h
      omega
  clear hA0 hval0
  refine (walk a0 a1 a2 len2 cap2 z2 W w0 w1 w2 b2).mono fun e W' ⟨he, bel⟩ => ?_
  subst he
  exact ⟨_, rfl, _, _, _, [], _, [], hW', trodAll_mk1 (shut_bool Try.underlying4 _), (trodAll_cons_mk (shut_int Try.underlying22 w0) (trodAll_cons_mk (shut_int Try.underlying23 w1) (trodAll_cons_mk (Below.trod laidOut (by kernel_rfl) (of_decide_eq_true (by kernel_rfl)) k2 bel lt2) trodAll_mk0))), rfl, bel.frame _, fun h => by cases h⟩

theorem over : Rows.stampBackRow.holds Try.pinned (OpenSpec.ofChange Rows.stampBackSpec) :=
  OpenClaim.holds_of_wide 7 Try.f7 rfl rfl rfl rfl rfl rfl rfl ⟨rfl, rfl, rfl, rfl, rfl⟩ rfl rfl rfl rfl rfl (by kernel_rfl) Try.func7 (by kernel_rfl)
    (of_decide_eq_true (by kernel_rfl)) (by unfold Func.isWrapper; first | (rw [if_pos (by decide +kernel)]; kernel_rfl) | (rw [if_neg (by decide +kernel)]; exact ⟨rfl, rfl⟩))
    (fun os started H enc _ => lifted os started H enc)

theorem proved : Rows.StampBackSaid := over
end Go.Proofs.Ytikeiloeeklkeaa.stampBack
