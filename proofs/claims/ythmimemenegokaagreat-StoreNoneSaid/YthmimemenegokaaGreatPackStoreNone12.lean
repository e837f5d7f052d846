/- Texts of StoreNone, packed. -/
import Derived.Test.YthmimemenegokaaGreatPackStoreNone11
import Derived.Defers
set_option linter.unusedVariables false
set_option linter.unusedSimpArgs false
set_option maxRecDepth 100000
set_option maxHeartbeats 16000000
namespace Go.Proofs.YthmimemenegokaaGreat
section
open Go.RowKit
attribute [local go_sem] Oper.semAt_some
abbrev mkP (f : Nat × Nat) : Value := .pointer (some ⟨f.1, 0, none⟩)
theorem info_parts14 {P : Program} {e : TypeId} {z : Value} {n b : Nat} (h : (P.info? e).map (fun i => (i.zero, i.size, i.bytes)) = some (some z, n, b)) : ∃ i, P.info? e = some i ∧ i.zero = some z ∧ i.size = n ∧ i.bytes = b := by
  cases hi : P.info? e with
  | none => rw [hi] at h; cases h
  | some i =>
    rw [hi] at h
    simp only [Option.map_some, Option.some.injEq, Prod.mk.injEq] at h
    exact ⟨i, rfl, h.1, h.2.1, h.2.2⟩
theorem info_fp : (Tryz.prog.info? 216).map (fun i => (i.zero, i.size, i.bytes)) = some (some (.pointer none), 1, 8) := by kernel_rfl
theorem takeIn_nil (q : Nat) (w : World) : Calls Tryz.prog 125 #[.pointer (some ⟨q, 0, none⟩), .slice none 0 0] w fun e w' => e = .returned (.int .i64 0) ∧ w' = w := by
  go_enter Tryz.func125, Tryz.ntmps125
  go_wp2_with fail
  go_loopw [12] (fun i wr => i = .int .i64 0 ∧ wr = w) (fun i _ => 0)
  case atStart => exact ⟨rfl, rfl⟩
  case round =>
    obtain ⟨rfl, rfl⟩ := hrel
    go_wp2_with fail
    go_ret
    exact ⟨rfl, rfl⟩
theorem inv_nil (k : Dk) (s : Sup) (xs : List Seg) : InvS k s xs [] := ⟨by simp, by simp, by simp, by simp⟩
def NwF (w : World) (b : Nat) (fs : List (Nat × Nat)) : Prop :=
  (∀ (i : Nat) f, fs[i]? = some f → Filt w f.1 f.2 (List.replicate 128 0) ∧ b ≤ f.1 ∧ b ≤ f.2) ∧ ∀ (i j : Nat) f g, fs[i]? = some f → fs[j]? = some g → i ≠ j → f.1 ≠ g.1 ∧ f.2 ≠ g.2
theorem NwF.add {w w' : World} {b : Nat} {fs : List (Nat × Nat)} (h : NwF w b fs) (hk : ∀ (i : Nat) f, fs[i]? = some f → Filt w' f.1 f.2 (List.replicate 128 0)) {g : Nat × Nat} (hg : Filt w' g.1 g.2 (List.replicate 128 0)) (hb : b ≤ g.1 ∧ b ≤ g.2) (hne : ∀ f, f ∈ fs → f.1 ≠ g.1 ∧ f.2 ≠ g.2) : NwF w' b (fs ++ [g]) := by
  have key : ∀ (i : Nat) f, (fs ++ [g])[i]? = some f → (fs[i]? = some f) ∨ (i = fs.length ∧ f = g) := fun i f hi => by
    rcases Nat.lt_or_ge i fs.length with h1 | h1
    · rw [List.getElem?_append_left h1] at hi; exact .inl hi
    · rw [List.getElem?_append_right h1] at hi
      rcases Nat.eq_zero_or_pos (i - fs.length) with h2 | h2
      · rw [h2] at hi
        injection hi with hi
        exact .inr ⟨by omega, hi.symm⟩
      · rw [List.getElem?_eq_none (by simp; omega)] at hi; cases hi
  refine ⟨fun i f hi => ?_, fun i j f f' hi hj hij => ?_⟩
  · rcases key i f hi with h1 | ⟨_, rfl⟩
    · exact ⟨hk i f h1, (h.1 i f h1).2⟩
    · exact ⟨hg, hb⟩
  · rcases key i f hi with h1 | ⟨h1, rfl⟩ <;> rcases key j f' hj with h2 | ⟨h2, rfl⟩
    · exact h.2 i j f f' h1 h2 hij
    · exact hne f (List.mem_of_getElem? h1)
    · have := hne f' (List.mem_of_getElem? h2)
      exact ⟨Ne.symm this.1, Ne.symm this.2⟩
    · omega
section
variable {w w' : World} {X Y : Nat → Prop} {l p d n pe : Nat} {slots : Nat} {s : Sup} {t : Int} {k : Dk} {xs : List Seg}
theorem new_s14 (h : LgM w X l p d n s t k xs pe) (hX : ∀ b, X b → b < w.heap.size) (h1 : 1 ≤ slots) (h2 : slots ≤ 1024) :
    Calls Tryz.prog 46 #[.pointer (some ⟨l, 0, none⟩), .int .i64 slots, .slice none 0 0] w fun e w' => ∃ q x F c fs, e = .returned (.tuple #[.pointer (some ⟨q, 0, none⟩), .int .i64 0]) ∧
      StoM2 w' X ⟨l, p, d, n, q, x, F, c, t, k, pe, fs⟩ slots s xs [] (List.replicate xs.length (List.replicate 128 0)) false ∧ Below w.heap.size w w' := by
  have HL := hI h
  have HX := hI hX
  have HSL := hI (And.intro h1 h2)
  have hxl := h.ok.1
  unfold SizedR at hxl
  have HXL := hI (show 4 ≤ xs.length ∧ xs.length ≤ 16 by omega)
  clear h hX hxl
  go_enter Tryz.func46, Tryz.ntmps46
  go_wp2_with fail
  refine (new_ok_x slots HSL.out.1 HSL.out.2 w).mono ?_
  rintro e w1 ⟨x, rfl, hx1, hb1, hxw⟩
  have HX1 := hI hx1
  have HB1 := hI hb1
  have HXW := hI hxw
  clear hx1 hb1 hxw
  obtain ⟨w2, hw2⟩ : ∃ w2, w2 = w1.alloc (.cells #[.pointer (some ⟨l, 0, none⟩), .pointer (some ⟨x, 0, none⟩), .slice none 0 0, .bool false] 215) := ⟨_, rfl⟩
  have hb2 : Below w1.heap.size w1 w2 := by rw [hw2]; exact (Below.refl _ _).alloc (Nat.le_refl _) _
  have HQ2 := hI (show Blk w2 w1.heap.size 215 #[.pointer (some ⟨l, 0, none⟩), .pointer (some ⟨x, 0, none⟩), .slice none 0 0, .bool false] by rw [hw2]; exact Blk.new w1 _ _)
  have HB2 := hI (HB1.out.trans (hb2.mono HB1.out.size))
  have HX2 := hI (HX1.out.below hb2 HX1.out.lt)
  have HW2 := hI hw2
  have HQW := hI HB1.out.size
  clear hb2 hw2
  go_upto_region 7 with fail
  rw [← HW2.out]
  obtain ⟨Ar, cr, hlr, hcr, hnr⟩ := HL.out.log
  have HRG := hI (log_ring (hlr.below HB2.out) hnr hcr (by have := HXL.out; omega))
  clear hlr hcr hnr
  go_wp2_with fail
  refine HRG.out.mono ?_
  rintro e w3 ⟨⟨A3, c3, rfl, hown3⟩, hb3⟩
  clear hown3
  have HQ3 := hI (HQ2.out.below hb3 HQ2.out.lt)
  have HX3 := hI (HX2.out.below hb3 HX2.out.lt)
  have HB3 := hI (HB2.out.trans (hb3.mono HB2.out.size))
  clear hb3 HRG
  have hfld : (Instr.field 35 (ringV s.b A3 xs.length c3) 1).run Tryz.prog w3 = .ok (.slice A3 xs.length c3) w3 := by
    unfold Instr.field
    simp [Sem.run_bind, run_underlying (Tryz.underlying35), asAgg, part, isAgg, run_underlying (Tryz.underlying33)]
  go_wp2_with fail
  clear hfld
  obtain ⟨q, hq⟩ : ∃ q, w1.heap.size = q := ⟨_, rfl⟩
  rw [hq] at HQ3 HQW
  rw [hq]
  obtain ⟨N, hN⟩ : ∃ N, xs.length = N := ⟨_, rfl⟩
  rw [hN] at HXL
  rw [hN]
  have HN := hI hN
  clear hq hN HQ2 HX2 HB2 HW2
  obtain ⟨i0, hi0, hz0, hz1, hz2⟩ := info_parts14 info_fp
  have HI0 := hI (And.intro hi0 (And.intro hz0 (And.intro hz1 hz2)))
  clear hi0 hz0 hz1 hz2
  go_loopw [33] (fun i wr => ∃ (j : Nat) (v : Value) (fs : List (Nat × Nat)), i = .int .i64 j ∧ j ≤ N ∧ fs.length = j ∧ wr.ownsRow w.heap.size 216 1 v j (fs.map mkP) ∧ Blk wr q 215 #[.pointer (some ⟨l, 0, none⟩), .pointer (some ⟨x, 0, none⟩), v, .bool false] ∧ IxE wr x slots [] ∧ Below w.heap.size w wr ∧ NwF wr w.heap.size fs) (fun i _ => N - (intOf i).toNat)
  case atStart => exact ⟨0, .slice none 0 0, [], rfl, Nat.zero_le _, rfl, ⟨rfl, .inl ⟨rfl, rfl⟩⟩, HQ3.out, HX3.out, HB3.out, fun i f h => by simp at h, fun i j f g h => by simp at h⟩
  case round =>
    obtain ⟨j, v, fs, rfl, hj, hfl, hown, hq, hx, hb, hnf⟩ := hrel
    have HFL := hI hfl
    have HOW := hI hown
    have HQ := hI hq
    have HIX := hI hx
    have HB := hI hb
    have HNF := hI hnf
    clear hfl hown hq hx hb hnf
    by_cases hlt : j < N
    · go_wp2_with fail
      refine (new_ok_b 1024 128 _ (by decide) (by omega) (by omega)).mono ?_
      rintro e w4 ⟨rfl, hf4, hb4⟩
      obtain ⟨r, hr⟩ : ∃ r, wr.heap.size = r := ⟨_, rfl⟩
      rw [hr] at hf4
      rw [hr]
      have HR := hI hr
      have HF4 := hI hf4
      have HO4 := hI (own_below HOW.out hb4)
      have HQ4 := hI (HQ.out.below hb4 HQ.out.lt)
      have HX4 := hI (HIX.out.below hb4 HIX.out.lt)
      have HB4 := hI (HB.out.trans (hb4.mono HB.out.size))
      have HFS4 := hI (fun (i : Nat) f (h : fs[i]? = some f) => (HNF.out.1 i f h).1.belowAll hb4)
      have HFL4 := hI (fun f (h : f ∈ fs) => show f.1 < r ∧ f.2 < r by
        obtain ⟨i, hi⟩ := List.mem_iff_getElem?.1 h
        have h9 := (HNF.out.1 i f hi).1
        rw [← hr]
        exact ⟨h9.ltf, h9.lth⟩)
      clear hf4 hb4 hr
      go_upto_region 12 with fail
      have q2 : w4.cell? ⟨q, 2, none⟩ = some v := HQ4.out.cell 2
      obtain ⟨w5, hw5⟩ : ∃ w5, w5 = w4.alloc (.cells #[.pointer (some ⟨r + 1, 0, none⟩)] 216) := ⟨_, rfl⟩
      have hb5 : Below w4.heap.size w4 w5 := by rw [hw5]; exact (Below.refl _ _).alloc (Nat.le_refl _) _
      have HO5 := hI (own_below HO4.out hb5)
      have HQ5 := hI (HQ4.out.below hb5 HQ4.out.lt)
      have HX5 := hI (HX4.out.below hb5 HX4.out.lt)
      have HB5 := hI (HB4.out.trans (hb5.mono HB4.out.size))
      have HF5 := hI (HF4.out.belowAll hb5)
      have HFS5 := hI (fun (i : Nat) f (h : fs[i]? = some f) => (HFS4.out i f h).belowAll hb5)
      have HLIT := hI (show RowG mkP (0, 0) w5 (· = w4.heap.size) (some ⟨w4.heap.size, 0, none⟩) 1 [(r + 1, r)] by rw [hw5]; exact row_new1 mkP (0, 0) w4 216 (r + 1, r))
      have HW5 := hI hw5
      have HJ := hI (show j ≤ 16 by have := HXL.out; omega)
      clear hb5 hw5
      go_wp2_with (first | (rw [← HW5.out]; refine wpList_append_rowG (mk := mkP) (d := (0, 0)) rfl (.tmp 46) (.tmp 48) 213 rfl w.heap.size 216 i0 _ 8 Tryz.underlying213 HI0.out.1 HI0.out.2.1 HI0.out.2.2.1 HI0.out.2.2.2 (by simp [Value.cells]) (fun _ => rfl) v j _ rfl HO5.out _ _ 1 1 [(r + 1, r)] rfl HLIT.out (fun h => by cases h) (by unfold maxLen; have := HJ.out; omega) (by have := HJ.out; omega) HB5.out.size ?_; intro v8 W8 hown hgrow hv8; obtain ⟨A8, c8, rfl⟩ := ownsRow_slice hown; have hq8 := blk_past HQ5.out HO5.out (by decide) hgrow; have q8 : W8.cell? ⟨q, 2, none⟩ = some v := hq8.cell 2; have f8 := hq8.frozen 2))
      clear q8 f8 q2
      have HX8 := hI (show IxE W8 x slots [] from by
        obtain ⟨cx, L, fr, hx, hr, he⟩ := HX5.out
        exact ⟨cx, L, fr, blk_past hx HO5.out (by decide) hgrow, hr, he⟩)
      have HB8 := hI (below_append HB5.out HO5.out (Nat.le_refl _) HB5.out.size hgrow)
      have hf8 : ∀ f h, Filt w5 f h (List.replicate 128 0) → Filt W8 f h (List.replicate 128 0) := fun f h hh => ⟨blk_past hh.1 HO5.out (by decide) hgrow, blk_past hh.2.1 HO5.out (by decide) hgrow, hh.2.2⟩
      have HO9 := hI (own_past hown hq8 (by decide) 2 (.slice A8 (j + 1) c8))
      have HQ9 := hI (hq8.set_ 2 (.slice A8 (j + 1) c8))
      have hk9 : Kept (fun b => b ≠ q) W8 (W8.setCell ⟨q, 2, none⟩ (.slice A8 (j + 1) c8)) := (Kept.refl _ _).setCell (p := ⟨q, 2, none⟩) (fun h => h rfl) _
      have HX9 := hI (HX8.out.kept hk9 (fun e => by
        obtain ⟨cx, L, fr, hx, hr, he⟩ := HX8.out
        have hx2 : Blk W8 x 288 (cellsX cx) := hx
        exact hx2.ne_ hq8 (by decide) e))
      have HB9 := hI (HB8.out.setCell (p := ⟨q, 2, none⟩) HQW.out (.slice A8 (j + 1) c8))
      have hf9 : ∀ f h, Filt w5 f h (List.replicate 128 0) → Filt (W8.setCell ⟨q, 2, none⟩ (.slice A8 (j + 1) c8)) f h (List.replicate 128 0) := fun f h hh => (hf8 f h hh).kept hk9 (fun e => (hf8 f h hh).1.ne_ hq8 (by decide) e) (fun e => (hf8 f h hh).2.1.ne_ hq8 (by decide) e)
      have hrw : w.heap.size ≤ r := by rw [← HR.out]; exact HB.out.size
      have HNF9 := hI (HNF.out.add (g := (r + 1, r)) (fun i f h => hf9 _ _ (HFS5.out i f h)) (hf9 _ _ HF5.out) ⟨by omega, by omega⟩ (fun f h => by
        have h9 := HFL4.out f h
        exact ⟨by show f.1 ≠ r + 1; omega, by show f.2 ≠ r; omega⟩))
      clear hown hgrow hq8 hf8 hf9 hk9 hv8
      have hjj := HJ.out
      go_wp2_with fail
      go_roundw
      case rel =>
        refine ⟨j + 1, .slice A8 (j + 1) c8, fs ++ [(r + 1, r)], by rw [IntWalk.wrap64_in _ (by omega)]; rfl, by omega, by rw [List.length_append, HFL.out]; rfl, ?_, HQ9.out, HX9.out, HB9.out, HNF9.out⟩
        have h9 := HO9.out
        rw [show (fs.map mkP) ++ [(r + 1, r)].map mkP = (fs ++ [(r + 1, r)]).map mkP by rw [List.map_append]] at h9
        exact h9
      case measure =>
        rw [IntWalk.wrap64_in _ (by omega)]
        simp only [intOf]
        omega
    · obtain rfl : j = N := by omega
      go_wp2_with fail
      refine (takeIn_nil q wr).mono ?_
      rintro e w9 ⟨rfl, rfl⟩
      go_wp2_with fail
      go_ret2
      have hN := HXL.out
      rcases HOW.out.2 with ⟨_, h0⟩ | ⟨F, cap, cur, rfl, hF, hh, hnc, _, hsz, htk⟩
      · omega
      have hb := HB.out
      have hget : ∀ (i : Nat) f, fs[i]? = some f → cur[i]? = some (.pointer (some ⟨f.1, 0, none⟩)) := fun i f hi => by
        have hil : i < fs.length := (List.getElem?_eq_some_iff.1 hi).1
        have h1 : (cur.toList.take (j * 1))[i]? = some (mkP f) := by rw [htk, List.getElem?_map, hi]; rfl
        rw [List.getElem?_take, if_pos (by rw [HFL.out] at hil; omega), Array.getElem?_toList] at h1
        exact h1
      have hqn : w.heap.size ≤ q := HQW.out
      have hxn : w.heap.size ≤ x := HXW.out
      have hnn : xs.length = j := HN.out
      have hfn := HFL.out
      have hown : ∀ b, (⟨l, p, d, n, q, x, F, cap, t, k, pe, fs⟩ : StB).own b → w.heap.size ≤ b ∧ b < w9.heap.size := fun b ho => by
        have hbF : Blk w9 F 216 cur := hh
        rcases ho with h | h | h | ⟨f, hf, h | h⟩
        · rw [h]; exact ⟨hqn, HQ.out.lt⟩
        · rw [h]; exact ⟨hxn, HIX.out.lt⟩
        · rw [h]; exact ⟨hF, hbF.lt⟩
        · rw [h]
          obtain ⟨i, hi⟩ := List.mem_iff_getElem?.1 hf
          exact ⟨(HNF.out.1 i f hi).2.1, (HNF.out.1 i f hi).1.ltf⟩
        · rw [h]
          obtain ⟨i, hi⟩ := List.mem_iff_getElem?.1 hf
          exact ⟨(HNF.out.1 i f hi).2.2, (HNF.out.1 i f hi).1.lth⟩
      have hrep : ∀ i, i < xs.length → (List.replicate xs.length (List.replicate 128 (0 : Int))).getD i [] = List.replicate 128 0 := fun i hi => by
        simp [List.getD, List.getElem?_replicate, hi]
      refine ⟨q, x, F, cap, fs, rfl, ⟨?_, ⟨⟨cur, hh, hget⟩, fun i f hi => ?_, ?_, fun i hi => ?_, HNF.out.2⟩, List.length_replicate, HIX.out, (HL.out.grow hb).less (fun b hb2 => ?_), inv_nil _ _ _, fun b ho hx => ?_, fun b hx => Nat.lt_of_lt_of_le (HX.out b hx) hb.size⟩, hb⟩
      · show Blk w9 q _ #[_, _, .slice _ fs.length _, _]
        rw [hfn]
        exact HQ.out
      · have hi2 : fs[i]? = some f := hi
        rw [hrep i (by have := (List.getElem?_eq_some_iff.1 hi2).1; omega)]
        exact (HNF.out.1 i f hi).1
      · rw [List.length_replicate]; show fs.length = _; omega
      · rw [List.length_replicate] at hi
        rw [hrep i hi, List.length_replicate]
      · rcases hb2 with h | h
        · exact .inl h
        · exact .inr (hown b h)
      · have := hown b ho
        have := HX.out b hx
        omega
end
end
section
open Go.RowKit
abbrev wkS : Sup := ⟨4, 24, 0, 0, 0, 0⟩
abbrev wkX : List Seg := List.replicate 4 seg0
theorem wk_left : leftR 24 wkX < 1 := by decide +kernel
theorem wk_next : nxtR wkX = 0 := by decide +kernel
theorem wk_open : opnR wkX = -1 := by decide +kernel
end
section
open Go.RowKit
attribute [local go_sem] Oper.semAt_some
def logK : Dk := (((Dk.fresh 98).wr (Dk.put 0 (supL 4 24 0 0 0 0 0))).wr (Dk.put 1 (noughts 64))).wr Dk.sync
theorem logK_good : Good logK := ((((Good.fresh 98).put _ _).put _ _).sync)
theorem logK_pend : logK.pend.length ≤ 0 := by rw [show logK.pend = [] from (((Good.fresh 98).put _ _).put _ _).pend_sync]; exact Nat.le_refl _
theorem wk_top14 : topG wkX ≤ 0 := by decide +kernel
theorem logs_lg {w : World} {X : Nat → Prop} {l p d : Nat} {A : Option Addr} {c : Nat} (h : LogM w X l p d 98 wkS 0 logK 24 A 4 c wkX false) (hc : 4 ≤ c) (hn : A = none → c = 0) : LgM w X l p d 98 wkS 0 logK wkX 0 where
  log := ⟨A, c, h, hc, hn⟩
  good := logK_good
  ok := ok_new ⟨by decide, by decide, by decide, by decide⟩
  top := wk_top14
  may := by decide
  sin := ⟨by decide, by decide, by decide, by decide, by decide, by decide, by decide, by decide, by decide, by decide, by decide, by decide⟩
  dims := rfl
  n2 := by decide
  room := by decide
  pend := logK_pend
theorem logs_any (w : World) : Calls Tryz.prog 45 #[] w fun e w' => ∃ l p d, e = .returned (.tuple #[.pointer (some ⟨d, 0, none⟩), .pointer (some ⟨l, 0, none⟩)]) ∧ LgM w' (fun x => x < w.heap.size) l p d 98 wkS 0 logK wkX 0 ∧ Below w.heap.size w w' := by
  have hm : MayS 4 24 0 0 := ⟨by omega, by omega, by omega, by omega, by omega⟩
  have hz : SizedR (4 : Nat) 24 := ⟨by omega, by omega, by omega, by omega⟩
  have hok := ok_new hz
  have hop : opnR (List.replicate 4 seg0) < 0 := by decide +kernel
  have HM := hI hm
  have HZ := hI hz
  have HOK := hI hok
  have HOP := hI hop
  clear hm hz hok hop
  go_enter Tryz.func45, Tryz.ntmps45
  go_wp2_with fail
  refine (new_i w 98 98 rfl (by omega) (by omega)).mono ?_
  rintro e w1 ⟨d, rfl, hd, hb1⟩
  have HD1 := hI hd
  have HB1 := hI hb1
  clear hd hb1
  go_wp2_with fail
  refine (format_fresh HD1.out (fun c h => Nat.lt_of_lt_of_le h HB1.out.size) 4 24 HM.out (by omega)).mono ?_
  rintro e w2 ⟨p, rfl, hst, hk⟩
  have HS2 := hI (show StoS w2 (fun x => x < w.heap.size) p d 98 wkS 0 logK from hst)
  have HB2 := hI (show Below w.heap.size w w2 from HB1.out.trans (hk.to_below (fun b h => h)))
  clear hst hk
  go_wp2_with fail
  refine (new_ok 4 24 HZ.out).mono ?_
  rintro e w3 ⟨⟨A0, rfl, hr⟩, hb3⟩
  have hal := (Below.refl w3.heap.size w3).alloc (Nat.le_refl _) (.cells #[.int .i64 24, .slice A0 4 4] 35)
  have HS3 := hI (StoreM.below HS2.out (hb3.trans (hal.mono hb3.size)))
  have HB3 := hI (HB2.out.trans ((hb3.trans (hal.mono hb3.size)).mono HB2.out.size))
  have HR3 := hI (row_now (hr.more (fun b h => h.2)) hal)
  have HK3 := hI (Blk.new w3 35 #[.int .i64 24, .slice A0 4 4])
  have HA0 := hI (show A0 = none → (4 : Nat) = 0 from fun e => by
    obtain ⟨_, _, h2, _⟩ := hr.2 (by omega)
    rw [e] at h2; cases h2)
  obtain ⟨k0, k1⟩ := ring_cells HK3.out
  clear hr hb3 hal
  go_wp2_with fail
  refine (open_log_ok (s := wkS) HS3.out (fun b h => Nat.lt_of_lt_of_le h HB3.out.size) HR3.out HA0.out (Nat.le_refl _) 24 HOK.out rfl rfl HOP.out).mono ?_
  rintro e w4 ⟨l, A, c, rfl, hl, hac, hnil, hsz, hb4⟩
  have HL := hI (logs_lg hl hac hnil)
  have HB4 := hI (HB3.out.trans (hb4.mono HB3.out.size))
  clear hl hb4 hac hnil k0 k1
  go_wp2_with fail
  go_ret2
  exact ⟨l, p, d, rfl, HL.out, HB4.out⟩
def keyL (i : Int) : List Int := [107, 97 + i % 8]
theorem key_any (i : Int) (w : World) : Calls Tryz.prog 52 #[.int .i64 i] w fun e w' => ∃ g, e = .returned (.slice (some ⟨g, 0, none⟩) 2 2) ∧ w.heap.size ≤ g ∧ ArrU w' g (keyL i) ∧ Below w.heap.size w w' := by
  have hw : IntKind.u64.wrap i = i % 18446744073709551616 := IntKind.wrap_u64 i
  go_enter Tryz.func52, Tryz.ntmps52
  go_wp2_with fail
  go_ret
  exact ⟨w.heap.size, rfl, Nat.le_refl _, Blk.new w _ _, (Below.refl _ _).alloc (Nat.le_refl _) _⟩
end
section
open Go.RowKit
attribute [local go_sem] Oper.semAt_some
def mayF (us b : List Int) : Bool := allSet (bitsOf b) (nums4 (fnv start us) b)
def mayS (bl : List (List Int)) (us : List Int) : Bool := bl.any (mayF us)
theorem mayS_yes {bl : List (List Int)} {us : List Int} {j : Nat} (hj : j < bl.length) (h : mayF us (bl.getD j []) = true) : mayS bl us = true := by
  unfold mayS
  rw [List.any_eq_true]
  refine ⟨bl.getD j [], ?_, h⟩
  simp [List.getD, hj]
theorem mayS_no {bl : List (List Int)} {us : List Int} (h : ∀ t, t < bl.length → mayF us (bl.getD t []) = false) : mayS bl us = false := by
  unfold mayS
  rw [List.any_eq_false]
  intro x hx
  obtain ⟨t, ht, rfl⟩ := List.mem_iff_getElem.1 hx
  have := h t ht
  simp only [List.getD, List.getElem?_eq_getElem ht, Option.getD_some] at this
  rw [this]; decide
section
variable {w w' : World} {X Y : Nat → Prop} {B : StB} {slots : Nat} {s : Sup} {xs : List Seg} {st : List EntS} {bl : List (List Int)} {u : Bool} {A : Option Addr} {m c : Nat} {us : List Int} {F : Nat} {fs : List (Nat × Nat)}
theorem may1_any {f h g5 : Nat} {b : List Int} {hh : Int} (H : Filt w f h b) (h0 : 0 ≤ hh) (h5 : Blk w g5 30 #[.int .u64 hh]) :
    Calls Tryz.prog 152 #[.pointer (some ⟨f, 0, none⟩), .pointer (some ⟨g5, 0, none⟩)] w fun e w' => e = .returned (.bool (allSet (bitsOf b) (nums4 hh b))) ∧ Below w.heap.size w w' := by
  have HM := hI (may_any_b w f h b hh H h0)
  have c5 : w.cell? ⟨g5, 0, none⟩ = some (.int .u64 hh) := h5.cell 0
  clear H h5
  go_enter Tryz.func152, Tryz.ntmps152
  go_wp2_with fail
  refine HM.out.mono ?_
  rintro e w2 ⟨rfl, hb⟩
  have HB := hI hb
  clear hb
  go_wp2_with fail
  go_ret
  exact ⟨rfl, HB.out⟩
theorem indexF_any {g5 : Nat} (hF : FilM w F fs bl) (hN : fs.length ≤ 16) (h5 : Blk w g5 30 #[.int .u64 (fnv start us)]) (c : Nat) :
    Calls Tryz.prog 220 #[.slice (some ⟨F, 0, none⟩) fs.length c, .func (.func 152) #[] #[.pointer (some ⟨g5, 0, none⟩)]] w fun e w' => (∃ r : Int, e = .returned (.int .i64 r) ∧ (decide (0 ≤ r) = mayS bl us)) ∧ Below w.heap.size w w' := by
  have HF := hI hF
  have H5 := hI h5
  have HN := hI hN
  have hlen := hF.len
  have HLN := hI hlen
  obtain ⟨cs, hc1, hc2⟩ := hF.row
  have HC1 := hI hc1
  have HC2 := hI hc2
  have h0 := (fnv_bounds start us (by decide)).1
  have H0 := hI h0
  obtain ⟨n, hn⟩ : ∃ n, fs.length = n := ⟨_, rfl⟩
  rw [hn] at HN HLN ⊢
  have HNN := hI hn
  clear hF h5 hN hlen hc1 hc2 h0 hn
  go_enter Tryz.func220, Tryz.ntmps220
  go_wp2_with fail
  go_loopw [8] (fun i wr => ∃ j : Nat, i = .int .i64 j ∧ j ≤ n ∧ Below w.heap.size w wr ∧ ∀ t, t < j → mayF us (bl.getD t []) = false) (fun i _ => n - (intOf i).toNat)
  case atStart => exact ⟨0, rfl, Nat.zero_le _, Below.refl _ _, fun t ht => absurd ht (by omega)⟩
  case round =>
    obtain ⟨j, rfl, hj, hB, hno⟩ := hrel
    have HNO := hI hno
    have HB := hI hB
    clear hno hB
    by_cases hjn : j < n
    · obtain ⟨f, hf⟩ : ∃ f, fs[j]? = some f := ⟨_, List.getElem?_eq_getElem (by rw [HNN.out]; exact hjn)⟩
      have c0 : wr.cell? ⟨F, j, none⟩ = some (.pointer (some ⟨f.1, 0, none⟩)) := by
        have h9 := (HC1.out.below HB.out HC1.out.lt).cell j
        rw [HC2.out j f hf] at h9
        exact h9
      have HCALL := hI (may1_any ((HF.out.fil j f hf).belowAll HB.out) H0.out (H5.out.below HB.out H5.out.lt))
      clear hf
      obtain ⟨b, hb⟩ : ∃ b, mayF us (bl.getD j []) = b := ⟨_, rfl⟩
      have hb2 : allSet (bitsOf (bl.getD j [])) (nums4 (fnv start us) (bl.getD j [])) = b := hb
      rw [hb2] at HCALL
      have HV := hI hb
      have HJ := hI hjn
      clear hb hb2
      have h16 := HN.out
      cases b with
      | true =>
        go_wp2_with fail
        refine HCALL.out.mono ?_
        rintro e w2 ⟨rfl, hb2⟩
        go_wp2_with fail
        go_ret
        refine ⟨⟨j, rfl, ?_⟩, HB.out.trans (hb2.mono HB.out.size)⟩
        rw [mayS_yes (j := j) (by have := HLN.out; omega) HV.out]
        simp
      | false =>
        go_wp2_with fail
        refine HCALL.out.mono ?_
        rintro e w2 ⟨rfl, hb2⟩
        go_wp2_with fail
        go_roundw
        case rel =>
          refine ⟨j + 1, by simp, by omega, HB.out.trans (hb2.mono HB.out.size), fun t ht => ?_⟩
          by_cases e : t = j
          · rw [e, HV.out]
          · exact HNO.out t (by omega)
        case measure => show n - (Int.toNat ((j : Int) + 1)) < n - (Int.toNat (j : Int)); omega
    · obtain rfl : j = n := by omega
      go_wp2_with fail
      go_ret
      refine ⟨⟨-1, rfl, ?_⟩, HB.out⟩
      rw [mayS_no (fun t ht => HNO.out t (by have := HLN.out; omega))]
      decide
theorem containsF_any {g5 : Nat} (hF : FilM w F fs bl) (hN : fs.length ≤ 16) (h5 : Blk w g5 30 #[.int .u64 (fnv start us)]) (c : Nat) :
    Calls Tryz.prog 151 #[.slice (some ⟨F, 0, none⟩) fs.length c, .func (.func 152) #[] #[.pointer (some ⟨g5, 0, none⟩)]] w fun e w' => e = .returned (.bool (mayS bl us)) ∧ Below w.heap.size w w' := by
  have HI := hI (indexF_any hF hN h5 c)
  clear hF hN h5
  go_enter Tryz.func151, Tryz.ntmps151
  go_wp2_with fail
  refine HI.out.mono ?_
  rintro e w2 ⟨⟨r, rfl, hr⟩, hb⟩
  have HB := hI hb
  clear hb
  cases hv : mayS bl us with
  | true =>
    rw [hv] at hr
    have HV := hI hv
    clear hv
    go_wp2_with fail
    go_ret
    exact ⟨ret_bool HV.out.symm, HB.out⟩
  | false =>
    rw [hv] at hr
    have HV := hI hv
    clear hv
    go_wp2_with fail
    go_ret
    exact ⟨ret_bool HV.out.symm, HB.out⟩
theorem may_s14 (h : StoM2 w X B slots s xs st bl u) (hN : bl.length ≤ 16) (hk : RowI .u8 w (· < w.heap.size) A m us) (hb : Bytes us) (hm : m ≤ 1000000) :
    Calls Tryz.prog 61 #[.pointer (some ⟨B.q, 0, none⟩), .slice A m c] w fun e w' => e = .returned (.bool (mayS bl us)) ∧ Below w.heap.size w w' := by
  have HM := hI h
  have HNN := hI hN
  have HH := hI (hash_any A m c us w.heap.size w hk.toRow hb (by omega))
  clear h hk hb hm hN
  go_enter Tryz.func61, Tryz.ntmps61
  go_wp2_with fail
  refine HH.out.mono ?_
  rintro e w1 ⟨rfl, rfl⟩
  obtain ⟨w2, hw2⟩ : ∃ w2, w2 = w.alloc (.cells #[.int .u64 (fnv start us)] 30) := ⟨_, rfl⟩
  have hb2 : Below w.heap.size w w2 := by rw [hw2]; exact (Below.refl _ _).alloc (Nat.le_refl _) _
  have H5 := hI (show Blk w2 w.heap.size 30 #[.int .u64 (fnv start us)] by rw [hw2]; exact Blk.new w _ _)
  have HM2 := hI (HM.out.below hb2)
  have HB2 := hI hb2
  have HW2 := hI hw2
  clear hb2 hw2 HH
  have hmf : ∀ (fn : Fn) (first cap : Array Value) (w : World), (Instr.makeFunc fn first cap).run Tryz.prog w = .ok (.func fn first cap) w := fun _ _ _ _ => rfl
  go_upto_region 4 with fail
  rw [← HW2.out]
  have q2 := HM2.out.cells.2.2.1
  have HIX := hI (containsF_any (us := us) HM2.out.fm (by rw [HM2.out.fm.len]; exact HNN.out) H5.out B.c)
  go_wp2_with fail
  refine HIX.out.mono ?_
  rintro e w3 ⟨rfl, hb3⟩
  have HB3 := hI (HB2.out.trans (hb3.mono HB2.out.size))
  clear hb3 q2 HIX
  go_wp2_with fail
  go_ret
  exact ⟨rfl, HB3.out⟩
end
end
section
open Go.RowKit
attribute [local go_sem] Oper.semAt_some
abbrev dp0 : Oper := ⟨some 8, .fieldAddr 212 (.tmp 3) 1, 0, "store.go:274", #[], none⟩
abbrev dp1 : Oper := ⟨some 9, .load 208 (.tmp 8), 208, "store.go:274", #[⟨0, .data⟩], none⟩
abbrev dp2 : Oper := ⟨some 10, .move (.tmp 1), 42, "store.go:274", #[], none⟩
abbrev dp3 : Oper := ⟨some 11, .call { callee := .value (.func 156), args := #[.tmp 10], argTypes := #[42] }, 41, "store.go:274", #[⟨2, .data⟩], none⟩
abbrev dp4 : Oper := ⟨some 12, .fieldAddr 228 (.tmp 5) 1, 0, "store.go:274", #[], none⟩
abbrev dp5 : Oper := ⟨some 13, .load 46 (.tmp 12), 46, "store.go:274", #[⟨4, .data⟩], none⟩
abbrev dp6 : Oper := ⟨some 14, .call { callee := .value (.func 216), args := #[.tmp 9, .tmp 11, .tmp 13], argTypes := #[208, 41, 46] }, 49, "store.go:274", #[⟨1, .data⟩, ⟨3, .data⟩, ⟨5, .data⟩, ⟨3, .chain⟩], none⟩
abbrev ad0 : Oper := ⟨some 8, .move (.tmp 0), 105, "store.go:306", #[], none⟩
abbrev ad1 : Oper := ⟨some 9, .nilCheck (.tmp 8), 0, "store.go:306", #[⟨0, .data⟩], none⟩
abbrev ad2 : Oper := ⟨some 10, .fieldAddr 215 (.tmp 9) 0, 0, "store.go:306", #[⟨1, .data⟩], none⟩
abbrev ad3 : Oper := ⟨some 11, .fieldAddr 212 (.tmp 10) 1, 0, "store.go:306", #[⟨2, .data⟩], none⟩
abbrev ad4 : Oper := ⟨some 12, .load 208 (.tmp 11), 208, "store.go:306", #[⟨3, .data⟩], none⟩
abbrev ad5 : Oper := ⟨some 13, .move (.tmp 1), 42, "store.go:306", #[], none⟩
abbrev ad6 : Oper := ⟨some 14, .call { callee := .value (.func 156), args := #[.tmp 13], argTypes := #[42] }, 41, "store.go:306", #[⟨5, .data⟩], none⟩
abbrev ad7 : Oper := ⟨some 15, .load 46 (.tmp 5), 46, "store.go:306", #[], none⟩
abbrev ad8 : Oper := ⟨some 16, .call { callee := .value (.func 258), args := #[.tmp 12, .tmp 14, .tmp 15], argTypes := #[208, 41, 46] }, 49, "store.go:306", #[⟨4, .data⟩, ⟨6, .data⟩, ⟨7, .data⟩, ⟨6, .chain⟩], none⟩
abbrev ad9 : Oper := ⟨some 7, .assign (.tmp 16), 49, "store.go:306", #[⟨8, .data⟩, ⟨8, .chain⟩, ⟨0, .phase⟩, ⟨1, .phase⟩, ⟨2, .phase⟩, ⟨3, .phase⟩, ⟨4, .phase⟩, ⟨5, .phase⟩, ⟨6, .phase⟩, ⟨7, .phase⟩, ⟨8, .phase⟩], none⟩
abbrev ag0 : Oper := ⟨some 20, .move (.tmp 0), 105, "store.go:309", #[], none⟩
abbrev ag1 : Oper := ⟨some 21, .nilCheck (.tmp 20), 0, "store.go:309", #[⟨0, .data⟩], none⟩
abbrev ag2 : Oper := ⟨some 22, .fieldAddr 215 (.tmp 21) 1, 0, "store.go:309", #[⟨1, .data⟩], none⟩
abbrev ag3 : Oper := ⟨some 23, .load 213 (.tmp 22), 213, "store.go:309", #[⟨2, .data⟩], none⟩
abbrev ag4 : Oper := ⟨some 24, .fieldAddr 46 (.tmp 5) 0, 0, "store.go:309", #[], none⟩
abbrev ag5 : Oper := ⟨some 25, .load 3 (.tmp 24), 3, "store.go:309", #[⟨4, .data⟩], none⟩
abbrev ag6 : Oper := ⟨some 26, .indexAddr 213 (.tmp 23) (.tmp 25), 0, "store.go:309", #[⟨3, .data⟩, ⟨5, .data⟩], none⟩
abbrev ag7 : Oper := ⟨some 27, .load 216 (.tmp 26), 216, "store.go:309", #[⟨6, .data⟩], none⟩
abbrev ag8 : Oper := ⟨some 28, .move (.tmp 1), 42, "store.go:309", #[], none⟩
abbrev ag9 : Oper := ⟨some 29, .call { callee := .value (.func 150), args := #[.tmp 28], argTypes := #[42] }, 30, "store.go:309", #[⟨8, .data⟩], none⟩
abbrev ag10 : Oper := ⟨some 30, .call { callee := .value (.func 259), args := #[.tmp 27, .tmp 29], argTypes := #[216, 30] }, 49, "store.go:309", #[⟨7, .data⟩, ⟨9, .data⟩, ⟨9, .chain⟩], none⟩
abbrev ag11 : Oper := ⟨some 6, .assign (.tmp 30), 49, "store.go:309", #[⟨10, .data⟩, ⟨10, .chain⟩, ⟨0, .phase⟩, ⟨1, .phase⟩, ⟨2, .phase⟩, ⟨3, .phase⟩, ⟨4, .phase⟩, ⟨5, .phase⟩, ⟨6, .phase⟩, ⟨7, .phase⟩, ⟨8, .phase⟩, ⟨9, .phase⟩, ⟨10, .phase⟩], none⟩
abbrev en0 : Oper := ⟨some 6, .move (.tmp 0), 105, "store.go:300", #[], none⟩
abbrev en1 : Oper := ⟨some 7, .nilCheck (.tmp 6), 0, "store.go:300", #[⟨0, .data⟩], none⟩
abbrev en2 : Oper := ⟨some 8, .fieldAddr 215 (.tmp 7) 0, 0, "store.go:300", #[⟨1, .data⟩], none⟩
abbrev en3 : Oper := ⟨some 9, .fieldAddr 212 (.tmp 8) 1, 0, "store.go:300", #[⟨2, .data⟩], none⟩
abbrev en4 : Oper := ⟨some 10, .load 208 (.tmp 9), 208, "store.go:300", #[⟨3, .data⟩], none⟩
abbrev en5 : Oper := ⟨some 11, .move (.tmp 1), 42, "store.go:300", #[], none⟩
abbrev en6 : Oper := ⟨some 12, .call { callee := .value (.func 156), args := #[.tmp 11], argTypes := #[42] }, 41, "store.go:300", #[⟨5, .data⟩], none⟩
abbrev en7 : Oper := ⟨some 13, .load 46 (.tmp 5), 46, "store.go:300", #[], none⟩
abbrev en8 : Oper := ⟨some 14, .call { callee := .value (.func 216), args := #[.tmp 10, .tmp 12, .tmp 13], argTypes := #[208, 41, 46] }, 49, "store.go:300", #[⟨4, .data⟩, ⟨6, .data⟩, ⟨7, .data⟩, ⟨6, .chain⟩], none⟩
abbrev shV (B : StB) : Value := .agg #[.pointer (some ⟨B.l, 0, none⟩), .pointer (some ⟨B.x, 0, none⟩)]
section
variable {w w' : World} {X Y : Nat → Prop} {B : StB} {slots : Nat} {s : Sup} {xs : List Seg} {st : List EntS} {bl : List (List Int)} {u : Bool} {A : Option Addr} {m c : Nat} {us : List Int}
theorem drop_no (l x : Nat) (A : Option Addr) (m c : Nat) (w : World) : Calls Tryz.prog 144 #[.agg #[.pointer (some ⟨l, 0, none⟩), .pointer (some ⟨x, 0, none⟩)], .slice A m c, .agg ent0C] w fun e w' => e = .returned (.tuple #[]) ∧ Below w.heap.size w w' := by
  have HB := hI (((Below.refl w.heap.size w).alloc (Nat.le_refl _) (.cells #[.pointer (some ⟨l, 0, none⟩), .pointer (some ⟨x, 0, none⟩)] 212)).alloc (by simp) (.cells ent0C 228))
  go_enter Tryz.func144, Tryz.ntmps144
  go_wp2
  go_end0
  exact ⟨rfl, HB.out⟩
theorem drop_yes (h : StoM2 w X B slots s xs st bl u) {q : EntS} (hq : q ∈ st) (hk : RowI .u8 w (· < w.heap.size) A m (keyOf q.2)) (hb : Bytes (keyOf q.2)) (hm : m ≤ 1000000) (b1 b2 : Nat) :
    Calls Tryz.prog 144 #[shV B, .slice A m c, .agg (entC' q b1 b2)] w fun e w' => e = .returned (.tuple #[]) ∧ StoM2 w' X B slots s xs (outS st (keyOf q.2)) bl u ∧ Kept (fun b => b < w.heap.size ∧ b ≠ B.x) w w' := by
  obtain ⟨w1, hw1⟩ : ∃ w1, w1 = (w.alloc (.cells #[.pointer (some ⟨B.l, 0, none⟩), .pointer (some ⟨B.x, 0, none⟩)] 212)).alloc (.cells (entC' q b1 b2) 228) := ⟨_, rfl⟩
  have hb1 : Below w.heap.size w w1 := by rw [hw1]; exact ((Below.refl _ w).alloc (Nat.le_refl _) _).alloc (by simp) _
  have HS1 := hI (show Blk w1 w.heap.size 212 #[.pointer (some ⟨B.l, 0, none⟩), .pointer (some ⟨B.x, 0, none⟩)] by rw [hw1]; exact (Blk.new w _ _).alloc _)
  have HE1 := hI (show Blk w1 (w.heap.size + 1) 228 (entC' q b1 b2) by rw [hw1]; exact blk_new2 w _ _ _)
  have HB1 := hI hb1
  have HM1 := hI (h.below hb1)
  have HK1 := hI (hk.below hb1 (fun b h => h))
  have HQ := hI hq
  have HBY := hI hb
  have HM := hI hm
  have HXL := hI h.ix.lt
  have HW1 := hI hw1
  clear hb1 hw1 h hq hk hb hm
  go_enter Tryz.func144, Tryz.ntmps144
  go_upto_region 1 with fail
  rw [← HW1.out]
  have e0 : w1.cell? ⟨w.heap.size + 1, 0, none⟩ = some (.bool true) := HE1.out.cell 0
  go_upto_region 2 with fail
  clear e0
  refine Tillst.region (fun W => Below w1.heap.size w1 W) [6] (by kernel_rfl) ((Below.refl _ _).drew) (fun hHeld => ?_)
  generalize w1.drew = vd at *
  refine Tillst.takeG (i := 0) (oi := dp0) (v := ?_) rfl (by kernel_rfl) (by kernel_rfl) (by kernel_rfl) (by kernel_rfl) (by kernel_rfl) (fun _ _ _ h => h) (by rfl) ?_ hHeld ?_
  rotate_left
  · intro W hSW; (try dsimp only at hSW); unfold dp0; go_simp; with_reducible rfl
  simp only [dp0, Act.put, sA, sZ, sS]
  refine Tillst.takeG (i := 1) (oi := dp1) (v := ?_) rfl (by kernel_rfl) (by kernel_rfl) (by kernel_rfl) (by kernel_rfl) (by kernel_rfl) (fun _ _ _ h => h) (by rfl) ?_ hHeld ?_
  rotate_left
  · intro W hSW; have h9 := (HS1.out.below hSW HS1.out.lt).cell 1; clear hSW; unfold dp1; go_simp; with_reducible rfl
  simp only [dp1, Act.put, sA, sZ, sS]
  refine Tillst.takeG (i := 2) (oi := dp2) (v := ?_) rfl (by kernel_rfl) (by kernel_rfl) (by kernel_rfl) (by kernel_rfl) (by kernel_rfl) (fun _ _ _ h => h) (by rfl) ?_ hHeld ?_
  rotate_left
  · intro W hSW; (try dsimp only at hSW); unfold dp2; go_simp; with_reducible rfl
  simp only [dp2, Act.put, sA, sZ, sS]
  refine Tillst.takeG (i := 4) (oi := dp4) (v := ?_) rfl (by kernel_rfl) (by kernel_rfl) (by kernel_rfl) (by kernel_rfl) (by kernel_rfl) (fun _ _ _ h => h) (by rfl) ?_ hHeld ?_
  rotate_left
  · intro W hSW; (try dsimp only at hSW); unfold dp4; go_simp; with_reducible rfl
  simp only [dp4, Act.put, sA, sZ, sS]
  refine Tillst.takeG (i := 5) (oi := dp5) (v := .agg #[.int .i64 q.1.1, .int .u64 q.1.2.1, .int .i64 q.1.2.2]) rfl (by kernel_rfl) (by kernel_rfl) (by kernel_rfl) (by kernel_rfl) (by kernel_rfl) (fun _ _ _ h => h) (by rfl) ?_ hHeld ?_
  · intro W hSW; have h7 : W.cell? ⟨w.heap.size + 1, 1, none⟩ = some (.int .i64 q.1.1) := (HE1.out.below hSW HE1.out.lt).cell 1; have h8 : W.cell? ⟨w.heap.size + 1, 2, none⟩ = some (.int .u64 q.1.2.1) := (HE1.out.below hSW HE1.out.lt).cell 2; have h9 : W.cell? ⟨w.heap.size + 1, 3, none⟩ = some (.int .i64 q.1.2.2) := (HE1.out.below hSW HE1.out.lt).cell 3; clear hSW; unfold dp5; go_simp
  simp only [dp5, Act.put, sA, sZ, sS]
  refine Tillst.one (i := 3) (o := dp3) (by kernel_rfl) rfl ?_
  intro K hK
  refine step_call 156 #[.tmp 10] #[42] rfl rfl Tryz.func156 rfl rfl [.slice A m c] rfl ((finger_key A m c (keyOf q.2) vd (HK1.out.below hHeld (fun b h => Nat.lt_of_lt_of_le h HB1.out.size)) (fun b h => Nat.lt_of_lt_of_le h (Nat.le_trans HB1.out.size hHeld.size)) HBY.out HM.out).mono ?_)
  rintro e w2 ⟨rfl, rfl⟩
  refine ⟨_, rfl, ?_⟩
  simp only [dp3, Act.put, sA, sZ, sS]
  refine hK.out _ _ (fun _ => hHeld) (fun hHeld => ?_)
  replace hHeld := hHeld (by decide)
  clear hK K
  refine Tillst.one (i := 6) (o := dp6) (by kernel_rfl) rfl ?_
  intro K hK
  refine step_call 216 #[.tmp 9, .tmp 11, .tmp 13] #[208, 41, 46] rfl rfl Tryz.func216 rfl rfl [.pointer (some ⟨B.x, 0, none⟩), .int .u32 (fingK (keyOf q.2) : Nat), .agg (adrV q.1).toArray] rfl ((remove_ix (HM1.out.ix.below hHeld HM1.out.ix.lt) (fingK (keyOf q.2)) q.1).mono ?_)
  rintro e w3 ⟨rfl, hx3, hk3⟩
  refine ⟨_, rfl, ?_⟩
  simp only [dp6, Act.put, sA, sZ, sS]
  refine hK.out _ _ (fun h => by cases h) (fun _ => ?_)
  clear hK K
  refine Tillst.done (by kernel_rfl) ?_ _
  go_wp2_with fail
  go_end0
  have hr := es_rem HM1.out.inv HQ.out
  unfold entE at hr
  rw [hr] at hx3
  have hm2 := (HM1.out.below hHeld).ixTo hk3 hx3 rfl HM1.out.inv.out
  refine ⟨rfl, hm2, ?_⟩
  have h1 := (Kept.of_below (S := fun b => b < w.heap.size ∧ b ≠ B.x) HB1.out (fun b h => h.1)).trans (Kept.of_below (S := fun b => b < w.heap.size ∧ b ≠ B.x) hHeld (fun b h => Nat.lt_of_lt_of_le h.1 HB1.out.size)) (fun b h => h)
  exact h1.trans hk3 (fun b h => ⟨Nat.lt_of_lt_of_le h.1 (Nat.le_trans HB1.out.size hHeld.size), h.2⟩)
def addB (bl : List (List Int)) (i : Nat) (us : List Int) : List (List Int) := bl.set i (setBits (bl.getD i []) (nums4 (fnv start us) (bl.getD i [])))
theorem setBit_len (xs : List Int) (i : Nat) : (setBit xs i).length = xs.length := by unfold setBit; rw [List.length_set]
theorem setBits_len : ∀ (ps xs : List Int), (setBits xs ps).length = xs.length
  | [], xs => rfl
  | p :: r, xs => by
    show (setBits (setBit xs p.toNat) r).length = _
    rw [setBits_len r, setBit_len]
theorem add_s (h : StoM2 w X B slots s xs st bl u) {i : Nat} {g sc : Int} {bs : List Int} (hi : i < bl.length) (hk : RowI .u8 w (fun b => b < w.heap.size ∧ ¬ B.own b) A m (keyOf bs)) (hb : Bytes (keyOf bs)) (hm : m ≤ 1000000)
    (hinv : InvS B.k s xs (st ++ [(((i : Int), g, sc), bs)])) (hfr : ∀ p, p ∈ st → p.1 ≠ ((i : Int), g, sc)) (hsl : st.length ≠ slots) :
    Calls Tryz.prog 212 #[.pointer (some ⟨B.q, 0, none⟩), .slice A m c, .agg #[.int .i64 (i : Int), .int .u64 g, .int .i64 sc]] w fun e w' => e = .returned (.int .i64 0) ∧ StoM2 w' X B slots s xs (st ++ [(((i : Int), g, sc), bs)]) (addB bl i (keyOf bs)) u ∧ Kept (fun b => b < w.heap.size ∧ ¬ B.own b) w w' := by
  obtain ⟨w1, hw1⟩ : ∃ w1, w1 = w.alloc (.cells #[.int .i64 (i : Int), .int .u64 g, .int .i64 sc] 46) := ⟨_, rfl⟩
  have hb1 : Below w.heap.size w w1 := by rw [hw1]; exact (Below.refl _ w).alloc (Nat.le_refl _) _
  have HA1 := hI (show Blk w1 w.heap.size 46 #[.int .i64 (i : Int), .int .u64 g, .int .i64 sc] by rw [hw1]; exact Blk.new w _ _)
  have HB1 := hI hb1
  have HOL := hI (fun b (hb : B.own b) => h.own_lt hb)
  have HM1 := hI (h.below hb1)
  have HK1 := hI (hk.below hb1 (fun b h => h.1))
  have HBY := hI hb
  have HM := hI hm
  have HI := hI hinv
  have HFR := hI hfr
  have HSL := hI hsl
  have HIL := hI hi
  have HXQ := hI h.xq
  have HW1 := hI hw1
  clear hb1 hw1 h hk hb hm hinv hfr hsl hi
  go_enter Tryz.func212, Tryz.ntmps212
  go_upto_region 1 with fail
  rw [← HW1.out]
  refine Tillst.region (fun W => Below w1.heap.size w1 W) [8, 9] (by kernel_rfl) ((Below.refl _ _).drew) (fun hHeld => ?_)
  generalize w1.drew = vd at *
  refine Tillst.takeG (i := 0) (oi := ad0) (v := ?_) rfl (by kernel_rfl) (by kernel_rfl) (by kernel_rfl) (by kernel_rfl) (by kernel_rfl) (fun _ _ _ h => h) (by rfl) ?_ hHeld ?_
  rotate_left
  · intro W hSW; (try dsimp only at hSW); unfold ad0; go_simp; with_reducible rfl
  simp only [ad0, Act.put, sA, sZ, sS]
  refine Tillst.takeG (i := 1) (oi := ad1) (v := ?_) rfl (by kernel_rfl) (by kernel_rfl) (by kernel_rfl) (by kernel_rfl) (by kernel_rfl) (fun _ _ _ h => h) (by rfl) ?_ hHeld ?_
  rotate_left
  · intro W hSW; (try dsimp only at hSW); unfold ad1; go_simp; with_reducible rfl
  simp only [ad1, Act.put, sA, sZ, sS]
  refine Tillst.takeG (i := 2) (oi := ad2) (v := ?_) rfl (by kernel_rfl) (by kernel_rfl) (by kernel_rfl) (by kernel_rfl) (by kernel_rfl) (fun _ _ _ h => h) (by rfl) ?_ hHeld ?_
  rotate_left
  · intro W hSW; (try dsimp only at hSW); unfold ad2; go_simp; with_reducible rfl
  simp only [ad2, Act.put, sA, sZ, sS]
  refine Tillst.takeG (i := 3) (oi := ad3) (v := ?_) rfl (by kernel_rfl) (by kernel_rfl) (by kernel_rfl) (by kernel_rfl) (by kernel_rfl) (fun _ _ _ h => h) (by rfl) ?_ hHeld ?_
  rotate_left
  · intro W hSW; (try dsimp only at hSW); unfold ad3; go_simp; with_reducible rfl
  simp only [ad3, Act.put, sA, sZ, sS]
  refine Tillst.takeG (i := 4) (oi := ad4) (v := ?_) rfl (by kernel_rfl) (by kernel_rfl) (by kernel_rfl) (by kernel_rfl) (by kernel_rfl) (fun _ _ _ h => h) (by rfl) ?_ hHeld ?_
  rotate_left
  · intro W hSW; have h9 := (HM1.out.below hSW).cells.2.1; clear hSW; unfold ad4; go_simp; with_reducible rfl
  simp only [ad4, Act.put, sA, sZ, sS]
  refine Tillst.takeG (i := 5) (oi := ad5) (v := ?_) rfl (by kernel_rfl) (by kernel_rfl) (by kernel_rfl) (by kernel_rfl) (by kernel_rfl) (fun _ _ _ h => h) (by rfl) ?_ hHeld ?_
  rotate_left
  · intro W hSW; (try dsimp only at hSW); unfold ad5; go_simp; with_reducible rfl
  simp only [ad5, Act.put, sA, sZ, sS]
  refine Tillst.takeG (i := 7) (oi := ad7) (v := .agg #[.int .i64 (i : Int), .int .u64 g, .int .i64 sc]) rfl (by kernel_rfl) (by kernel_rfl) (by kernel_rfl) (by kernel_rfl) (by kernel_rfl) (fun _ _ _ h => h) (by rfl) ?_ hHeld ?_
  · intro W hSW; have h7 : W.cell? ⟨w.heap.size, 0, none⟩ = some (.int .i64 (i : Int)) := (HA1.out.below hSW HA1.out.lt).cell 0; have h8 : W.cell? ⟨w.heap.size, 1, none⟩ = some (.int .u64 g) := (HA1.out.below hSW HA1.out.lt).cell 1; have h9 : W.cell? ⟨w.heap.size, 2, none⟩ = some (.int .i64 sc) := (HA1.out.below hSW HA1.out.lt).cell 2; clear hSW; unfold ad7; go_simp
  simp only [ad7, Act.put, sA, sZ, sS]
  refine Tillst.one (i := 6) (o := ad6) (by kernel_rfl) rfl ?_
  intro K hK
  refine step_call 156 #[.tmp 13] #[42] rfl rfl Tryz.func156 rfl rfl [.slice A m c] rfl ((finger_key A m c (keyOf bs) vd (HK1.out.below hHeld (fun b h => Nat.lt_of_lt_of_le h.1 HB1.out.size)) (fun b h => Nat.lt_of_lt_of_le h.1 (Nat.le_trans HB1.out.size hHeld.size)) HBY.out HM.out).mono ?_)
  rintro e w2 ⟨rfl, rfl⟩
  refine ⟨_, rfl, ?_⟩
  simp only [ad6, Act.put, sA, sZ, sS]
  refine hK.out _ _ (fun _ => hHeld) (fun hHeld => ?_)
  replace hHeld := hHeld (by decide)
  clear hK K
  refine Tillst.one (i := 8) (o := ad8) (by kernel_rfl) rfl ?_
  intro K hK
  refine step_call 258 #[.tmp 12, .tmp 14, .tmp 15] #[208, 41, 46] rfl rfl Tryz.func258 rfl rfl [.pointer (some ⟨B.x, 0, none⟩), .int .u32 (fingK (keyOf bs) : Nat), .agg (adrV ((i : Int), g, sc)).toArray] rfl ((add_ix (HM1.out.ix.below hHeld HM1.out.ix.lt) (fingK (keyOf bs)) (fing_lt _).1 ((i : Int), g, sc)).mono ?_)
  rintro e w3 ⟨rfl, hx3, hk3⟩
  have he := es_add (slots := slots) (bs := bs) HFR.out HSL.out
  rw [he] at hx3
  rw [he]
  refine ⟨_, rfl, ?_⟩
  simp only [ad8, Act.put, sA, sZ, sS]
  have hm2 := (HM1.out.below hHeld).ixTo hk3 hx3 rfl HI.out
  have hkk := ((Kept.of_below (S := fun b => b < w.heap.size ∧ ¬ B.own b) HB1.out (fun b h => h.1)).trans (Kept.of_below (S := fun b => b < w.heap.size ∧ ¬ B.own b) hHeld (fun b h => Nat.lt_of_lt_of_le h.1 HB1.out.size)) (fun b h => h)).trans hk3 (fun b h => ⟨Nat.lt_of_lt_of_le h.1 (Nat.le_trans HB1.out.size hHeld.size), fun e => h.2 (.inr (.inl e))⟩)
  have HM2 := hI hm2
  have HKK := hI hkk
  have HK3 := hI ((HK1.out.below hHeld (fun b h => Nat.lt_of_lt_of_le h.1 HB1.out.size)).kept hk3 (fun b h => ⟨Nat.lt_of_lt_of_le h.1 (Nat.le_trans HB1.out.size hHeld.size), fun e => h.2 (.inr (.inl e))⟩))
  have HA3 := hI ((HA1.out.below hHeld HA1.out.lt).kept hk3 ⟨Nat.lt_of_lt_of_le HA1.out.lt hHeld.size, fun e => by have := HOL.out B.x (.inr (.inl rfl)); omega⟩)
  clear he hx3 hk3 hm2 hkk
  refine hK.out _ _ (fun h => by cases h) (fun _ => ?_)
  clear hK K hHeld
  refine Tillst.one (i := 9) (o := ad9) (by kernel_rfl) rfl ?_
  intro K hK
  go_simp
  refine hK.out _ _ (fun h => by cases h) (fun _ => ?_)
  clear hK K
  refine Tillst.done (by kernel_rfl) ?_ _
  go_upto_region 4 with fail
  obtain ⟨f, hf⟩ : ∃ f, B.fs[i]? = some f := ⟨_, List.getElem?_eq_getElem (by rw [HM2.out.fm.len]; exact HIL.out)⟩
  have HF := hI hf
  have HFL := hI (show i < B.fs.length by rw [HM2.out.fm.len]; exact HIL.out)
  clear hf
  rename_i _ _
  refine Tillst.region (fun W => Below w3.heap.size w3 W) [10, 11] (by kernel_rfl) ((Below.refl _ _).drew) (fun hHeld => ?_)
  generalize w3.drew = vd at *
  refine Tillst.takeG (i := 0) (oi := ag0) (v := ?_) rfl (by kernel_rfl) (by kernel_rfl) (by kernel_rfl) (by kernel_rfl) (by kernel_rfl) (fun _ _ _ h => h) (by rfl) ?_ hHeld ?_
  rotate_left
  · intro W hSW; (try dsimp only at hSW); unfold ag0; go_simp; with_reducible rfl
  simp only [ag0, Act.put, sA, sZ, sS]
  refine Tillst.takeG (i := 1) (oi := ag1) (v := ?_) rfl (by kernel_rfl) (by kernel_rfl) (by kernel_rfl) (by kernel_rfl) (by kernel_rfl) (fun _ _ _ h => h) (by rfl) ?_ hHeld ?_
  rotate_left
  · intro W hSW; (try dsimp only at hSW); unfold ag1; go_simp; with_reducible rfl
  simp only [ag1, Act.put, sA, sZ, sS]
  refine Tillst.takeG (i := 2) (oi := ag2) (v := ?_) rfl (by kernel_rfl) (by kernel_rfl) (by kernel_rfl) (by kernel_rfl) (by kernel_rfl) (fun _ _ _ h => h) (by rfl) ?_ hHeld ?_
  rotate_left
  · intro W hSW; (try dsimp only at hSW); unfold ag2; go_simp; with_reducible rfl
  simp only [ag2, Act.put, sA, sZ, sS]
  refine Tillst.takeG (i := 3) (oi := ag3) (v := ?_) rfl (by kernel_rfl) (by kernel_rfl) (by kernel_rfl) (by kernel_rfl) (by kernel_rfl) (fun _ _ _ h => h) (by rfl) ?_ hHeld ?_
  rotate_left
  · intro W hSW; have h9 := (HM2.out.below hSW).cells.2.2.1; clear hSW; unfold ag3; go_simp; with_reducible rfl
  simp only [ag3, Act.put, sA, sZ, sS]
  refine Tillst.takeG (i := 4) (oi := ag4) (v := ?_) rfl (by kernel_rfl) (by kernel_rfl) (by kernel_rfl) (by kernel_rfl) (by kernel_rfl) (fun _ _ _ h => h) (by rfl) ?_ hHeld ?_
  rotate_left
  · intro W hSW; (try dsimp only at hSW); unfold ag4; go_simp; with_reducible rfl
  simp only [ag4, Act.put, sA, sZ, sS]
  refine Tillst.takeG (i := 5) (oi := ag5) (v := ?_) rfl (by kernel_rfl) (by kernel_rfl) (by kernel_rfl) (by kernel_rfl) (by kernel_rfl) (fun _ _ _ h => h) (by rfl) ?_ hHeld ?_
  rotate_left
  · intro W hSW; have h7 : W.cell? ⟨w.heap.size, 0, none⟩ = some (.int .i64 (i : Int)) := (HA3.out.below hSW HA3.out.lt).cell 0; clear hSW; unfold ag5; go_simp; with_reducible rfl
  simp only [ag5, Act.put, sA, sZ, sS]
  refine Tillst.takeG (i := 6) (oi := ag6) (v := .pointer (some ⟨B.F, i, none⟩)) rfl (by kernel_rfl) (by kernel_rfl) (by kernel_rfl) (by kernel_rfl) (by kernel_rfl) (fun _ _ _ h => h) (by rfl) ?_ hHeld ?_
  · intro W hSW; have h7 := HFL.out; clear hSW; unfold ag6; go_simp
  simp only [ag6, Act.put, sA, sZ, sS]
  refine Tillst.takeG (i := 7) (oi := ag7) (v := .pointer (some ⟨f.1, 0, none⟩)) rfl (by kernel_rfl) (by kernel_rfl) (by kernel_rfl) (by kernel_rfl) (by kernel_rfl) (fun _ _ _ h => h) (by rfl) ?_ hHeld ?_
  · intro W hSW; obtain ⟨cs, hF0, hcs⟩ := (HM2.out.below hSW).fm.row; have h8 := hF0.cell i; rw [hcs i f HF.out] at h8; clear hSW hcs; unfold ag7; go_simp
  simp only [ag7, Act.put, sA, sZ, sS]
  refine Tillst.takeG (i := 8) (oi := ag8) (v := ?_) rfl (by kernel_rfl) (by kernel_rfl) (by kernel_rfl) (by kernel_rfl) (by kernel_rfl) (fun _ _ _ h => h) (by rfl) ?_ hHeld ?_
  rotate_left
  · intro W hSW; (try dsimp only at hSW); unfold ag8; go_simp; with_reducible rfl
  simp only [ag8, Act.put, sA, sZ, sS]
  have hlt3 := HKK.out.size
  refine Tillst.one (i := 9) (o := ag9) (by kernel_rfl) rfl ?_
  intro K hK
  refine step_call 150 #[.tmp 28] #[42] rfl rfl Tryz.func150 rfl rfl [.slice A m c] rfl ((hash_any A m c (keyOf bs) vd.heap.size vd ((HK3.out.below hHeld (fun b h => Nat.lt_of_lt_of_le h.1 hlt3)).more (fun b h => Nat.lt_of_lt_of_le h.1 (Nat.le_trans hlt3 hHeld.size))).toRow HBY.out (by have := HM.out; omega)).mono ?_)
  rintro e w4 ⟨rfl, rfl⟩
  refine ⟨_, rfl, ?_⟩
  simp only [ag9, Act.put, sA, sZ, sS]
  refine hK.out _ _ (fun _ => hHeld) (fun hHeld => ?_)
  replace hHeld := hHeld (by decide)
  clear hK K
  have hM3 := HM2.out.below hHeld
  refine Tillst.one (i := 10) (o := ag10) (by kernel_rfl) rfl ?_
  intro K hK
  refine step_call 259 #[.tmp 27, .tmp 29] #[216, 30] rfl rfl Tryz.func259 rfl rfl [.pointer (some ⟨f.1, 0, none⟩), .int .u64 (fnv start (keyOf bs))] rfl ((add_any _ f.1 f.2 (bl.getD i []) (fnv start (keyOf bs)) (hM3.fm.fil i f HF.out) (fnv_bounds start _ (by decide)).1).mono ?_)
  rintro e w5 ⟨rfl, hf5, hk5⟩
  refine ⟨_, rfl, ?_⟩
  simp only [ag10, Act.put, sA, sZ, sS]
  have hm5 := hM3.filTo HF.out hk5 hf5 (by rw [setBits_len]; exact hM3.fm.bits i HIL.out)
  have hkk := (HKK.out.trans (Kept.of_below (S := fun b => b < w.heap.size ∧ ¬ B.own b) hHeld (fun b h => Nat.lt_of_lt_of_le h.1 hlt3)) (fun b h => h)).trans hk5 (fun b h => ⟨Nat.lt_of_lt_of_le h.1 (Nat.le_trans hlt3 hHeld.size), fun e => h.2 (.inr (.inr (.inr ⟨f, List.mem_of_getElem? HF.out, .inr e⟩)))⟩)
  have HM5 := hI hm5
  have HK5 := hI hkk
  clear hm5 hkk hf5 hk5 hM3
  refine hK.out _ _ (fun h => by cases h) (fun _ => ?_)
  clear hK K hHeld
  refine Tillst.one (i := 11) (o := ag11) (by kernel_rfl) rfl ?_
  intro K hK
  go_simp
  refine hK.out _ _ (fun h => by cases h) (fun _ => ?_)
  clear hK K
  refine Tillst.done (by kernel_rfl) ?_ _
  go_wp2_with fail
  go_ret
  exact ⟨rfl, HM5.out, HK5.out⟩
theorem enter_s (h : StoM2 w X B slots s xs st bl u) {i : Nat} {g sc : Int} {bs : List Int} (hi : i < bl.length) (hk : RowI .u8 w (fun b => b < w.heap.size ∧ ¬ B.own b) A m (keyOf bs)) (hb : Bytes (keyOf bs)) (hm : m ≤ 1000000)
    (hinv : InvS B.k s xs (st ++ [(((i : Int), g, sc), bs)])) (hfr : ∀ p, p ∈ st → p.1 ≠ ((i : Int), g, sc)) (hsl : st.length ≠ slots) :
    Calls Tryz.prog 145 #[.pointer (some ⟨B.q, 0, none⟩), .slice A m c, .agg #[.int .i64 (i : Int), .int .u64 g, .int .i64 sc]] w fun e w' => e = .returned (.tuple #[]) ∧ StoM2 w' X B slots s xs (st ++ [(((i : Int), g, sc), bs)]) (addB bl i (keyOf bs)) u ∧ Kept (fun b => b < w.heap.size ∧ ¬ B.own b) w w' := by
  obtain ⟨w1, hw1⟩ : ∃ w1, w1 = w.alloc (.cells #[.int .i64 (i : Int), .int .u64 g, .int .i64 sc] 46) := ⟨_, rfl⟩
  have hb1 : Below w.heap.size w w1 := by rw [hw1]; exact (Below.refl _ w).alloc (Nat.le_refl _) _
  have HA1 := hI (show Blk w1 w.heap.size 46 #[.int .i64 (i : Int), .int .u64 g, .int .i64 sc] by rw [hw1]; exact Blk.new w _ _)
  have HB1 := hI hb1
  have HOL := hI (fun b (hb : B.own b) => h.own_lt hb)
  have HM1 := hI (h.below hb1)
  have HK1 := hI (hk.below hb1 (fun b h => h.1))
  have HBY := hI hb
  have HM := hI hm
  have HI := hI hinv
  have HFR := hI hfr
  have HSL := hI hsl
  have HIL := hI hi
  have HW1 := hI hw1
  have HIN := hI h.inv
  clear hb1 hw1 h hk hb hm hinv hfr hsl hi
  go_enter Tryz.func145, Tryz.ntmps145
  go_upto_region 1 with fail
  rw [← HW1.out]
  refine Tillst.region (fun W => Below w1.heap.size w1 W) [8] (by kernel_rfl) ((Below.refl _ _).drew) (fun hHeld => ?_)
  generalize w1.drew = vd at *
  refine Tillst.takeG (i := 0) (oi := en0) (v := ?_) rfl (by kernel_rfl) (by kernel_rfl) (by kernel_rfl) (by kernel_rfl) (by kernel_rfl) (fun _ _ _ h => h) (by rfl) ?_ hHeld ?_
  rotate_left
  · intro W hSW; (try dsimp only at hSW); unfold en0; go_simp; with_reducible rfl
  simp only [en0, Act.put, sA, sZ, sS]
  refine Tillst.takeG (i := 1) (oi := en1) (v := ?_) rfl (by kernel_rfl) (by kernel_rfl) (by kernel_rfl) (by kernel_rfl) (by kernel_rfl) (fun _ _ _ h => h) (by rfl) ?_ hHeld ?_
  rotate_left
  · intro W hSW; (try dsimp only at hSW); unfold en1; go_simp; with_reducible rfl
  simp only [en1, Act.put, sA, sZ, sS]
  refine Tillst.takeG (i := 2) (oi := en2) (v := ?_) rfl (by kernel_rfl) (by kernel_rfl) (by kernel_rfl) (by kernel_rfl) (by kernel_rfl) (fun _ _ _ h => h) (by rfl) ?_ hHeld ?_
  rotate_left
  · intro W hSW; (try dsimp only at hSW); unfold en2; go_simp; with_reducible rfl
  simp only [en2, Act.put, sA, sZ, sS]
  refine Tillst.takeG (i := 3) (oi := en3) (v := ?_) rfl (by kernel_rfl) (by kernel_rfl) (by kernel_rfl) (by kernel_rfl) (by kernel_rfl) (fun _ _ _ h => h) (by rfl) ?_ hHeld ?_
  rotate_left
  · intro W hSW; (try dsimp only at hSW); unfold en3; go_simp; with_reducible rfl
  simp only [en3, Act.put, sA, sZ, sS]
  refine Tillst.takeG (i := 4) (oi := en4) (v := ?_) rfl (by kernel_rfl) (by kernel_rfl) (by kernel_rfl) (by kernel_rfl) (by kernel_rfl) (fun _ _ _ h => h) (by rfl) ?_ hHeld ?_
  rotate_left
  · intro W hSW; have h9 := (HM1.out.below hSW).cells.2.1; clear hSW; unfold en4; go_simp; with_reducible rfl
  simp only [en4, Act.put, sA, sZ, sS]
  refine Tillst.takeG (i := 5) (oi := en5) (v := ?_) rfl (by kernel_rfl) (by kernel_rfl) (by kernel_rfl) (by kernel_rfl) (by kernel_rfl) (fun _ _ _ h => h) (by rfl) ?_ hHeld ?_
  rotate_left
  · intro W hSW; (try dsimp only at hSW); unfold en5; go_simp; with_reducible rfl
  simp only [en5, Act.put, sA, sZ, sS]
  refine Tillst.takeG (i := 7) (oi := en7) (v := .agg #[.int .i64 (i : Int), .int .u64 g, .int .i64 sc]) rfl (by kernel_rfl) (by kernel_rfl) (by kernel_rfl) (by kernel_rfl) (by kernel_rfl) (fun _ _ _ h => h) (by rfl) ?_ hHeld ?_
  · intro W hSW; have h7 : W.cell? ⟨w.heap.size, 0, none⟩ = some (.int .i64 (i : Int)) := (HA1.out.below hSW HA1.out.lt).cell 0; have h8 : W.cell? ⟨w.heap.size, 1, none⟩ = some (.int .u64 g) := (HA1.out.below hSW HA1.out.lt).cell 1; have h9 : W.cell? ⟨w.heap.size, 2, none⟩ = some (.int .i64 sc) := (HA1.out.below hSW HA1.out.lt).cell 2; clear hSW; unfold en7; go_simp
  simp only [en7, Act.put, sA, sZ, sS]
  refine Tillst.one (i := 6) (o := en6) (by kernel_rfl) rfl ?_
  intro K hK
  refine step_call 156 #[.tmp 11] #[42] rfl rfl Tryz.func156 rfl rfl [.slice A m c] rfl ((finger_key A m c (keyOf bs) vd (HK1.out.below hHeld (fun b h => Nat.lt_of_lt_of_le h.1 HB1.out.size)) (fun b h => Nat.lt_of_lt_of_le h.1 (Nat.le_trans HB1.out.size hHeld.size)) HBY.out HM.out).mono ?_)
  rintro e w2 ⟨rfl, rfl⟩
  refine ⟨_, rfl, ?_⟩
  simp only [en6, Act.put, sA, sZ, sS]
  refine hK.out _ _ (fun _ => hHeld) (fun hHeld => ?_)
  replace hHeld := hHeld (by decide)
  clear hK K
  refine Tillst.one (i := 8) (o := en8) (by kernel_rfl) rfl ?_
  intro K hK
  refine step_call 216 #[.tmp 10, .tmp 12, .tmp 13] #[208, 41, 46] rfl rfl Tryz.func216 rfl rfl [.pointer (some ⟨B.x, 0, none⟩), .int .u32 (fingK (keyOf bs) : Nat), .agg (adrV ((i : Int), g, sc)).toArray] rfl ((remove_ix (HM1.out.ix.below hHeld HM1.out.ix.lt) (fingK (keyOf bs)) ((i : Int), g, sc)).mono ?_)
  rintro e w3 ⟨rfl, hx3, hk3⟩
  have he := es_rem_no (f := (fingK (keyOf bs) : Int)) HFR.out
  rw [he] at hx3
  refine ⟨_, rfl, ?_⟩
  simp only [en8, Act.put, sA, sZ, sS]
  have hm2 := (HM1.out.below hHeld).ixTo hk3 hx3 rfl HIN.out
  have hkk := ((Kept.of_below (S := fun b => b < w.heap.size ∧ ¬ B.own b) HB1.out (fun b h => h.1)).trans (Kept.of_below (S := fun b => b < w.heap.size ∧ ¬ B.own b) hHeld (fun b h => Nat.lt_of_lt_of_le h.1 HB1.out.size)) (fun b h => h)).trans hk3 (fun b h => ⟨Nat.lt_of_lt_of_le h.1 (Nat.le_trans HB1.out.size hHeld.size), fun e => h.2 (.inr (.inl e))⟩)
  have HM2 := hI hm2
  have HKK := hI hkk
  have HK3 := hI ((HK1.out.below hHeld (fun b h => Nat.lt_of_lt_of_le h.1 HB1.out.size)).kept hk3 (fun b h => ⟨Nat.lt_of_lt_of_le h.1 (Nat.le_trans HB1.out.size hHeld.size), fun e => h.2 (.inr (.inl e))⟩))
  have HA3 := hI ((HA1.out.below hHeld HA1.out.lt).kept hk3 ⟨Nat.lt_of_lt_of_le HA1.out.lt hHeld.size, fun e => by have := HOL.out B.x (.inr (.inl rfl)); omega⟩)
  clear he hx3 hk3 hm2 hkk
  refine hK.out _ _ (fun h => by cases h) (fun _ => ?_)
  clear hK K hHeld
  refine Tillst.done (by kernel_rfl) ?_ _
  have a0 : w3.cell? ⟨w.heap.size, 0, none⟩ = some (.int .i64 (i : Int)) := HA3.out.cell 0
  have a1 : w3.cell? ⟨w.heap.size, 1, none⟩ = some (.int .u64 g) := HA3.out.cell 1
  have a2 : w3.cell? ⟨w.heap.size, 2, none⟩ = some (.int .i64 sc) := HA3.out.cell 2
  have HAD := hI (add_s (c := c) HM2.out HIL.out (HK3.out.more (fun b h => ⟨Nat.lt_of_lt_of_le h.1 HKK.out.size, h.2⟩)) HBY.out HM.out HI.out HFR.out HSL.out)
  go_wp2_with fail
  refine HAD.out.mono ?_
  rintro e w4 ⟨rfl, hm4, hk4⟩
  have HM4 := hI hm4
  have HK4 := hI (HKK.out.trans hk4 (fun b h => ⟨Nat.lt_of_lt_of_le h.1 HKK.out.size, h.2⟩))
  clear hm4 hk4 HAD a0 a1 a2
  go_wp2_with fail
  go_end0
  exact ⟨rfl, HM4.out, HK4.out⟩
end
end
section
open Go.RowKit
attribute [local go_sem] Oper.semAt_some
abbrev lk0 : Oper := ⟨some 12, .fieldAddr 212 (.tmp 2) 1, 0, "store.go:257", #[], none⟩
abbrev lk1 : Oper := ⟨some 13, .load 208 (.tmp 12), 208, "store.go:257", #[⟨0, .data⟩], none⟩
abbrev lk2 : Oper := ⟨some 14, .move (.tmp 1), 42, "store.go:257", #[], none⟩
abbrev lk3 : Oper := ⟨some 15, .call { callee := .value (.func 156), args := #[.tmp 14], argTypes := #[42] }, 41, "store.go:257", #[⟨2, .data⟩], none⟩
abbrev lk4 : Oper := ⟨some 16, .call { callee := .value (.func 155), args := #[.tmp 13, .tmp 15], argTypes := #[208, 41] }, 40, "store.go:257", #[⟨1, .data⟩, ⟨3, .data⟩, ⟨3, .chain⟩], none⟩
abbrev lk5 : Oper := ⟨some 17, .call { callee := .builtin Go.Builtin.len, args := #[.tmp 16], argTypes := #[40] }, 3, "store.go:257", #[⟨4, .data⟩], none⟩
abbrev lk6 : Oper := ⟨some 18, .move (.const (.int .i64 0)), 3, "store.go:257", #[], none⟩
section
variable {w : World} {Y : Nat → Prop} {l p d n x slots : Nat} {s : Sup} {t : Int} {k : Dk} {xs : List Seg} {pe : Nat} {st : List EntS} {A : Option Addr} {m c : Nat} {us : List Int}
def LookT (w : World) (Y : Nat → Prop) (l p d n : Nat) (s : Sup) (t : Int) (k : Dk) (xs : List Seg) (pe : Nat) (st : List EntS) (us : List Int) (e : Ending) (w' : World) : Prop :=
  (∃ k', LgM w' Y l p d n s t k' xs pe ∧ k'.held = k.held) ∧ Kept Y w w' ∧
  ((hasS st us = none ∧ e = .returned (.tuple #[.agg ent0C, .int .i64 0])) ∨
   ∃ q b1 b2, hasS st us = some q ∧ e = .returned (.tuple #[.agg (entC' q b1 b2), .int .i64 0]) ∧ w.heap.size ≤ b1 ∧ w.heap.size ≤ b2 ∧ b1 ≠ b2 ∧ ArrU w' b1 (keyOf q.2) ∧ ArrU w' b2 (valOf q.2))
theorem look_any (hl : LgM w Y l p d n s t k xs pe) (hY : ∀ b, Y b → b < w.heap.size) (hx : IxE w x slots (esS st)) (hxY : Y x) (hinv : InvS k s xs st) (hk : RowI .u8 w Y A m us) (hb : Bytes us) (hm : m ≤ 1000000) :
    Calls Tryz.prog 134 #[.agg #[.pointer (some ⟨l, 0, none⟩), .pointer (some ⟨x, 0, none⟩)], .slice A m c] w (LookT w Y l p d n s t k xs pe st us) := by
  obtain ⟨w1, hw1⟩ : ∃ w1, w1 = ((w.alloc (.cells #[.pointer (some ⟨l, 0, none⟩), .pointer (some ⟨x, 0, none⟩)] 212)).alloc (.cells ent0C 228)).alloc (.cells ent0C 228) := ⟨_, rfl⟩
  have hb1 : Below w.heap.size w w1 := by rw [hw1]; exact (((Below.refl _ w).alloc (Nat.le_refl _) _).alloc (by simp) _).alloc (by simp; omega) _
  have hz1 : w1.heap.size = w.heap.size + 3 := by rw [hw1]; simp
  have HS1 := hI (show Blk w1 w.heap.size 212 #[.pointer (some ⟨l, 0, none⟩), .pointer (some ⟨x, 0, none⟩)] by rw [hw1]; exact ((Blk.new w _ _).alloc _).alloc _)
  have HR1 := hI (show Blk w1 (w.heap.size + 1) 228 ent0C by rw [hw1]; exact (blk_new2 w _ _ _).alloc _)
  have HE1 := hI (show Blk w1 (w.heap.size + 1 + 1) 228 ent0C by rw [hw1]; exact blk_new3 w _ _ _ _)
  have HB1 := hI hb1
  have HZ1 := hI hz1
  have HX1 := hI (hx.below hb1 hx.lt)
  have HLT := hI hx.lt
  have HK1 := hI (hk.below hb1 hY)
  have HL := hI hl
  have HYY := hI hY
  have HXY := hI hxY
  have HI := hI hinv
  have HBY := hI hb
  have HM := hI hm
  have HW1 := hI hw1
  clear hb1 hz1 hw1 hl hY hx hxY hinv hk hb hm
  go_enter Tryz.func134, Tryz.ntmps134
  go_wp2_with fail
  go_step3
  go_wp2_with fail
  go_step3
  go_upto_region 3 with fail
  rw [← HW1.out]
  have c1 := HS1.out.cell 1
  refine Tillst.region (fun W => Below w1.heap.size w1 W) [] (by kernel_rfl) ((Below.refl _ _).drew) (fun hHeld => ?_)
  generalize w1.drew = vd at *
  refine Tillst.tk (i := 0) (oi := lk0) (v := ?_) rfl (by kernel_rfl) (by rfl) ?_ hHeld ?_
  rotate_left
  · intro W hSW; (try dsimp only at hSW); unfold lk0; go_simp; with_reducible rfl
  simp only [lk0, Act.put, sA, sZ, sS]
  refine Tillst.tk (i := 1) (oi := lk1) (v := ?_) rfl (by kernel_rfl) (by rfl) ?_ hHeld ?_
  rotate_left
  · intro W hSW; have h9 := (HS1.out.below hSW HS1.out.lt).cell 1; clear hSW; unfold lk1; go_simp; with_reducible rfl
  simp only [lk1, Act.put, sA, sZ, sS]
  refine Tillst.tk (i := 2) (oi := lk2) (v := ?_) rfl (by kernel_rfl) (by rfl) ?_ hHeld ?_
  rotate_left
  · intro W hSW; (try dsimp only at hSW); unfold lk2; go_simp; with_reducible rfl
  simp only [lk2, Act.put, sA, sZ, sS]
  refine Tillst.tk (i := 6) (oi := lk6) (v := ?_) rfl (by kernel_rfl) (by rfl) ?_ hHeld ?_
  rotate_left
  · intro W hSW; (try dsimp only at hSW); unfold lk6; go_simp; with_reducible rfl
  simp only [lk6, Act.put, sA, sZ, sS]
  refine Tillst.one (i := 3) (o := lk3) (by kernel_rfl) rfl ?_
  intro K hK
  refine step_call 156 #[.tmp 14] #[42] rfl rfl Tryz.func156 rfl rfl [.slice A m c] rfl ((finger_key A m c us vd (HK1.out.below hHeld (fun b h => Nat.lt_of_lt_of_le (HYY.out b h) HB1.out.size)) (fun b h => Nat.lt_of_lt_of_le (HYY.out b h) (Nat.le_trans HB1.out.size hHeld.size)) HBY.out HM.out).mono ?_)
  rintro e w2 ⟨rfl, rfl⟩
  refine ⟨_, rfl, ?_⟩
  simp only [lk3, Act.put, sA, sZ, sS]
  refine hK.out _ _ (fun _ => hHeld) (fun hHeld => ?_)
  replace hHeld := hHeld (by decide)
  clear hK K
  have HW12 := hI hHeld.size
  refine Tillst.one (i := 4) (o := lk4) (by kernel_rfl) rfl ?_
  intro K hK
  refine step_call 155 #[.tmp 13, .tmp 15] #[208, 41] rfl rfl Tryz.func155 rfl rfl [.pointer (some ⟨x, 0, none⟩), .int .u32 (fingK us : Nat)] rfl ((find_ix (HX1.out.below hHeld (Nat.lt_of_lt_of_le HLT.out HB1.out.size)) (fingK us)).mono ?_)
  rintro e w3 ⟨⟨v, rfl, hown⟩, hb3⟩
  rw [es_find, List.length_map] at hown
  obtain ⟨A3, c3, e9, hAn, hAc, hrow⟩ := Adr.rowZ_own hown rfl (List.length_map _)
  subst e9
  refine ⟨_, rfl, ?_⟩
  simp only [lk4, Act.put, sA, sZ, sS]
  have hb13 := hHeld.trans (hb3.mono hHeld.size)
  refine hK.out _ _ (fun _ => hb13) (fun hHeld => ?_)
  replace hHeld := hHeld (by decide)
  clear hK K
  refine Tillst.tk (i := 5) (oi := lk5) (v := ?_) rfl (by kernel_rfl) (by rfl) ?_ hHeld ?_
  rotate_left
  · intro W hSW; (try dsimp only at hSW); unfold lk5; go_simp; with_reducible rfl
  simp only [lk5, Act.put, sA, sZ, sS]
  refine Tillst.done (by kernel_rfl) ?_ _
  have HLL := hI (show (ofF st us).length ≤ 1024 by
    have h1 := HX1.out.len
    have h2 : (ofF st us).length ≤ st.length := by unfold ofF; rw [List.length_reverse]; exact List.length_filter_le _ _
    unfold esS at h1
    rw [List.length_map] at h1
    omega)
  have HB3 := hI (HB1.out.trans (hHeld.mono HB1.out.size))
  have HSZ := hI (And.intro hHeld.size hb3.size)
  have HR3 := hI hrow
  have HG3 := hI (HL.out.grow HB3.out)
  have HS3 := hI (HS1.out.below hHeld HS1.out.lt)
  have HRE3 := hI (HR1.out.below hHeld HR1.out.lt)
  have HE3 := hI (HE1.out.below hHeld HE1.out.lt)
  have HK3 := hI (HK1.out.below hHeld (fun b h => Nat.lt_of_lt_of_le (HYY.out b h) HB1.out.size))
  have HYL := hI (show ∀ p, p ∈ ofF st us → p ∈ st from fun p hp => (mem_ofF.1 hp).1)
  have HNO := hI (fun h => none_ofF (st := st) (us := us) h)
  obtain ⟨L, hL⟩ : ∃ L, ofF st us = L := ⟨_, rfl⟩
  rw [hL] at HLL HR3 HYL HNO
  rw [hL]
  obtain ⟨Y1, hY1⟩ : ∃ Y1 : Nat → Prop, (fun b => Y b ∨ (w.heap.size ≤ b ∧ b < w3.heap.size)) = Y1 := ⟨_, rfl⟩
  rw [hY1] at HG3
  have HYD := hI (show ∀ b, Y1 b ↔ (Y b ∨ (w.heap.size ≤ b ∧ b < w3.heap.size)) by intro b; rw [← hY1])
  have HSW := hI (show w1.heap.size ≤ w2.heap.size from HW12.out)
  clear hHeld hb3 hb13 hrow hown hAn hAc hL hY1 c1 HS1 HR1 HE1 HK1 HX1
  go_wp2_with fail
  go_loopw [7, 18] (fun er i wr => ∃ j : Nat, j ≤ L.length ∧ i = .int .i64 j ∧ er = .int .i64 0 ∧ (∃ kj, LgM wr Y1 l p d n s t kj xs pe ∧ kj.held = k.held) ∧ Kept Y1 w3 wr ∧ ∀ q, q ∈ L.take j → keyOf q.2 ≠ us) (fun _ i _ => L.length - (intOf i).toNat)
  case atStart => exact ⟨0, by omega, rfl, rfl, ⟨k, HG3.out, rfl⟩, Kept.refl _ _, by simp⟩
  case round =>
    obtain ⟨j, hj, rfl, rfl, ⟨kj, hlg, hkj⟩, hkp, hno⟩ := hrel
    have HLG := hI hlg
    have HKJ := hI hkj
    have HKP := hI hkp
    have HNJ := hI hno
    clear hlg hkj hkp hno
    by_cases hlt : j < L.length
    · obtain ⟨q, hq⟩ : ∃ q, L[j]? = some q := ⟨_, List.getElem?_eq_getElem hlt⟩
      have hrow := HR3.out.kept HKP.out (fun b hb => (HYD.out b).2 (.inr ⟨by have := HB1.out.size; have := HSW.out; have := hb.1; omega, hb.2⟩))
      obtain ⟨b, off, rfl, hbS, hc⟩ := hrow.2 (by omega)
      have hc2 := hc j hlt
      rw [show (L.map (fun x => x.1)).getD j seg0 = q.1 by simp [List.getD, hq]] at hc2
      have a0 : wr.cell? ⟨b, off + j * 3, none⟩ = some (.int .i64 q.1.1) := hc2 0 _ rfl
      have a1 := hc2 1 _ rfl
      have a2 := hc2 2 _ rfl
      clear hc hc2 hrow HR3
      obtain ⟨w4, hw4⟩ : ∃ w4, w4 = wr.alloc (.cells #[.int .i64 q.1.1, .int .u64 q.1.2.1, .int .i64 q.1.2.2] 46) := ⟨_, rfl⟩
      have hb4 : Below wr.heap.size wr w4 := by rw [hw4]; exact (Below.refl _ wr).alloc (Nat.le_refl _) _
      have HA4 := hI (show Blk w4 wr.heap.size 46 #[.int .i64 q.1.1, .int .u64 q.1.2.1, .int .i64 q.1.2.2] by rw [hw4]; exact Blk.new wr _ _)
      have HY1 := hI (show ∀ b, Y1 b → b < wr.heap.size from fun b hb => by
        have h1 := HKP.out.size
        have h2 := HB3.out.size
        rcases (HYD.out b).1 hb with h | h
        · have := HYY.out b h; omega
        · omega)
      have HLG4 := hI (HLG.out.grow hb4)
      have HW4 := hI hw4
      have HB4 := hI hb4
      have HQ := hI (HYL.out q (List.mem_of_getElem? hq))
      have HS4 := hI ((HS3.out.kept HKP.out ((HYD.out _).2 (.inr ⟨Nat.le_refl _, HS3.out.lt⟩))).below hb4 (by have := HKP.out.size; have := HS3.out.lt; omega))
      have s0 := HS4.out.cell 0
      have hat := (HI.out.here q HQ.out).held HKJ.out
      have HRD := hI (read_at HLG4.out (fun b hb => by
        rcases hb with h | h
        · exact Nat.lt_of_lt_of_le (HY1.out b h) hb4.size
        · exact h.2) hat)
      unfold adrW at HRD
      clear hw4 hb4 hat
      go_upto_region 6 with fail
      rw [← HW4.out]
      clear a0 a1 a2
      have a0 := HA4.out.cell 0
      have a1 := HA4.out.cell 1
      have a2 := HA4.out.cell 2
      go_wp2_with fail
      refine HRD.out.mono ?_
      rintro e w5 ⟨b1, b2, k5, rfl, hb1, hb2, hb12, hr1, hr2, hlg5, hk5, hkp5⟩
      have HR51 := hI hr1
      have HR52 := hI hr2
      have HBB := hI (And.intro hb1 (And.intro hb2 hb12))
      have HLG5 := hI (hlg5.less (X := Y1) (fun b h => .inl h))
      have HKH5 := hI (hk5.trans HKJ.out)
      have HKP5 := hI (((HKP.out.trans (Kept.of_below HB4.out HY1.out) (fun b h => h))).trans hkp5 (fun b h => .inl h))
      have HA5 := hI (HA4.out.kept hkp5 (.inr ⟨Nat.le_refl _, HA4.out.lt⟩))
      have HSZ5 := hI (And.intro HB4.out.size hkp5.size)
      clear hr1 hr2 hb1 hb2 hb12 hlg5 hk5 hkp5 a0 a1 a2 s0 HRD
      obtain ⟨w6, hw6⟩ : ∃ w6, w6 = (w5.alloc (.cells zeroC 44)).setRow w5.heap.size (recT9 q.2 b1 b2) := ⟨_, rfl⟩
      have HBN := hI (Blk.new w5 44 zeroC)
      have hb6 : Below w5.heap.size w5 w6 := by rw [hw6]; exact Kept.to_below (((Kept.refl (fun b => b < w5.heap.size) w5).alloc (fun b h => h) _).setRow (fun h => by omega) _) (fun b h => h)
      have HR6 := hI (show Blk w6 w5.heap.size 44 (recT9 q.2 b1 b2) by rw [hw6]; exact setRow_heap _ _ _ _ _ _ HBN.out)
      have HW6 := hI hw6.symm
      have HB6 := hI hb6
      clear hw6 hb6
      have r0 : w6.cell? ⟨w5.heap.size, 0, none⟩ = some (.int .i64 1) := by
        have h9 := HR6.out.cell 0
        rw [show (recT9 q.2 b1 b2)[0]? = some (.int .i64 (kindOf q.2)) from rfl, HI.out.kind q HQ.out] at h9
        exact h9
      have r4 : w6.cell? ⟨w5.heap.size, 4, none⟩ = some (.slice (some ⟨b1, 0, none⟩) (klenOf q.2) (klenOf q.2)) := HR6.out.cell 4
      have HRO := hI ((HI.out.here q HQ.out).rok)
      have hkl : (keyOf q.2).length = klenOf q.2 := by
        have h1 := HRO.out.need
        unfold needOf at h1
        unfold keyOf
        rw [List.length_take, List.length_drop]
        omega
      have HKB := hI (show Bytes (keyOf q.2) by unfold keyOf; exact bytes_part HRO.out.byt 21 _)
      have HK6 := hI ((HK3.out.kept HKP5.out (fun b hb => (HYD.out b).2 (.inl hb))).below HB6.out (fun b hb => by
        have h1 := HY1.out b ((HYD.out b).2 (.inl hb))
        have h2 := HSZ5.out
        omega))
      have HKY6 := hI (show RowI .u8 w6 (fun b => b = b1) (some ⟨b1, 0, none⟩) (klenOf q.2) (keyOf q.2) by
        have h9 := Blk.below HR51.out HB6.out (Blk.lt HR51.out)
        exact (Arr.rowN (S := fun b => b = b1) h9 0 (n := klenOf q.2) hkl rfl))
      have HKL := hI hkl
      have HYX := hI (show ∀ b, Y b → b < w6.heap.size from fun b hb => by
        have h1 := HY1.out b ((HYD.out b).2 (.inl hb))
        have h2 := HSZ5.out
        have h3 := HB6.out.size
        omega)
      have HB16 := hI (show b1 < w6.heap.size from Nat.lt_of_lt_of_le (Blk.lt HR51.out) HB6.out.size)
      clear hkl
      go_wp2_with (refine wpList_store_rowB (.tmp 10) (.tmp 27) 44 rfl rfl w5.heap.size (recT9 q.2 b1 b2) rfl rfl 44 _ HBN.out size_rec rfl (one_rec _ _ _ _ _ _ _ _ _ _) ?_; rw [HW6.out])
      clear r0 r4
      by_cases hkey : keyOf q.2 = us
      · have HKEY := hI hkey
        have HEQ := hI (show Calls Tryz.prog 73 #[.slice (some ⟨b1, 0, none⟩) (klenOf q.2) (klenOf q.2), .slice A m c] w6 (fun e w' => e = .returned (.bool true) ∧ w6 = w') by
          have hm : klenOf q.2 = m := by rw [← HKL.out, hkey]; exact HK6.out.1
          have h1 := HKY6.out
          rw [hm, hkey] at h1
          rw [hm]
          exact equal_yes _ A m m c us _ _ w6 h1 HK6.out (fun b h => by rw [h]; exact HB16.out) HYX.out HBY.out)
        clear hkey
        refine HEQ.out.mono ?_
        rintro e w7 ⟨rfl, rfl⟩
        clear HEQ
        have HA6 := hI (HA5.out.below HB6.out HA5.out.lt)
        have HE6 := hI ((HE3.out.kept HKP5.out ((HYD.out _).2 (.inr ⟨by omega, HE3.out.lt⟩))).below HB6.out (by have := HKP5.out.size; have := HE3.out.lt; omega))
        have HRE6 := hI ((HRE3.out.kept HKP5.out ((HYD.out _).2 (.inr ⟨by omega, HRE3.out.lt⟩))).below HB6.out (by have := HKP5.out.size; have := HRE3.out.lt; omega))
        have a0 := HA6.out.cell 0
        have a1 := HA6.out.cell 1
        have a2 := HA6.out.cell 2
        obtain ⟨w7, hw7⟩ : ∃ w7, w7 = w6.setRow (w.heap.size + 1 + 1) (entC' q b1 b2) := ⟨_, rfl⟩
        have hk7 : Kept (fun b => b ≠ w.heap.size + 1 + 1) w6 w7 := by rw [hw7]; exact (Kept.refl _ _).setRow (fun h => h rfl) _
        have HE7 := hI (show Blk w7 (w.heap.size + 1 + 1) 228 (entC' q b1 b2) by rw [hw7]; exact setRow_heap _ _ _ _ _ _ HE6.out)
        have HRE7 := hI (HRE6.out.kept hk7 (by omega))
        have HK7 := hI hk7
        have HW7 := hI hw7.symm
        clear hk7 hw7
        go_wp2_with (first
          | (refine wpList_load_rowB (.tmp 10) 44 rfl rfl w5.heap.size rfl 44 [.int .i64 (kindOf q.2), .int .u32 (flagsOf q.2), .int .u32 (expOf q.2), .int .u64 (seqOf q.2), .slice (some ⟨b1, 0, none⟩) (klenOf q.2) (klenOf q.2), .slice (some ⟨b2, 0, none⟩) (vlenOf q.2) (vlenOf q.2)] _ Tryz.underlying44 rfl size_rec HR6.out ?_)
          | (refine wpList_store_rowB (.tmp 6) (.tmp 53) 228 rfl rfl (w.heap.size + 1 + 1) (entC' q b1 b2) rfl rfl 228 _ HE6.out size_entry rfl (one_ent _ _ _) ?_; rw [HW7.out])
          | (refine wpList_load_rowB (.tmp 6) 228 rfl rfl (w.heap.size + 1 + 1) rfl 228 [.bool true, .int .i64 q.1.1, .int .u64 q.1.2.1, .int .i64 q.1.2.2, .int .i64 (kindOf q.2), .int .u32 (flagsOf q.2), .int .u32 (expOf q.2), .int .u64 (seqOf q.2), .slice (some ⟨b1, 0, none⟩) (klenOf q.2) (klenOf q.2), .slice (some ⟨b2, 0, none⟩) (vlenOf q.2) (vlenOf q.2)] _ Tryz.underlying228 rfl size_entry HE7.out ?_)
          | (refine wpList_store_rowB (.tmp 4) (.tmp 55) 228 rfl rfl (w.heap.size + 1) (entC' q b1 b2) rfl rfl 228 _ HRE7.out size_entry rfl (one_ent _ _ _) ?_)
          | (with_reducible refine halt_end ?_))
        rw [Exit.noGoto_ret]
        have hw3 := HKP.out.size
        have hz1 := HZ1.out
        have hz2 := HSZ.out
        have hz5 := HSZ5.out
        have hbb := HBB.out
        have hk8 := (Kept.refl (fun b => b ≠ w.heap.size + 1) w7).setRow (fun h => h rfl) (entC' q b1 b2)
        have hke : Kept (fun b => b ≠ w.heap.size + 1 + 1 ∧ b ≠ w.heap.size + 1) w6 (w7.setRow (w.heap.size + 1) (entC' q b1 b2)) := HK7.out.mono (S := fun b => b ≠ w.heap.size + 1 + 1 ∧ b ≠ w.heap.size + 1) (fun b h => h.1) |>.trans hk8 (fun b h => h.2)
        refine bodyPost_ret (results_row2 (p := 4) (u := 5) rfl _ _ (w.heap.size + 1) 228 (entC' q b1 b2) _ rfl (setRow_heap _ _ _ _ _ _ HRE7.out) Tryz.underlying228 rfl size_entry) rfl ⟨⟨k5, ?_, HKH5.out⟩, ?_, .inr ⟨q, b1, b2, ?_, rfl, by omega, by omega, hbb.2.2, ?_, ?_⟩⟩
        · refine ((HLG5.out.below HB6.out).off hke (fun b hb hn => ⟨fun e => ?_, fun e => ?_⟩)).less (fun b hb => (HYD.out b).2 (.inl hb))
          · exact hn ((HYD.out b).2 (.inr ⟨by omega, by omega⟩))
          · exact hn ((HYD.out b).2 (.inr ⟨by omega, by omega⟩))
        · have h1 : Kept Y w w3 := Kept.of_below HB3.out HYY.out
          have h2 := h1.trans HKP5.out (fun b hb => (HYD.out b).2 (.inl hb))
          have h3 := h2.trans (Kept.of_below (S := Y) HB6.out (fun b hb => by have := HYY.out b hb; have := HB3.out.size; omega)) (fun b hb => hb)
          exact h3.trans hke (fun b hb => ⟨by have := HYY.out b hb; omega, by have := HYY.out b hb; omega⟩)
        · rw [← HKEY.out]; exact has_of HI.out HQ.out
        · exact Blk.kept (Blk.below HR51.out HB6.out (Blk.lt HR51.out)) hke ⟨by omega, by omega⟩
        · exact Blk.kept (Blk.below HR52.out HB6.out (Blk.lt HR52.out)) hke ⟨by omega, by omega⟩
      · have HKEY := hI hkey
        have HEQ := hI (equal_no (some ⟨b1, 0, none⟩) A (klenOf q.2) m (klenOf q.2) c (keyOf q.2) us _ _ w6 HKY6.out HK6.out (fun b h => by rw [h]; exact HB16.out) HYX.out HKB.out HBY.out hkey)
        clear hkey
        refine HEQ.out.mono ?_
        rintro e w7 ⟨rfl, rfl⟩
        clear HEQ
        go_wp2_with fail
        go_roundw
        case rel =>
          have h9 := HLL.out
          refine ⟨j + 1, by omega, by rw [IntWalk.wrap64_in _ (by omega)]; rfl, rfl, ⟨k5, HLG5.out.below HB6.out, HKH5.out⟩, HKP5.out.trans (Kept.of_below (S := Y1) HB6.out (fun b hb => by have h1 := HY1.out b hb; have h2 := HSZ5.out; omega)) (fun b h => h), fun y hy => ?_⟩
          rw [List.take_add_one, hq] at hy
          rcases List.mem_append.1 hy with h | h
          · exact HNJ.out y h
          · have e : y = q := by simpa [eq_comm] using h
            rw [e]; exact HKEY.out
        case measure =>
          have h9 := HLL.out
          rw [IntWalk.wrap64_in _ (by omega)]
          simp only [intOf]
          omega
    · obtain rfl : j = L.length := by omega
      rw [List.take_of_length_le (Nat.le_refl _)] at HNJ
      have hw3 := HKP.out.size
      have hz1 := HZ1.out
      have hz2 := HSZ.out
      have HEr := hI (HE3.out.kept HKP.out ((HYD.out _).2 (.inr ⟨by omega, HE3.out.lt⟩)))
      have HREr := hI (HRE3.out.kept HKP.out ((HYD.out _).2 (.inr ⟨by omega, HRE3.out.lt⟩)))
      go_wp2_with (first
        | (refine wpList_load_rowB (.tmp 6) 228 rfl rfl (w.heap.size + 1 + 1) rfl 228 ent0C.toList _ Tryz.underlying228 rfl size_entry HEr.out ?_)
        | (refine wpList_store_rowB (.tmp 4) (.tmp 55) 228 rfl rfl (w.heap.size + 1) ent0C rfl rfl 228 _ HREr.out size_entry rfl one_ent0 ?_)
        | (with_reducible refine halt_end ?_))
      rw [Exit.noGoto_ret]
      have hk8 := (Kept.refl (fun b => b ≠ w.heap.size + 1) wr).setRow (fun h => h rfl) ent0C
      refine bodyPost_ret (results_row2 (p := 4) (u := 5) rfl _ _ (w.heap.size + 1) 228 ent0C _ rfl (setRow_heap _ _ _ _ _ _ HREr.out) Tryz.underlying228 rfl size_entry) rfl ⟨⟨kj, ?_, HKJ.out⟩, ?_, .inl ⟨HNO.out HNJ.out, rfl⟩⟩
      · refine (HLG.out.off hk8 (fun b hb hn => fun e => ?_)).less (fun b hb => (HYD.out b).2 (.inl hb))
        exact hn ((HYD.out b).2 (.inr ⟨by omega, by omega⟩))
      · have h1 : Kept Y w w3 := Kept.of_below HB3.out HYY.out
        have h2 := h1.trans HKP.out (fun b hb => (HYD.out b).2 (.inl hb))
        exact h2.trans hk8 (fun b hb => by have := HYY.out b hb; omega)
end
end
section
open Go.RowKit
attribute [local go_sem] Oper.semAt_some
abbrev vo0 : Oper := ⟨some 5, .fieldAddr 44 (.tmp 3) 3, 0, "store.go:319", #[], none⟩
abbrev vo1 : Oper := ⟨some 6, .load 30 (.tmp 5), 30, "store.go:319", #[⟨0, .data⟩], none⟩
abbrev vo2 : Oper := ⟨some 7, .move (.tmp 0), 105, "store.go:319", #[], none⟩
abbrev vo3 : Oper := ⟨some 8, .nilCheck (.tmp 7), 0, "store.go:319", #[⟨2, .data⟩], none⟩
abbrev vo4 : Oper := ⟨some 9, .fieldAddr 215 (.tmp 8) 0, 0, "store.go:319", #[⟨3, .data⟩], none⟩
abbrev vo5 : Oper := ⟨some 10, .fieldAddr 212 (.tmp 9) 0, 0, "store.go:319", #[⟨4, .data⟩], none⟩
abbrev vo6 : Oper := ⟨some 11, .load 26 (.tmp 10), 26, "store.go:319", #[⟨5, .data⟩], none⟩
abbrev vo7 : Oper := ⟨some 12, .call { callee := .value (.func 28), args := #[.tmp 11], argTypes := #[26] }, 70, "store.go:319", #[⟨6, .data⟩], none⟩
abbrev vo8 : Oper := ⟨some 13, .call { callee := .value (.func 32), args := #[.tmp 12], argTypes := #[70] }, 32, "store.go:319", #[⟨7, .data⟩, ⟨7, .chain⟩], none⟩
abbrev vo9 : Oper := ⟨some 14, .field 32 (.tmp 13) 5, 30, "store.go:319", #[⟨8, .data⟩], none⟩
abbrev vo10 : Oper := ⟨some 15, .binOp Go.BinOp.leq 30 (.tmp 6) (.tmp 14) 30, 4, "store.go:319", #[⟨1, .data⟩, ⟨9, .data⟩], none⟩
abbrev vo11 : Oper := ⟨some 4, .assign (.tmp 15), 4, "store.go:319", #[⟨10, .data⟩, ⟨8, .chain⟩, ⟨0, .phase⟩, ⟨1, .phase⟩, ⟨2, .phase⟩, ⟨3, .phase⟩, ⟨4, .phase⟩, ⟨5, .phase⟩, ⟨6, .phase⟩, ⟨7, .phase⟩, ⟨8, .phase⟩, ⟨9, .phase⟩, ⟨10, .phase⟩], none⟩
abbrev itmV (A : Option Addr) (n c : Nat) (B : Option Addr) (m d : Nat) (f x s : Int) (dy : Bool) : Value := .agg #[.slice A n c, .slice B m d, .int .u32 f, .int .u32 x, .int .u64 s, .bool dy]
abbrev itm0C : Array Value := #[.slice none 0 0, .slice none 0 0, .int .u32 0, .int .u32 0, .int .u64 0, .bool false]
abbrev itmC (bs : List Int) (b1 b2 : Nat) : Array Value := #[.slice (some ⟨b1, 0, none⟩) (klenOf bs) (klenOf bs), .slice (some ⟨b2, 0, none⟩) (vlenOf bs) (vlenOf bs), .int .u32 (flagsOf bs), .int .u32 (expOf bs), .int .u64 (seqOf bs), .bool false]
theorem size_itm : (Tryz.prog.info? 117).map (·.size) = some 6 := by kernel_rfl
theorem one_itm (bs : List Int) (b1 b2 : Nat) : (itmC bs b1 b2).all (·.oneCell') = true := by simp [Value.oneCell']
theorem one_itm0 : itm0C.all (·.oneCell') = true := by simp [Value.oneCell']
section
variable {w w' : World} {X Y : Nat → Prop} {B : StB} {slots : Nat} {s : Sup} {xs : List Seg} {st : List EntS} {bl : List (List Int)} {u : Bool} {A : Option Addr} {m c : Nat} {us : List Int}
theorem degraded_ok (h : StoM2 w X B slots s xs st bl false) : Calls Tryz.prog 65 #[.pointer (some ⟨B.q, 0, none⟩)] w fun e w' => e = .returned (.bool false) ∧ w' = w := by
  obtain ⟨c0, _, _, c3⟩ := h.cells
  obtain ⟨A, c, hl, _, _⟩ := h.log.log
  have HL := hI (log_broken hl)
  clear h hl
  go_enter Tryz.func65, Tryz.ntmps65
  go_wp2_with fail
  refine HL.out.mono ?_
  rintro e w2 ⟨rfl, rfl⟩
  go_wp2_with fail
  go_ret
  exact ⟨rfl, rfl⟩
theorem void_ok (h : StoM2 w X B slots s xs st bl u) (k f x q : Int) (A A' : Option Addr) (n c n' c' : Nat) :
    Calls Tryz.prog 135 #[.pointer (some ⟨B.q, 0, none⟩), .agg #[.int .i64 k, .int .u32 f, .int .u32 x, .int .u64 q, .slice A n c, .slice A' n' c']] w fun e w' => e = .returned (.bool (decide (q ≤ s.f))) ∧ Below w.heap.size w w' := by
  obtain ⟨w1, hw1⟩ : ∃ w1, w1 = w.alloc (.cells #[.int .i64 k, .int .u32 f, .int .u32 x, .int .u64 q, .slice A n c, .slice A' n' c'] 44) := ⟨_, rfl⟩
  have hb1 : Below w.heap.size w w1 := by rw [hw1]; exact (Below.refl _ w).alloc (Nat.le_refl _) _
  have HR1 := hI (show Blk w1 w.heap.size 44 #[.int .i64 k, .int .u32 f, .int .u32 x, .int .u64 q, .slice A n c, .slice A' n' c'] by rw [hw1]; exact Blk.new w _ _)
  have HM1 := hI (h.below hb1)
  have HB1 := hI hb1
  have HW1 := hI hw1
  clear h hb1 hw1
  go_enter Tryz.func135, Tryz.ntmps135
  go_upto_region 1 with fail
  rw [← HW1.out]
  refine Tillst.region (fun W => Below w1.heap.size w1 W) [] (by kernel_rfl) ((Below.refl _ _).drew) (fun hHeld => ?_)
  generalize w1.drew = vd at *
  refine Tillst.tk (i := 0) (oi := vo0) (v := ?_) rfl (by kernel_rfl) (by rfl) ?_ hHeld ?_
  rotate_left
  · intro W hSW; (try dsimp only at hSW); unfold vo0; go_simp; with_reducible rfl
  simp only [vo0, Act.put, sA, sZ, sS]
  refine Tillst.tk (i := 1) (oi := vo1) (v := ?_) rfl (by kernel_rfl) (by rfl) ?_ hHeld ?_
  rotate_left
  · intro W hSW; have h9 : W.cell? ⟨w.heap.size, 3, none⟩ = some (.int .u64 q) := (HR1.out.below hSW HR1.out.lt).cell 3; clear hSW; unfold vo1; go_simp; with_reducible rfl
  simp only [vo1, Act.put, sA, sZ, sS]
  refine Tillst.tk (i := 2) (oi := vo2) (v := ?_) rfl (by kernel_rfl) (by rfl) ?_ hHeld ?_
  rotate_left
  · intro W hSW; (try dsimp only at hSW); unfold vo2; go_simp; with_reducible rfl
  simp only [vo2, Act.put, sA, sZ, sS]
  refine Tillst.tk (i := 3) (oi := vo3) (v := ?_) rfl (by kernel_rfl) (by rfl) ?_ hHeld ?_
  rotate_left
  · intro W hSW; (try dsimp only at hSW); unfold vo3; go_simp; with_reducible rfl
  simp only [vo3, Act.put, sA, sZ, sS]
  refine Tillst.tk (i := 4) (oi := vo4) (v := ?_) rfl (by kernel_rfl) (by rfl) ?_ hHeld ?_
  rotate_left
  · intro W hSW; (try dsimp only at hSW); unfold vo4; go_simp; with_reducible rfl
  simp only [vo4, Act.put, sA, sZ, sS]
  refine Tillst.tk (i := 5) (oi := vo5) (v := ?_) rfl (by kernel_rfl) (by rfl) ?_ hHeld ?_
  rotate_left
  · intro W hSW; (try dsimp only at hSW); unfold vo5; go_simp; with_reducible rfl
  simp only [vo5, Act.put, sA, sZ, sS]
  refine Tillst.tk (i := 6) (oi := vo6) (v := ?_) rfl (by kernel_rfl) (by rfl) ?_ hHeld ?_
  rotate_left
  · intro W hSW; have h9 := (HM1.out.below hSW).cells.1; clear hSW; unfold vo6; go_simp; with_reducible rfl
  simp only [vo6, Act.put, sA, sZ, sS]
  have hM := HM1.out.below hHeld
  obtain ⟨A2, c2, hl, _, _⟩ := hM.log.log
  refine Tillst.one (i := 7) (o := vo7) (by kernel_rfl) rfl ?_
  intro K hK
  refine step_call 28 #[.tmp 11] #[26] rfl rfl Tryz.func28 rfl rfl [.pointer (some ⟨B.l, 0, none⟩)] rfl ((log_super hl).mono ?_)
  rintro e w2 ⟨rfl, rfl⟩
  refine ⟨_, rfl, ?_⟩
  simp only [vo7, Act.put, sA, sZ, sS]
  refine hK.out _ _ (fun _ => hHeld) (fun hHeld => ?_)
  replace hHeld := hHeld (by decide)
  clear hK K
  obtain ⟨_, _, R, hs, _, _⟩ := hl
  refine Tillst.one (i := 8) (o := vo8) (by kernel_rfl) rfl ?_
  intro K hK
  refine step_call 32 #[.tmp 12] #[70] rfl rfl Tryz.func32 rfl rfl [.pointer (some ⟨B.p, 0, none⟩)] rfl ((get_any hs).mono ?_)
  rintro e w3 ⟨rfl, hb3⟩
  refine ⟨_, rfl, ?_⟩
  simp only [vo8, Act.put, sA, sZ, sS]
  have hHeld3 := hHeld.trans (hb3.mono hHeld.size)
  refine hK.out _ _ (fun _ => hHeld3) (fun hHeld => ?_)
  replace hHeld := hHeld (by decide)
  clear hK K hHeld3 hb3
  refine Tillst.tk (i := 9) (oi := vo9) (v := .int .u64 s.f) rfl (by kernel_rfl) (by rfl) ?_ hHeld ?_
  · intro W hSW; clear hSW; unfold vo9; unfold execOp Instr.field; simp [Sem.run_bind, run_underlying (Tryz.underlying32), asAgg, part, isAgg, run_underlying (Tryz.underlying30), Act.eval]
  simp only [vo9, Act.put, sA, sZ, sS]
  refine Tillst.tk (i := 10) (oi := vo10) (v := ?_) rfl (by kernel_rfl) (by rfl) ?_ hHeld ?_
  rotate_left
  · intro W hSW; (try dsimp only at hSW); unfold vo10; go_simp; with_reducible rfl
  simp only [vo10, Act.put, sA, sZ, sS]
  refine Tillst.tk (i := 11) (oi := vo11) (v := ?_) rfl (by kernel_rfl) (by rfl) ?_ hHeld ?_
  rotate_left
  · intro W hSW; (try dsimp only at hSW); unfold vo11; go_simp; with_reducible rfl
  simp only [vo11, Act.put, sA, sZ, sS]
  refine Tillst.done (by kernel_rfl) ?_ _
  go_wp2_with fail
  go_ret
  exact ⟨rfl, HB1.out.trans (hHeld.mono HB1.out.size)⟩
theorem expired_ok (k f x q now : Int) (A A' : Option Addr) (n c n' c' : Nat) (w : World) :
    Calls Tryz.prog 136 #[.agg #[.int .i64 k, .int .u32 f, .int .u32 x, .int .u64 q, .slice A n c, .slice A' n' c'], .int .u32 now] w fun e w' => e = .returned (.bool (decide (0 < x ∧ x ≤ now))) ∧ Below w.heap.size w w' := by
  have HB := hI ((Below.refl w.heap.size w).alloc (Nat.le_refl _) (.cells #[.int .i64 k, .int .u32 f, .int .u32 x, .int .u64 q, .slice A n c, .slice A' n' c'] 44))
  by_cases h1 : 0 < x
  · by_cases h2 : x ≤ now
    · rw [decide_eq_true (show 0 < x ∧ x ≤ now from ⟨h1, h2⟩)]
      go_enter Tryz.func136, Tryz.ntmps136
      go_wp2_with fail
      go_ret
      exact ⟨rfl, HB.out⟩
    · rw [decide_eq_false (show ¬ (0 < x ∧ x ≤ now) from fun h => h2 h.2)]
      go_enter Tryz.func136, Tryz.ntmps136
      go_wp2_with fail
      go_ret
      exact ⟨rfl, HB.out⟩
  · rw [decide_eq_false (show ¬ (0 < x ∧ x ≤ now) from fun h => h1 h.1)]
    go_enter Tryz.func136, Tryz.ntmps136
    go_wp2_with fail
    go_ret
    exact ⟨rfl, HB.out⟩
theorem itemOf_ok (bs : List Int) (b1 b2 : Nat) (w : World) :
    Calls Tryz.prog 137 #[.agg (recT9 bs b1 b2)] w fun e w' => e = .returned (.agg (itmC bs b1 b2)) ∧ Below w.heap.size w w' := by
  have hb := ((Below.refl w.heap.size w).alloc (Nat.le_refl _) (.cells (recT9 bs b1 b2) 44)).alloc (by simp) (.cells itm0C 117)
  have HB := hI hb
  have HI := hI (blk_new2 w (.cells (recT9 bs b1 b2) 44) 117 itm0C)
  clear hb
  go_enter Tryz.func137, Tryz.ntmps137
  go_wp2_with (first | (with_reducible refine halt_end ?_) | (refine wpList_store_rowB (.tmp 2) (.tmp 13) 117 rfl rfl (w.heap.size + 1) (itmC bs b1 b2) rfl rfl 117 _ HI.out size_itm rfl (one_itm _ _ _) ?_))
  exact Halt.ret (results_row1 rfl _ _ (w.heap.size + 1) 117 (itmC bs b1 b2) _ rfl (setRow_heap _ _ _ _ _ _ HI.out) Tryz.underlying117 rfl size_itm) rfl ⟨rfl, below_setRow HB.out (by omega) _⟩
theorem recordOf_ok (A : Option Addr) (n c : Nat) (A2 : Option Addr) (n2 c2 : Nat) (f x q : Int) (dy : Bool) (w : World) :
    Calls Tryz.prog 140 #[itmV A n c A2 n2 c2 f x q dy] w fun e w' => e = .returned (.agg #[.int .i64 1, .int .u32 f, .int .u32 x, .int .u64 q, .slice A n c, .slice A2 n2 c2]) ∧ Below w.heap.size w w' := by
  have hb := ((Below.refl w.heap.size w).alloc (Nat.le_refl _) (.cells #[.slice A n c, .slice A2 n2 c2, .int .u32 f, .int .u32 x, .int .u64 q, .bool dy] 117)).alloc (by simp) (.cells zeroC 44)
  have HB := hI hb
  have HI := hI (blk_new2 w (.cells #[.slice A n c, .slice A2 n2 c2, .int .u32 f, .int .u32 x, .int .u64 q, .bool dy] 117) 44 zeroC)
  clear hb
  go_enter Tryz.func140, Tryz.ntmps140
  go_wp2_with (first | (with_reducible refine halt_end ?_) | (refine wpList_store_rowB (.tmp 2) (.tmp 13) 44 rfl rfl (w.heap.size + 1) #[.int .i64 1, .int .u32 f, .int .u32 x, .int .u64 q, .slice A n c, .slice A2 n2 c2] rfl rfl 44 _ HI.out size_rec rfl (one_rec _ _ _ _ _ _ _ _ _ _) ?_))
  exact Halt.ret (results_row1 rfl _ _ (w.heap.size + 1) 44 #[.int .i64 1, .int .u32 f, .int .u32 x, .int .u64 q, .slice A n c, .slice A2 n2 c2] _ rfl (setRow_heap _ _ _ _ _ _ HI.out) Tryz.underlying44 rfl size_rec) rfl ⟨rfl, below_setRow HB.out (by omega) _⟩
theorem len_s (h : StoM2 w X B slots s xs st bl u) : Calls Tryz.prog 66 #[.pointer (some ⟨B.q, 0, none⟩)] w fun e w' => e = .returned (.int .i64 (st.length : Nat)) ∧ w' = w := by
  obtain ⟨_, c1, _, _⟩ := h.cells
  obtain ⟨c, L, fr, hx, hr, he⟩ := h.ix
  have hn : c 1 = (st.length : Nat) := by
    rw [hr.n]
    have h1 := congrArg List.length he
    unfold esS at h1
    rw [List.length_map, List.length_map] at h1
    rw [h1]
  have HL := hI (len_ix hx)
  rw [hn] at HL
  clear h hx hr he hn
  go_enter Tryz.func66, Tryz.ntmps66
  go_wp2_with fail
  refine HL.out.mono ?_
  rintro e w2 ⟨rfl, rfl⟩
  go_wp2_with fail
  go_ret
  exact ⟨rfl, rfl⟩
end
end
section
open Go.RowKit
attribute [local go_sem] Oper.semAt_some
abbrev pd0 : Oper := ⟨some 7, .load 105 (.tmp 1), 105, "store.go:80", #[], none⟩
abbrev pd1 : Oper := ⟨some 8, .nilCheck (.tmp 7), 0, "store.go:80", #[⟨0, .data⟩], none⟩
abbrev pd2 : Oper := ⟨some 9, .fieldAddr 215 (.tmp 8) 0, 0, "store.go:80", #[⟨1, .data⟩], none⟩
abbrev pd3 : Oper := ⟨some 10, .load 212 (.tmp 9), 212, "store.go:80", #[⟨2, .data⟩], none⟩
abbrev pd4 : Oper := ⟨some 11, .fieldAddr 117 (.tmp 2) 0, 0, "store.go:80", #[], none⟩
abbrev pd5 : Oper := ⟨some 12, .load 42 (.tmp 11), 42, "store.go:80", #[⟨4, .data⟩], none⟩
abbrev pd6 : Oper := ⟨some 13, .load 228 (.tmp 3), 228, "store.go:80", #[], none⟩
abbrev pd7 : Oper := ⟨some 14, .call { callee := .value (.func 144), args := #[.tmp 10, .tmp 12, .tmp 13], argTypes := #[212, 42, 228] }, 0, "store.go:80", #[⟨3, .data⟩, ⟨5, .data⟩, ⟨6, .data⟩], none⟩
abbrev kd0 : Oper := ⟨some 6, .load 105 (.tmp 1), 105, "store.go:133", #[], none⟩
abbrev kd1 : Oper := ⟨some 7, .nilCheck (.tmp 6), 0, "store.go:133", #[⟨0, .data⟩], none⟩
abbrev kd2 : Oper := ⟨some 8, .fieldAddr 215 (.tmp 7) 0, 0, "store.go:133", #[⟨1, .data⟩], none⟩
abbrev kd3 : Oper := ⟨some 9, .load 212 (.tmp 8), 212, "store.go:133", #[⟨2, .data⟩], none⟩
abbrev kd4 : Oper := ⟨some 10, .load 42 (.tmp 2), 42, "store.go:133", #[], none⟩
abbrev kd5 : Oper := ⟨some 11, .load 228 (.tmp 3), 228, "store.go:133", #[], none⟩
abbrev kd6 : Oper := ⟨some 12, .call { callee := .value (.func 144), args := #[.tmp 9, .tmp 10, .tmp 11], argTypes := #[212, 42, 228] }, 0, "store.go:133", #[⟨3, .data⟩, ⟨4, .data⟩, ⟨5, .data⟩], none⟩
section
variable {w w' : World} {X Y : Nat → Prop} {B : StB} {slots : Nat} {s : Sup} {xs : List Seg} {st : List EntS} {bl : List (List Int)} {u : Bool} {A : Option Addr} {m c : Nat} {us : List Int} {k : Dk}
theorem InvS.put2 {a : Int × Int × Int} {bs : List Int} (h : InvS k s xs st) (h2 : AtR k s xs a bs) (hfr : ∀ p, p ∈ st → p.1 ≠ a) (hk : kindOf bs = 1) (hn : ∀ p, p ∈ st → keyOf p.2 ≠ keyOf bs) : InvS k s xs (st ++ [(a, bs)]) := by
  refine ⟨fun p hp => ?_, fun p hp => ?_, fun p hp q hq e => ?_, fun p hp q hq e => ?_⟩
  · rcases List.mem_append.1 hp with h3 | h3
    · exact h.here p h3
    · rw [List.mem_singleton.1 h3]; exact h2
  · rcases List.mem_append.1 hp with h3 | h3
    · exact h.kind p h3
    · rw [List.mem_singleton.1 h3]; exact hk
  · rcases List.mem_append.1 hp with h3 | h3 <;> rcases List.mem_append.1 hq with h4 | h4
    · exact h.adr p h3 q h4 e
    · rw [List.mem_singleton.1 h4] at e
      exact absurd e (hfr p h3)
    · rw [List.mem_singleton.1 h3] at e
      exact absurd e.symm (hfr q h4)
    · rw [List.mem_singleton.1 h3, List.mem_singleton.1 h4]
  · rcases List.mem_append.1 hp with h3 | h3 <;> rcases List.mem_append.1 hq with h4 | h4
    · exact h.key p h3 q h4 e
    · rw [List.mem_singleton.1 h4] at e
      exact absurd e (hn p h3)
    · rw [List.mem_singleton.1 h3] at e
      exact absurd e.symm (hn q h4)
    · rw [List.mem_singleton.1 h3, List.mem_singleton.1 h4]
def EntV (st : List EntS) (us : List Int) (ev : Array Value) : Prop := (hasS st us = none ∧ ev = ent0C) ∨ ∃ q b1 b2, hasS st us = some q ∧ ev = entC' q b1 b2
theorem drop_s (h : StoM2 w X B slots s xs st bl u) {ev : Array Value} (he : EntV st us ev) (hk : RowI .u8 w (· < w.heap.size) A m us) (hb : Bytes us) (hm : m ≤ 1000000) :
    Calls Tryz.prog 144 #[shV B, .slice A m c, .agg ev] w fun e w' => e = .returned (.tuple #[]) ∧ StoM2 w' X B slots s xs (outS st us) bl u ∧ Kept (fun b => b < w.heap.size ∧ b ≠ B.x) w w' := by
  rcases he with ⟨h1, rfl⟩ | ⟨q, b1, b2, h1, rfl⟩
  · rw [out_none h1]
    refine (drop_no B.l B.x A m c w).mono ?_
    rintro e w' ⟨rfl, hb⟩
    exact ⟨rfl, h.below hb, Kept.of_below hb (fun b h => h.1)⟩
  · obtain ⟨h2, h3⟩ := has_some h1
    subst h3
    exact drop_yes h h2 hk hb hm b1 b2
theorem EntV.size {ev : Array Value} (h : EntV st us ev) : ev.size = 10 ∧ ev.all (·.oneCell') = true := by
  rcases h with ⟨_, rfl⟩ | ⟨q, b1, b2, _, rfl⟩
  · exact ⟨rfl, one_ent0⟩
  · exact ⟨rfl, one_ent _ _ _⟩
theorem putD_ok {be bs_ bi bn ba : Nat} {u0 : FrameMode} {ev : Array Value} {i : Nat} {g sc : Int} {bs : List Int} {Av : Option Addr} {n2 c2 : Nat} {f0 x0 q0 : Int} {dy : Bool} (h : StoM2 w X B slots s xs st bl u) (hev : EntV st (keyOf bs) ev)
    (h1 : Blk w be 49 #[.int .i64 0]) (h2 : Blk w bs_ 105 #[.pointer (some ⟨B.q, 0, none⟩)]) (h3 : Blk w bi 117 #[.slice A m c, .slice Av n2 c2, .int .u32 f0, .int .u32 x0, .int .u64 q0, .bool dy]) (h4 : Blk w bn 228 ev) (h5 : Blk w ba 46 #[.int .i64 (i : Int), .int .u64 g, .int .i64 sc])
    (hX : X bs_ ∧ X bi ∧ X ba) (hi : i < bl.length) (hk : RowI .u8 w X A m (keyOf bs)) (hb : Bytes (keyOf bs)) (hm : m ≤ 1000000) (hat : AtR B.k s xs ((i : Int), g, sc) bs) (hfr : ∀ p, p ∈ st → p.1 ≠ ((i : Int), g, sc)) (hkd : kindOf bs = 1) (hsl : (outS st (keyOf bs)).length ≠ slots) :
    CallsD Tryz.prog 143 #[.pointer (some ⟨be, 0, none⟩), .pointer (some ⟨bs_, 0, none⟩), .pointer (some ⟨bi, 0, none⟩), .pointer (some ⟨bn, 0, none⟩), .pointer (some ⟨ba, 0, none⟩)] u0 w fun e u' w' => u' = u0 ∧ e = .returned (.tuple #[]) ∧ StoM2 w' X B slots s xs (outS st (keyOf bs) ++ [(((i : Int), g, sc), bs)]) (addB bl i (keyOf bs)) u ∧ Kept (fun b => b < w.heap.size ∧ ¬ B.own b) w w' := by
  have HM0 := hI h
  have H2 := hI h2
  have H3 := hI h3
  have H4 := hI h4
  have H5 := hI h5
  have HE := hI hev
  have HX := hI hX
  have HK := hI hk
  have HBY := hI hb
  have HM := hI hm
  have HIL := hI hi
  have HSL := hI hsl
  have HINV := hI ((h.inv.out (us := keyOf bs)).put2 hat (fun p hp => hfr p (mem_out.1 hp).1) hkd (fun p hp => (mem_out.1 hp).2))
  have HFR := hI (show ∀ p, p ∈ outS st (keyOf bs) → p.1 ≠ ((i : Int), g, sc) from fun p hp => hfr p (mem_out.1 hp).1)
  have c1 : w.cell? ⟨be, 0, none⟩ = some (.int .i64 0) := h1.cell 0
  clear h h1 h2 h3 h4 h5 hev hX hk hb hm hi hsl hat hfr hkd
  go_enter_d Tryz.func143, Tryz.ntmps143
  go_upto_region 1 with fail
  clear c1
  refine Tillst.region (fun W => Below w.heap.size w W) [7] (by kernel_rfl) ((Below.refl _ _).drew) (fun hHeld => ?_)
  generalize w.drew = vd at *
  refine Tillst.takeG (i := 0) (oi := pd0) (v := ?_) rfl (by kernel_rfl) (by kernel_rfl) (by kernel_rfl) (by kernel_rfl) (by kernel_rfl) (fun _ _ _ h => h) (by rfl) ?_ hHeld ?_
  rotate_left
  · intro W hSW; have h9 : W.cell? ⟨bs_, 0, none⟩ = some (.pointer (some ⟨B.q, 0, none⟩)) := (H2.out.below hSW H2.out.lt).cell 0; clear hSW; unfold pd0; go_simp; with_reducible rfl
  simp only [pd0, Act.put, sA, sZ, sS]
  refine Tillst.takeG (i := 1) (oi := pd1) (v := ?_) rfl (by kernel_rfl) (by kernel_rfl) (by kernel_rfl) (by kernel_rfl) (by kernel_rfl) (fun _ _ _ h => h) (by rfl) ?_ hHeld ?_
  rotate_left
  · intro W hSW; (try dsimp only at hSW); unfold pd1; go_simp; with_reducible rfl
  simp only [pd1, Act.put, sA, sZ, sS]
  refine Tillst.takeG (i := 2) (oi := pd2) (v := ?_) rfl (by kernel_rfl) (by kernel_rfl) (by kernel_rfl) (by kernel_rfl) (by kernel_rfl) (fun _ _ _ h => h) (by rfl) ?_ hHeld ?_
  rotate_left
  · intro W hSW; (try dsimp only at hSW); unfold pd2; go_simp; with_reducible rfl
  simp only [pd2, Act.put, sA, sZ, sS]
  refine Tillst.takeG (i := 3) (oi := pd3) (v := shV B) rfl (by kernel_rfl) (by kernel_rfl) (by kernel_rfl) (by kernel_rfl) (by kernel_rfl) (fun _ _ _ h => h) (by rfl) ?_ hHeld ?_
  · intro W hSW; have h8 := (HM0.out.below hSW).cells.1; have h9 := (HM0.out.below hSW).cells.2.1; clear hSW; unfold pd3; go_simp
  simp only [pd3, Act.put, sA, sZ, sS]
  refine Tillst.takeG (i := 4) (oi := pd4) (v := ?_) rfl (by kernel_rfl) (by kernel_rfl) (by kernel_rfl) (by kernel_rfl) (by kernel_rfl) (fun _ _ _ h => h) (by rfl) ?_ hHeld ?_
  rotate_left
  · intro W hSW; (try dsimp only at hSW); unfold pd4; go_simp; with_reducible rfl
  simp only [pd4, Act.put, sA, sZ, sS]
  refine Tillst.takeG (i := 5) (oi := pd5) (v := ?_) rfl (by kernel_rfl) (by kernel_rfl) (by kernel_rfl) (by kernel_rfl) (by kernel_rfl) (fun _ _ _ h => h) (by rfl) ?_ hHeld ?_
  rotate_left
  · intro W hSW; have h9 : W.cell? ⟨bi, 0, none⟩ = some (.slice A m c) := (H3.out.below hSW H3.out.lt).cell 0; clear hSW; unfold pd5; go_simp; with_reducible rfl
  simp only [pd5, Act.put, sA, sZ, sS]
  refine Tillst.takeG (i := 6) (oi := pd6) (v := .agg ev) rfl (by kernel_rfl) (by kernel_rfl) (by kernel_rfl) (by kernel_rfl) (by kernel_rfl) (fun _ _ _ h => h) (by rfl) ?_ hHeld ?_
  · intro W hSW; have h9 := H4.out.below hSW H4.out.lt; rw [← Array.toArray_toList (xs := ev)] at h9 ⊢; refine row_runs (.tmp 3) 228 rfl bn rfl 228 ev.toList _ Tryz.underlying228 rfl ?_ h9; rw [size_entry, Array.length_toList, HE.out.size.1]
  simp only [pd6, Act.put, sA, sZ, sS]
  refine Tillst.one (i := 7) (o := pd7) (by kernel_rfl) rfl ?_
  intro K hK
  have hX0 := HM0.out.lt
  refine step_call 144 #[.tmp 10, .tmp 12, .tmp 13] #[212, 42, 228] rfl rfl Tryz.func144 rfl rfl [shV B, .slice A m c, .agg ev] rfl ((drop_s (HM0.out.below hHeld) HE.out ((HK.out.below hHeld hX0).more (fun b h => Nat.lt_of_lt_of_le (hX0 b h) hHeld.size)) HBY.out HM.out).mono ?_)
  rintro e w2 ⟨rfl, hm2, hk2⟩
  refine ⟨_, rfl, ?_⟩
  simp only [pd7, Act.put, sA, sZ, sS]
  have hkk := (Kept.of_below (S := fun b => b < w.heap.size ∧ b ≠ B.x) hHeld (fun b h => h.1)).trans hk2 (fun b h => ⟨Nat.lt_of_lt_of_le h.1 hHeld.size, h.2⟩)
  have HM2 := hI hm2
  have HKK := hI hkk
  clear hm2 hkk hk2 hX0
  refine hK.out _ _ (fun h => by cases h) (fun _ => ?_)
  clear hK K hHeld
  refine Tillst.done (by kernel_rfl) ?_ _
  have hxo : ∀ b, X b → b < w.heap.size ∧ b ≠ B.x := fun b hb => ⟨HM0.out.lt b hb, fun e => HM0.out.off B.x (.inr (.inl rfl)) (e ▸ hb)⟩
  have HK2 := hI (HK.out.kept HKK.out hxo)
  have HB2 := hI (H2.out.kept HKK.out (hxo _ HX.out.1))
  have HI2 := hI (H3.out.kept HKK.out (hxo _ HX.out.2.1))
  have HA2 := hI (H5.out.kept HKK.out (hxo _ HX.out.2.2))
  have hbs : w2.cell? ⟨bs_, 0, none⟩ = some (.pointer (some ⟨B.q, 0, none⟩)) := HB2.out.cell 0
  have hbi : w2.cell? ⟨bi, 0, none⟩ = some (.slice A m c) := HI2.out.cell 0
  have a0 : w2.cell? ⟨ba, 0, none⟩ = some (.int .i64 (i : Int)) := HA2.out.cell 0
  have a1 : w2.cell? ⟨ba, 1, none⟩ = some (.int .u64 g) := HA2.out.cell 1
  have a2 : w2.cell? ⟨ba, 2, none⟩ = some (.int .i64 sc) := HA2.out.cell 2
  have HEN := hI (enter_s (c := c) HM2.out HIL.out (HK2.out.more (fun b h => ⟨Nat.lt_of_lt_of_le (hxo b h).1 HKK.out.size, fun e => HM0.out.off b e h⟩)) HBY.out HM.out HINV.out HFR.out HSL.out)
  clear hxo
  go_wp2_with fail
  refine HEN.out.mono ?_
  rintro e w3 ⟨rfl, hm3, hk3⟩
  have HM3 := hI hm3
  have HK3 := hI ((HKK.out.mono (S := fun b => b < w.heap.size ∧ ¬ B.own b) (fun b h => ⟨h.1, fun e => h.2 (.inr (.inl e))⟩)).trans hk3 (fun b h => ⟨Nat.lt_of_lt_of_le h.1 HKK.out.size, h.2⟩))
  clear hm3 hk3 HEN hbs hbi a0 a1 a2
  go_wp2_with fail
  go_end0
  exact ⟨rfl, HM3.out, HK3.out⟩
theorem killD_ok {be bs_ bk bn : Nat} {u0 : FrameMode} {ev : Array Value} (h : StoM2 w X B slots s xs st bl u) (hev : EntV st us ev)
    (h1 : Blk w be 49 #[.int .i64 0]) (h2 : Blk w bs_ 105 #[.pointer (some ⟨B.q, 0, none⟩)]) (h3 : Blk w bk 42 #[.slice A m c]) (h4 : Blk w bn 228 ev)
    (hk : RowI .u8 w X A m us) (hb : Bytes us) (hm : m ≤ 1000000) :
    CallsD Tryz.prog 148 #[.pointer (some ⟨be, 0, none⟩), .pointer (some ⟨bs_, 0, none⟩), .pointer (some ⟨bk, 0, none⟩), .pointer (some ⟨bn, 0, none⟩)] u0 w fun e u' w' => u' = u0 ∧ e = .returned (.tuple #[]) ∧ StoM2 w' X B slots s xs (outS st us) bl u ∧ Kept (fun b => b < w.heap.size ∧ ¬ B.own b) w w' := by
  have HM0 := hI h
  have H2 := hI h2
  have H3 := hI h3
  have H4 := hI h4
  have HE := hI hev
  have HK := hI hk
  have HBY := hI hb
  have HM := hI hm
  have c1 : w.cell? ⟨be, 0, none⟩ = some (.int .i64 0) := h1.cell 0
  clear h h1 h2 h3 h4 hev hk hb hm
  go_enter_d Tryz.func148, Tryz.ntmps148
  go_upto_region 1 with fail
  clear c1
  refine Tillst.region (fun W => Below w.heap.size w W) [6] (by kernel_rfl) ((Below.refl _ _).drew) (fun hHeld => ?_)
  generalize w.drew = vd at *
  refine Tillst.takeG (i := 0) (oi := kd0) (v := ?_) rfl (by kernel_rfl) (by kernel_rfl) (by kernel_rfl) (by kernel_rfl) (by kernel_rfl) (fun _ _ _ h => h) (by rfl) ?_ hHeld ?_
  rotate_left
  · intro W hSW; have h9 : W.cell? ⟨bs_, 0, none⟩ = some (.pointer (some ⟨B.q, 0, none⟩)) := (H2.out.below hSW H2.out.lt).cell 0; clear hSW; unfold kd0; go_simp; with_reducible rfl
  simp only [kd0, Act.put, sA, sZ, sS]
  refine Tillst.takeG (i := 1) (oi := kd1) (v := ?_) rfl (by kernel_rfl) (by kernel_rfl) (by kernel_rfl) (by kernel_rfl) (by kernel_rfl) (fun _ _ _ h => h) (by rfl) ?_ hHeld ?_
  rotate_left
  · intro W hSW; (try dsimp only at hSW); unfold kd1; go_simp; with_reducible rfl
  simp only [kd1, Act.put, sA, sZ, sS]
  refine Tillst.takeG (i := 2) (oi := kd2) (v := ?_) rfl (by kernel_rfl) (by kernel_rfl) (by kernel_rfl) (by kernel_rfl) (by kernel_rfl) (fun _ _ _ h => h) (by rfl) ?_ hHeld ?_
  rotate_left
  · intro W hSW; (try dsimp only at hSW); unfold kd2; go_simp; with_reducible rfl
  simp only [kd2, Act.put, sA, sZ, sS]
  refine Tillst.takeG (i := 3) (oi := kd3) (v := shV B) rfl (by kernel_rfl) (by kernel_rfl) (by kernel_rfl) (by kernel_rfl) (by kernel_rfl) (fun _ _ _ h => h) (by rfl) ?_ hHeld ?_
  · intro W hSW; have h8 := (HM0.out.below hSW).cells.1; have h9 := (HM0.out.below hSW).cells.2.1; clear hSW; unfold kd3; go_simp
  simp only [kd3, Act.put, sA, sZ, sS]
  refine Tillst.takeG (i := 4) (oi := kd4) (v := ?_) rfl (by kernel_rfl) (by kernel_rfl) (by kernel_rfl) (by kernel_rfl) (by kernel_rfl) (fun _ _ _ h => h) (by rfl) ?_ hHeld ?_
  rotate_left
  · intro W hSW; have h9 : W.cell? ⟨bk, 0, none⟩ = some (.slice A m c) := (H3.out.below hSW H3.out.lt).cell 0; clear hSW; unfold kd4; go_simp; with_reducible rfl
  simp only [kd4, Act.put, sA, sZ, sS]
  refine Tillst.takeG (i := 5) (oi := kd5) (v := .agg ev) rfl (by kernel_rfl) (by kernel_rfl) (by kernel_rfl) (by kernel_rfl) (by kernel_rfl) (fun _ _ _ h => h) (by rfl) ?_ hHeld ?_
  · intro W hSW; have h9 := H4.out.below hSW H4.out.lt; rw [← Array.toArray_toList (xs := ev)] at h9 ⊢; refine row_runs (.tmp 3) 228 rfl bn rfl 228 ev.toList _ Tryz.underlying228 rfl ?_ h9; rw [size_entry, Array.length_toList, HE.out.size.1]
  simp only [kd5, Act.put, sA, sZ, sS]
  refine Tillst.one (i := 6) (o := kd6) (by kernel_rfl) rfl ?_
  intro K hK
  have hX0 := HM0.out.lt
  refine step_call 144 #[.tmp 9, .tmp 10, .tmp 11] #[212, 42, 228] rfl rfl Tryz.func144 rfl rfl [shV B, .slice A m c, .agg ev] rfl ((drop_s (HM0.out.below hHeld) HE.out ((HK.out.below hHeld hX0).more (fun b h => Nat.lt_of_lt_of_le (hX0 b h) hHeld.size)) HBY.out HM.out).mono ?_)
  rintro e w2 ⟨rfl, hm2, hk2⟩
  refine ⟨_, rfl, ?_⟩
  simp only [kd6, Act.put, sA, sZ, sS]
  have hkk := (Kept.of_below (S := fun b => b < w.heap.size ∧ b ≠ B.x) hHeld (fun b h => h.1)).trans hk2 (fun b h => ⟨Nat.lt_of_lt_of_le h.1 hHeld.size, h.2⟩)
  have HM2 := hI hm2
  have HKK := hI hkk
  clear hm2 hkk hk2 hX0
  refine hK.out _ _ (fun h => by cases h) (fun _ => ?_)
  clear hK K hHeld
  refine Tillst.done (by kernel_rfl) ?_ _
  go_wp2_with fail
  go_end0
  exact ⟨rfl, HM2.out, HKK.out.mono (S := fun b => b < w.heap.size ∧ ¬ B.own b) (fun b h => ⟨h.1, fun e => h.2 (.inr (.inl e))⟩)⟩
theorem putD_no {be : Nat} {er : Int} {u0 : FrameMode} (a1 a2 a3 a4 : Value) (h1 : Blk w be 49 #[.int .i64 er]) (hne : (er == 0) = false) :
    CallsD Tryz.prog 143 #[.pointer (some ⟨be, 0, none⟩), a1, a2, a3, a4] u0 w fun e u' w' => u' = u0 ∧ e = .returned (.tuple #[]) ∧ w' = w := by
  have c1 : w.cell? ⟨be, 0, none⟩ = some (.int .i64 er) := h1.cell 0
  clear h1
  go_enter_d Tryz.func143, Tryz.ntmps143
  go_wp2_with fail
  go_end0
  exact ⟨rfl, rfl⟩
theorem killD_no {be : Nat} {er : Int} {u0 : FrameMode} (a1 a2 a3 : Value) (h1 : Blk w be 49 #[.int .i64 er]) (hne : (er == 0) = false) :
    CallsD Tryz.prog 148 #[.pointer (some ⟨be, 0, none⟩), a1, a2, a3] u0 w fun e u' w' => u' = u0 ∧ e = .returned (.tuple #[]) ∧ w' = w := by
  have c1 : w.cell? ⟨be, 0, none⟩ = some (.int .i64 er) := h1.cell 0
  clear h1
  go_enter_d Tryz.func148, Tryz.ntmps148
  go_wp2_with fail
  go_end0
  exact ⟨rfl, rfl⟩
theorem out_lt (h : hasS st us ≠ none) : (outS st us).length < st.length := by
  obtain ⟨q, hq⟩ : ∃ q, hasS st us = some q := Option.ne_none_iff_exists'.1 h
  obtain ⟨h1, h2⟩ := has_some hq
  unfold outS
  refine List.length_filter_lt_length_iff_exists.2 ⟨q, h1, by simp [h2]⟩
end
end
end Go.Proofs.YthmimemenegokaaGreat
