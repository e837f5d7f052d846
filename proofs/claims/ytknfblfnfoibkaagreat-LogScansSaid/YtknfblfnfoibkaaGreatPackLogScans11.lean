/- Texts of LogScans, packed. -/
import Derived.Test.YtknfblfnfoibkaaGreatPackLogScans10
set_option linter.unusedVariables false
set_option linter.unusedSimpArgs false
set_option maxRecDepth 100000
set_option maxHeartbeats 16000000
namespace Go.Proofs.YtknfblfnfoibkaaGreat
section
open Go.RowKit
attribute [local go_sem] Oper.semAt_some
def RJoinTold9 (xss : List (List Int)) (w : World) (e : Ending) (w' : World) : Prop :=
 ∃ A c, e = .returned (.tuple #[.slice A (meants xss).length c, .bool true]) ∧ RowI .u8 w' (fun b => w.heap.size ≤ b ∧ b < w'.heap.size) A (meants xss).length (meants xss) ∧ Below w.heap.size w w' ∧ (meants xss).length ≤ c
def RJoinAny9 (xss : List (List Int)) (w : World) (e : Ending) (w' : World) : Prop := (1 ≤ xss.length ∧ Chain xss → RJoinTold9 xss w e w') ∧ (¬ (1 ≤ xss.length ∧ Chain xss) → RJoinBad w e w')
theorem rjoin_no9 {xss : List (List Int)} {w : World} {e : Ending} {w' : World} (h : ¬ (1 ≤ xss.length ∧ Chain xss)) (hb : RJoinBad w e w') : RJoinAny9 xss w e w' := ⟨fun k => absurd k h, fun _ => hb⟩
structure RJoining9 (xss : List (List Int)) (w wr : World) (o : Value) (k : Nat) : Prop where
 own : ∃ A c, o = .slice A (meants (xss.take k)).length c ∧ RowI .u8 wr (fun b => w.heap.size + 1 ≤ b ∧ b < wr.heap.size) A (meants (xss.take k)).length (meants (xss.take k)) ∧ (meants (xss.take k)).length ≤ c
 st : Blk wr w.heap.size 189 (firstOf xss k)
 bel : Below w.heap.size w wr
 chain : ∀ i, i < k → RefAt xss i
theorem rjoin_any9 (A : Option Addr) (n c : Nat) (xss : List (List Int)) (S : Nat → Prop) (w : World) (hx : RowK w S A n xss) (hS : ∀ b, S b → b < w.heap.size) (hs : Secs xss) (hby : ∀ i, Bytes (xss.getD i [])) (hn : n ≤ 1000000) :
 Calls Tryz.prog 174 #[.slice A n c] w (RJoinAny9 xss w) := by
 have HX := hI hx
 have HL := hI hx.1
 have HS := hI hs
 have HBY := hI hby
 clear hx hs hby
 go_enter Tryz.func174, Tryz.ntmps174
 go_wp2_with fail
 have HJ0 := hI (show RJoining9 xss w (w.alloc (.cells #[.int .u64 0, .int .u32 0, .int .i64 0] 189)) (.slice none 0 0) 0 from
  ⟨⟨none, 0, rfl, RowG.nil _ _ _ _ _, nR _⟩, Blk.new w _ _, (Below.refl _ _).alloc (nR _) _, fun i h => by omega⟩)
 go_loopw [4, 6] (fun o i wr => ∃ k : Nat, k ≤ n ∧ i = .int .i64 k ∧ RJoining9 xss w wr o k) (fun _ i _ => n - (intOf i).toNat)
 case atStart => exact ⟨0, by omega, rfl, HJ0.out⟩
 case round =>
  obtain ⟨k, hk, rfl, hj⟩ := hrel
  by_cases hlt : k < n
  ·obtain ⟨b, off, rfl, hb, hc⟩ := (HX.out.below hj.bel hS).2 (by omega)
   have hr := hc k hlt
   have hxl := HS.out.get k (by have := HL.out; omega)
   have hxb := HBY.out k
   have hbw := hS b hb
   obtain ⟨⟨Ao, co, rfl, hro, hcpo⟩, hst0, hbel0, hch0⟩ := hj
   have HCPO := hI hcpo
   clear hcpo
   have HRO := hI hro
   have HFI := hI hst0
   have HBE := hI hbel0
   have HCH := hI hch0
   obtain ⟨xs, hxs⟩ : ∃ xs, xs = xss.getD k [] := ⟨_, rfl⟩
   rw [← hxs] at hr hxl hxb
   have HXS := hI hxs
   have HR := hI hr
   have HXL := hI hxl
   have HXB := hI hxb
   have hk1 : (k : Int) < n := by omega
   clear hc hxs hr hxl hxb hro hst0 hbel0 hch0
   go_wp2_with (refine wpList_load_blk (.tmp 20) rfl rfl b (off + k * 64) rfl xs HXL.out HR.out ?_)
   refine (rread_any_s5 xs wr HXL.out HXB.out).mono ?_
   rintro e w1 ⟨hyes, hno1⟩
   by_cases hst : stamped xs = true
   case neg =>
    have hst : stamped xs = false := by simpa using hst
    obtain ⟨rfl, hb1⟩ := hno1 hst
    have hno := hI (not_ref HS.out HBY.out (k := k) (by have := HL.out; omega) (fun h => by have h := h.1; rw [← HXS.out, hst] at h; cases h))
    have HB1 := hI (HBE.out.trans (hb1.mono HBE.out.size))
    have hf1 : Blk (w1.alloc (.cells #[.int .u64 0, .int .u32 0, .int .i64 0] 189)) w.heap.size 189 (firstOf xss k) := (HFI.out.below hb1 HFI.out.lt).alloc _
    obtain ⟨a0, a1, a2, ha⟩ : ∃ a0 a1 a2 : Value, firstOf xss k = #[a0, a1, a2] := by unfold firstOf; split <;> exact ⟨_, _, _, rfl⟩
    rw [ha] at hf1
    have q0 := hf1.cell 0
    have q1 := hf1.cell 1
    have q2 := hf1.cell 2
    have y0 := hf1.frozen 0
    have y1 := hf1.frozen 1
    have y2 := hf1.frozen 2
    simp only [List.getElem?_toArray, List.getElem?_cons_zero, List.getElem?_cons_succ] at q0 q1 q2
    clear hst hb1 hno1 hyes hf1 ha
    by_cases hk0 : k = 0
    ·subst hk0
     go_wp2_with fail
     go_ret2
     exact rjoin_no9 hno.out ⟨⟨_, _, _, rfl⟩, below_set3 (HB1.out.alloc HB1.out.size _) (nR _) _ _ _⟩
    ·have hk2 : ((k : Int) == 0) = false := by simp; omega
     have HK0 := hI hk0
     clear hk0
     go_wp2_with fail
     go_ret2
     exact rjoin_no9 hno.out ⟨⟨_, _, _, rfl⟩, HB1.out.alloc HB1.out.size _⟩
   obtain ⟨A2, c2, rfl, hr2, hb1⟩ := hyes hst
   have HST := hI hst
   have HR1 := hI hr2
   have HB1 := hI hb1
   obtain ⟨w2, hw2⟩ : ∃ w2, w2 = w1.alloc (.cells #[.int .u64 (genOf xs), .int .u32 (posOf xs), .int .i64 (fillOf xs)] 189) := ⟨_, rfl⟩
   have hb2 : Below w1.heap.size w1 w2 := by rw [hw2]; exact (Below.refl _ _).alloc (nR _) _
   have HS2 := hI (show Blk w2 w1.heap.size 189 #[.int .u64 (genOf xs), .int .u32 (posOf xs), .int .i64 (fillOf xs)] by rw [hw2]; exact Blk.new w1 _ _)
   have HB2 := hI (hb1.trans (hb2.mono hb1.size))
   have HR2 := hI (hr2.below hb2 (fun b h => h.2))
   have HW2 := hI hw2
   have hpb := pos_bounds HXB.out HXL.out
   have hfl := fill_lt HXB.out
   clear hst hr2 hb1 hb2 hw2 hno1 hyes
   by_cases hk0 : k = 0
   ·subst hk0
    have hfs2 : Blk w2 w.heap.size 189 (firstOf xss 0) := HFI.out.below HB2.out HFI.out.lt
    unfold firstOf at hfs2
    rw [if_pos rfl] at hfs2
    have q0 := hfs2.cell 0
    have q1 := hfs2.cell 1
    have q2 := hfs2.cell 2
    have y0 := hfs2.frozen 0
    have y1 := hfs2.frozen 1
    have y2 := hfs2.frozen 2
    have p0 := HS2.out.cell 0
    have p1 := HS2.out.cell 1
    have p2 := HS2.out.cell 2
    simp only [List.getElem?_toArray, List.getElem?_cons_zero, List.getElem?_cons_succ] at q0 q1 q2 p0 p1 p2
    have hne : w1.heap.size ≠ w.heap.size := by have := HFI.out.lt; have := HB1.out.size; omega
    obtain ⟨w3, hw3⟩ : ∃ w3, w3 = ((w2.setCell ⟨w.heap.size, 0, none⟩ (.int .u64 (genOf xs))).setCell ⟨w.heap.size, 1, none⟩ (.int .u32 (posOf xs))).setCell ⟨w.heap.size, 2, none⟩ (.int .i64 (fillOf xs)) := ⟨_, rfl⟩
    have HF3 := hI (show Blk w3 w.heap.size 189 #[.int .u64 (genOf xs), .int .u32 (posOf xs), .int .i64 (fillOf xs)] by rw [hw3]; exact hfs2.set3 _ _ _)
    have hk3 : Kept (fun b => b ≠ w.heap.size) w2 w3 := by rw [hw3]; exact (Kept.refl _ _).set3 (fun h => h rfl) _ _ _
    have HS3 := hI (HS2.out.kept hk3 hne)
    have HR3 := hI ((HR2.out.kept hk3 (fun b h => by have := h.1; have := HFI.out.lt; omega)).more (T := fun b => b < w3.heap.size ∧ w.heap.size + 1 ≤ b) (fun b h => ⟨nL (nL h.2 (by rw [HW2.out]; simp)) hk3.size, by have := h.1; have := HFI.out.lt; omega⟩))
    have HB3 := hI (show Below w.heap.size w w3 by rw [hw3]; exact below_set3 (HBE.out.trans (HB2.out.mono HBE.out.size)) (nR _) _ _ _)
    have HRO3 := hI (((HRO.out.below HB2.out (fun b h => h.2)).kept hk3 (fun b h => by have := h.1; omega)).more (T := fun b => b < w3.heap.size ∧ w.heap.size + 1 ≤ b) (fun b h => ⟨nL (nL h.2 HB2.out.size) hk3.size, h.1⟩))
    have HW3 := hI hw3
    clear hw3 hk3 hfs2 hne
    have HFIRST := hI (show #[Value.int .u64 (genOf xs), .int .u32 (posOf xs), .int .i64 (fillOf xs)] = firstOf xss (0 + 1) by unfold firstOf; rw [if_neg (by omega), ← HXS.out])
    have HSZ3 := hI (show w.heap.size + 1 ≤ w3.heap.size from HF3.out.lt)
    have s0 := HS3.out.cell 0
    have s1 := HS3.out.cell 1
    have s2 := HS3.out.cell 2
    have f0 := HF3.out.cell 0
    have f1 := HF3.out.cell 1
    have f2 := HF3.out.cell 2
    simp only [List.getElem?_toArray, List.getElem?_cons_zero, List.getElem?_cons_succ] at s0 s1 s2 f0 f1 f2
    by_cases c3 : 0 + 1 < n
    case neg =>
     have HREF := hI (show RefAt xss 0 from ⟨by rw [← HXS.out]; exact HST.out, rfl, by simp, fun h => absurd h (by have := HL.out; omega)⟩)
     have e3 : ¬ (0 : Int) + 1 < n := by omega
     have hsn := meants_snoc xss 0 (by have := HL.out; omega)
     rw [← HXS.out] at hsn
     have hlo := meants_length xss 0 (by have := HL.out; omega)
     have hml := meant_le xs
     have HSN := hI hsn
     clear hsn
     go_wp2_with (first | rw [← HW2.out] | rw [← HW3.out])
     refine (both_any Ao A2 (meants (xss.take 0)).length co (meantOf xs).length c2 (meants (xss.take 0)) (meantOf xs) _ w3 HRO3.out HR3.out (fun b h => h.1) (by omega)).mono ?_
     rintro e w4 ⟨A4, c4, rfl, _, hcp4, hr4, hb4⟩
     rw [← HSN.out] at hr4 hcp4
     have HCP4 := hI hcp4
     clear hcp4
     rw [← HSN.out]
     have HR4 := hI hr4
     have HB4 := hI hb4
     clear hr4 hb4 s0 s1 s2 f0 f1 f2
     go_wp2_with fail
     go_roundw
     case rel => exact ⟨0 + 1, by omega, by go_num, ⟨⟨A4, c4, rfl, HR4.out.more (fun b h => ⟨nT HSZ3.out h.1, h.2⟩), HCP4.out⟩, HFIRST.out ▸ (HF3.out.below HB4.out HF3.out.lt), HB3.out.trans (HB4.out.mono HB3.out.size), fun i hi => by
      by_cases e : i = 0
      ·subst e; exact HREF.out
      ·exact HCH.out i (by omega)⟩⟩
     case measure => (simp [intOf] <;> omega)
    by_cases c4 : fillOf xs < 48
    ·have hno := hI (not_ref HS.out HBY.out (k := 0) (by have := HL.out; omega) (fun h => by have h := h.2.2.2 (by have := HL.out; omega); rw [← HXS.out] at h; omega))
     have e3 : (0 : Int) + 1 < n := by omega
     have e4 : (fillOf xs : Int) < 48 := by omega
     go_wp2_with (first | rw [← HW2.out] | rw [← HW3.out])
     go_ret2
     exact rjoin_no9 hno.out ⟨⟨_, _, _, rfl⟩, HB3.out⟩
    ·have HREF := hI (show RefAt xss 0 from ⟨by rw [← HXS.out]; exact HST.out, rfl, by simp, fun _ => by rw [← HXS.out]; omega⟩)
     have e3 : (0 : Int) + 1 < n := by omega
     have e4 : ¬ (fillOf xs : Int) < 48 := by omega
     have hsn := meants_snoc xss 0 (by have := HL.out; omega)
     rw [← HXS.out] at hsn
     have hlo := meants_length xss 0 (by have := HL.out; omega)
     have hml := meant_le xs
     have HSN := hI hsn
     clear hsn
     go_wp2_with (first | rw [← HW2.out] | rw [← HW3.out])
     refine (both_any Ao A2 (meants (xss.take 0)).length co (meantOf xs).length c2 (meants (xss.take 0)) (meantOf xs) _ w3 HRO3.out HR3.out (fun b h => h.1) (by omega)).mono ?_
     rintro e w4 ⟨A4, c4, rfl, _, hcp4, hr4, hb4⟩
     rw [← HSN.out] at hr4 hcp4
     have HCP4 := hI hcp4
     clear hcp4
     rw [← HSN.out]
     have HR4 := hI hr4
     have HB4 := hI hb4
     clear hr4 hb4 s0 s1 s2 f0 f1 f2
     go_wp2_with fail
     go_roundw
     case rel => exact ⟨0 + 1, by omega, by go_num, ⟨⟨A4, c4, rfl, HR4.out.more (fun b h => ⟨nT HSZ3.out h.1, h.2⟩), HCP4.out⟩, HFIRST.out ▸ (HF3.out.below HB4.out HF3.out.lt), HB3.out.trans (HB4.out.mono HB3.out.size), fun i hi => by
      by_cases e : i = 0
      ·subst e; exact HREF.out
      ·exact HCH.out i (by omega)⟩⟩
     case measure => (simp [intOf] <;> omega)
   ·have HK0 := hI hk0
    have hk2 : ((k : Int) == 0) = false := by simp; omega
    have hfs := HFI.out.below HB2.out HFI.out.lt
    unfold firstOf at hfs
    rw [if_neg hk0] at hfs
    obtain ⟨fs, hfs0⟩ : ∃ fs, fs = xss.getD 0 [] := ⟨_, rfl⟩
    rw [← hfs0] at hfs
    have HFS := hI hfs0
    have hfl0 := HS.out.get 0 (by have := HL.out; omega)
    have hfb0 := HBY.out 0
    rw [← hfs0] at hfl0 hfb0
    have hpf := pos_bounds hfb0 hfl0
    obtain ⟨w3, hw3⟩ : ∃ w3, w3 = w2 := ⟨_, rfl⟩
    have HF3 := hI (show Blk w3 w.heap.size 189 #[.int .u64 (genOf fs), .int .u32 (posOf fs), .int .i64 (fillOf fs)] by rw [hw3]; exact hfs)
    have HS3 := hI (show Blk w3 w1.heap.size 189 #[.int .u64 (genOf xs), .int .u32 (posOf xs), .int .i64 (fillOf xs)] by rw [hw3]; exact HS2.out)
    have HR3 := hI (show RowI .u8 w3 (fun b => b < w3.heap.size ∧ w.heap.size + 1 ≤ b) A2 (meantOf xs).length (meantOf xs) by rw [hw3]; exact HR2.out.more (fun b h => ⟨nL h.2 (by rw [HW2.out]; simp), by have := h.1; have := HFI.out.lt; omega⟩))
    have HB3 := hI (show Below w.heap.size w w3 by rw [hw3]; exact HBE.out.trans (HB2.out.mono HBE.out.size))
    have HRO3 := hI (show RowI .u8 w3 (fun b => b < w3.heap.size ∧ w.heap.size + 1 ≤ b) Ao (meants (xss.take k)).length (meants (xss.take k)) by rw [hw3]; exact (HRO.out.below HB2.out (fun b h => h.2)).more (fun b h => ⟨nL h.2 HB2.out.size, h.1⟩))
    have HFIRST := hI (show #[Value.int .u64 (genOf fs), .int .u32 (posOf fs), .int .i64 (fillOf fs)] = firstOf xss (k + 1) by unfold firstOf; rw [if_neg (by omega), ← HFS.out])
    have HSZ3 := hI (show w.heap.size + 1 ≤ w3.heap.size from HF3.out.lt)
    have hkn : (k : Int) ≤ 1000000 := by omega
    rw [← hw3] at HW2
    clear hfs hfs0 hfl0 hfb0 hk0
    have s0 := HS3.out.cell 0
    have s1 := HS3.out.cell 1
    have f0 := HF3.out.cell 0
    have f1 := HF3.out.cell 1
    simp only [List.getElem?_toArray, List.getElem?_cons_zero, List.getElem?_cons_succ] at s0 s1 f0 f1
    clear hw3
    by_cases c1 : genOf xs = genOf fs
    case neg =>
     have hno := hI (not_ref HS.out HBY.out (k := k) (by have := HL.out; omega) (fun h => by have h := h.2.1; rw [← HXS.out, ← HFS.out] at h; exact c1 h))
     have e1 : (genOf xs != genOf fs) = true := by simpa using c1
     clear c1
     go_wp2_with (rw [← HW2.out])
     go_ret2
     exact rjoin_no9 hno.out ⟨⟨_, _, _, rfl⟩, HB3.out⟩
    have e1 : (genOf xs != genOf fs) = false := by simpa using c1
    have HC1 := hI c1
    clear c1
    by_cases c2' : posOf xs = posOf fs + k
    case neg =>
     have hno := hI (not_ref HS.out HBY.out (k := k) (by have := HL.out; omega) (fun h => by have h := h.2.2.1; rw [← HXS.out, ← HFS.out] at h; exact c2' h))
     have e2 : (posOf xs != posOf fs + (k : Int)) = true := by simpa using c2'
     clear c2'
     go_wp2_with (rw [← HW2.out])
     go_ret2
     exact rjoin_no9 hno.out ⟨⟨_, _, _, rfl⟩, HB3.out⟩
    have e2 : (posOf xs != posOf fs + (k : Int)) = false := by simpa using c2'
    have HC2 := hI c2'
    clear c2' s0 s1 f0 f1
    have s0 := HS3.out.cell 0
    have s1 := HS3.out.cell 1
    have s2 := HS3.out.cell 2
    have f0 := HF3.out.cell 0
    have f1 := HF3.out.cell 1
    have f2 := HF3.out.cell 2
    simp only [List.getElem?_toArray, List.getElem?_cons_zero, List.getElem?_cons_succ] at s0 s1 s2 f0 f1 f2
    by_cases c3 : k + 1 < n
    case neg =>
     have HREF := hI (show RefAt xss k from ⟨by rw [← HXS.out]; exact HST.out, by rw [← HXS.out, ← HFS.out]; exact HC1.out, by rw [← HXS.out, ← HFS.out]; exact HC2.out, fun h => absurd h (by have := HL.out; omega)⟩)
     have e3 : ¬ (k : Int) + 1 < n := by omega
     have hsn := meants_snoc xss k (by have := HL.out; omega)
     rw [← HXS.out] at hsn
     have hlo := meants_length xss k (by have := HL.out; omega)
     have hml := meant_le xs
     have HSN := hI hsn
     clear hsn
     go_wp2_with (first | rw [← HW2.out] )
     refine (both_any Ao A2 (meants (xss.take k)).length co (meantOf xs).length c2 (meants (xss.take k)) (meantOf xs) _ w3 HRO3.out HR3.out (fun b h => h.1) (by omega)).mono ?_
     rintro e w4 ⟨A4, c4, rfl, _, hcp4, hr4, hb4⟩
     rw [← HSN.out] at hr4 hcp4
     have HCP4 := hI hcp4
     clear hcp4
     rw [← HSN.out]
     have HR4 := hI hr4
     have HB4 := hI hb4
     clear hr4 hb4 s0 s1 s2 f0 f1 f2
     go_wp2_with fail
     go_roundw
     case rel => exact ⟨k + 1, by omega, by go_num, ⟨⟨A4, c4, rfl, HR4.out.more (fun b h => ⟨nT HSZ3.out h.1, h.2⟩), HCP4.out⟩, HFIRST.out ▸ (HF3.out.below HB4.out HF3.out.lt), HB3.out.trans (HB4.out.mono HB3.out.size), fun i hi => by
      by_cases e : i = k
      ·subst e; exact HREF.out
      ·exact HCH.out i (by omega)⟩⟩
     case measure => (simp [intOf] <;> omega)
    by_cases c4 : fillOf xs < 48
    ·have hno := hI (not_ref HS.out HBY.out (k := k) (by have := HL.out; omega) (fun h => by have h := h.2.2.2 (by have := HL.out; omega); rw [← HXS.out] at h; omega))
     have e3 : (k : Int) + 1 < n := by omega
     have e4 : (fillOf xs : Int) < 48 := by omega
     go_wp2_with (first | rw [← HW2.out] )
     go_ret2
     exact rjoin_no9 hno.out ⟨⟨_, _, _, rfl⟩, HB3.out⟩
    ·have HREF := hI (show RefAt xss k from ⟨by rw [← HXS.out]; exact HST.out, by rw [← HXS.out, ← HFS.out]; exact HC1.out, by rw [← HXS.out, ← HFS.out]; exact HC2.out, fun _ => by rw [← HXS.out]; omega⟩)
     have e3 : (k : Int) + 1 < n := by omega
     have e4 : ¬ (fillOf xs : Int) < 48 := by omega
     have hsn := meants_snoc xss k (by have := HL.out; omega)
     rw [← HXS.out] at hsn
     have hlo := meants_length xss k (by have := HL.out; omega)
     have hml := meant_le xs
     have HSN := hI hsn
     clear hsn
     go_wp2_with (first | rw [← HW2.out] )
     refine (both_any Ao A2 (meants (xss.take k)).length co (meantOf xs).length c2 (meants (xss.take k)) (meantOf xs) _ w3 HRO3.out HR3.out (fun b h => h.1) (by omega)).mono ?_
     rintro e w4 ⟨A4, c4, rfl, _, hcp4, hr4, hb4⟩
     rw [← HSN.out] at hr4 hcp4
     have HCP4 := hI hcp4
     clear hcp4
     rw [← HSN.out]
     have HR4 := hI hr4
     have HB4 := hI hb4
     clear hr4 hb4 s0 s1 s2 f0 f1 f2
     go_wp2_with fail
     go_roundw
     case rel => exact ⟨k + 1, by omega, by go_num, ⟨⟨A4, c4, rfl, HR4.out.more (fun b h => ⟨nT HSZ3.out h.1, h.2⟩), HCP4.out⟩, HFIRST.out ▸ (HF3.out.below HB4.out HF3.out.lt), HB3.out.trans (HB4.out.mono HB3.out.size), fun i hi => by
      by_cases e : i = k
      ·subst e; exact HREF.out
      ·exact HCH.out i (by omega)⟩⟩
     case measure => (simp [intOf] <;> omega)
  ·obtain rfl : k = n := by omega
   obtain ⟨⟨Ao, co, rfl, hro, hcpo⟩, hst0, hbel0, hch0⟩ := hj
   have HCPO := hI hcpo
   clear hcpo
   have hmt : meants (xss.take k) = meants xss := by rw [List.take_of_length_le (by have := HL.out; omega)]
   rw [hmt] at hro
   have hcq := HCPO.out
   rw [hmt] at hcq
   have HCPQ := hI hcq
   clear hcq
   rw [hmt]
   have HRO := hI hro
   have HBE := hI hbel0
   have hch : Chain xss := (chain_ref HS.out HBY.out).2 (fun i hi => hch0 i (by have := HL.out; omega))
   have HCH := hI hch
   clear hro hst0 hbel0 hch0 hmt hch
   by_cases h0 : k = 0
   ·subst h0
    have hno := hI (show ¬ (1 ≤ xss.length ∧ Chain xss) from fun h => by have := HL.out; have := h.1; omega)
    go_wp2
    go_ret2
    exact rjoin_no9 hno.out ⟨⟨_, _, _, rfl⟩, HBE.out⟩
   ·have h1 : (0 : Int) < k := by omega
    have h1n : 0 < k := by omega
    clear h0
    go_wp2
    go_ret2
    exact ⟨fun _ => ⟨_, _, rfl, HRO.out.more (fun b h => ⟨by omega, h.2⟩), HBE.out, HCPQ.out⟩, fun h => absurd ⟨by have := HL.out; omega, HCH.out⟩ h⟩
end
section
open Go.RowKit
attribute [local go_sem] Oper.semAt_some
def RReadTold9 (xs : List Int) (w : World) (e : Ending) (w' : World) : Prop :=
 ∃ A c, e = .returned (.tuple #[.agg #[.int .u64 (genOf xs), .int .u32 (posOf xs), .int .i64 (fillOf xs)], .slice A (meantOf xs).length c, .bool true]) ∧
  RowI .u8 w' (fun b => w.heap.size ≤ b ∧ b < w'.heap.size) A (meantOf xs).length (meantOf xs) ∧ Below w.heap.size w w' ∧ (meantOf xs).length ≤ c
def RReadAny9 (xs : List Int) (w : World) (e : Ending) (w' : World) : Prop :=
 (stamped xs = true → RReadTold9 xs w e w') ∧ (stamped xs = false → e = .returned (.tuple #[.agg #[.int .u64 0, .int .u32 0, .int .i64 0], .slice none 0 0, .bool false]) ∧ Below w.heap.size w w')
theorem rread_no9 {xs : List Int} (hl : xs.length = 64) (hb : Bytes xs) (h : ¬ Right xs) {w w' : World} (hbel : Below w.heap.size w w') : RReadAny9 xs w (.returned (.tuple #[.agg #[.int .u64 0, .int .u32 0, .int .i64 0], .slice none 0 0, .bool false])) w' :=
 ⟨fun hs => absurd ((stamped_iff xs hl hb).1 hs) h, fun _ => ⟨rfl, hbel⟩⟩
theorem rread_any9 (xs : List Int) (w : World) (hl : xs.length = 64) (hb : Bytes xs) :
 Calls Tryz.prog 111 #[.agg (cells8 xs)] w (RReadAny9 xs w) := by
 have hgb := gen_bounds hb hl
 have hpb := pos_bounds hb hl
 have hfe := fill_eq hb
 have hfl := fill_lt hb
 have HBY := hI hb
 have HL := hI hl
 have HFE := hI hfe
 have HH := hI (Half0.new xs w hl)
 have hpu : IntKind.u32.wrap (posOf xs) = posOf xs := by rw [IntKind.wrap_u32]; omega
 have hfu : IntKind.i64.wrap (fillOf xs : Int) = (fillOf xs : Int) := by rw [IntKind.wrap_i64]; omega
 have HPU := hI hpu
 have HFU := hI hfu
 have hp4 : numOf ((xs.drop 8).take 4) = posOf xs := rfl
 have HP4 := hI hp4
 clear hb hl hpb hfe hpu hfu hp4
 go_enter Tryz.func111, Tryz.ntmps111
 go_upto_region 1 with fail
 generalize hw1 : (w.alloc _).alloc _ = w1 at *
 clear hw1
 go_cut [5] (fun s wx => Half1 xs w wx s)
 case first =>
  go_region_held3 (fun W => Half0 xs w W) (first | exact HH.out | exact HH.out.drew | exact (HH.out.alloc _).drew | exact HH.out.drew.alloc _)
   ((go_at_call 168; refine (num_any _ _ _ _ (fun _ => True) _ (by first | with_reducible exact Half0.r8 (by assumption) | with_reducible exact Half0.r4 (by assumption) | with_reducible exact Half0.r2 (by assumption)) (by first | exact bytes_part HBY.out 0 8 | exact bytes_part HBY.out 8 4 | exact bytes_part HBY.out 12 2) (by omega)).mono ?_; (first | rw [HFE.out] | rw [HP4.out] | skip); rintro e w' ⟨rfl, rfl⟩))
  all_goals
   rw [HPU.out, HFU.out]
   go_wp2_with fail
   go_meet
   exact ⟨w1.heap.size, rfl, HH.out.zero.lt, Blk.new w1 _ _, (HH.out.alloc _).drew⟩
 case rest =>
  obtain ⟨g, rfl, hgl, hst, hh⟩ := hcut
  have c0 := hst.cell 0
  have c2 := hst.cell 2
  have c14 := hh.arr.cell (i := 14) (by rw [HL.out]; omega) 0
  have c15 := hh.arr.cell (i := 15) (by rw [HL.out]; omega) 0
  have z0 := hh.zero.cell 0
  have z1 := hh.zero.cell 1
  have z2 := hh.zero.cell 2
  have y0 := hh.zero.frozen 0
  have y1 := hh.zero.frozen 1
  have y2 := hh.zero.frozen 2
  simp only [List.getElem?_toArray, List.getElem?_cons_zero, List.getElem?_cons_succ] at c0 c2 z0 z1 z2
  have HST := hI hst
  have HC := hI hh
  have HGL := hI hgl
  generalize h14 : xs.getD 14 0 = v14 at *
  generalize h15 : xs.getD 15 0 = v15 at *
  have H14 := hI h14
  have H15 := hI h15
  clear hst hh hgl h14 h15
  by_cases d0 : genOf xs = 0
  ·have hno := hI (show ¬ Right xs from fun h => by have := h.1; omega)
   have e0 : (genOf xs == 0) = true := by simpa using d0
   have HD := hI d0
   clear d0
   go_wp2_with (with_reducible refine halt_end ?_)
   exact Halt.ret (results_row3 (p := 2) (u := 3) (v := 4) rfl _ _ (w.heap.size + 1) 189 _ _ rfl (HC.out.zero.set3 _ _ _) Tryz.underlying189 rfl size_stamp) rfl (rread_no9 HL.out HBY.out hno.out (below_set3 (g := w.heap.size + 1) HC.out.bel (by omega) _ _ _))
  by_cases d1 : 48 < fillOf xs
  ·have hno := hI (show ¬ Right xs from fun h => by have := h.2.1; omega)
   have e0 : (genOf xs == 0) = false := by simpa using d0
   have e1 : decide ((48 : Int) < (fillOf xs : Int)) = true := by simp; omega
   have HD := hI d0
   clear d0
   go_wp2_with (with_reducible refine halt_end ?_)
   exact Halt.ret (results_row3 (p := 2) (u := 3) (v := 4) rfl _ _ (w.heap.size + 1) 189 _ _ rfl (HC.out.zero.set3 _ _ _) Tryz.underlying189 rfl size_stamp) rfl (rread_no9 HL.out HBY.out hno.out (below_set3 (g := w.heap.size + 1) HC.out.bel (by omega) _ _ _))
  by_cases d2 : v14 = 0
  case neg =>
   have hno := hI (show ¬ Right xs from fun h => d2 (by rw [← H14.out]; exact h.2.2.1))
   have e0 : (genOf xs == 0) = false := by simpa using d0
   have e1 : decide ((48 : Int) < (fillOf xs : Int)) = false := by simp; omega
   have e2 : (v14 != 0) = true := by simpa using d2
   have HD := hI d0
   clear d0 d2
   go_wp2_with (with_reducible refine halt_end ?_)
   exact Halt.ret (results_row3 (p := 2) (u := 3) (v := 4) rfl _ _ (w.heap.size + 1) 189 _ _ rfl (HC.out.zero.set3 _ _ _) Tryz.underlying189 rfl size_stamp) rfl (rread_no9 HL.out HBY.out hno.out (below_set3 (g := w.heap.size + 1) HC.out.bel (by omega) _ _ _))
  by_cases d3 : v15 = 0
  case neg =>
   have hno := hI (show ¬ Right xs from fun h => d3 (by rw [← H15.out]; exact h.2.2.2.1))
   have e0 : (genOf xs == 0) = false := by simpa using d0
   have e1 : decide ((48 : Int) < (fillOf xs : Int)) = false := by simp; omega
   have e3 : (v15 != 0) = true := by simpa using d3
   have e2 : (v14 != 0) = false := by simpa using d2
   have HD := hI d0
   clear d0 d3 d2
   go_wp2_with (with_reducible refine halt_end ?_)
   exact Halt.ret (results_row3 (p := 2) (u := 3) (v := 4) rfl _ _ (w.heap.size + 1) 189 _ _ rfl (HC.out.zero.set3 _ _ _) Tryz.underlying189 rfl size_stamp) rfl (rread_no9 HL.out HBY.out hno.out (below_set3 (g := w.heap.size + 1) HC.out.bel (by omega) _ _ _))
  have e0 : (genOf xs == 0) = false := by simpa using d0
  have e1 : decide ((48 : Int) < (fillOf xs : Int)) = false := by simp; omega
  have e2 : (v14 != 0) = false := by simpa using d2
  have e3 : (v15 != 0) = false := by simpa using d3
  have HD := hI d0
  have HD1 := hI d1
  have HD2 := hI d2
  have HD3 := hI d3
  have hf48 : fillOf xs ≤ 48 := by omega
  clear d0 d1 d2 d3
  go_wp2_with (with_reducible refine halt_end ?_)
  go_loop [6] (fun i => ∃ k : Nat, 16 + fillOf xs ≤ k ∧ k ≤ 64 ∧ i = .int .i64 k ∧ ∀ j, 16 + fillOf xs ≤ j → j < k → xs.getD j 0 = 0) (fun i => 64 - (intOf i).toNat)
  case atStart => exact ⟨16 + fillOf xs, by omega, by omega, by go_num, fun j h1 h2 => by omega⟩
  case round =>
   obtain ⟨k, hk1, hk2, rfl, hall⟩ := hrel
   by_cases hlt : k < 64
   ·have hcell := HC.out.arr.cell (i := k) (by rw [HL.out]; omega) 0
    generalize hv : xs.getD k 0 = v at *
    have HV := hI hv
    have HALL := hI hall
    clear hv hall
    by_cases dv : v = 0
    ·have ev : (v != 0) = false := by simpa using dv
     have HDV := hI dv
     clear dv
     go_wp2
     go_round
     case rel => exact ⟨k + 1, by omega, by omega, by go_num, fun j h1 h2 => by
      by_cases e : j = k
      ·subst e; rw [HV.out]; exact HDV.out
      ·exact HALL.out j h1 (by omega)⟩
     case measure => (simp [intOf] <;> omega)
    ·have ev : (v != 0) = true := by simpa using dv
     have hno := hI (show ¬ Right xs from fun h => dv (by rw [← HV.out]; exact h.2.2.2.2 k hk1 hlt))
     clear dv
     go_wp2_with (with_reducible refine halt_end ?_)
     exact Halt.ret (results_row3 (p := 2) (u := 3) (v := 4) rfl _ _ (w.heap.size + 1) 189 _ _ rfl (HC.out.zero.set3 _ _ _) Tryz.underlying189 rfl size_stamp) rfl (rread_no9 HL.out HBY.out hno.out (below_set3 (g := w.heap.size + 1) HC.out.bel (by omega) _ _ _))
   ·obtain rfl : k = 64 := by omega
    have hyes := hI (show Right xs from ⟨by have := HD.out; omega, hf48, by rw [H14.out]; exact HD2.out, by rw [H15.out]; exact HD3.out, hall⟩)
    clear hall
    obtain ⟨hm, hml⟩ := meant_right HL.out hf48
    have c1 := HST.out.cell 1
    simp only [List.getElem?_toArray, List.getElem?_cons_zero, List.getElem?_cons_succ] at c1
    have HM := hI (show RowI .u8 wc.drew (fun b => b < wc.drew.heap.size) (some ⟨w.heap.size, 16, none⟩) (fillOf xs) (meantOf xs) by
     rw [hm]
     exact HC.out.drew.arr.part 16 (fillOf xs) (by rw [HL.out]; omega) HC.out.arr.lt)
    have HML := hI hml
    have q1 : IntKind.i64.wrap (16 + (fillOf xs : Int)) = 16 + (fillOf xs : Int) := IntWalk.i64_in _ ⟨by omega, by omega⟩
    have q2 : 0 ≤ 16 + (fillOf xs : Int) := by omega
    have q3 : (16 + (fillOf xs : Int)).toNat = 16 + fillOf xs := by omega
    have hsl : ∀ W, (Instr.sliceAt 92 (.pointer (some ⟨w.heap.size, 0, none⟩)) (some (.int .i64 16)) (some (.int .i64 (16 + (fillOf xs : Int)))) none).run Tryz.prog W = .ok (.slice (some ⟨w.heap.size, 16, none⟩) (fillOf xs) 48) W := fun W => by
     have h := run_cut_blk w.heap.size 16 (16 + fillOf xs) (by omega) (by omega) (by omega) W
     rw [show 16 + fillOf xs - 16 = fillOf xs by omega, show ((16 + fillOf xs : Nat) : Int) = 16 + (fillOf xs : Int) by omega] at h
     exact h
    clear hm hml q3
    go_wp2_with fail
    go_region_held3 (fun W => W.cell? ⟨g, 0, none⟩ = some (.int .u64 (genOf xs)) ∧ W.cell? ⟨g, 1, none⟩ = some (.int .u32 (posOf xs)) ∧ W.cell? ⟨g, 2, none⟩ = some (.int .i64 (fillOf xs)))
     (first | exact ⟨c0, c1, c2⟩ | exact ⟨d0, d1, d2⟩ | exact ⟨f0, f1, f2⟩)
     ((go_at_call 169; refine (both_any (some ⟨w.heap.size, 16, none⟩) none (fillOf xs) 48 0 0 (meantOf xs) [] (fun b => b < wc.drew.heap.size) wc.drew HM.out (RowG.nil _ _ _ _ _) (fun b h => h) (by omega)).mono ?_; rintro e w7 ⟨A7, c7, rfl, _, hcp7, hr7, hb7⟩; rw [List.append_nil] at *; have HCP7 := hI hcp7; have HR7 := hI hr7; have HB7 := hI hb7; have HC7 := hI (half_cells HC.out.drew hb7); have hs7 := (Blk.drew HST.out).below hb7 HST.out.lt; have d0 := hs7.cell 0; have d1 := hs7.cell 1; have d2 := hs7.cell 2; clear hr7 hb7 hs7; have x0 := HC7.out.zero.cell 0; have x1 := HC7.out.zero.cell 1; have x2 := HC7.out.zero.cell 2; have v0 := HC7.out.zero.frozen 0; have v1 := HC7.out.zero.frozen 1; have v2 := HC7.out.zero.frozen 2;
       have f0 := (cell_far3 w7 (w.heap.size + 1) (.int .u64 (genOf xs)) (.int .u32 (posOf xs)) (.int .i64 (fillOf xs)) (p := ⟨g, 0, none⟩) (show g ≠ w.heap.size + 1 by have := HGL.out; omega)).trans d0; have f1 := (cell_far3 w7 (w.heap.size + 1) (.int .u64 (genOf xs)) (.int .u32 (posOf xs)) (.int .i64 (fillOf xs)) (p := ⟨g, 1, none⟩) (show g ≠ w.heap.size + 1 by have := HGL.out; omega)).trans d1; have f2 := (cell_far3 w7 (w.heap.size + 1) (.int .u64 (genOf xs)) (.int .u32 (posOf xs)) (.int .i64 (fillOf xs)) (p := ⟨g, 2, none⟩) (show g ≠ w.heap.size + 1 by have := HGL.out; omega)).trans d2;
       simp only [List.getElem?_toArray, List.getElem?_cons_zero, List.getElem?_cons_succ] at d0 d1 d2 x0 x1 x2 f0 f1 f2))
    clear c0 c1 c2 c14 c15 z0 z1 z2 y0 y1 y2 d0 d1 d2 x0 x1 x2 v0 v1 v2 f0 f1 f2
    go_wp2_with (with_reducible refine halt_end ?_)
    have hz := HC7.out.zero.set3 (.int .u64 (genOf xs)) (.int .u32 (posOf xs)) (.int .i64 (fillOf xs))
    refine Halt.ret (results_row3 (p := 2) (u := 3) (v := 4) rfl _ _ (w.heap.size + 1) 189 _ _ rfl hz Tryz.underlying189 rfl size_stamp) rfl
     ⟨fun _ => ⟨_, _, rfl, ?_, below_set3 (g := w.heap.size + 1) HC7.out.bel (by omega) _ _ _, HCP7.out⟩, fun h => absurd ((stamped_iff xs HL.out HBY.out).2 hyes.out) (by rw [h]; simp)⟩
    have hl1 := HC.out.zero.lt
    have h6 : wc.drew.heap.size = wc.heap.size := rfl
    refine (HR7.out.keep (fun p hp => cell_far3 w7 (w.heap.size + 1) _ _ _ ?_)).more (fun b hb => ⟨?_, ?_⟩)
    ·have := hp.1
     omega
    ·have := hb.1
     omega
    ·simpa using hb.2
end
section
open Go.RowKit
attribute [local go_sem] Oper.semAt_some
abbrev zeroS9 : Array Value := #[.int .u64 0, .int .i64 0, .slice none 0 0]
theorem size_scan : (Tryz.prog.info? 60).map (·.size) = some 3 := by kernel_rfl
theorem one_zeroS9 : zeroS9.all (·.oneCell') = true := by simp [zeroS9, Value.oneCell']
end
end Go.Proofs.YtknfblfnfoibkaaGreat
