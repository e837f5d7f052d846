/- Texts of LogScans, packed. -/
import Derived.Test.YtknfblfnfoibkaaGreatPackLogScans10
import Derived.Laws.Cover3
set_option linter.unusedVariables false
set_option linter.unusedSimpArgs false
set_option maxRecDepth 100000
set_option maxHeartbeats 16000000
namespace Go.Proofs.YtknfblfnfoibkaaGreat
section
open Go.RowKit
attribute [local go_sem] Oper.semAt_some
def RJoinTold9 (xss : List (List Int)) (w : World) (e : Ending) (w' : World) : Prop :=
 ∃ A c, e = .returned (.tuple #[.slice A (meants xss).length c, .bool true]) ∧ RowI .u8 w' (fun b => w.heap.size ≤ b ∧ b < w'.heap.size) A (meants xss).length (meants xss) ∧ Below w.heap.size w w' ∧ (meants xss).length ≤ c
def RJoinAny9 (xss : List (List Int)) (w : World) (e : Ending) (w' : World) : Prop := (1 ≤ xss.length ∧ Chain xss → RJoinTold9 xss w e w') ∧ (¬ (1 ≤ xss.length ∧ Chain xss) → RJoinBad w e w')
theorem rjoin_no9 {xss : List (List Int)} {w : World} {e : Ending} {w' : World} (h : ¬ (1 ≤ xss.length ∧ Chain xss)) (hb : RJoinBad w e w') : RJoinAny9 xss w e w' := ⟨fun k => absurd k h, fun _ => hb⟩
structure RJoining9 (xss : List (List Int)) (w wr : World) (o : Value) (k : Nat) : Prop where
 own : ∃ A c, o = .slice A (meants (xss.take k)).length c ∧ RowI .u8 wr (fun b => w.heap.size + 1 ≤ b ∧ b < wr.heap.size) A (meants (xss.take k)).length (meants (xss.take k)) ∧ (meants (xss.take k)).length ≤ c
 st : Blk wr w.heap.size 189 (firstOf xss k)
 bel : Below w.heap.size w wr
 chain : ∀ i, i < k → RefAt xss i
theorem rjoin_any9 (A : Option Addr) (n c : Nat) (xss : List (List Int)) (S : Nat → Prop) (w : World) (hx : RowK w S A n xss) (hS : ∀ b, S b → b < w.heap.size) (hs : Secs xss) (hby : ∀ i, Bytes (xss.getD i [])) (hn : n ≤ 1000000) :
 Calls Tryz.prog 174 #[.slice A n c] w (RJoinAny9 xss w) := by
 have HX := hI hx
 have HL := hI hx.1
 have HS := hI hs
 have HBY := hI hby
 clear hx hs hby
 go_enter Tryz.func174, Tryz.ntmps174
 go_wp2_with fail
 have HJ0 := hI (show RJoining9 xss w (w.alloc (.cells #[.int .u64 0, .int .u32 0, .int .i64 0] 189)) (.slice none 0 0) 0 from
  ⟨⟨none, 0, rfl, RowG.nil _ _ _ _ _, nR _⟩, Blk.new w _ _, (Below.refl _ _).alloc (nR _) _, fun i h => by omega⟩)
 go_loopw [4, 6] (fun o i wr => ∃ k : Nat, k ≤ n ∧ i = .int .i64 k ∧ RJoining9 xss w wr o k) (fun _ i _ => n - (intOf i).toNat)
 case atStart => exact ⟨0, by omega, rfl, HJ0.out⟩
 case round =>
  obtain ⟨k, hk, rfl, hj⟩ := hrel
  by_cases hlt : k < n
  ·obtain ⟨b, off, rfl, hb, hc⟩ := (HX.out.below hj.bel hS).2 (by omega)
   have hr := hc k hlt
   have hxl := HS.out.get k (by have := HL.out; omega)
   have hxb := HBY.out k
   have hbw := hS b hb
   obtain ⟨⟨Ao, co, rfl, hro, hcpo⟩, hst0, hbel0, hch0⟩ := hj
   have HCPO := hI hcpo
   clear hcpo
   have HRO := hI hro
   have HFI := hI hst0
   have HBE := hI hbel0
   have HCH := hI hch0
   obtain ⟨xs, hxs⟩ : ∃ xs, xs = xss.getD k [] := ⟨_, rfl⟩
   rw [← hxs] at hr hxl hxb
   have HXS := hI hxs
   have HR := hI hr
   have HXL := hI hxl
   have HXB := hI hxb
   have hk1 : (k : Int) < n := by omega
   clear hc hxs hr hxl hxb hro hst0 hbel0 hch0
   go_wp2_with (refine wpList_load_blk (.tmp 20) rfl rfl b (off + k * 64) rfl xs HXL.out HR.out ?_)
   refine (rread_any_s5 xs wr HXL.out HXB.out).mono ?_
   rintro e w1 ⟨hyes, hno1⟩
   by_cases hst : stamped xs = true
   case neg =>
    have hst : stamped xs = false := by simpa using hst
    obtain ⟨rfl, hb1⟩ := hno1 hst
    have hno := hI (not_ref HS.out HBY.out (k := k) (by have := HL.out; omega) (fun h => by have h := h.1; rw [← HXS.out, hst] at h; cases h))
    have HB1 := hI (HBE.out.trans (hb1.mono HBE.out.size))
    have hf1 : Blk (w1.alloc (.cells #[.int .u64 0, .int .u32 0, .int .i64 0] 189)) w.heap.size 189 (firstOf xss k) := (HFI.out.below hb1 HFI.out.lt).alloc _
    obtain ⟨a0, a1, a2, ha⟩ : ∃ a0 a1 a2 : Value, firstOf xss k = #[a0, a1, a2] := by unfold firstOf; split <;> exact ⟨_, _, _, rfl⟩
    rw [ha] at hf1
    have q0 := hf1.cell 0
    have q1 := hf1.cell 1
    have q2 := hf1.cell 2
    have y0 := hf1.frozen 0
    have y1 := hf1.frozen 1
    have y2 := hf1.frozen 2
    simp only [List.getElem?_toArray, List.getElem?_cons_zero, List.getElem?_cons_succ] at q0 q1 q2
    clear hst hb1 hno1 hyes hf1 ha
    by_cases hk0 : k = 0
    ·subst hk0
     go_wp2_with fail
     go_ret2
     exact rjoin_no9 hno.out ⟨⟨_, _, _, rfl⟩, below_set3 (HB1.out.alloc HB1.out.size _) (nR _) _ _ _⟩
    ·have hk2 : ((k : Int) == 0) = false := by simp; omega
     have HK0 := hI hk0
     clear hk0
     go_wp2_with fail
     go_ret2
     exact rjoin_no9 hno.out ⟨⟨_, _, _, rfl⟩, HB1.out.alloc HB1.out.size _⟩
   obtain ⟨A2, c2, rfl, hr2, hb1⟩ := hyes hst
   have HST := hI hst
   have HR1 := hI hr2
   have HB1 := hI hb1
   obtain ⟨w2, hw2⟩ : ∃ w2, w2 = w1.alloc (.cells #[.int .u64 (genOf xs), .int .u32 (posOf xs), .int .i64 (fillOf xs)] 189) := ⟨_, rfl⟩
   have hb2 : Below w1.heap.size w1 w2 := by rw [hw2]; exact (Below.refl _ _).alloc (nR _) _
   have HS2 := hI (show Blk w2 w1.heap.size 189 #[.int .u64 (genOf xs), .int .u32 (posOf xs), .int .i64 (fillOf xs)] by rw [hw2]; exact Blk.new w1 _ _)
   have HB2 := hI (hb1.trans (hb2.mono hb1.size))
   have HR2 := hI (hr2.below hb2 (fun b h => h.2))
   have HW2 := hI hw2
   have hpb := pos_bounds HXB.out HXL.out
   have hfl := fill_lt HXB.out
   clear hst hr2 hb1 hb2 hw2 hno1 hyes
   by_cases hk0 : k = 0
   ·subst hk0
    have hfs2 : Blk w2 w.heap.size 189 (firstOf xss 0) := HFI.out.below HB2.out HFI.out.lt
    unfold firstOf at hfs2
    rw [if_pos rfl] at hfs2
    have q0 := hfs2.cell 0
    have q1 := hfs2.cell 1
    have q2 := hfs2.cell 2
    have y0 := hfs2.frozen 0
    have y1 := hfs2.frozen 1
    have y2 := hfs2.frozen 2
    have p0 := HS2.out.cell 0
    have p1 := HS2.out.cell 1
    have p2 := HS2.out.cell 2
    simp only [List.getElem?_toArray, List.getElem?_cons_zero, List.getElem?_cons_succ] at q0 q1 q2 p0 p1 p2
    have hne : w1.heap.size ≠ w.heap.size := by have := HFI.out.lt; have := HB1.out.size; omega
    obtain ⟨w3, hw3⟩ : ∃ w3, w3 = ((w2.setCell ⟨w.heap.size, 0, none⟩ (.int .u64 (genOf xs))).setCell ⟨w.heap.size, 1, none⟩ (.int .u32 (posOf xs))).setCell ⟨w.heap.size, 2, none⟩ (.int .i64 (fillOf xs)) := ⟨_, rfl⟩
    have HF3 := hI (show Blk w3 w.heap.size 189 #[.int .u64 (genOf xs), .int .u32 (posOf xs), .int .i64 (fillOf xs)] by rw [hw3]; exact hfs2.set3 _ _ _)
    have hk3 : Kept (fun b => b ≠ w.heap.size) w2 w3 := by rw [hw3]; exact (Kept.refl _ _).set3 (fun h => h rfl) _ _ _
    have HS3 := hI (HS2.out.kept hk3 hne)
    have HR3 := hI ((HR2.out.kept hk3 (fun b h => by have := h.1; have := HFI.out.lt; omega)).more (T := fun b => b < w3.heap.size ∧ w.heap.size + 1 ≤ b) (fun b h => ⟨nL (nL h.2 (by rw [HW2.out]; simp)) hk3.size, by have := h.1; have := HFI.out.lt; omega⟩))
    have HB3 := hI (show Below w.heap.size w w3 by rw [hw3]; exact below_set3 (HBE.out.trans (HB2.out.mono HBE.out.size)) (nR _) _ _ _)
    have HRO3 := hI (((HRO.out.below HB2.out (fun b h => h.2)).kept hk3 (fun b h => by have := h.1; omega)).more (T := fun b => b < w3.heap.size ∧ w.heap.size + 1 ≤ b) (fun b h => ⟨nL (nL h.2 HB2.out.size) hk3.size, h.1⟩))
    have HW3 := hI hw3
    clear hw3 hk3 hfs2 hne
    have HFIRST := hI (show #[Value.int .u64 (genOf xs), .int .u32 (posOf xs), .int .i64 (fillOf xs)] = firstOf xss (0 + 1) by unfold firstOf; rw [if_neg (by omega), ← HXS.out])
    have HSZ3 := hI (show w.heap.size + 1 ≤ w3.heap.size from HF3.out.lt)
    have s0 := HS3.out.cell 0
    have s1 := HS3.out.cell 1
    have s2 := HS3.out.cell 2
    have f0 := HF3.out.cell 0
    have f1 := HF3.out.cell 1
    have f2 := HF3.out.cell 2
    simp only [List.getElem?_toArray, List.getElem?_cons_zero, List.getElem?_cons_succ] at s0 s1 s2 f0 f1 f2
    by_cases c3 : 0 + 1 < n
    case neg =>
     have HREF := hI (show RefAt xss 0 from ⟨by rw [← HXS.out]; exact HST.out, rfl, by simp, fun h => absurd h (by have := HL.out; omega)⟩)
     have e3 : ¬ (0 : Int) + 1 < n := by omega
     have hsn := meants_snoc xss 0 (by have := HL.out; omega)
     rw [← HXS.out] at hsn
     have hlo := meants_length xss 0 (by have := HL.out; omega)
     have hml := meant_le xs
     have HSN := hI hsn
     clear hsn
     go_wp2_with (first | rw [← HW2.out] | rw [← HW3.out])
     refine (both_any Ao A2 (meants (xss.take 0)).length co (meantOf xs).length c2 (meants (xss.take 0)) (meantOf xs) _ w3 HRO3.out HR3.out (fun b h => h.1) (by omega)).mono ?_
     rintro e w4 ⟨A4, c4, rfl, _, hcp4, hr4, hb4⟩
     rw [← HSN.out] at hr4 hcp4
     have HCP4 := hI hcp4
     clear hcp4
     rw [← HSN.out]
     have HR4 := hI hr4
     have HB4 := hI hb4
     clear hr4 hb4 s0 s1 s2 f0 f1 f2
     go_wp2_with fail
     go_roundw
     case rel => exact ⟨0 + 1, by omega, by go_num, ⟨⟨A4, c4, rfl, HR4.out.more (fun b h => ⟨nT HSZ3.out h.1, h.2⟩), HCP4.out⟩, HFIRST.out ▸ (HF3.out.below HB4.out HF3.out.lt), HB3.out.trans (HB4.out.mono HB3.out.size), fun i hi => by
      by_cases e : i = 0
      ·subst e; exact HREF.out
      ·exact HCH.out i (by omega)⟩⟩
     case measure => (simp [intOf] <;> omega)
    by_cases c4 : fillOf xs < 48
    ·have hno := hI (not_ref HS.out HBY.out (k := 0) (by have := HL.out; omega) (fun h => by have h := h.2.2.2 (by have := HL.out; omega); rw [← HXS.out] at h; omega))
     have e3 : (0 : Int) + 1 < n := by omega
     have e4 : (fillOf xs : Int) < 48 := by omega
     go_wp2_with (first | rw [← HW2.out] | rw [← HW3.out])
     go_ret2
     exact rjoin_no9 hno.out ⟨⟨_, _, _, rfl⟩, HB3.out⟩
    ·have HREF := hI (show RefAt xss 0 from ⟨by rw [← HXS.out]; exact HST.out, rfl, by simp, fun _ => by rw [← HXS.out]; omega⟩)
     have e3 : (0 : Int) + 1 < n := by omega
     have e4 : ¬ (fillOf xs : Int) < 48 := by omega
     have hsn := meants_snoc xss 0 (by have := HL.out; omega)
     rw [← HXS.out] at hsn
     have hlo := meants_length xss 0 (by have := HL.out; omega)
     have hml := meant_le xs
     have HSN := hI hsn
     clear hsn
     go_wp2_with (first | rw [← HW2.out] | rw [← HW3.out])
     refine (both_any Ao A2 (meants (xss.take 0)).length co (meantOf xs).length c2 (meants (xss.take 0)) (meantOf xs) _ w3 HRO3.out HR3.out (fun b h => h.1) (by omega)).mono ?_
     rintro e w4 ⟨A4, c4, rfl, _, hcp4, hr4, hb4⟩
     rw [← HSN.out] at hr4 hcp4
     have HCP4 := hI hcp4
     clear hcp4
     rw [← HSN.out]
     have HR4 := hI hr4
     have HB4 := hI hb4
     clear hr4 hb4 s0 s1 s2 f0 f1 f2
     go_wp2_with fail
     go_roundw
     case rel => exact ⟨0 + 1, by omega, by go_num, ⟨⟨A4, c4, rfl, HR4.out.more (fun b h => ⟨nT HSZ3.out h.1, h.2⟩), HCP4.out⟩, HFIRST.out ▸ (HF3.out.below HB4.out HF3.out.lt), HB3.out.trans (HB4.out.mono HB3.out.size), fun i hi => by
      by_cases e : i = 0
      ·subst e; exact HREF.out
      ·exact HCH.out i (by omega)⟩⟩
     case measure => (simp [intOf] <;> omega)
   ·have HK0 := hI hk0
    have hk2 : ((k : Int) == 0) = false := by simp; omega
    have hfs := HFI.out.below HB2.out HFI.out.lt
    unfold firstOf at hfs
    rw [if_neg hk0] at hfs
    obtain ⟨fs, hfs0⟩ : ∃ fs, fs = xss.getD 0 [] := ⟨_, rfl⟩
    rw [← hfs0] at hfs
    have HFS := hI hfs0
    have hfl0 := HS.out.get 0 (by have := HL.out; omega)
    have hfb0 := HBY.out 0
    rw [← hfs0] at hfl0 hfb0
    have hpf := pos_bounds hfb0 hfl0
    obtain ⟨w3, hw3⟩ : ∃ w3, w3 = w2 := ⟨_, rfl⟩
    have HF3 := hI (show Blk w3 w.heap.size 189 #[.int .u64 (genOf fs), .int .u32 (posOf fs), .int .i64 (fillOf fs)] by rw [hw3]; exact hfs)
    have HS3 := hI (show Blk w3 w1.heap.size 189 #[.int .u64 (genOf xs), .int .u32 (posOf xs), .int .i64 (fillOf xs)] by rw [hw3]; exact HS2.out)
    have HR3 := hI (show RowI .u8 w3 (fun b => b < w3.heap.size ∧ w.heap.size + 1 ≤ b) A2 (meantOf xs).length (meantOf xs) by rw [hw3]; exact HR2.out.more (fun b h => ⟨nL h.2 (by rw [HW2.out]; simp), by have := h.1; have := HFI.out.lt; omega⟩))
    have HB3 := hI (show Below w.heap.size w w3 by rw [hw3]; exact HBE.out.trans (HB2.out.mono HBE.out.size))
    have HRO3 := hI (show RowI .u8 w3 (fun b => b < w3.heap.size ∧ w.heap.size + 1 ≤ b) Ao (meants (xss.take k)).length (meants (xss.take k)) by rw [hw3]; exact (HRO.out.below HB2.out (fun b h => h.2)).more (fun b h => ⟨nL h.2 HB2.out.size, h.1⟩))
    have HFIRST := hI (show #[Value.int .u64 (genOf fs), .int .u32 (posOf fs), .int .i64 (fillOf fs)] = firstOf xss (k + 1) by unfold firstOf; rw [if_neg (by omega), ← HFS.out])
    have HSZ3 := hI (show w.heap.size + 1 ≤ w3.heap.size from HF3.out.lt)
    have hkn : (k : Int) ≤ 1000000 := by omega
    rw [← hw3] at HW2
    clear hfs hfs0 hfl0 hfb0 hk0
    have s0 := HS3.out.cell 0
    have s1 := HS3.out.cell 1
    have f0 := HF3.out.cell 0
    have f1 := HF3.out.cell 1
    simp only [List.getElem?_toArray, List.getElem?_cons_zero, List.getElem?_cons_succ] at s0 s1 f0 f1
    clear hw3
    by_cases c1 : genOf xs = genOf fs
    case neg =>
     have hno := hI (not_ref HS.out HBY.out (k := k) (by have := HL.out; omega) (fun h => by have h := h.2.1; rw [← HXS.out, ← HFS.out] at h; exact c1 h))
     have e1 : (genOf xs != genOf fs) = true := by simpa using c1
     clear c1
     go_wp2_with (rw [← HW2.out])
     go_ret2
     exact rjoin_no9 hno.out ⟨⟨_, _, _, rfl⟩, HB3.out⟩
    have e1 : (genOf xs != genOf fs) = false := by simpa using c1
    have HC1 := hI c1
    clear c1
    by_cases c2' : posOf xs = posOf fs + k
    case neg =>
     have hno := hI (not_ref HS.out HBY.out (k := k) (by have := HL.out; omega) (fun h => by have h := h.2.2.1; rw [← HXS.out, ← HFS.out] at h; exact c2' h))
     have e2 : (posOf xs != posOf fs + (k : Int)) = true := by simpa using c2'
     clear c2'
     go_wp2_with (rw [← HW2.out])
     go_ret2
     exact rjoin_no9 hno.out ⟨⟨_, _, _, rfl⟩, HB3.out⟩
    have e2 : (posOf xs != posOf fs + (k : Int)) = false := by simpa using c2'
    have HC2 := hI c2'
    clear c2' s0 s1 f0 f1
    have s0 := HS3.out.cell 0
    have s1 := HS3.out.cell 1
    have s2 := HS3.out.cell 2
    have f0 := HF3.out.cell 0
    have f1 := HF3.out.cell 1
    have f2 := HF3.out.cell 2
    simp only [List.getElem?_toArray, List.getElem?_cons_zero, List.getElem?_cons_succ] at s0 s1 s2 f0 f1 f2
    by_cases c3 : k + 1 < n
    case neg =>
     have HREF := hI (show RefAt xss k from ⟨by rw [← HXS.out]; exact HST.out, by rw [← HXS.out, ← HFS.out]; exact HC1.out, by rw [← HXS.out, ← HFS.out]; exact HC2.out, fun h => absurd h (by have := HL.out; omega)⟩)
     have e3 : ¬ (k : Int) + 1 < n := by omega
     have hsn := meants_snoc xss k (by have := HL.out; omega)
     rw [← HXS.out] at hsn
     have hlo := meants_length xss k (by have := HL.out; omega)
     have hml := meant_le xs
     have HSN := hI hsn
     clear hsn
     go_wp2_with (first | rw [← HW2.out] )
     refine (both_any Ao A2 (meants (xss.take k)).length co (meantOf xs).length c2 (meants (xss.take k)) (meantOf xs) _ w3 HRO3.out HR3.out (fun b h => h.1) (by omega)).mono ?_
     rintro e w4 ⟨A4, c4, rfl, _, hcp4, hr4, hb4⟩
     rw [← HSN.out] at hr4 hcp4
     have HCP4 := hI hcp4
     clear hcp4
     rw [← HSN.out]
     have HR4 := hI hr4
     have HB4 := hI hb4
     clear hr4 hb4 s0 s1 s2 f0 f1 f2
     go_wp2_with fail
     go_roundw
     case rel => exact ⟨k + 1, by omega, by go_num, ⟨⟨A4, c4, rfl, HR4.out.more (fun b h => ⟨nT HSZ3.out h.1, h.2⟩), HCP4.out⟩, HFIRST.out ▸ (HF3.out.below HB4.out HF3.out.lt), HB3.out.trans (HB4.out.mono HB3.out.size), fun i hi => by
      by_cases e : i = k
      ·subst e; exact HREF.out
      ·exact HCH.out i (by omega)⟩⟩
     case measure => (simp [intOf] <;> omega)
    by_cases c4 : fillOf xs < 48
    ·have hno := hI (not_ref HS.out HBY.out (k := k) (by have := HL.out; omega) (fun h => by have h := h.2.2.2 (by have := HL.out; omega); rw [← HXS.out] at h; omega))
     have e3 : (k : Int) + 1 < n := by omega
     have e4 : (fillOf xs : Int) < 48 := by omega
     go_wp2_with (first | rw [← HW2.out] )
     go_ret2
     exact rjoin_no9 hno.out ⟨⟨_, _, _, rfl⟩, HB3.out⟩
    ·have HREF := hI (show RefAt xss k from ⟨by rw [← HXS.out]; exact HST.out, by rw [← HXS.out, ← HFS.out]; exact HC1.out, by rw [← HXS.out, ← HFS.out]; exact HC2.out, fun _ => by rw [← HXS.out]; omega⟩)
     have e3 : (k : Int) + 1 < n := by omega
     have e4 : ¬ (fillOf xs : Int) < 48 := by omega
     have hsn := meants_snoc xss k (by have := HL.out; omega)
     rw [← HXS.out] at hsn
     have hlo := meants_length xss k (by have := HL.out; omega)
     have hml := meant_le xs
     have HSN := hI hsn
     clear hsn
     go_wp2_with (first | rw [← HW2.out] )
     refine (both_any Ao A2 (meants (xss.take k)).length co (meantOf xs).length c2 (meants (xss.take k)) (meantOf xs) _ w3 HRO3.out HR3.out (fun b h => h.1) (by omega)).mono ?_
     rintro e w4 ⟨A4, c4, rfl, _, hcp4, hr4, hb4⟩
     rw [← HSN.out] at hr4 hcp4
     have HCP4 := hI hcp4
     clear hcp4
     rw [← HSN.out]
     have HR4 := hI hr4
     have HB4 := hI hb4
     clear hr4 hb4 s0 s1 s2 f0 f1 f2
     go_wp2_with fail
     go_roundw
     case rel => exact ⟨k + 1, by omega, by go_num, ⟨⟨A4, c4, rfl, HR4.out.more (fun b h => ⟨nT HSZ3.out h.1, h.2⟩), HCP4.out⟩, HFIRST.out ▸ (HF3.out.below HB4.out HF3.out.lt), HB3.out.trans (HB4.out.mono HB3.out.size), fun i hi => by
      by_cases e : i = k
      ·subst e; exact HREF.out
      ·exact HCH.out i (by omega)⟩⟩
     case measure => (simp [intOf] <;> omega)
  ·obtain rfl : k = n := by omega
   obtain ⟨⟨Ao, co, rfl, hro, hcpo⟩, hst0, hbel0, hch0⟩ := hj
   have HCPO := hI hcpo
   clear hcpo
   have hmt : meants (xss.take k) = meants xss := by rw [List.take_of_length_le (by have := HL.out; omega)]
   rw [hmt] at hro
   have hcq := HCPO.out
   rw [hmt] at hcq
   have HCPQ := hI hcq
   clear hcq
   rw [hmt]
   have HRO := hI hro
   have HBE := hI hbel0
   have hch : Chain xss := (chain_ref HS.out HBY.out).2 (fun i hi => hch0 i (by have := HL.out; omega))
   have HCH := hI hch
   clear hro hst0 hbel0 hch0 hmt hch
   by_cases h0 : k = 0
   ·subst h0
    have hno := hI (show ¬ (1 ≤ xss.length ∧ Chain xss) from fun h => by have := HL.out; have := h.1; omega)
    go_wp2
    go_ret2
    exact rjoin_no9 hno.out ⟨⟨_, _, _, rfl⟩, HBE.out⟩
   ·have h1 : (0 : Int) < k := by omega
    have h1n : 0 < k := by omega
    clear h0
    go_wp2
    go_ret2
    exact ⟨fun _ => ⟨_, _, rfl, HRO.out.more (fun b h => ⟨by omega, h.2⟩), HBE.out, HCPQ.out⟩, fun h => absurd ⟨by have := HL.out; omega, HCH.out⟩ h⟩
end
section
open Go.RowKit
attribute [local go_sem] Oper.semAt_some
def RReadTold9 (xs : List Int) (w : World) (e : Ending) (w' : World) : Prop :=
 ∃ A c, e = .returned (.tuple #[.agg #[.int .u64 (genOf xs), .int .u32 (posOf xs), .int .i64 (fillOf xs)], .slice A (meantOf xs).length c, .bool true]) ∧
  RowI .u8 w' (fun b => w.heap.size ≤ b ∧ b < w'.heap.size) A (meantOf xs).length (meantOf xs) ∧ Below w.heap.size w w' ∧ (meantOf xs).length ≤ c
def RReadAny9 (xs : List Int) (w : World) (e : Ending) (w' : World) : Prop :=
 (stamped xs = true → RReadTold9 xs w e w') ∧ (stamped xs = false → e = .returned (.tuple #[.agg #[.int .u64 0, .int .u32 0, .int .i64 0], .slice none 0 0, .bool false]) ∧ Below w.heap.size w w')
theorem rread_no9 {xs : List Int} (hl : xs.length = 64) (hb : Bytes xs) (h : ¬ Right xs) {w w' : World} (hbel : Below w.heap.size w w') : RReadAny9 xs w (.returned (.tuple #[.agg #[.int .u64 0, .int .u32 0, .int .i64 0], .slice none 0 0, .bool false])) w' :=
 ⟨fun hs => absurd ((stamped_iff xs hl hb).1 hs) h, fun _ => ⟨rfl, hbel⟩⟩
theorem rread_any9 (xs : List Int) (w : World) (hl : xs.length = 64) (hb : Bytes xs) :
 Calls Tryz.prog 111 #[.agg (cells8 xs)] w (RReadAny9 xs w) := by
 have hgb := gen_bounds hb hl
 have hpb := pos_bounds hb hl
 have hfe := fill_eq hb
 have hfl := fill_lt hb
 have HBY := hI hb
 have HL := hI hl
 have HFE := hI hfe
 have HH := hI (Half0.new xs w hl)
 have hpu : IntKind.u32.wrap (posOf xs) = posOf xs := by rw [IntKind.wrap_u32]; omega
 have hfu : IntKind.i64.wrap (fillOf xs : Int) = (fillOf xs : Int) := by rw [IntKind.wrap_i64]; omega
 have HPU := hI hpu
 have HFU := hI hfu
 have hp4 : numOf ((xs.drop 8).take 4) = posOf xs := rfl
 have HP4 := hI hp4
 clear hb hl hpb hfe hpu hfu hp4
 go_enter Tryz.func111, Tryz.ntmps111
 go_upto_region 1 with fail
 generalize hw1 : (w.alloc _).alloc _ = w1 at *
 clear hw1
 go_cut [5] (fun s wx => Half1 xs w wx s)
 case first =>
  go_region_held3 (fun W => Half0 xs w W) (first | exact HH.out | exact HH.out.drew | exact (HH.out.alloc _).drew | exact HH.out.drew.alloc _)
   ((go_at_call 168; refine (num_any _ _ _ _ (fun _ => True) _ (by first | with_reducible exact Half0.r8 (by assumption) | with_reducible exact Half0.r4 (by assumption) | with_reducible exact Half0.r2 (by assumption)) (by first | exact bytes_part HBY.out 0 8 | exact bytes_part HBY.out 8 4 | exact bytes_part HBY.out 12 2) (by omega)).mono ?_; (first | rw [HFE.out] | rw [HP4.out] | skip); rintro e w' ⟨rfl, rfl⟩))
  all_goals
   rw [HPU.out, HFU.out]
   go_wp2_with fail
   go_meet
   exact ⟨w1.heap.size, rfl, HH.out.zero.lt, Blk.new w1 _ _, (HH.out.alloc _).drew⟩
 case rest =>
  obtain ⟨g, rfl, hgl, hst, hh⟩ := hcut
  have c0 := hst.cell 0
  have c2 := hst.cell 2
  have c14 := hh.arr.cell (i := 14) (by rw [HL.out]; omega) 0
  have c15 := hh.arr.cell (i := 15) (by rw [HL.out]; omega) 0
  have z0 := hh.zero.cell 0
  have z1 := hh.zero.cell 1
  have z2 := hh.zero.cell 2
  have y0 := hh.zero.frozen 0
  have y1 := hh.zero.frozen 1
  have y2 := hh.zero.frozen 2
  simp only [List.getElem?_toArray, List.getElem?_cons_zero, List.getElem?_cons_succ] at c0 c2 z0 z1 z2
  have HST := hI hst
  have HC := hI hh
  have HGL := hI hgl
  generalize h14 : xs.getD 14 0 = v14 at *
  generalize h15 : xs.getD 15 0 = v15 at *
  have H14 := hI h14
  have H15 := hI h15
  clear hst hh hgl h14 h15
  by_cases d0 : genOf xs = 0
  ·have hno := hI (show ¬ Right xs from fun h => by have := h.1; omega)
   have e0 : (genOf xs == 0) = true := by simpa using d0
   have HD := hI d0
   clear d0
   go_wp2_with (with_reducible refine halt_end ?_)
   exact Halt.ret (results_row3 (p := 2) (u := 3) (v := 4) rfl _ _ (w.heap.size + 1) 189 _ _ rfl (HC.out.zero.set3 _ _ _) Tryz.underlying189 rfl size_stamp) rfl (rread_no9 HL.out HBY.out hno.out (below_set3 (g := w.heap.size + 1) HC.out.bel (by omega) _ _ _))
  by_cases d1 : 48 < fillOf xs
  ·have hno := hI (show ¬ Right xs from fun h => by have := h.2.1; omega)
   have e0 : (genOf xs == 0) = false := by simpa using d0
   have e1 : decide ((48 : Int) < (fillOf xs : Int)) = true := by simp; omega
   have HD := hI d0
   clear d0
   go_wp2_with (with_reducible refine halt_end ?_)
   exact Halt.ret (results_row3 (p := 2) (u := 3) (v := 4) rfl _ _ (w.heap.size + 1) 189 _ _ rfl (HC.out.zero.set3 _ _ _) Tryz.underlying189 rfl size_stamp) rfl (rread_no9 HL.out HBY.out hno.out (below_set3 (g := w.heap.size + 1) HC.out.bel (by omega) _ _ _))
  by_cases d2 : v14 = 0
  case neg =>
   have hno := hI (show ¬ Right xs from fun h => d2 (by rw [← H14.out]; exact h.2.2.1))
   have e0 : (genOf xs == 0) = false := by simpa using d0
   have e1 : decide ((48 : Int) < (fillOf xs : Int)) = false := by simp; omega
   have e2 : (v14 != 0) = true := by simpa using d2
   have HD := hI d0
   clear d0 d2
   go_wp2_with (with_reducible refine halt_end ?_)
   exact Halt.ret (results_row3 (p := 2) (u := 3) (v := 4) rfl _ _ (w.heap.size + 1) 189 _ _ rfl (HC.out.zero.set3 _ _ _) Tryz.underlying189 rfl size_stamp) rfl (rread_no9 HL.out HBY.out hno.out (below_set3 (g := w.heap.size + 1) HC.out.bel (by omega) _ _ _))
  by_cases d3 : v15 = 0
  case neg =>
   have hno := hI (show ¬ Right xs from fun h => d3 (by rw [← H15.out]; exact h.2.2.2.1))
   have e0 : (genOf xs == 0) = false := by simpa using d0
   have e1 : decide ((48 : Int) < (fillOf xs : Int)) = false := by simp; omega
   have e3 : (v15 != 0) = true := by simpa using d3
   have e2 : (v14 != 0) = false := by simpa using d2
   have HD := hI d0
   clear d0 d3 d2
   go_wp2_with (with_reducible refine halt_end ?_)
   exact Halt.ret (results_row3 (p := 2) (u := 3) (v := 4) rfl _ _ (w.heap.size + 1) 189 _ _ rfl (HC.out.zero.set3 _ _ _) Tryz.underlying189 rfl size_stamp) rfl (rread_no9 HL.out HBY.out hno.out (below_set3 (g := w.heap.size + 1) HC.out.bel (by omega) _ _ _))
  have e0 : (genOf xs == 0) = false := by simpa using d0
  have e1 : decide ((48 : Int) < (fillOf xs : Int)) = false := by simp; omega
  have e2 : (v14 != 0) = false := by simpa using d2
  have e3 : (v15 != 0) = false := by simpa using d3
  have HD := hI d0
  have HD1 := hI d1
  have HD2 := hI d2
  have HD3 := hI d3
  have hf48 : fillOf xs ≤ 48 := by omega
  clear d0 d1 d2 d3
  go_wp2_with (with_reducible refine halt_end ?_)
  go_loop [6] (fun i => ∃ k : Nat, 16 + fillOf xs ≤ k ∧ k ≤ 64 ∧ i = .int .i64 k ∧ ∀ j, 16 + fillOf xs ≤ j → j < k → xs.getD j 0 = 0) (fun i => 64 - (intOf i).toNat)
  case atStart => exact ⟨16 + fillOf xs, by omega, by omega, by go_num, fun j h1 h2 => by omega⟩
  case round =>
   obtain ⟨k, hk1, hk2, rfl, hall⟩ := hrel
   by_cases hlt : k < 64
   ·have hcell := HC.out.arr.cell (i := k) (by rw [HL.out]; omega) 0
    generalize hv : xs.getD k 0 = v at *
    have HV := hI hv
    have HALL := hI hall
    clear hv hall
    by_cases dv : v = 0
    ·have ev : (v != 0) = false := by simpa using dv
     have HDV := hI dv
     clear dv
     go_wp2
     go_round
     case rel => exact ⟨k + 1, by omega, by omega, by go_num, fun j h1 h2 => by
      by_cases e : j = k
      ·subst e; rw [HV.out]; exact HDV.out
      ·exact HALL.out j h1 (by omega)⟩
     case measure => (simp [intOf] <;> omega)
    ·have ev : (v != 0) = true := by simpa using dv
     have hno := hI (show ¬ Right xs from fun h => dv (by rw [← HV.out]; exact h.2.2.2.2 k hk1 hlt))
     clear dv
     go_wp2_with (with_reducible refine halt_end ?_)
     exact Halt.ret (results_row3 (p := 2) (u := 3) (v := 4) rfl _ _ (w.heap.size + 1) 189 _ _ rfl (HC.out.zero.set3 _ _ _) Tryz.underlying189 rfl size_stamp) rfl (rread_no9 HL.out HBY.out hno.out (below_set3 (g := w.heap.size + 1) HC.out.bel (by omega) _ _ _))
   ·obtain rfl : k = 64 := by omega
    have hyes := hI (show Right xs from ⟨by have := HD.out; omega, hf48, by rw [H14.out]; exact HD2.out, by rw [H15.out]; exact HD3.out, hall⟩)
    clear hall
    obtain ⟨hm, hml⟩ := meant_right HL.out hf48
    have c1 := HST.out.cell 1
    simp only [List.getElem?_toArray, List.getElem?_cons_zero, List.getElem?_cons_succ] at c1
    have HM := hI (show RowI .u8 wc.drew (fun b => b < wc.drew.heap.size) (some ⟨w.heap.size, 16, none⟩) (fillOf xs) (meantOf xs) by
     rw [hm]
     exact HC.out.drew.arr.part 16 (fillOf xs) (by rw [HL.out]; omega) HC.out.arr.lt)
    have HML := hI hml
    have q1 : IntKind.i64.wrap (16 + (fillOf xs : Int)) = 16 + (fillOf xs : Int) := IntWalk.i64_in _ ⟨by omega, by omega⟩
    have q2 : 0 ≤ 16 + (fillOf xs : Int) := by omega
    have q3 : (16 + (fillOf xs : Int)).toNat = 16 + fillOf xs := by omega
    have hsl : ∀ W, (Instr.sliceAt 92 (.pointer (some ⟨w.heap.size, 0, none⟩)) (some (.int .i64 16)) (some (.int .i64 (16 + (fillOf xs : Int)))) none).run Tryz.prog W = .ok (.slice (some ⟨w.heap.size, 16, none⟩) (fillOf xs) 48) W := fun W => by
     have h := run_cut_blk w.heap.size 16 (16 + fillOf xs) (by omega) (by omega) (by omega) W
     rw [show 16 + fillOf xs - 16 = fillOf xs by omega, show ((16 + fillOf xs : Nat) : Int) = 16 + (fillOf xs : Int) by omega] at h
     exact h
    clear hm hml q3
    go_wp2_with fail
    go_region_held3 (fun W => W.cell? ⟨g, 0, none⟩ = some (.int .u64 (genOf xs)) ∧ W.cell? ⟨g, 1, none⟩ = some (.int .u32 (posOf xs)) ∧ W.cell? ⟨g, 2, none⟩ = some (.int .i64 (fillOf xs)))
     (first | exact ⟨c0, c1, c2⟩ | exact ⟨d0, d1, d2⟩ | exact ⟨f0, f1, f2⟩)
     ((go_at_call 169; refine (both_any (some ⟨w.heap.size, 16, none⟩) none (fillOf xs) 48 0 0 (meantOf xs) [] (fun b => b < wc.drew.heap.size) wc.drew HM.out (RowG.nil _ _ _ _ _) (fun b h => h) (by omega)).mono ?_; rintro e w7 ⟨A7, c7, rfl, _, hcp7, hr7, hb7⟩; rw [List.append_nil] at *; have HCP7 := hI hcp7; have HR7 := hI hr7; have HB7 := hI hb7; have HC7 := hI (half_cells HC.out.drew hb7); have hs7 := (Blk.drew HST.out).below hb7 HST.out.lt; have d0 := hs7.cell 0; have d1 := hs7.cell 1; have d2 := hs7.cell 2; clear hr7 hb7 hs7; have x0 := HC7.out.zero.cell 0; have x1 := HC7.out.zero.cell 1; have x2 := HC7.out.zero.cell 2; have v0 := HC7.out.zero.frozen 0; have v1 := HC7.out.zero.frozen 1; have v2 := HC7.out.zero.frozen 2;
       have f0 := (cell_far3 w7 (w.heap.size + 1) (.int .u64 (genOf xs)) (.int .u32 (posOf xs)) (.int .i64 (fillOf xs)) (p := ⟨g, 0, none⟩) (show g ≠ w.heap.size + 1 by have := HGL.out; omega)).trans d0; have f1 := (cell_far3 w7 (w.heap.size + 1) (.int .u64 (genOf xs)) (.int .u32 (posOf xs)) (.int .i64 (fillOf xs)) (p := ⟨g, 1, none⟩) (show g ≠ w.heap.size + 1 by have := HGL.out; omega)).trans d1; have f2 := (cell_far3 w7 (w.heap.size + 1) (.int .u64 (genOf xs)) (.int .u32 (posOf xs)) (.int .i64 (fillOf xs)) (p := ⟨g, 2, none⟩) (show g ≠ w.heap.size + 1 by have := HGL.out; omega)).trans d2;
       simp only [List.getElem?_toArray, List.getElem?_cons_zero, List.getElem?_cons_succ] at d0 d1 d2 x0 x1 x2 f0 f1 f2))
    clear c0 c1 c2 c14 c15 z0 z1 z2 y0 y1 y2 d0 d1 d2 x0 x1 x2 v0 v1 v2 f0 f1 f2
    go_wp2_with (with_reducible refine halt_end ?_)
    have hz := HC7.out.zero.set3 (.int .u64 (genOf xs)) (.int .u32 (posOf xs)) (.int .i64 (fillOf xs))
    refine Halt.ret (results_row3 (p := 2) (u := 3) (v := 4) rfl _ _ (w.heap.size + 1) 189 _ _ rfl hz Tryz.underlying189 rfl size_stamp) rfl
     ⟨fun _ => ⟨_, _, rfl, ?_, below_set3 (g := w.heap.size + 1) HC7.out.bel (by omega) _ _ _, HCP7.out⟩, fun h => absurd ((stamped_iff xs HL.out HBY.out).2 hyes.out) (by rw [h]; simp)⟩
    have hl1 := HC.out.zero.lt
    have h6 : wc.drew.heap.size = wc.heap.size := rfl
    refine (HR7.out.keep (fun p hp => cell_far3 w7 (w.heap.size + 1) _ _ _ ?_)).more (fun b hb => ⟨?_, ?_⟩)
    ·have := hp.1
     omega
    ·have := hb.1
     omega
    ·simpa using hb.2
end
section
open Go.RowKit
attribute [local go_sem] Oper.semAt_some
abbrev zeroS9 : Array Value := #[.int .u64 0, .int .i64 0, .slice none 0 0]
theorem size_scan : (Tryz.prog.info? 60).map (·.size) = some 3 := by kernel_rfl
theorem one_zeroS9 : zeroS9.all (·.oneCell') = true := by simp [zeroS9, Value.oneCell']
end
section
open Go.RowKit
attribute [local go_sem] Oper.semAt_some
theorem size_stamp9 : (Tryz.prog.info? 189).map (·.size) = some 3 := by kernel_rfl
def RRecT (xss : List (List Int)) (gen : Int) (at_ : Nat) (w : World) (e : Ending) (w' : World) : Prop :=
 Below w.heap.size w w' ∧
 ((standE (ldV xss) (ldE xss) gen at_ ≠ 0 ∧ e = .returned (.tuple #[.agg zeroC, .int .i64 0])) ∨
  (standE (ldV xss) (ldE xss) gen at_ = 0 ∧ ∃ (xs : List Int) (A1 : Option Addr) (c1 : Nat) (A2 : Option Addr) (c2 : Nat), xs = meants (secsAt (ldV xss) at_ (beginsN (ldV xss at_) gen at_)) ∧
   e = .returned (.tuple #[.agg #[.int .i64 (kindOf xs), .int .u32 (flagsOf xs), .int .u32 (expOf xs), .int .u64 (seqOf xs), .slice A1 (klenOf xs) c1, .slice A2 (vlenOf xs) c2], .int .i64 (beginsN (ldV xss at_) gen at_ : Nat)]) ∧
   RowI .u8 w' (fun b => w.heap.size ≤ b ∧ b < w'.heap.size) A1 (klenOf xs) (keyOf xs) ∧ RowI .u8 w' (fun b => w.heap.size ≤ b ∧ b < w'.heap.size) A2 (vlenOf xs) (valOf xs)))
theorem rrecord_any (A : Option Addr) (n c : Nat) (xss : List (List Int)) (S : Nat → Prop) (w : World) (hx : RowK w S A n xss) (hS : ∀ b, S b → b < w.heap.size) (hs : Secs xss) (hby : ∀ i, Bytes (xss.getD i [])) (hn : n ≤ 80000) (hnc : n ≤ c) (gen : Int) (at_ : Nat) (hat : at_ ≤ 90000) :
 Calls Tryz.prog 113 #[.slice A n c, .int .u64 gen, .int .i64 at_] w (RRecT xss gen at_ w) := by
 have HX := hI hx
 have HS := hI hS
 have hln := hx.1
 have HSC := hI hs
 have HBY := hI hby
 obtain ⟨w1, hw1⟩ : ∃ w1, w1 = w.alloc (.cells zeroC 69) := ⟨_, rfl⟩
 have hb1 : Below w.heap.size w w1 := by rw [hw1]; exact (Below.refl _ _).alloc (nR _) _
 have HR1 := hI (show Blk w1 w.heap.size 69 zeroC by rw [hw1]; exact Blk.new w _ _)
 have HB1 := hI hb1
 have HW1 := hI hw1
 clear hx hS hs hby hw1 hb1
 by_cases hlt : at_ < n
 ·obtain ⟨b, off, rfl, hbS, hc⟩ := (HX.out.below HB1.out HS.out).2 (by omega)
  have hr := hc at_ hlt
  obtain ⟨ys, hys⟩ : ∃ ys, xss.getD at_ [] = ys := ⟨_, rfl⟩
  have hyl : ys.length = 64 := by rw [← hys]; exact HSC.out.get at_ (by omega)
  have hyb : Bytes ys := by rw [← hys]; exact HBY.out at_
  have hV : ldV xss at_ = ys := by unfold ldV; rw [if_pos (by omega)]; exact hys
  rw [hys] at hr
  have HYR := hI hr
  have HYL := hI hyl
  have HYB := hI hyb
  have HV := hI hV
  have HRR := hI (rread_any9 ys w1 hyl hyb)
  clear hr hyl hyb hV hys hc
  have hlt2 : ¬ ((n : Int) ≤ at_) := by omega
  go_enter Tryz.func113, Tryz.ntmps113
  go_upto_region 1 with fail
  rw [← HW1.out]
  go_wp2_with (refine wpList_load_blk (.tmp 25) rfl rfl b (off + at_ * 64) rfl ys HYL.out HYR.out ?_)
  refine HRR.out.mono ?_
  rintro e w2 ⟨hyes, hno⟩
  cases hst : stamped ys with
  | false =>
   obtain ⟨rfl, hb2⟩ := hno hst
   have HNO := hI (show standE (ldV xss) (ldE xss) gen at_ ≠ 0 from stand_not (by
    have h9 := HV.out
    unfold beginsN
    rw [h9, if_neg (fun h => by rw [hst] at h; cases h.1)]))
   obtain ⟨w3, hw3⟩ : ∃ w3, w3 = (w2.alloc (.cells #[.int .u64 0, .int .u32 0, .int .i64 0] 189)).setRow w2.heap.size #[.int .u64 0, .int .u32 0, .int .i64 0] := ⟨_, rfl⟩
   have hb3 : Below w2.heap.size w2 w3 := by rw [hw3]; exact below_setRow ((Below.refl _ _).alloc (nR _) _) (nR _) _
   have hb13 : Below w1.heap.size w1 w3 := hb2.trans (hb3.mono hb2.size)
   have HRX := hI (HR1.out.below hb13 HR1.out.lt)
   have HBX := hI (HB1.out.trans (hb13.mono HB1.out.size))
   have HWS := hI hw3.symm
   clear hyes hno hst hb2 hb3 hb13 hw3
   go_wp2_with (first
    | (with_reducible refine halt_end ?_)
    | (refine wpList_store_rowB (.tmp 6) (.tmp 46) 69 rfl rfl w.heap.size zeroC rfl rfl 69 _ HRX.out size_rec rfl one_zero ?_)
    | (refine wpList_store_rowB (.tmp 8) (.tmp 28) 189 rfl rfl w2.heap.size #[.int .u64 0, .int .u32 0, .int .i64 0] rfl rfl 189 _ (Blk.new w2 _ _) size_stamp9 rfl (by simp [Value.oneCell']) ?_; rw [HWS.out]))
   exact Halt.ret (results_row2 rfl _ _ w.heap.size 69 zeroC _ rfl (setRow_heap _ _ _ zeroC _ _ HRX.out) Tryz.underlying69 rfl size_rec) rfl ⟨below_setRow HBX.out (nR _) _, .inl ⟨HNO.out, rfl⟩⟩
  | true =>
   obtain ⟨A2, c2, rfl, hrow2, hb2, hcp2⟩ := hyes hst
   obtain ⟨w3, hw3⟩ : ∃ w3, w3 = (w2.alloc (.cells #[.int .u64 0, .int .u32 0, .int .i64 0] 189)).setRow w2.heap.size #[.int .u64 (genOf ys), .int .u32 (posOf ys), .int .i64 (fillOf ys)] := ⟨_, rfl⟩
   have hb3 : Below w2.heap.size w2 w3 := by rw [hw3]; exact below_setRow ((Below.refl _ _).alloc (nR _) _) (nR _) _
   have HST3 := hI (show Blk w3 w2.heap.size 189 #[.int .u64 (genOf ys), .int .u32 (posOf ys), .int .i64 (fillOf ys)] by rw [hw3]; exact setRow_heap _ _ _ _ _ _ (Blk.new w2 _ _))
   have hb13 : Below w1.heap.size w1 w3 := hb2.trans (hb3.mono hb2.size)
   have HR3 := hI (HR1.out.below hb13 HR1.out.lt)
   have HB3 := hI (HB1.out.trans (hb13.mono HB1.out.size))
   have HM3 := hI ((hrow2.below hb3 (fun b h => h.2)).more (T := fun b => b < w3.heap.size) (fun b h => nL h.2 hb3.size))
   have HWS := hI hw3.symm
   have HCP := hI hcp2
   have HST := hI hst
   clear hyes hno hst hb2 hb3 hb13 hw3 hrow2 hcp2
   go_upto_region 4 with (refine wpList_store_rowB (.tmp 8) (.tmp 28) 189 rfl rfl w2.heap.size #[.int .u64 (genOf ys), .int .u32 (posOf ys), .int .i64 (fillOf ys)] rfl rfl 189 _ (Blk.new w2 _ _) size_stamp9 rfl (by simp [Value.oneCell']) ?_; rw [HWS.out])
   have d0 : w3.cell? ⟨w2.heap.size, 0, none⟩ = some (.int .u64 (genOf ys)) := HST3.out.cell 0
   have d1 : w3.cell? ⟨w2.heap.size, 1, none⟩ = some (.int .u32 (posOf ys)) := HST3.out.cell 1
   have hwr : IntKind.u32.wrap (at_ : Int) = (at_ : Int) := by rw [IntKind.wrap_u32]; omega
   by_cases hg : genOf ys = gen
   case neg =>
    have HNO := hI (show standE (ldV xss) (ldE xss) gen at_ ≠ 0 from stand_not (by
     have h9 := HV.out
     unfold beginsN
     rw [h9, if_neg (fun h => hg h.2.1)]))
    have hgb : (genOf ys != gen) = true := by simpa using hg
    have HRX := HR3
    have HBX := HB3
    clear hg
    go_wp2_with (first
     | (with_reducible refine halt_end ?_)
     | (refine wpList_store_rowB (.tmp 6) (.tmp 46) 69 rfl rfl w.heap.size zeroC rfl rfl 69 _ HRX.out size_rec rfl one_zero ?_))
    exact Halt.ret (results_row2 rfl _ _ w.heap.size 69 zeroC _ rfl (setRow_heap _ _ _ zeroC _ _ HRX.out) Tryz.underlying69 rfl size_rec) rfl ⟨below_setRow HBX.out (nR _) _, .inl ⟨HNO.out, rfl⟩⟩
   by_cases hp : posOf ys = at_
   case neg =>
    have HNO := hI (show standE (ldV xss) (ldE xss) gen at_ ≠ 0 from stand_not (by
     have h9 := HV.out
     unfold beginsN
     rw [h9, if_neg (fun h => hp h.2.2.1)]))
    have hpb : (posOf ys != (at_ : Int)) = true := by simpa using hp
    have HRX := HR3
    have HBX := HB3
    clear hp
    go_wp2_with (first
     | (with_reducible refine halt_end ?_)
     | (refine wpList_store_rowB (.tmp 6) (.tmp 46) 69 rfl rfl w.heap.size zeroC rfl rfl 69 _ HRX.out size_rec rfl one_zero ?_))
    exact Halt.ret (results_row2 rfl _ _ w.heap.size 69 zeroC _ rfl (setRow_heap _ _ _ zeroC _ _ HRX.out) Tryz.underlying69 rfl size_rec) rfl ⟨below_setRow HBX.out (nR _) _, .inl ⟨HNO.out, rfl⟩⟩
   have HG := hI hg
   have HP := hI hp
   go_upto_region 6 with fail
   clear hg hp d0 d1 hwr
   go_wp2_with fail
   refine (rneed_all A2 _ c2 (meantOf ys) (fun b => b < w3.heap.size) w3 HM3.out (fun b h => h) (by unfold meantOf; split; exact bytes_part HYB.out 16 _; exact fun j => by simp) HCP.out).mono ?_
   rintro e w4 ⟨rfl, hb4⟩
   have HR4 := hI (HR3.out.below hb4 HR3.out.lt)
   have HB4 := hI (HB3.out.trans (hb4.mono HB3.out.size))
   clear hb4
   by_cases hne : needE (meantOf ys) (meantOf ys).length = 0
   case neg =>
    have HNO := hI (show standE (ldV xss) (ldE xss) gen at_ ≠ 0 from stand_not (by
     have h9 := HV.out
     unfold beginsN
     rw [h9, if_neg (fun h => hne h.2.2.2)]))
    generalize needE (meantOf ys) (meantOf ys).length = ne at *
    have hnb : (ne != 0) = true := by simpa using hne
    have HRX := HR4
    have HBX := HB4
    clear hne
    go_wp2_with (first
     | (with_reducible refine halt_end ?_)
     | (refine wpList_store_rowB (.tmp 6) (.tmp 54) 69 rfl rfl w.heap.size zeroC rfl rfl 69 _ HRX.out size_rec rfl one_zero ?_))
    exact Halt.ret (results_row2 rfl _ _ w.heap.size 69 zeroC _ rfl (setRow_heap _ _ _ zeroC _ _ HRX.out) Tryz.underlying69 rfl size_rec) rfl ⟨below_setRow HBX.out (nR _) _, .inl ⟨HNO.out, rfl⟩⟩
   have HBG := hI (show beginsN (ldV xss at_) gen at_ = cntOf (needK (meantOf ys) (meantOf ys).length) by
    have h9 := HV.out
    unfold beginsN
    rw [h9, if_pos ⟨HST.out, HG.out, HP.out, hne⟩])
   have HNF := hI (show ∀ k, 1 ≤ k → needK (meantOf ys) (meantOf ys).length = needOf (meants (secsAt (ldV xss) at_ k)) from fun k h1 => by
    have h9 := need_first (at_ := at_) (ldV xss) h1 (by rw [HV.out]; exact hne)
    rw [HV.out] at h9
    exact h9.1)
   rw [hne]
   have hnk := needK_le (meantOf ys) (meantOf ys).length
   clear hne
   generalize needK (meantOf ys) (meantOf ys).length = nk at *
   go_wp2_with fail
   refine (rsectors_any_s5 nk w4 (by omega)).mono ?_
   rintro e w5 ⟨rfl, rfl⟩
   have hck : 1 ≤ cntOf nk ∧ cntOf nk ≤ 17 := by unfold cntOf; omega
   have HCK := hI hck
   have hwa : wrap64 ((at_ : Int) + cntOf nk) = (at_ : Int) + cntOf nk := IntWalk.wrap64_in _ (by omega)
   by_cases hfit : at_ + cntOf nk ≤ n
   case neg =>
    have HNO := hI (show standE (ldV xss) (ldE xss) gen at_ ≠ 0 from fun h => by
     have h8 := stand_in h
     rw [HBG.out] at h8
     omega)
    have hgt : (n : Int) < (at_ : Int) + cntOf nk := by omega
    have HRX := HR4
    have HBX := HB4
    clear hck hfit
    go_wp2_with (first
     | (with_reducible refine halt_end ?_)
     | (refine wpList_store_rowB (.tmp 6) (.tmp 63) 69 rfl rfl w.heap.size zeroC rfl rfl 69 _ HRX.out size_rec rfl one_zero ?_))
    exact Halt.ret (results_row2 rfl _ _ w.heap.size 69 zeroC _ rfl (setRow_heap _ _ _ zeroC _ _ HRX.out) Tryz.underlying69 rfl size_rec) rfl ⟨below_setRow HBX.out (nR _) _, .inl ⟨HNO.out, rfl⟩⟩
   have hng : ¬ ((n : Int) < (at_ : Int) + cntOf nk) := by omega
   have HFIT := hI hfit
   clear hck hnk
   generalize hkk : cntOf nk = kk at *
   go_upto_region 12 with fail
   clear hng
   go_wp2_with fail
   have HKK := hI hkk
   clear hkk hwa
   have hVl : ∀ i, (ldV xss i).length = 64 := fun i => by
    unfold ldV
    split
    ·exact HSC.out.get i (by assumption)
    ·exact noughts_length 64
   have hVb : ∀ i, Bytes (ldV xss i) := fun i => by
    unfold ldV
    split
    ·exact HBY.out i
    ·exact noughts_bytes9 64
   have hXP : RowK w4 S (some ⟨b, off + at_ * 64, none⟩) kk (secsAt (ldV xss) at_ kk) := by
    rw [secsAt_drop (by have := HFIT.out; omega)]
    exact (HX.out.below HB4.out HS.out).part HFIT.out hln
   refine (rjoin_any9 _ kk _ (secsAt (ldV xss) at_ kk) S w4 hXP (fun b h => nL (HS.out b h) HB4.out.size) (secsAt_secs hVl _ _) (secsAt_bytes hVb _ _) (by have := HCK.out; omega)).mono ?_
   have HSI := hI (show standE (ldV xss) (ldE xss) gen at_ = 0 ↔ StandsIn (secsAt (ldV xss) at_ kk) by
    have h1 := HBG.out
    have h2 := stand_iff (xss := xss) (gen := gen) (at_ := at_) (by rw [h1]; exact HCK.out.1) (by rw [h1, hln]; exact HFIT.out)
    rw [h1] at h2
    exact h2)
   have HNK := hI (HNF.out kk HCK.out.1)
   rintro e w6 ⟨hyes, hno⟩
   by_cases hch : Chain (secsAt (ldV xss) at_ kk)
   case neg =>
    obtain ⟨⟨A6, n6, c6, rfl⟩, hb6⟩ := hno (fun h => hch h.2)
    have HNO := hI (show standE (ldV xss) (ldE xss) gen at_ ≠ 0 from fun h => hch (HSI.out.1 h).1)
    have HRX := hI (HR4.out.below hb6 HR4.out.lt)
    have HBX := hI (HB4.out.trans (hb6.mono HB4.out.size))
    clear hyes hno hch hb6 hVl hVb hXP
    go_wp2_with (first
     | (with_reducible refine halt_end ?_)
     | (refine wpList_store_rowB (.tmp 6) (.tmp 82) 69 rfl rfl w.heap.size zeroC rfl rfl 69 _ HRX.out size_rec rfl one_zero ?_))
    exact Halt.ret (results_row2 rfl _ _ w.heap.size 69 zeroC _ rfl (setRow_heap _ _ _ zeroC _ _ HRX.out) Tryz.underlying69 rfl size_rec) rfl ⟨below_setRow HBX.out (nR _) _, .inl ⟨HNO.out, rfl⟩⟩
   obtain ⟨A6, c6, rfl, hrow6, hb6, hcp6⟩ := hyes ⟨by rw [secsAt_length]; exact HCK.out.1, hch⟩
   have HCH := hI hch
   have HR6 := hI (HR4.out.below hb6 HR4.out.lt)
   have HB6 := hI (HB4.out.trans (hb6.mono HB4.out.size))
   have HROW := hI hrow6
   have HCP6 := hI hcp6
   have HMB := hI (show Bytes (meants (secsAt (ldV xss) at_ kk)) from meants_bytes (secsAt_bytes hVb _ _))
   clear hyes hno hch hb6 hVl hVb hXP hrow6 hcp6
   obtain ⟨xs, hxs⟩ : ∃ xs, meants (secsAt (ldV xss) at_ kk) = xs := ⟨_, rfl⟩
   rw [hxs] at HROW HCP6 HMB HNK
   rw [hxs]
   have HXS := hI hxs
   clear hxs
   by_cases hlen : xs.length = nk
   case neg =>
    have HNO := hI (show standE (ldV xss) (ldE xss) gen at_ ≠ 0 from fun h => by
     have h1 := (HSI.out.1 h).2.2
     rw [HXS.out] at h1
     exact hlen (h1.symm.trans HNK.out.symm))
    have hlb : ((xs.length : Int) != (nk : Int)) = true := by simp; omega
    have HRX := HR6
    have HBX := HB6
    clear hlen
    go_wp2_with (first
     | (with_reducible refine halt_end ?_)
     | (refine wpList_store_rowB (.tmp 6) (.tmp 82) 69 rfl rfl w.heap.size zeroC rfl rfl 69 _ HRX.out size_rec rfl one_zero ?_))
    exact Halt.ret (results_row2 rfl _ _ w.heap.size 69 zeroC _ rfl (setRow_heap _ _ _ zeroC _ _ HRX.out) Tryz.underlying69 rfl size_rec) rfl ⟨below_setRow HBX.out (nR _) _, .inl ⟨HNO.out, rfl⟩⟩
   subst hlen
   go_wp2_with fail
   by_cases hd : DecOk xs xs.length
   case neg =>
    have HNO := hI (show standE (ldV xss) (ldE xss) gen at_ ≠ 0 from fun h => by
     have h1 := (HSI.out.1 h).2.1
     rw [HXS.out] at h1
     exact hd h1)
    refine (rdec_no A6 _ c6 xs _ w6 HROW.out (fun b h => h.2) HMB.out HCP6.out hd).mono ?_
    rintro e w7 ⟨rfl, hb7⟩
    have herr : errOf xs xs.length ≠ 0 := by rcases errOf_cases xs xs.length with e | e <;> rw [e] <;> decide
    generalize errOf xs xs.length = er at *
    have heb : (er != 0) = true := by simpa using herr
    obtain ⟨w8, hw8⟩ : ∃ w8, w8 = (w7.alloc (.cells zeroC 69)).setRow w7.heap.size zeroC := ⟨_, rfl⟩
    have hb8 : Below w7.heap.size w7 w8 := by rw [hw8]; exact below_setRow ((Below.refl _ _).alloc (nR _) _) (nR _) _
    have hb68 : Below w6.heap.size w6 w8 := hb7.trans (hb8.mono hb7.size)
    have HRX := hI (HR6.out.below hb68 HR6.out.lt)
    have HBX := hI (HB6.out.trans (hb68.mono HB6.out.size))
    have HW8 := hI hw8.symm
    clear herr hw8 hb8 hb7 hb68 hd
    go_upto_region 16 with (refine wpList_store_rowB (.tmp 15) (.tmp 86) 69 rfl rfl w7.heap.size zeroC rfl rfl 69 _ (Blk.new w7 _ _) size_rec rfl one_zero ?_; rw [HW8.out])
    go_wp2_with (first
     | (with_reducible refine halt_end ?_)
     | (refine wpList_store_rowB (.tmp 6) (.tmp 91) 69 rfl rfl w.heap.size zeroC rfl rfl 69 _ HRX.out size_rec rfl one_zero ?_))
    exact Halt.ret (results_row2 rfl _ _ w.heap.size 69 zeroC _ rfl (setRow_heap _ _ _ zeroC _ _ HRX.out) Tryz.underlying69 rfl size_rec) rfl ⟨below_setRow HBX.out (nR _) _, .inl ⟨HNO.out, rfl⟩⟩
   have hd2 := hd
   unfold DecOk at hd2
   refine (rdec_ok A6 _ c6 xs _ w6 HROW.out (fun b h => h.2) HMB.out hd2.1 HCP6.out hd2.2.1 hd2.2.2).mono ?_
   rintro e w7 ⟨A1, c1, A2', c2', rfl, hr1, hr2, hb7⟩
   have HSE := hI (show standE (ldV xss) (ldE xss) gen at_ = 0 from HSI.out.2 ⟨HCH.out, by rw [HXS.out]; exact hd, by rw [HXS.out]; exact HNK.out.symm⟩)
   obtain ⟨rc, hrc⟩ : ∃ rc : Array Value, rc = #[.int .i64 (kindOf xs), .int .u32 (flagsOf xs), .int .u32 (expOf xs), .int .u64 (seqOf xs), .slice A1 (klenOf xs) c1, .slice A2' (vlenOf xs) c2'] := ⟨_, rfl⟩
   have hrs : rc.size = 6 := by rw [hrc]; rfl
   have hro : rc.all (·.oneCell') = true := by rw [hrc]; simp [Value.oneCell']
   obtain ⟨w8, hw8⟩ : ∃ w8, w8 = (w7.alloc (.cells zeroC 69)).setRow w7.heap.size rc := ⟨_, rfl⟩
   have hb8 : Below w7.heap.size w7 w8 := by rw [hw8]; exact below_setRow ((Below.refl _ _).alloc (nR _) _) (nR _) _
   have HRC8 := hI (show Blk w8 w7.heap.size 69 rc by rw [hw8]; exact setRow_heap _ _ _ _ _ _ (Blk.new w7 _ _))
   have hb68 : Below w6.heap.size w6 w8 := hb7.trans (hb8.mono hb7.size)
   have HR8 := hI (HR6.out.below hb68 HR6.out.lt)
   have HB8 := hI (HB6.out.trans (hb68.mono HB6.out.size))
   have HK1 := hI (hr1.below hb8 (fun b h => h.2))
   have HK2 := hI (hr2.below hb8 (fun b h => h.2))
   have HSZ := hI (show w.heap.size < w6.heap.size ∧ w6.heap.size ≤ w7.heap.size ∧ w7.heap.size ≤ w8.heap.size from ⟨HR6.out.lt, hb7.size, hb8.size⟩)
   have HW8 := hI hw8.symm
   have HRS := hI (And.intro hrs hro)
   have HRC := hI hrc
   rw [← hrc]
   clear hrs hro hrc hw8 hb8 hb7 hb68 hd hd2 hr1 hr2
   go_upto_region 16 with (refine wpList_store_rowB (.tmp 15) (.tmp 86) 69 rfl rfl w7.heap.size rc rfl rfl 69 _ (Blk.new w7 _ _) (by rw [HRS.out.1]; exact size_rec) (by rw [HRS.out.1]; rfl) HRS.out.2 ?_; rw [HW8.out])
   go_wp2_with (first
    | (with_reducible refine halt_end ?_)
    | (refine wpList_load_rowB (.tmp 15) 69 rfl rfl w7.heap.size rfl 69 rc.toList _ Tryz.underlying69 rfl (by simp only [Array.length_toList, HRS.out.1]; exact size_rec) HRC8.out ?_)
    | (refine wpList_store_rowB (.tmp 6) (.tmp 92) 69 rfl rfl w.heap.size rc rfl rfl 69 _ HR8.out (by rw [HRS.out.1]; exact size_rec) (by rw [HRS.out.1]; rfl) HRS.out.2 ?_))
   have hkr : Kept (fun b => b ≠ w.heap.size) w8 (w8.setRow w.heap.size rc) := (Kept.refl _ _).setRow (fun h => h rfl) _
   have hsz := HSZ.out
   have hkz : w8.heap.size ≤ (w8.setRow w.heap.size rc).heap.size := hkr.size
   refine Halt.ret (results_row2 rfl _ _ w.heap.size 69 rc _ rfl (setRow_heap _ _ _ rc _ _ HR8.out) Tryz.underlying69 rfl (by rw [HRS.out.1]; exact size_rec)) rfl ⟨below_setRow HB8.out (nR _) _, .inr ⟨HSE.out, xs, A1, c1, A2', c2', ?_, ?_, ?_, ?_⟩⟩
   ·rw [HBG.out]; exact HXS.out.symm
   ·rw [HBG.out]
    show Ending.returned (.tuple #[.agg rc, .int .i64 (kk : Nat)]) = _
    rw [HRC.out]
   ·exact (HK1.out.kept hkr (fun b h => by have := h.1; omega)).more (fun b h => ⟨by have := h.1; omega, by have := h.2; omega⟩)
   ·exact (HK2.out.kept hkr (fun b h => by have := h.1; omega)).more (fun b h => ⟨by have := h.1; omega, by have := h.2; omega⟩)
 ·have HNO := hI (show standE (ldV xss) (ldE xss) gen at_ ≠ 0 from fun h => by have := stand_in h; omega)
  have hge : (n : Int) ≤ at_ := by omega
  have HRX := hI HR1.out
  have HBX := hI HB1.out
  have HWS := hI (rfl : (0 : Nat) = 0)
  go_enter Tryz.func113, Tryz.ntmps113
  go_upto_region 1 with fail
  rw [← HW1.out]
  go_wp2_with (first
   | (with_reducible refine halt_end ?_)
   | (refine wpList_store_rowB (.tmp 6) (.tmp 21) 69 rfl rfl w.heap.size zeroC rfl rfl 69 _ HRX.out size_rec rfl one_zero ?_)
   | (refine wpList_store_rowB (.tmp 8) (.tmp 28) 189 rfl rfl w1.heap.size zeroC rfl rfl 189 _ (Blk.new w1 _ _) size_stamp9 rfl (by simp [Value.oneCell']) ?_; rw [HWS.out]))
  exact Halt.ret (results_row2 rfl _ _ w.heap.size 69 zeroC _ rfl (setRow_heap _ _ _ zeroC _ _ HRX.out) Tryz.underlying69 rfl size_rec) rfl ⟨below_setRow HBX.out (nR _) _, .inl ⟨HNO.out, rfl⟩⟩
end
section
open Go.RowKit
attribute [local go_sem] Oper.semAt_some
theorem be_small : ∀ i : Nat, i ≤ 15 → beBytes (i : Int) 2 = [(i : Int) / 256, (i : Int)] := by
 intro i hi
 match i, hi with
 | 0, _ | 1, _ | 2, _ | 3, _ | 4, _ | 5, _ | 6, _ | 7, _ | 8, _ | 9, _ | 10, _ | 11, _ | 12, _ | 13, _ | 14, _ | 15, _ => decide +kernel
 | n + 16, h => omega
theorem rheader_any (i : Nat) (g : Int) (w : World) (hi : i ≤ 15) (hg : 0 ≤ g ∧ g ≤ 18446744073709551615) :
 Calls Tryz.prog 112 #[.int .u64 g, .int .i64 i] w fun e w' => e = .returned (.agg (cells8 (hdrL i g))) ∧ Below w.heap.size w w' := by
 have HL := hI (hdrL_length i g)
 have HB := hI (be_small i hi)
 have hw : IntKind.u64.wrap (i : Int) = (i : Int) := by rw [IntKind.wrap_u64]; omega
 obtain ⟨w1, hw1⟩ : ∃ w1, w1 = w.alloc (.cells (cells8 (noughts 64)) 92) := ⟨_, rfl⟩
 have hb1 : Below w.heap.size w w1 := by rw [hw1]; exact (Below.refl _ _).alloc (nR _) _
 have HR1 := hI (show Arr (Value.int .u8) w1 w.heap.size 92 (noughts 64) by rw [hw1]; exact Blk.new w _ _)
 have HB1 := hI hb1
 have HW1 := hI hw1.symm
 clear hw1 hb1
 go_enter Tryz.func112, Tryz.ntmps112
 go_upto_region 1 with (refine wpList_alloc_blk rfl rfl ?_)
 rw [HW1.out]
 go_wp2_with fail
 refine (high_any i 2 w1 (by omega) (by omega) (by omega)).mono ?_
 rintro e w2 ⟨rfl, ha, hb2⟩
 have HA2 := hI ha
 have HB2 := hI hb2
 clear ha hb2
 go_wp2_with fail
 refine (block_any g 0 _ 2 2 (beBytes i 2) (fun b => b < w2.heap.size) w2 (HA2.out.rowN 0 (beBytes_length _ _) HA2.out.lt) (fun b h => h) hg.1 hg.2 (by omega) (by omega) (by omega)).mono ?_
 rintro e w3 ⟨rfl, hb3⟩
 rw [HB.out, show packL g 0 [(i : Int) / 256, (i : Int)] = hdrL i g from rfl]
 have hb13 : Below w1.heap.size w1 w3 := HB2.out.trans (hb3.mono HB2.out.size)
 have HR3 := hI (show Arr (Value.int .u8) w3 w.heap.size 92 (noughts 64) from Blk.below HR1.out hb13 (Blk.lt HR1.out))
 have HB3 := hI (HB1.out.trans (hb13.mono HB1.out.size))
 clear hb3 hb13
 go_wp2_with (first
  | (refine wpList_store_blk (.tmp 4) (.tmp 9) rfl rfl w.heap.size (hdrL i g) rfl rfl 92 (noughts 64) HR3.out (noughts_length 64) HL.out ?_)
  | (with_reducible refine halt_end ?_))
 exact Halt.ret (results_blk1 (p := 4) rfl _ _ w.heap.size 92 (hdrL i g) rfl (HR3.out.setRow (hdrL i g)) HL.out) rfl ⟨rfl, below_setRow HB3.out (nR _) _⟩
end
section
open Go.RowKit
theorem eql_nil_seg (A : Option Addr) (n c : Nat) (w : World) : (binOp .eql 101 (.slice A n c) (.slice none 0 0)).run Tryz.prog w = .ok (.bool A.isNone) w := by
 have h := run_equal_slice_nil (P := Tryz.prog) w 101 237 A n c Tryz.underlying101
 simp [go_sem, binOp, h]
theorem clone_nil (c : Nat) (hc : c = 0) (w : World) : Calls Tryz.prog 186 #[.slice none 0 c] w fun e w' => e = .returned (.slice none 0 0) ∧ w' = w := by
 subst hc
 have heq := eql_nil_seg none 0 0
 go_enter Tryz.func186, Tryz.ntmps186
 go_wp2
 go_ret
 exact ⟨rfl, rfl⟩
theorem clone_some {w : World} {a : Addr} {n c : Nat} {xs : List Seg} (h : RowZ w (· < w.heap.size) (some a) n xs) (hn : n ≤ 1000) :
 Calls Tryz.prog 186 #[.slice (some a) n c] w fun e w' => (∃ A' c', e = .returned (.slice A' n c') ∧ OwnZ w' w.heap.size A' n c' xs) ∧ Below w.heap.size w w' := by
 have heq := eql_nil_seg (some a) n c
 have HO := hI (own_empty3 w)
 have HB := hI ((Below.refl w.heap.size w).alloc (nR _) (.cells #[] 237))
 have HX := hI (row_now h HB.out)
 have HL := hI h.1
 have h1000 : (0 : Nat) + n ≤ 1000000 := by omega
 clear h
 go_enter Tryz.func186, Tryz.ntmps186
 go_wp2_with (at_builtin; refine wpList_append_rowZ (.tmp 5) (.tmp 6) rfl rfl w.heap.size _ 0 [] rfl HO.out _ (some a) n c xs rfl HX.out (fun e => by cases e) h1000 (by simp) ?_; rintro v' w4 ho hg _; have HB4 := hI (HB.out.grown hg HB.out.size (fun k e => nT (by omega) (own_least HO.out e))); obtain ⟨A', cap', rfl, hc, hn', hrow⟩ := rowZ_own ho (xs := xs) (by simp) (by rw [HL.out, Nat.zero_add]); rw [Nat.zero_add] at hc hrow; simp only [Nat.zero_add]; have HROW := hI ho; have HC := hI hc; have HN := hI hn'; clear ho hg hc hn' hrow)
 go_ret
 have hown := HROW.out
 rw [Nat.zero_add, List.nil_append] at hown
 exact ⟨⟨A', cap', rfl, HL.out, hown, HN.out, HC.out⟩, HB4.out⟩
theorem clone_segs {w : World} {A : Option Addr} {n c : Nat} {xs : List Seg} (h : RowZ w (· < w.heap.size) A n xs) (hnil : A = none → c = 0) (hnc : n ≤ c) (hn : n ≤ 1000) :
 Calls Tryz.prog 186 #[.slice A n c] w fun e w' => (∃ A' c', e = .returned (.slice A' n c') ∧ OwnZ w' w.heap.size A' n c' xs) ∧ Below w.heap.size w w' := by
 cases A with
 | none =>
  have hc := hnil rfl
  subst hc
  obtain rfl : n = 0 := by omega
  have hx : xs = [] := List.length_eq_zero_iff.1 h.1
  subst hx
  refine (clone_nil 0 rfl w).mono ?_
  rintro e w' ⟨rfl, rfl⟩
  exact ⟨⟨none, 0, rfl, rfl, ⟨rfl, .inl ⟨rfl, rfl⟩⟩, fun _ => rfl, nR _⟩, Below.refl _ _⟩
 | some a =>
  exact clone_some h hn
theorem copied_ring {w : World} {A : Option Addr} {n c : Nat} {xs : List Seg} (h : RowZ w (· < w.heap.size) A n xs) (hnil : A = none → c = 0) (hnc : n ≤ c) (hn : n ≤ 1000) (sec : Int) :
 Calls Tryz.prog 122 #[ringV sec A n c] w fun e w' => (∃ A' c', e = .returned (ringV sec A' n c') ∧ OwnZ w' w.heap.size A' n c' xs) ∧ Below w.heap.size w w' := by
 have HB := hI (((Below.refl w.heap.size w).alloc (nR _) (.cells #[.int .i64 sec, .slice A n c] 103)).alloc (by simp) (.cells #[.int .i64 0, .slice none 0 0] 103))
 have HK0 := hI ((Blk.new w 103 #[.int .i64 sec, .slice A n c]).alloc (.cells #[.int .i64 0, .slice none 0 0] 103))
 have HK1 := hI (blk_new2 w (.cells #[.int .i64 sec, .slice A n c] 103) 103 #[.int .i64 0, .slice none 0 0])
 have HC := hI (clone_segs (row_now h HB.out) hnil hnc hn)
 obtain ⟨k0, k1⟩ := ring_cells HK0.out
 clear h
 go_enter Tryz.func122, Tryz.ntmps122
 go_wp2_with fail
 refine HC.out.mono ?_
 rintro e w3 ⟨⟨A', c', rfl, ho⟩, hb⟩
 have hs2 : w.heap.size + 1 + 1 ≤ w3.heap.size := by have := hb.size; simpa using this
 have HK3 := hI (HK0.out.below hb HK0.out.lt)
 have HK4 := hI (HK1.out.below hb HK1.out.lt)
 have HB3 := hI (HB.out.trans (hb.mono HB.out.size))
 have HO := hI (ho.base (m := w.heap.size + 1 + 1) (by simp))
 have f0 := HK3.out.frozen 1
 have hne : w.heap.size ≠ w.heap.size + 1 := by omega
 have HK5 := hI (HK3.out.set_ 1 (.slice A' n c'))
 have HK6 := hI (HK4.out.far (p := ⟨w.heap.size, 1, none⟩) hne.symm (.slice A' n c'))
 obtain ⟨g0, g1⟩ := And.intro (HK6.out.frozen 0) (HK6.out.frozen 1)
 obtain ⟨q0, q1⟩ : _ ∧ _ := ring_cells HK5.out
 obtain ⟨p0, p1⟩ := ring_cells HK6.out
 clear ho hb k0 k1
 obtain ⟨k0, k1⟩ := ring_cells HK3.out
 go_wp2_with (with_reducible refine halt_end ?_)
 have hst := (HK6.out.set_ 0 (.int .i64 sec)).set_ 1 (.slice A' n c')
 have hown := ((HO.out.far (p := ⟨w.heap.size, 1, none⟩) (by show w.heap.size < _; omega) (.slice A' n c')).far (p := ⟨w.heap.size + 1, 0, none⟩) (by show w.heap.size + 1 < _; omega) (.int .i64 sec)).far (p := ⟨w.heap.size + 1, 1, none⟩) (by show w.heap.size + 1 < _; omega) (.slice A' n c')
 have hbel := ((HB3.out.setCell (p := ⟨w.heap.size, 1, none⟩) (nR _) (.slice A' n c')).setCell (p := ⟨w.heap.size + 1, 0, none⟩) (by simp) (.int .i64 sec)).setCell (p := ⟨w.heap.size + 1, 1, none⟩) (by simp) (.slice A' n c')
 exact Halt.ret (results_row1 (p := 2) rfl _ _ (w.heap.size + 1) 103 #[.int .i64 sec, .slice A' n c'] _ rfl hst Tryz.underlying103 rfl size_ring) rfl ⟨⟨A', c', rfl, hown.base (by omega)⟩, hbel⟩
end
section
open Go.RowKit
section
variable {w : World} {X : Nat → Prop} {p d n : Nat} {s : Sup} {t : Int} {k : Dk} {A : Option Addr} {m c : Nat} {xs : List Seg}
theorem open_log_ok (hs : StoS w X p d n s t k) (hX : ∀ b, X b → b < w.heap.size) (h : RowZ w (· < w.heap.size) A m xs) (hnil : A = none → c = 0) (hmc : m ≤ c) (sec : Int) (hk : OkR sec xs) (ha : (m : Int) = s.a) (hb : sec = s.b) (ho : opnR xs < 0) :
 Calls Tryz.prog 50 #[.pointer (some ⟨p, 0, none⟩), ringV sec A m c] w fun e w' => ∃ l A' c', e = .returned (.tuple #[.pointer (some ⟨l, 0, none⟩), .int .i64 0]) ∧ LogM w' X l p d n s t k sec A' m c' xs false ∧ m ≤ c' ∧ (A' = none → c' = 0) ∧ w.heap.size ≤ l ∧ Below w.heap.size w w' := by
 have HS := hI hs
 have HXX := hI hX
 have HR := hI h
 have HB := hI ((Below.refl w.heap.size w).alloc (nR _) (.cells #[.int .i64 sec, .slice A m c] 103))
 have HK0 := hI (Blk.new w 103 #[.int .i64 sec, .slice A m c])
 have HC := hI (check_any (cap := c) (row_now h HB.out) sec)
 rw [if_pos hk] at HC
 obtain ⟨ov, hov⟩ : ∃ x, openedV sec xs = x := ⟨_, rfl⟩
 have e1 := (opened_no hk ho).1
 obtain ⟨k0, k1⟩ := ring_cells HK0.out
 have HOV := hI hov
 have HOE := hI e1
 have HMN := hI (And.intro hnil (And.intro hmc (show m ≤ 1000 by have := (ok_n hk h.1).2; omega)))
 have d1 : ((m : Int) != s.a) = false := by simpa using ha
 have d2 : (sec != s.b) = false := by simpa using hb
 clear h hs hk hov e1 ha hb ho hX hnil hmc
 go_enter Tryz.func50, Tryz.ntmps50
 go_wp2_with fail
 refine HC.out.mono ?_
 rintro e w2 ⟨rfl, hb⟩
 have HB2 := hI (HB.out.trans (hb.mono HB.out.size))
 have HK2 := hI (HK0.out.below hb HK0.out.lt)
 clear hb k0 k1
 go_wp2_with fail
 refine (get_any (HS.out.below HB2.out)).mono ?_
 rintro e w3 ⟨rfl, hb⟩
 have HB3 := hI ((HB2.out.trans (hb.mono HB2.out.size)).alloc (HB2.out.trans (hb.mono HB2.out.size)).size (.cells #[.int .i64 s.a, .int .i64 s.b, .int .u64 s.g, .int .u64 s.r, .int .u64 s.v, .int .u64 s.f] 136))
 have HK3 := hI ((HK2.out.below hb HK2.out.lt).alloc (.cells #[.int .i64 s.a, .int .i64 s.b, .int .u64 s.g, .int .u64 s.r, .int .u64 s.v, .int .u64 s.f] 136))
 obtain ⟨k0, k1⟩ := ring_cells HK3.out
 clear hb
 go_wp2_with fail
 refine (opened_any (row_now HR.out HB3.out) sec).mono ?_
 rintro e w4 ⟨rfl, hb⟩
 rw [HOV.out, HOE.out]
 have HB4 := hI (HB3.out.trans (hb.mono HB3.out.size))
 have HK4 := hI (HK3.out.below hb HK3.out.lt)
 clear hb k0 k1
 obtain ⟨k0, k1⟩ := ring_cells HK4.out
 go_wp2_with fail
 refine (copied_ring (row_now HR.out HB4.out) HMN.out.1 HMN.out.2.1 HMN.out.2.2 sec).mono ?_
 rintro e w5 ⟨⟨A', c', rfl, hown⟩, hb⟩
 have HB5 := hI (HB4.out.trans (hb.mono HB4.out.size))
 have HO5 := hI (hown.base (m := w.heap.size) HB4.out.size)
 clear hb hown k0 k1
 go_wp2_with fail
 go_ret2
 have hal := (Below.refl w5.heap.size w5).alloc (nR _) (.cells (logC p sec A' m c' false) 169)
 have hba := HB5.out.alloc HB5.out.size (.cells (logC p sec A' m c' false) 169)
 have hl := HB5.out.size
 refine ⟨w5.heap.size, A', c', rfl, ⟨Blk.new w5 _ _, fun hx => by have := HXX.out _ hx; omega, From w.heap.size w5, ?_, HO5.out.row.below hal (fun b h => h.2), fun b hb => ⟨nL hb.2 hal.size, by have := hb.2; omega, fun hx => by have := HXX.out _ hx; have := hb.1; omega⟩⟩, HO5.out.2.2.2, HO5.out.2.2.1, hl, hba⟩
 exact StoreM.kept HS.out (Kept.of_below hba (fun b h => h)) (fun b hb _ => hb) (fun b hb hy => by
  rcases hy with h | h | h
  ·exact h
  ·omega
  ·have := h.1; omega)
end
end
section
open Go.RowKit
section
variable {w w' : World} {X Y : Nat → Prop} {l p d n m c : Nat} {s : Sup} {t : Int} {k : Dk} {sec : Int} {A : Option Addr} {xs : List Seg} {br : Bool}
theorem LogM.put (h : LogM w X l p d n s t k sec A m c xs br) (hX : ∀ b, X b → b < w.heap.size) (hb : Below w.heap.size w w') {A2 : Option Addr} {c2 : Nat} {ys : List Seg} (ho : OwnZ w' w.heap.size A2 m c2 ys) :
 LogM ((w'.setCell ⟨l, 1, none⟩ (.int .i64 sec)).setCell ⟨l, 2, none⟩ (.slice A2 m c2)) X l p d n s t k sec A2 m c2 ys br ∧ Kept X w ((w'.setCell ⟨l, 1, none⟩ (.int .i64 sec)).setCell ⟨l, 2, none⟩ (.slice A2 m c2)) := by
 obtain ⟨h1, h2, R, h3, h4, h5⟩ := h
 have hlt := h1.lt
 have hk : Kept (fun b => b < w.heap.size ∧ b ≠ l) w ((w'.setCell ⟨l, 1, none⟩ (.int .i64 sec)).setCell ⟨l, 2, none⟩ (.slice A2 m c2)) :=
  ((Kept.of_below hb (fun b h => h.1)).setCell (p := ⟨l, 1, none⟩) (fun h => h.2 rfl) _).setCell (p := ⟨l, 2, none⟩) (fun h => h.2 rfl) _
 have ho2 := (ho.far (p := ⟨l, 1, none⟩) hlt (.int .i64 sec)).far (p := ⟨l, 2, none⟩) hlt (.slice A2 m c2)
 refine ⟨⟨((h1.below hb hlt).set_ 1 (.int .i64 sec)).set_ 2 (.slice A2 m c2), h2, From w.heap.size ((w'.setCell ⟨l, 1, none⟩ (.int .i64 sec)).setCell ⟨l, 2, none⟩ (.slice A2 m c2)), ?_, ho2.row, fun b hb => ⟨hb.2, by have := hb.1; omega, fun hx => by have := hX b hx; have := hb.1; omega⟩⟩, hk.mono (fun b hx => ⟨hX b hx, fun e => h2 (e ▸ hx)⟩)⟩
 refine StoreM.kept h3 hk (fun b hb hx => ⟨hb, fun e => hx (.inr (.inl e))⟩) (fun b hb hy => ?_)
 rcases hy with h | h | h
 ·exact .inl h
 ·exact .inr (.inl h)
 ·have := h.1; omega
theorem StoreM.grow {a b g r v f : Int} (h : StoreM w Y p d n a b g r v f t k) (hb : Below w.heap.size w w') : StoreM w' (fun b => Y b ∨ (w.heap.size ≤ b ∧ b < w'.heap.size)) p d n a b g r v f t k :=
 StoreM.kept (Z := fun b => b < w.heap.size) h (Kept.of_below hb (fun b h => h)) (fun b hb _ => hb) (fun b hb hy => by
  rcases hy with h | h
  ·exact h
  ·omega)
theorem grow_lt (hY : ∀ b, Y b → b < w.heap.size) (hs : w.heap.size ≤ w'.heap.size) : ∀ b, (Y b ∨ (w.heap.size ≤ b ∧ b < w'.heap.size)) → b < w'.heap.size := fun b h => by
 rcases h with h | h
 ·exact nL (hY b h) hs
 ·exact h.2
noncomputable def sealedX (sec : Int) (xs : List Seg) : List Seg := if sealE sec xs = 0 then sealX xs else xs
def BegC (w : World) (X : Nat → Prop) (l p d n : Nat) (s : Sup) (t : Int) (k : Dk) (sec : Int) (m : Nat) (zs : List Seg) (wx : World) : Prop :=
 ∃ A c, LogM wx X l p d n s t k sec A m c zs false ∧ Kept X w wx ∧ m ≤ c ∧ (A = none → c = 0)
theorem seal_len (xs : List Seg) : (sealX xs).length = xs.length := by unfold sealX; rw [List.length_set]
end
end
section
open Go.RowKit
abbrev lw0 : Oper := ⟨some 33, .move (.tmp 0), 25, "log.go:343", #[], none⟩
abbrev lw1 : Oper := ⟨some 34, .nilCheck (.tmp 33), 0, "log.go:343", #[⟨0, .data⟩], none⟩
abbrev lw2 : Oper := ⟨some 35, .fieldAddr 169 (.tmp 34) 0, 0, "log.go:343", #[⟨1, .data⟩], none⟩
abbrev lw3 : Oper := ⟨some 36, .load 63 (.tmp 35), 63, "log.go:343", #[⟨2, .data⟩], none⟩
abbrev lw4 : Oper := ⟨some 37, .call { callee := .value (.func 139), args := #[.tmp 36], argTypes := #[63] }, 24, "log.go:343", #[⟨3, .data⟩], none⟩
abbrev lw5 : Oper := ⟨some 38, .move (.tmp 9), 3, "log.go:343", #[], none⟩
abbrev lw6 : Oper := ⟨some 39, .move (.tmp 2), 3, "log.go:343", #[], none⟩
abbrev lw7 : Oper := ⟨some 40, .binOp Go.BinOp.add 3 (.tmp 38) (.tmp 39) 3, 3, "log.go:343", #[⟨5, .data⟩, ⟨6, .data⟩], none⟩
abbrev lw8 : Oper := ⟨some 41, .move (.tmp 11), 3, "log.go:343", #[], none⟩
abbrev lw9 : Oper := ⟨some 42, .binOp Go.BinOp.add 3 (.tmp 40) (.tmp 41) 3, 3, "log.go:343", #[⟨7, .data⟩, ⟨8, .data⟩], none⟩
abbrev lw10 : Oper := ⟨some 43, .load 92 (.tmp 12), 92, "log.go:343", #[], none⟩
abbrev lw11 : Oper := ⟨some 44, .call { callee := .value (.func 44), args := #[.tmp 37, .tmp 42, .tmp 43], argTypes := #[24, 3, 92] }, 29, "log.go:343", #[⟨4, .data⟩, ⟨9, .data⟩, ⟨10, .data⟩, ⟨4, .chain⟩], none⟩
abbrev lw12 : Oper := ⟨some 13, .assign (.tmp 44), 29, "log.go:343", #[⟨11, .data⟩, ⟨11, .chain⟩, ⟨0, .phase⟩, ⟨1, .phase⟩, ⟨2, .phase⟩, ⟨3, .phase⟩, ⟨4, .phase⟩, ⟨5, .phase⟩, ⟨6, .phase⟩, ⟨7, .phase⟩, ⟨8, .phase⟩, ⟨9, .phase⟩, ⟨10, .phase⟩, ⟨11, .phase⟩], none⟩
def wrs (k : Dk) (i : Nat) : List (List Int) → Dk × Int
 | [] => (k, 0)
 | ys :: r => if k.wre = 0 then wrs (k.wr (Dk.put i ys)) (i + 1) r else (k.wr (Dk.put i ys), k.wre)
theorem wr_pend (k : Dk) (i : Nat) (ys : List Int) : (k.wr (Dk.put i ys)).pend.length ≤ k.pend.length + 1 := by
 unfold Dk.wr
 split
 ·omega
 split
 ·show k.pend.length ≤ _; omega
 split
 ·show k.pend.length ≤ _; omega
 ·show (k.pend ++ [_]).length ≤ _; simp
section
variable {w : World} {Y : Nat → Prop} {l p d N m c : Nat} {s : Sup} {t : Int} {k : Dk} {A : Option Addr} {xss : List (List Int)}
def WrI (w : World) (Y : Nat → Prop) (l p d N : Nat) (s : Sup) (t : Int) (k : Dk) (i0 : Nat) (xss : List (List Int)) (j : Nat) (wr : World) : Prop :=
 ∃ kj : Dk, StoS wr Y p d N s t kj ∧ Kept Y w wr ∧ wrs k i0 xss = wrs kj (i0 + j) (xss.drop j) ∧ kj.pend.length ≤ k.pend.length + j
theorem write_log (hs : StoS w Y p d N s t k) (hY : ∀ b, Y b → b < w.heap.size) (hl : Y l) (c0 : w.cell? ⟨l, 0, none⟩ = some (.pointer (some ⟨p, 0, none⟩))) (hrow : RowK w Y A m xss) (hby : ∀ i, Bytes (xss.getD i [])) (hss : Secs xss)
 (i at_ i0 : Nat) (hi : (i : Int) < s.a) (ha : s.a ≤ 16) (hb : 0 ≤ s.b ∧ s.b ≤ 64) (hi0 : (i0 : Int) = 2 + i * s.b + at_) (hN : i0 + m ≤ N) (hN2 : N ≤ 2048) (hp : k.pend.length ≤ 900000) :
 Calls Tryz.prog 198 #[.pointer (some ⟨l, 0, none⟩), .int .i64 i, .int .i64 at_, .slice A m c] w fun e w' => e = .returned (.int .i64 (wrs k i0 xss).2) ∧ StoS w' Y p d N s t (wrs k i0 xss).1 ∧ Kept Y w w' := by
 have HS := hI hs
 have HYY := hI hY
 have HYL := hI hl
 have HRW := hI hrow
 have HBYS := hI hby
 have HSS := hI hss
 have HBS := hI (sto_base hs i hi ha hb)
 obtain ⟨x, hx⟩ : ∃ x : Int, (2 : Int) + i * s.b = x := ⟨_, rfl⟩
 rw [hx] at HBS hi0
 have HC0 := hI c0
 have HLEN := hI hrow.1
 have HP := hI hp
 have hx0 : x = (i0 : Int) - at_ := by omega
 have HX0 := hI hx0
 have hib : i0 ≤ 2048 ∧ at_ ≤ 2048 := by
  have h1 : 0 ≤ (i : Int) * s.b := Int.mul_nonneg (by omega) hb.1
  omega
 have HIB := hI hib
 clear hs hY hl hrow hby hss hi ha hb hx hp hx0 hi0
 go_enter Tryz.func198, Tryz.ntmps198
 go_wp2_with fail
 refine HBS.out.mono ?_
 rintro e w1 ⟨rfl, rfl⟩
 go_wp2_with fail
 clear c0
 go_loopw [8, 28] (fun _ v wr => ∃ j : Nat, j ≤ m ∧ v = .int .i64 j ∧ WrI w1 Y l p d N s t k i0 xss j wr) (fun _ v _ => m - (intOf v).toNat)
 case atStart => exact ⟨0, Nat.zero_le _, rfl, k, HS.out, Kept.refl _ _, rfl, nR _⟩
 case round =>
  obtain ⟨j, hj, rfl, kj, hsj, hkj, hwj, hpj⟩ := hrel
  have HSJ := hI hsj
  have HKJ := hI hkj
  have HWJ := hI hwj
  have HPJ := hI hpj
  clear hsj hkj hwj hpj
  by_cases hlt : j < m
  case neg =>
   obtain rfl : j = m := by omega
   have hd : xss.drop j = [] := List.drop_eq_nil_of_le (by rw [HLEN.out]; exact nR _)
   have hw2 := HWJ.out
   rw [hd] at hw2
   have HW2 := hI hw2
   clear hw2 hd
   go_wp2_with fail
   go_ret
   rw [HW2.out]
   exact ⟨rfl, HSJ.out, HKJ.out⟩
  obtain ⟨gb, off, rfl, hgb, hrng⟩ := HRW.out.2 (by omega)
  obtain ⟨ys, hys⟩ : ∃ ys, xss.getD j [] = ys := ⟨_, rfl⟩
  have hjx : j < xss.length := by rw [HLEN.out]; exact hlt
  have hye : xss[j] = ys := by rw [← hys]; simp [List.getD, List.getElem?_eq_getElem hjx]
  have HLY := hI (show ys.length = 64 by rw [← hye]; exact HSS.out _ (List.getElem_mem hjx))
  have HBY := hI (show Bytes ys by rw [← hys]; exact HBYS.out j)
  have HRY := hI (show wr.rangeAt gb (off + j * 64) (ys.map (Value.int .u8)) from fun q u hu => by
   have h := hrng j hlt q u (by rw [hys]; exact hu)
   rw [← h]
   exact HKJ.out.cell (p := ⟨gb, _, none⟩) hgb)
  have hdrop : xss.drop j = ys :: xss.drop (j + 1) := by rw [List.drop_eq_getElem_cons hjx, hye]
  have hw2 := HWJ.out
  rw [hdrop] at hw2
  obtain ⟨E, hE⟩ : ∃ E, kj.wre = E := ⟨_, rfl⟩
  unfold wrs at hw2
  rw [hE] at hw2
  have HW2 := hI (show wrs k i0 xss = if E = 0 then wrs (kj.wr (Dk.put (i0 + j) ys)) (i0 + j + 1) (xss.drop (j + 1)) else (kj.wr (Dk.put (i0 + j) ys), E) by
   rw [← hw2]
   cases xss <;> rfl)
  have HWE := hI hE
  have hal := (Below.refl wr.heap.size wr).alloc (nR _) (.cells (cells8 ys) 92)
  have HSD := hI (show StoS (wr.alloc (.cells (cells8 ys) 92)).drew Y p d N s t kj from StoreM.below HSJ.out hal.drew)
  have HDD := hI (show DiskM (wr.alloc (.cells (cells8 ys) 92)).drew (fun c => (Y c ∨ c = p) ∨ c = wr.heap.size) d N kj from HSJ.out.2.1.below hal.drew (fun b hb h => by rcases h with h | h; exact h; omega))
  have hpl := HSJ.out.1.lt
  have HXD := hI (show ∀ c, ((Y c ∨ c = p) ∨ c = wr.heap.size) → c < (wr.alloc (.cells (cells8 ys) 92)).drew.heap.size from fun c h => by
   have hz := hal.drew.size
   have hz2 : wr.heap.size < (wr.alloc (.cells (cells8 ys) 92)).drew.heap.size := by simp [World.drew]
   rcases h with (h | h) | h
   ·exact nL (nL (HYY.out c h) HKJ.out.size) hz
   ·omega
   ·omega)
  have HVD := hI (show Kept Y wr (wr.alloc (.cells (cells8 ys) 92)).drew from Kept.of_below hal.drew (fun b h => nL (HYY.out b h) HKJ.out.size))
  have HC1 := hI (show (wr.alloc (.cells (cells8 ys) 92)).drew.cell? ⟨l, 0, none⟩ = some (.pointer (some ⟨p, 0, none⟩)) from (HVD.out.cell (p := ⟨l, 0, none⟩) HYL.out).trans ((HKJ.out.cell (p := ⟨l, 0, none⟩) HYL.out).trans HC0.out))
  have HR1 := hI (show (wr.alloc (.cells (cells8 ys) 92)).drew.rangeAt wr.heap.size 0 (ys.map (Value.int .u8)) from fun q u hu => by
   have h := (show ArrB (wr.alloc (.cells (cells8 ys) 92)) wr.heap.size ys from Blk.new wr _ _).range q u hu
   exact h)
  have HWK := hI (show Calls Tryz.prog 44 #[.pointer (some ⟨d, 0, none⟩), .int .i64 ((i0 : Int) + (j : Int)), .agg (cells8 ys)] (wr.alloc (.cells (cells8 ys) 92)).drew fun e w' => e = .returned (.int .i64 E) ∧ DiskM w' (fun c => (Y c ∨ c = p) ∨ c = wr.heap.size) d N (kj.wr (Dk.put (i0 + j) ys)) ∧ Kept (fun c => (Y c ∨ c = p) ∨ c = wr.heap.size) (wr.alloc (.cells (cells8 ys) 92)).drew w' by
   have h := write_k HDD.out HXD.out (i0 + j) (by omega) ys HLY.out HBY.out (by have h1 := HPJ.out; have h2 := HP.out; omega)
   rw [Int.natCast_add, hE] at h
   exact h)
  have HPN := hI (show (kj.wr (Dk.put (i0 + j) ys)).pend.length ≤ k.pend.length + (j + 1) by have h1 := HPJ.out; have h2 := wr_pend kj (i0 + j) ys; omega)
  have HWI := hI (show IntKind.i64.wrap (IntKind.i64.wrap (i0 : Int) + (j : Int)) = (i0 : Int) + (j : Int) by
   have e : IntKind.i64.wrap (i0 : Int) = (i0 : Int) := by rw [IntKind.wrap_i64]; omega
   rw [e, IntKind.wrap_i64]
   omega)
  have hx0 := HX0.out
  have hjm : (j : Int) < (m : Int) := by omega
  have hmb : (m : Int) ≤ 2048 := by omega
  clear hgb hrng hys hye hdrop hw2 hE hal hpl
  go_wp2_with (first
   | (refine wpList_load_blk (.tmp 31) rfl rfl gb (off + j * 64) rfl ys HLY.out HRY.out ?_)
   | (refine wpList_alloc_blk rfl rfl ?_)
   | (refine wpList_store_new (.tmp 12) (.tmp 32) rfl rfl wr ys rfl rfl (noughts 64) rfl (noughts_length 64) HLY.out ?_))
  have hu26 := Tryz.underlying92
  have hs26 : (Tryz.prog.info? 92).map (·.size) = some (ys.map (Value.int .u8)).length := by rw [size_blk, List.length_map, HLY.out]
  refine wp_region_noPanic ?_
  refine Tillst.region (fun W => W.cell? ⟨l, 0, none⟩ = some (.pointer (some ⟨p, 0, none⟩)) ∧ W.rangeAt wr.heap.size 0 (ys.map (Value.int .u8))) [] (by kernel_rfl) ⟨HC1.out, HR1.out⟩ (fun hė => ?_)
  generalize (wr.alloc (.cells (cells8 ys) 92)).drew = vd at *
  refine Tillst.tk 0 lw0 (v := ?_) rfl (by kernel_rfl) (by rfl) ?_ hė ?_
  rotate_left
  ·intro W hSW; (try dsimp only at hSW); unfold lw0; go_simp; with_reducible rfl
  simp only [lw0, Act.put, sA, sZ, sS]
  refine Tillst.tk 1 lw1 (v := ?_) rfl (by kernel_rfl) (by rfl) ?_ hė ?_
  rotate_left
  ·intro W hSW; (try dsimp only at hSW); unfold lw1; go_simp; with_reducible rfl
  simp only [lw1, Act.put, sA, sZ, sS]
  refine Tillst.tk 2 lw2 (v := ?_) rfl (by kernel_rfl) (by rfl) ?_ hė ?_
  rotate_left
  ·intro W hSW; (try dsimp only at hSW); unfold lw2; go_simp; with_reducible rfl
  simp only [lw2, Act.put, sA, sZ, sS]
  refine Tillst.tk 3 lw3 (v := ?_) rfl (by kernel_rfl) (by rfl) ?_ hė ?_
  rotate_left
  ·intro W' hSW; have c0 := hSW.1; unfold lw3; go_simp; with_reducible rfl
  simp only [lw3, Act.put, sA, sZ, sS]
  refine Tillst.tk 5 lw5 (v := ?_) rfl (by kernel_rfl) (by rfl) ?_ hė ?_
  rotate_left
  ·intro W hSW; (try dsimp only at hSW); unfold lw5; go_simp; with_reducible rfl
  simp only [lw5, Act.put, sA, sZ, sS]
  refine Tillst.tk 6 lw6 (v := ?_) rfl (by kernel_rfl) (by rfl) ?_ hė ?_
  rotate_left
  ·intro W hSW; (try dsimp only at hSW); unfold lw6; go_simp; with_reducible rfl
  simp only [lw6, Act.put, sA, sZ, sS]
  refine Tillst.tk 7 lw7 (v := ?_) rfl (by kernel_rfl) (by rfl) ?_ hė ?_
  rotate_left
  ·intro W hSW; (try dsimp only at hSW); unfold lw7; go_simp; with_reducible rfl
  simp only [lw7, Act.put, sA, sZ, sS]
  refine Tillst.tk 8 lw8 (v := ?_) rfl (by kernel_rfl) (by rfl) ?_ hė ?_
  rotate_left
  ·intro W hSW; (try dsimp only at hSW); unfold lw8; go_simp; with_reducible rfl
  simp only [lw8, Act.put, sA, sZ, sS]
  refine Tillst.tk 9 lw9 (v := ?_) rfl (by kernel_rfl) (by rfl) ?_ hė ?_
  rotate_left
  ·intro W hSW; (try dsimp only at hSW); unfold lw9; go_simp; with_reducible rfl
  simp only [lw9, Act.put, sA, sZ, sS]
  refine Tillst.tk 10 lw10 (v := ?_) rfl (by kernel_rfl) (by rfl) ?_ hė ?_
  rotate_left
  ·intro W' hSW; refine exec_load_row (.tmp 12) 92 ?_ wr.heap.size 0 ?_ (ys.map (Value.int .u8)) _ hu26 rfl hs26 hSW.2 <;> rfl
  simp only [lw10, Act.put, sA, sZ, sS]
  refine Tillst.one (i := 4) (o := lw4) (by kernel_rfl) rfl ?_
  intro K hK
  refine step_call 139 #[.tmp 36] #[63] rfl rfl Tryz.func139 rfl rfl [.pointer (some ⟨p, 0, none⟩)] rfl ?_
  refine (sto_disk HSD.out).mono ?_
  rintro e v1 ⟨rfl, rfl⟩
  refine ⟨_, rfl, ?_⟩
  simp only [lw4, Act.put, sA, sZ, sS]
  refine hK.out _ _ (fun _ => hė) (fun hė => ?_)
  replace hė := hė (by decide)
  clear hK K
  rw [HWI.out]
  refine Tillst.one (i := 11) (o := lw11) (by kernel_rfl) rfl ?_
  intro K hK
  refine step_call 44 #[.tmp 37, .tmp 42, .tmp 43] #[24, 3, 92] rfl rfl Tryz.func44 rfl rfl [.pointer (some ⟨d, 0, none⟩), .int .i64 ((i0 : Int) + (j : Int)), .agg (cells8 ys)] rfl ?_
  refine HWK.out.mono ?_
  rintro e v2 ⟨rfl, hd2, hk2⟩
  have HD2 := hI hd2
  have HK2 := hI hk2
  have hS2 := And.intro (show v2.cell? ⟨l, 0, none⟩ = some (.pointer (some ⟨p, 0, none⟩)) from (hk2.cell (p := ⟨l, 0, none⟩) (.inl (.inl HYL.out))).trans hė.1) (show v2.rangeAt wr.heap.size 0 (ys.map (Value.int .u8)) from fun q u hu => (hk2.cell (p := ⟨wr.heap.size, 0 + q, none⟩) (.inr rfl)).trans (hė.2 q u hu))
  clear hd2 hk2
  refine ⟨_, rfl, ?_⟩
  simp only [lw11, Act.put, sA, sZ, sS]
  refine hK.out _ _ (fun _ => hS2) (fun hė => ?_)
  replace hė := hė (by decide)
  clear hK K hS2
  refine Tillst.one (i := 12) (o := lw12) (by kernel_rfl) rfl ?_
  intro K hK
  refine step_value ?_ rfl ?_ ?_
  rotate_left
  ·unfold lw12; go_simp; with_reducible rfl
  simp only [lw12, Act.put, sA, sZ, sS]
  refine hK.out _ _ (fun _ => hė) (fun hė => ?_)
  replace hė := hė (by decide)
  clear hK K
  refine Tillst.done (by kernel_rfl) ?_ _
  refine NoPanic.normal ?_
  clear hė
  have HKA := hI (HKJ.out.trans (HVD.out.trans HK2.out (fun b h => .inl (.inl h))) (fun b h => h))
  have HSA := hI (show StoS v2 Y p d N s t (kj.wr (Dk.put (i0 + j) ys)) from ⟨HSD.out.1.kept HK2.out (.inl (.inr rfl)), HD2.out.mono (fun b hb h => .inl h), HSD.out.2.2⟩)
  by_cases hz : E = 0
  ·have hw3 := HW2.out
   rw [if_pos hz] at hw3
   have HW3 := hI hw3
   subst hz
   clear hw3
   go_wp2_with fail
   go_roundw
   case rel => exact ⟨_, _, _, _, _, ⟨j + 1, by omega, (by rw [Int.natCast_add]; rfl), kj.wr (Dk.put (i0 + j) ys), HSA.out, HKA.out, by rw [HW3.out]; rfl, HPN.out⟩, rfl, rfl, rfl, rfl, rfl⟩
   case measure => simp [intOf]; omega
  ·have hw3 := HW2.out
   rw [if_neg hz] at hw3
   have HW3 := hI hw3
   have d1 : (E != 0) = true := by simpa using hz
   clear hw3 hz
   go_wp2_with fail
   go_ret
   rw [HW3.out]
   exact ⟨rfl, HSA.out, HKA.out⟩
end
end
section
open Go.RowKit
def pickS9 (E sec : Int) : Int := if E = 0 then sec else 0
def pickY9 (E : Int) (ys : List Seg) : List Seg := if E = 0 then ys else []
theorem pickS9_zero (sec : Int) : pickS9 0 sec = sec := if_pos rfl
theorem pickY9_zero (ys : List Seg) : pickY9 0 ys = ys := if_pos rfl
theorem OpenT.told9 {w w' : World} {sec g : Int} {xs : List Seg} {e : Ending} (h : OpenT w sec xs g e w') :
 ∃ A cap, e = .returned (.tuple #[ringV (pickS9 (openE sec xs g) sec) A (pickY9 (openE sec xs g) (openX xs g)).length cap, .int .i64 (if openE sec xs g = 0 then nxtR xs else 0), .int .i64 (openE sec xs g)]) ∧
  OwnZ w' w.heap.size A (pickY9 (openE sec xs g) (openX xs g)).length cap (pickY9 (openE sec xs g) (openX xs g)) ∧ Below w.heap.size w w' := by
 obtain ⟨⟨h0, v, rfl, A, n, cap, rfl, ho⟩ | ⟨h0, rfl⟩, hb⟩ := h
 ·unfold pickS9 pickY9
  simp only [h0, if_pos]
  obtain rfl : n = (openX xs g).length := ho.1.symm
  exact ⟨A, cap, rfl, ho, hb⟩
 ·unfold pickS9 pickY9
  simp only [if_neg h0]
  exact ⟨none, 0, rfl, ⟨rfl, ⟨rfl, .inl ⟨rfl, rfl⟩⟩, fun _ => rfl, nR _⟩, hb⟩
theorem OwnZ.setRow9 {w : World} {base : Nat} {A : Option Addr} {n cap : Nat} {xs : List Seg} (h : OwnZ w base A n cap xs) {g : Nat} (hg : g < base) (cs : Array Value) : OwnZ (w.setRow g cs) base A n cap xs :=
 ⟨h.1, h.2.1.kept (row := some g) ⟨rfl, rfl, rfl, by simp [World.setRow], fun k _ hne => setRow_other w g k cs (fun e => hne (by rw [e]))⟩ (.inr (fun e => by have := own_least h.2.1 e; omega)), h.2.2⟩
theorem zero_ring (w : World) : (zeroValue 103).run Tryz.prog w = .ok (.agg #[.int .i64 0, .slice none 0 0]) w := (Tryz.zeroValue103 w).trans rfl
theorem ring_one (a : Int) (A : Option Addr) (n c : Nat) : (#[Value.int .i64 a, Value.slice A n c] : Array Value).all (·.oneCell') = true := by simp [Value.oneCell']
theorem open_nxt {sec : Int} {xs : List Seg} {g : Int} (h : openE sec xs g = 0) : ¬ nxtR xs < 0 := by
 intro h3
 by_cases h0 : OkR sec xs
 ·by_cases h1 : 0 ≤ opnR xs
  ·rw [open_state h0 h1] at h; omega
  by_cases h2 : g ≤ topG xs
  ·rw [open_arg h0 h1 h2] at h; omega
  rw [open_full h0 h1 h2 h3] at h
  omega
 ·rw [open_bad h0] at h; omega
def OpnC (v : World) (sec : Int) (zs : List Seg) (g : Int) (t i e : Value) (wy : World) : Prop :=
 e = .int .i64 (openE sec zs g) ∧ i = .int .i64 (if openE sec zs g = 0 then nxtR zs else 0) ∧ ∃ nb A c, t = .pointer (some ⟨nb, 0, none⟩) ∧ v.heap.size ≤ nb ∧
  Blk wy nb 103 #[.int .i64 (pickS9 (openE sec zs g) sec), .slice A (pickY9 (openE sec zs g) (openX zs g)).length c] ∧ OwnZ wy v.heap.size A (pickY9 (openE sec zs g) (openX zs g)).length c (pickY9 (openE sec zs g) (openX zs g)) ∧ Below v.heap.size v wy
section
variable {v v7 v8 : World} {sec : Int} {zs : List Seg} {g : Int} {A : Option Addr} {c : Nat}
theorem OpnC.call (ho : OwnZ v7 v.heap.size A (pickY9 (openE sec zs g) (openX zs g)).length c (pickY9 (openE sec zs g) (openX zs g))) (hb : Below v.heap.size v v7) :
 OpnC v sec zs g (.pointer (some ⟨v7.heap.size, 0, none⟩)) (.int .i64 (if openE sec zs g = 0 then nxtR zs else 0)) (.int .i64 (openE sec zs g))
  ((v7.alloc (.cells #[.int .i64 0, .slice none 0 0] 103)).setRow v7.heap.size #[.int .i64 (pickS9 (openE sec zs g) sec), .slice A (pickY9 (openE sec zs g) (openX zs g)).length c]) := by
 have h1 := below_setRow ((Below.refl v7.heap.size v7).alloc (nR _) (.cells #[.int .i64 0, .slice none 0 0] 103)) (nR _) #[.int .i64 (pickS9 (openE sec zs g) sec), .slice A (pickY9 (openE sec zs g) (openX zs g)).length c]
 exact ⟨rfl, rfl, _, A, c, rfl, hb.size, setRow_heap _ _ _ _ _ _ (Blk.new v7 _ _), ho.below h1, hb.trans (h1.mono hb.size)⟩
theorem OpnC.laid (ho : OwnZ v8 (v.alloc (.cells #[.int .i64 0, .slice none 0 0] 103)).heap.size A (pickY9 (openE sec zs g) (openX zs g)).length c (pickY9 (openE sec zs g) (openX zs g))) (hb : Below (v.alloc (.cells #[.int .i64 0, .slice none 0 0] 103)).heap.size (v.alloc (.cells #[.int .i64 0, .slice none 0 0] 103)) v8) :
 OpnC v sec zs g (.pointer (some ⟨v.heap.size, 0, none⟩)) (.int .i64 (if openE sec zs g = 0 then nxtR zs else 0)) (.int .i64 (openE sec zs g))
  (v8.setRow v.heap.size #[.int .i64 (pickS9 (openE sec zs g) sec), .slice A (pickY9 (openE sec zs g) (openX zs g)).length c]) := by
 have hlt : v.heap.size < (v.alloc (.cells #[.int .i64 0, .slice none 0 0] 103)).heap.size := by simp
 have hk := Blk.below (Blk.new v 103 #[.int .i64 0, .slice none 0 0]) hb hlt
 have h1 := ((Below.refl v.heap.size v).alloc (nR _) (.cells #[.int .i64 0, .slice none 0 0] 103)).trans (hb.mono (Nat.le_of_lt hlt))
 exact ⟨rfl, rfl, _, A, c, rfl, nR _, setRow_heap _ _ _ _ _ _ hk, (ho.setRow9 hlt _).base (Nat.le_of_lt hlt), below_setRow h1 (nR _) _⟩
end
end
end Go.Proofs.YtknfblfnfoibkaaGreat
