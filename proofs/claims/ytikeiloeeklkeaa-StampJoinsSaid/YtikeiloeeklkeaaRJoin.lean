/- The document's answers of layer 5 (icehouseref05): Join. -/
import Derived.Test.YtikeiloeeklkeaaJoin
import Derived.Test.YtikeiloeeklkeaaRRead
namespace Go.Proofs.Ytikeiloeeklkeaa
open Go.RowKit
set_option linter.unusedVariables false

/-- As the document's answer asks it, sector by sector. -/
def RefAt (xss : List (List Int)) (i : Nat) : Prop :=
  stamped (xss.getD i []) = true ∧ genOf (xss.getD i []) = genOf (xss.getD 0 []) ∧ posOf (xss.getD i []) = posOf (xss.getD 0 []) + i ∧ (i + 1 < xss.length → 48 ≤ fillOf (xss.getD i []))

theorem chain_ref {xss : List (List Int)} (hs : Secs xss) (hb : ∀ i, Bytes (xss.getD i [])) : Chain xss ↔ ∀ i, i < xss.length → RefAt xss i := by
  have hfill : ∀ i, i < xss.length → stamped (xss.getD i []) = true → fillOf (xss.getD i []) ≤ 48 := fun i hi h => ((stamped_iff _ (hs.get i hi) (hb i)).1 h).2.1
  have hpos : ∀ i, i < xss.length → 0 ≤ posOf (xss.getD i []) := fun i hi => (pos_bounds (hb i) (hs.get i hi)).1
  constructor
  · intro h
    have key : ∀ i, i < xss.length → genOf (xss.getD i []) = genOf (xss.getD 0 []) ∧ posOf (xss.getD i []) = posOf (xss.getD 0 []) + i := by
      intro i
      induction i with
      | zero => intro _; simp
      | succ i ih =>
        intro hi
        have ih := ih (by omega)
        have hl := (h (i + 1) hi).2 (by omega)
        simp only [linkB, folB, decide_eq_true_eq, Nat.add_sub_cancel] at hl
        exact ⟨hl.2.1.symm.trans ih.1, by have := hl.2.2.1; have := ih.2; omega⟩
    intro i hi
    refine ⟨(h i hi).1, (key i hi).1, (key i hi).2, fun h1 => ?_⟩
    have hl := (h (i + 1) h1).2 (by omega)
    simp only [linkB, folB, decide_eq_true_eq, Nat.add_sub_cancel] at hl
    omega
  · intro h i hi
    refine ⟨(h i hi).1, fun h0 => ?_⟩
    obtain ⟨j, rfl⟩ : ∃ j, i = j + 1 := ⟨i - 1, by omega⟩
    have h1 := h j (by omega)
    have h2 := h (j + 1) hi
    have h3 := hfill j (by omega) h1.1
    have h4 := hpos 0 (by omega)
    have h5 := h1.2.2.2 hi
    simp only [linkB, folB, decide_eq_true_eq, Nat.add_sub_cancel]
    refine ⟨by have := h2.2.2.1; omega, h1.2.1.trans h2.2.1.symm, by have := h1.2.2.1; have := h2.2.2.1; omega, by omega⟩

def RJoinTold (xss : List (List Int)) (w : World) (e : Ending) (w' : World) : Prop :=
  ∃ A c, e = .returned (.tuple #[.slice A (meants xss).length c, .bool true]) ∧ RowI .u8 w' (fun b => w.heap.size ≤ b ∧ b < w'.heap.size) A (meants xss).length (meants xss) ∧ Below w.heap.size w w'
def RJoinBad (w : World) (e : Ending) (w' : World) : Prop := (∃ A n c, e = .returned (.tuple #[.slice A n c, .bool false])) ∧ Below w.heap.size w w'
def RJoinAny (xss : List (List Int)) (w : World) (e : Ending) (w' : World) : Prop := (1 ≤ xss.length ∧ Chain xss → RJoinTold xss w e w') ∧ (¬ (1 ≤ xss.length ∧ Chain xss) → RJoinBad w e w')
theorem rjoin_no {xss : List (List Int)} {w : World} {e : Ending} {w' : World} (h : ¬ (1 ≤ xss.length ∧ Chain xss)) (hb : RJoinBad w e w') : RJoinAny xss w e w' := ⟨fun k => absurd k h, fun _ => hb⟩

/-- The stamp that is held as the first one. -/
def firstOf (xss : List (List Int)) (k : Nat) : Array Value := if k = 0 then #[.int .u64 0, .int .u32 0, .int .i64 0] else #[.int .u64 (genOf (xss.getD 0 [])), .int .u32 (posOf (xss.getD 0 [])), .int .i64 (fillOf (xss.getD 0 []))]

structure RJoining (xss : List (List Int)) (w wr : World) (o : Value) (k : Nat) : Prop where
  own : ∃ A c, o = .slice A (meants (xss.take k)).length c ∧ RowI .u8 wr (fun b => w.heap.size + 1 ≤ b ∧ b < wr.heap.size) A (meants (xss.take k)).length (meants (xss.take k))
  st : Blk wr w.heap.size 34 (firstOf xss k)
  bel : Below w.heap.size w wr
  chain : ∀ i, i < k → RefAt xss i

theorem not_ref {xss : List (List Int)} (hs : Secs xss) (hb : ∀ i, Bytes (xss.getD i [])) {k : Nat} (hk : k < xss.length) (h : ¬ RefAt xss k) : ¬ (1 ≤ xss.length ∧ Chain xss) := fun hc => h ((chain_ref hs hb).1 hc.2 k hk)

set_option maxHeartbeats 4000000 in
theorem rjoin_any (A : Option Addr) (n c : Nat) (xss : List (List Int)) (S : Nat → Prop) (w : World) (hx : RowK w S A n xss) (hS : ∀ b, S b → b < w.heap.size) (hs : Secs xss) (hby : ∀ i, Bytes (xss.getD i [])) (hn : n ≤ 1000000) :
    Calls Try.prog 21 #[.slice A n c] w (RJoinAny xss w) := by
  have HX := Lib.hid hx
  have HL := Lib.hid hx.1
  have HS := Lib.hid hs
  have HBY := Lib.hid hby
  clear hx hs hby
  go_enter Try.func21, Try.ntmps21
  go_wp2_with fail
  have HJ0 := Lib.hid (show RJoining xss w (w.alloc (.cells #[.int .u64 0, .int .u32 0, .int .i64 0] 34)) (.slice none 0 0) 0 from
    ⟨⟨none, 0, rfl, RowG.nil _ _ _ _ _⟩, Blk.new w _ _, (Below.refl _ _).alloc (Nat.le_refl _) _, fun i h => by omega⟩)
  go_loopw [4, 6] (fun o i wr => ∃ k : Nat, k ≤ n ∧ i = .int .i64 k ∧ RJoining xss w wr o k) (fun _ i _ => n - (intOf i).toNat)
  case atStart => exact ⟨0, by omega, rfl, HJ0.out⟩
  case round =>
    obtain ⟨k, hk, rfl, hj⟩ := hrel
    by_cases hlt : k < n
    · obtain ⟨b, off, rfl, hb, hc⟩ := (HX.out.below hj.bel hS).2 (by omega)
      have hr := hc k hlt
      have hxl := HS.out.get k (by have := HL.out; omega)
      have hxb := HBY.out k
      have hbw := hS b hb
      obtain ⟨⟨Ao, co, rfl, hro⟩, hst0, hbel0, hch0⟩ := hj
      have HRO := Lib.hid hro
      have HFI := Lib.hid hst0
      have HBE := Lib.hid hbel0
      have HCH := Lib.hid hch0
      obtain ⟨xs, hxs⟩ : ∃ xs, xs = xss.getD k [] := ⟨_, rfl⟩
      rw [← hxs] at hr hxl hxb
      have HXS := Lib.hid hxs
      have HR := Lib.hid hr
      have HXL := Lib.hid hxl
      have HXB := Lib.hid hxb
      have hk1 : (k : Int) < n := by omega
      clear hc hxs hr hxl hxb hro hst0 hbel0 hch0
      go_wp2_with (refine wpList_load_blk (.tmp 20) rfl rfl b (off + k * 64) rfl xs HXL.out HR.out ?_)
      refine (rread_any xs wr HXL.out HXB.out).mono ?_
      rintro e w1 ⟨hyes, hno1⟩
      by_cases hst : stamped xs = true
      case neg =>
        have hst : stamped xs = false := by simpa using hst
        obtain ⟨rfl, hb1⟩ := hno1 hst
        have hno := Lib.hid (not_ref HS.out HBY.out (k := k) (by have := HL.out; omega) (fun h => by have h := h.1; rw [← HXS.out, hst] at h; cases h))
        have HB1 := Lib.hid (HBE.out.trans (hb1.mono HBE.out.size))
        have hf1 : Blk (w1.alloc (.cells #[.int .u64 0, .int .u32 0, .int .i64 0] 34)) w.heap.size 34 (firstOf xss k) := (HFI.out.below hb1 HFI.out.lt).alloc _
        obtain ⟨a0, a1, a2, ha⟩ : ∃ a0 a1 a2 : Value, firstOf xss k = #[a0, a1, a2] := by unfold firstOf; split <;> exact ⟨_, _, _, rfl⟩
        rw [ha] at hf1
        have q0 := hf1.cell 0
        have q1 := hf1.cell 1
        have q2 := hf1.cell 2
        have y0 := hf1.frozen 0
        have y1 := hf1.frozen 1
        have y2 := hf1.frozen 2
        simp only [List.getElem?_toArray, List.getElem?_cons_zero, List.getElem?_cons_succ] at q0 q1 q2
        clear hst hb1 hno1 hyes hf1 ha
        by_cases hk0 : k = 0
        · subst hk0
          go_wp2_with fail
          go_ret2
          exact rjoin_no hno.out ⟨⟨_, _, _, rfl⟩, below_set3 (HB1.out.alloc HB1.out.size _) (Nat.le_refl _) _ _ _⟩
        · have hk2 : ((k : Int) == 0) = false := by simp; omega
          have HK0 := Lib.hid hk0
          clear hk0
          go_wp2_with fail
          go_ret2
          exact rjoin_no hno.out ⟨⟨_, _, _, rfl⟩, HB1.out.alloc HB1.out.size _⟩
      obtain ⟨A2, c2, rfl, hr2, hb1⟩ := hyes hst
      have HST := Lib.hid hst
      have HR1 := Lib.hid hr2
      have HB1 := Lib.hid hb1
      obtain ⟨w2, hw2⟩ : ∃ w2, w2 = w1.alloc (.cells #[.int .u64 (genOf xs), .int .u32 (posOf xs), .int .i64 (fillOf xs)] 34) := ⟨_, rfl⟩
      have hb2 : Below w1.heap.size w1 w2 := by rw [hw2]; exact (Below.refl _ _).alloc (Nat.le_refl _) _
      have HS2 := Lib.hid (show Blk w2 w1.heap.size 34 #[.int .u64 (genOf xs), .int .u32 (posOf xs), .int .i64 (fillOf xs)] by rw [hw2]; exact Blk.new w1 _ _)
      have HB2 := Lib.hid (hb1.trans (hb2.mono hb1.size))
      have HR2 := Lib.hid (hr2.below hb2 (fun b h => h.2))
      have HW2 := Lib.hid hw2
      have hpb := pos_bounds HXB.out HXL.out
      have hfl := fill_lt HXB.out
      clear hst hr2 hb1 hb2 hw2 hno1 hyes
      by_cases hk0 : k = 0
      · subst hk0
        have hfs2 : Blk w2 w.heap.size 34 (firstOf xss 0) := HFI.out.below HB2.out HFI.out.lt
        unfold firstOf at hfs2
        rw [if_pos rfl] at hfs2
        have q0 := hfs2.cell 0
        have q1 := hfs2.cell 1
        have q2 := hfs2.cell 2
        have y0 := hfs2.frozen 0
        have y1 := hfs2.frozen 1
        have y2 := hfs2.frozen 2
        have p0 := HS2.out.cell 0
        have p1 := HS2.out.cell 1
        have p2 := HS2.out.cell 2
        simp only [List.getElem?_toArray, List.getElem?_cons_zero, List.getElem?_cons_succ] at q0 q1 q2 p0 p1 p2
        have hne : w1.heap.size ≠ w.heap.size := by have := HFI.out.lt; have := HB1.out.size; omega
        obtain ⟨w3, hw3⟩ : ∃ w3, w3 = ((w2.setCell ⟨w.heap.size, 0, none⟩ (.int .u64 (genOf xs))).setCell ⟨w.heap.size, 1, none⟩ (.int .u32 (posOf xs))).setCell ⟨w.heap.size, 2, none⟩ (.int .i64 (fillOf xs)) := ⟨_, rfl⟩
        have HF3 := Lib.hid (show Blk w3 w.heap.size 34 #[.int .u64 (genOf xs), .int .u32 (posOf xs), .int .i64 (fillOf xs)] by rw [hw3]; exact hfs2.set3 _ _ _)
        have hk3 : Kept (fun b => b ≠ w.heap.size) w2 w3 := by rw [hw3]; exact (Kept.refl _ _).set3 (fun h => h rfl) _ _ _
        have HS3 := Lib.hid (HS2.out.kept hk3 hne)
        have HR3 := Lib.hid ((HR2.out.kept hk3 (fun b h => by have := h.1; have := HFI.out.lt; omega)).more (T := fun b => b < w3.heap.size ∧ w.heap.size + 1 ≤ b) (fun b h => ⟨Nat.lt_of_lt_of_le (Nat.lt_of_lt_of_le h.2 (by rw [HW2.out]; simp)) hk3.size, by have := h.1; have := HFI.out.lt; omega⟩))
        have HB3 := Lib.hid (show Below w.heap.size w w3 by rw [hw3]; exact below_set3 (HBE.out.trans (HB2.out.mono HBE.out.size)) (Nat.le_refl _) _ _ _)
        have HRO3 := Lib.hid (((HRO.out.below HB2.out (fun b h => h.2)).kept hk3 (fun b h => by have := h.1; omega)).more (T := fun b => b < w3.heap.size ∧ w.heap.size + 1 ≤ b) (fun b h => ⟨Nat.lt_of_lt_of_le (Nat.lt_of_lt_of_le h.2 HB2.out.size) hk3.size, h.1⟩))
        have HW3 := Lib.hid hw3
        clear hw3 hk3 hfs2 hne
        have HFIRST := Lib.hid (show #[Value.int .u64 (genOf xs), .int .u32 (posOf xs), .int .i64 (fillOf xs)] = firstOf xss (0 + 1) by unfold firstOf; rw [if_neg (by omega), ← HXS.out])
        have HSZ3 := Lib.hid (show w.heap.size + 1 ≤ w3.heap.size from HF3.out.lt)
        have s0 := HS3.out.cell 0
        have s1 := HS3.out.cell 1
        have s2 := HS3.out.cell 2
        have f0 := HF3.out.cell 0
        have f1 := HF3.out.cell 1
        have f2 := HF3.out.cell 2
        simp only [List.getElem?_toArray, List.getElem?_cons_zero, List.getElem?_cons_succ] at s0 s1 s2 f0 f1 f2
        by_cases c3 : 0 + 1 < n
        case neg =>
          have HREF := Lib.hid (show RefAt xss 0 from ⟨by rw [← HXS.out]; exact HST.out, rfl, by simp, fun h => absurd h (by have := HL.out; omega)⟩)
          have e3 : ¬ (0 : Int) + 1 < n := by omega
          have hsn := meants_snoc xss 0 (by have := HL.out; omega)
          rw [← HXS.out] at hsn
          have hlo := meants_length xss 0 (by have := HL.out; omega)
          have hml := meant_le xs
          have HSN := Lib.hid hsn
          clear hsn
          go_wp2_with (first | rw [← HW2.out] | rw [← HW3.out])
          refine (both_any Ao A2 (meants (xss.take 0)).length co (meantOf xs).length c2 (meants (xss.take 0)) (meantOf xs) _ w3 HRO3.out HR3.out (fun b h => h.1) (by omega)).mono ?_
          rintro e w4 ⟨A4, c4, rfl, _, _, hr4, hb4⟩
          rw [← HSN.out] at hr4
          rw [← HSN.out]
          have HR4 := Lib.hid hr4
          have HB4 := Lib.hid hb4
          clear hr4 hb4 s0 s1 s2 f0 f1 f2
          go_wp2_with fail
          go_roundw
          case rel => exact ⟨0 + 1, by omega, by go_num, ⟨⟨A4, c4, rfl, HR4.out.more (fun b h => ⟨Nat.le_trans HSZ3.out h.1, h.2⟩)⟩, HFIRST.out ▸ (HF3.out.below HB4.out HF3.out.lt), HB3.out.trans (HB4.out.mono HB3.out.size), fun i hi => by
            by_cases e : i = 0
            · subst e; exact HREF.out
            · exact HCH.out i (by omega)⟩⟩
          case measure => (simp [intOf] <;> omega)
        by_cases c4 : fillOf xs < 48
        · have hno := Lib.hid (not_ref HS.out HBY.out (k := 0) (by have := HL.out; omega) (fun h => by have h := h.2.2.2 (by have := HL.out; omega); rw [← HXS.out] at h; omega))
          have e3 : (0 : Int) + 1 < n := by omega
          have e4 : (fillOf xs : Int) < 48 := by omega
          go_wp2_with (first | rw [← HW2.out] | rw [← HW3.out])
          go_ret2
          exact rjoin_no hno.out ⟨⟨_, _, _, rfl⟩, HB3.out⟩
        · have HREF := Lib.hid (show RefAt xss 0 from ⟨by rw [← HXS.out]; exact HST.out, rfl, by simp, fun _ => by rw [← HXS.out]; omega⟩)
          have e3 : (0 : Int) + 1 < n := by omega
          have e4 : ¬ (fillOf xs : Int) < 48 := by omega
          have hsn := meants_snoc xss 0 (by have := HL.out; omega)
          rw [← HXS.out] at hsn
          have hlo := meants_length xss 0 (by have := HL.out; omega)
          have hml := meant_le xs
          have HSN := Lib.hid hsn
          clear hsn
          go_wp2_with (first | rw [← HW2.out] | rw [← HW3.out])
          refine (both_any Ao A2 (meants (xss.take 0)).length co (meantOf xs).length c2 (meants (xss.take 0)) (meantOf xs) _ w3 HRO3.out HR3.out (fun b h => h.1) (by omega)).mono ?_
          rintro e w4 ⟨A4, c4, rfl, _, _, hr4, hb4⟩
          rw [← HSN.out] at hr4
          rw [← HSN.out]
          have HR4 := Lib.hid hr4
          have HB4 := Lib.hid hb4
          clear hr4 hb4 s0 s1 s2 f0 f1 f2
          go_wp2_with fail
          go_roundw
          case rel => exact ⟨0 + 1, by omega, by go_num, ⟨⟨A4, c4, rfl, HR4.out.more (fun b h => ⟨Nat.le_trans HSZ3.out h.1, h.2⟩)⟩, HFIRST.out ▸ (HF3.out.below HB4.out HF3.out.lt), HB3.out.trans (HB4.out.mono HB3.out.size), fun i hi => by
            by_cases e : i = 0
            · subst e; exact HREF.out
            · exact HCH.out i (by omega)⟩⟩
          case measure => (simp [intOf] <;> omega)
      · have HK0 := Lib.hid hk0
        have hk2 : ((k : Int) == 0) = false := by simp; omega
        have hfs := HFI.out.below HB2.out HFI.out.lt
        unfold firstOf at hfs
        rw [if_neg hk0] at hfs
        obtain ⟨fs, hfs0⟩ : ∃ fs, fs = xss.getD 0 [] := ⟨_, rfl⟩
        rw [← hfs0] at hfs
        have HFS := Lib.hid hfs0
        have hfl0 := HS.out.get 0 (by have := HL.out; omega)
        have hfb0 := HBY.out 0
        rw [← hfs0] at hfl0 hfb0
        have hpf := pos_bounds hfb0 hfl0
        obtain ⟨w3, hw3⟩ : ∃ w3, w3 = w2 := ⟨_, rfl⟩
        have HF3 := Lib.hid (show Blk w3 w.heap.size 34 #[.int .u64 (genOf fs), .int .u32 (posOf fs), .int .i64 (fillOf fs)] by rw [hw3]; exact hfs)
        have HS3 := Lib.hid (show Blk w3 w1.heap.size 34 #[.int .u64 (genOf xs), .int .u32 (posOf xs), .int .i64 (fillOf xs)] by rw [hw3]; exact HS2.out)
        have HR3 := Lib.hid (show RowI .u8 w3 (fun b => b < w3.heap.size ∧ w.heap.size + 1 ≤ b) A2 (meantOf xs).length (meantOf xs) by rw [hw3]; exact HR2.out.more (fun b h => ⟨Nat.lt_of_lt_of_le h.2 (by rw [HW2.out]; simp), by have := h.1; have := HFI.out.lt; omega⟩))
        have HB3 := Lib.hid (show Below w.heap.size w w3 by rw [hw3]; exact HBE.out.trans (HB2.out.mono HBE.out.size))
        have HRO3 := Lib.hid (show RowI .u8 w3 (fun b => b < w3.heap.size ∧ w.heap.size + 1 ≤ b) Ao (meants (xss.take k)).length (meants (xss.take k)) by rw [hw3]; exact (HRO.out.below HB2.out (fun b h => h.2)).more (fun b h => ⟨Nat.lt_of_lt_of_le h.2 HB2.out.size, h.1⟩))
        have HFIRST := Lib.hid (show #[Value.int .u64 (genOf fs), .int .u32 (posOf fs), .int .i64 (fillOf fs)] = firstOf xss (k + 1) by unfold firstOf; rw [if_neg (by omega), ← HFS.out])
        have HSZ3 := Lib.hid (show w.heap.size + 1 ≤ w3.heap.size from HF3.out.lt)
        have hkn : (k : Int) ≤ 1000000 := by omega
        rw [← hw3] at HW2
        clear hfs hfs0 hfl0 hfb0 hk0
        have s0 := HS3.out.cell 0
        have s1 := HS3.out.cell 1
        have f0 := HF3.out.cell 0
        have f1 := HF3.out.cell 1
        simp only [List.getElem?_toArray, List.getElem?_cons_zero, List.getElem?_cons_succ] at s0 s1 f0 f1
        clear hw3
        by_cases c1 : genOf xs = genOf fs
        case neg =>
          have hno := Lib.hid (not_ref HS.out HBY.out (k := k) (by have := HL.out; omega) (fun h => by have h := h.2.1; rw [← HXS.out, ← HFS.out] at h; exact c1 h))
          have e1 : (genOf xs != genOf fs) = true := by simpa using c1
          clear c1
          go_wp2_with (rw [← HW2.out])
          go_ret2
          exact rjoin_no hno.out ⟨⟨_, _, _, rfl⟩, HB3.out⟩
        have e1 : (genOf xs != genOf fs) = false := by simpa using c1
        have HC1 := Lib.hid c1
        clear c1
        by_cases c2' : posOf xs = posOf fs + k
        case neg =>
          have hno := Lib.hid (not_ref HS.out HBY.out (k := k) (by have := HL.out; omega) (fun h => by have h := h.2.2.1; rw [← HXS.out, ← HFS.out] at h; exact c2' h))
          have e2 : (posOf xs != posOf fs + (k : Int)) = true := by simpa using c2'
          clear c2'
          go_wp2_with (rw [← HW2.out])
          go_ret2
          exact rjoin_no hno.out ⟨⟨_, _, _, rfl⟩, HB3.out⟩
        have e2 : (posOf xs != posOf fs + (k : Int)) = false := by simpa using c2'
        have HC2 := Lib.hid c2'
        clear c2' s0 s1 f0 f1
        have s0 := HS3.out.cell 0
        have s1 := HS3.out.cell 1
        have s2 := HS3.out.cell 2
        have f0 := HF3.out.cell 0
        have f1 := HF3.out.cell 1
        have f2 := HF3.out.cell 2
        simp only [List.getElem?_toArray, List.getElem?_cons_zero, List.getElem?_cons_succ] at s0 s1 s2 f0 f1 f2
        by_cases c3 : k + 1 < n
        case neg =>
          have HREF := Lib.hid (show RefAt xss k from ⟨by rw [← HXS.out]; exact HST.out, by rw [← HXS.out, ← HFS.out]; exact HC1.out, by rw [← HXS.out, ← HFS.out]; exact HC2.out, fun h => absurd h (by have := HL.out; omega)⟩)
          have e3 : ¬ (k : Int) + 1 < n := by omega
          have hsn := meants_snoc xss k (by have := HL.out; omega)
          rw [← HXS.out] at hsn
          have hlo := meants_length xss k (by have := HL.out; omega)
          have hml := meant_le xs
          have HSN := Lib.hid hsn
          clear hsn
          go_wp2_with (first | rw [← HW2.out] )
          refine (both_any Ao A2 (meants (xss.take k)).length co (meantOf xs).length c2 (meants (xss.take k)) (meantOf xs) _ w3 HRO3.out HR3.out (fun b h => h.1) (by omega)).mono ?_
          rintro e w4 ⟨A4, c4, rfl, _, _, hr4, hb4⟩
          rw [← HSN.out] at hr4
          rw [← HSN.out]
          have HR4 := Lib.hid hr4
          have HB4 := Lib.hid hb4
          clear hr4 hb4 s0 s1 s2 f0 f1 f2
          go_wp2_with fail
          go_roundw
          case rel => exact ⟨k + 1, by omega, by go_num, ⟨⟨A4, c4, rfl, HR4.out.more (fun b h => ⟨Nat.le_trans HSZ3.out h.1, h.2⟩)⟩, HFIRST.out ▸ (HF3.out.below HB4.out HF3.out.lt), HB3.out.trans (HB4.out.mono HB3.out.size), fun i hi => by
            by_cases e : i = k
            · subst e; exact HREF.out
            · exact HCH.out i (by omega)⟩⟩
          case measure => (simp [intOf] <;> omega)
        by_cases c4 : fillOf xs < 48
        · have hno := Lib.hid (not_ref HS.out HBY.out (k := k) (by have := HL.out; omega) (fun h => by have h := h.2.2.2 (by have := HL.out; omega); rw [← HXS.out] at h; omega))
          have e3 : (k : Int) + 1 < n := by omega
          have e4 : (fillOf xs : Int) < 48 := by omega
          go_wp2_with (first | rw [← HW2.out] )
          go_ret2
          exact rjoin_no hno.out ⟨⟨_, _, _, rfl⟩, HB3.out⟩
        · have HREF := Lib.hid (show RefAt xss k from ⟨by rw [← HXS.out]; exact HST.out, by rw [← HXS.out, ← HFS.out]; exact HC1.out, by rw [← HXS.out, ← HFS.out]; exact HC2.out, fun _ => by rw [← HXS.out]; omega⟩)
          have e3 : (k : Int) + 1 < n := by omega
          have e4 : ¬ (fillOf xs : Int) < 48 := by omega
          have hsn := meants_snoc xss k (by have := HL.out; omega)
          rw [← HXS.out] at hsn
          have hlo := meants_length xss k (by have := HL.out; omega)
          have hml := meant_le xs
          have HSN := Lib.hid hsn
          clear hsn
          go_wp2_with (first | rw [← HW2.out] )
          refine (both_any Ao A2 (meants (xss.take k)).length co (meantOf xs).length c2 (meants (xss.take k)) (meantOf xs) _ w3 HRO3.out HR3.out (fun b h => h.1) (by omega)).mono ?_
          rintro e w4 ⟨A4, c4, rfl, _, _, hr4, hb4⟩
          rw [← HSN.out] at hr4
          rw [← HSN.out]
          have HR4 := Lib.hid hr4
          have HB4 := Lib.hid hb4
          clear hr4 hb4 s0 s1 s2 f0 f1 f2
          go_wp2_with fail
          go_roundw
          case rel => exact ⟨k + 1, by omega, by go_num, ⟨⟨A4, c4, rfl, HR4.out.more (fun b h => ⟨Nat.le_trans HSZ3.out h.1, h.2⟩)⟩, HFIRST.out ▸ (HF3.out.below HB4.out HF3.out.lt), HB3.out.trans (HB4.out.mono HB3.out.size), fun i hi => by
            by_cases e : i = k
            · subst e; exact HREF.out
            · exact HCH.out i (by omega)⟩⟩
          case measure => (simp [intOf] <;> omega)
    · obtain rfl : k = n := by omega
      obtain ⟨⟨Ao, co, rfl, hro⟩, hst0, hbel0, hch0⟩ := hj
      have hmt : meants (xss.take k) = meants xss := by rw [List.take_of_length_le (by have := HL.out; omega)]
      rw [hmt] at hro
      rw [hmt]
      have HRO := Lib.hid hro
      have HBE := Lib.hid hbel0
      have hch : Chain xss := (chain_ref HS.out HBY.out).2 (fun i hi => hch0 i (by have := HL.out; omega))
      have HCH := Lib.hid hch
      clear hro hst0 hbel0 hch0 hmt hch
      by_cases h0 : k = 0
      · subst h0
        have hno := Lib.hid (show ¬ (1 ≤ xss.length ∧ Chain xss) from fun h => by have := HL.out; have := h.1; omega)
        go_wp2
        go_ret2
        exact rjoin_no hno.out ⟨⟨_, _, _, rfl⟩, HBE.out⟩
      · have h1 : (0 : Int) < k := by omega
        have h1n : 0 < k := by omega
        clear h0
        go_wp2
        go_ret2
        exact ⟨fun _ => ⟨_, _, rfl, HRO.out.more (fun b h => ⟨by omega, h.2⟩), HBE.out⟩, fun h => absurd ⟨by have := HL.out; omega, HCH.out⟩ h⟩

end Go.Proofs.Ytikeiloeeklkeaa
