/- Package record: Encode. -/
import Derived.Test.YtehldhdpeefljaaRec
namespace Go.Proofs.Ytehldhdpeefljaa
open Go.RowKit
set_option linter.unusedVariables false

def recB (k f x s : Int) (xs ys : List Int) : List Int := headB k f x s xs.length ys.length ++ xs ++ ys
theorem recB_length (k f x s : Int) (xs ys : List Int) : (recB k f x s xs ys).length = 21 + xs.length + ys.length := by simp [recB, headB_length]; omega

theorem encode_no (k f x s : Int) (A A' : Option Addr) (n c n' c' : Nat) (w : World) (h : ¬ May k f x s n n') :
    Calls Try.prog 13 #[.agg #[.int .i64 k, .int .u32 f, .int .u32 x, .int .u64 s, .slice A n c, .slice A' n' c']] w fun e w' => e = .returned (.tuple #[.slice none 0 0, .int .i64 160]) ∧ Below w.heap.size w w' := by
  have HM := Lib.hid h
  clear h
  go_enter Try.func13, Try.ntmps13
  go_wp2_with fail
  refine (headOf_any k f x s A A' n c n' c' _).mono ?_
  rintro e w1 ⟨rfl, hb⟩
  have HB1 := Lib.hid (((Below.refl w.heap.size w).alloc (Nat.le_refl _) _).trans (hb.mono (by simp)))
  clear hb
  go_wp2_with fail
  refine (may_no k f x s n n' _ HM.out).mono ?_
  rintro e w2 ⟨rfl, hb⟩
  have HB2 := Lib.hid ((HB1.out.alloc HB1.out.size _).trans (hb.mono (by have := HB1.out.size; simp; omega)))
  clear hb
  go_wp2_with fail
  go_ret2
  exact ⟨rfl, HB2.out⟩

/-- What Encode tells of a record that may be. -/
def EncTold (ys : List Int) (w : World) (e : Ending) (w' : World) : Prop :=
  ∃ v, e = .returned (.tuple #[v, .int .i64 0]) ∧ w'.ownsRow w.heap.size 5 1 v ys.length (ys.map (Value.int .u8)) ∧ Below w.heap.size w w'

set_option maxHeartbeats 1000000 in
theorem encode_yes (k f x s : Int) (A A' : Option Addr) (n c n' c' : Nat) (xs ys : List Int) (S : Nat → Prop) (w : World) (h : May k f x s n n') (hr : Rng f x s)
    (hx : RowI .u8 w S A n xs) (hy : RowI .u8 w S A' n' ys) (hS : ∀ b, S b → b < w.heap.size) (hnA : A = none → c = 0) (hnA' : A' = none → c' = 0) :
    Calls Try.prog 13 #[.agg #[.int .i64 k, .int .u32 f, .int .u32 x, .int .u64 s, .slice A n c, .slice A' n' c']] w (EncTold (recB k f x s xs ys) w) := by
  obtain ⟨i0, hi, hz0, hz1, hz2⟩ := info_parts info_u8
  have HM := Lib.hid h
  have HR := Lib.hid hr
  have HX := Lib.hid hx
  have HY := Lib.hid hy
  have hn := h.2.2.1
  have hm := h.2.2.2.1
  clear h hr hx hy
  go_enter Try.func13, Try.ntmps13
  go_wp2_with fail
  refine (headOf_any k f x s A A' n c n' c' _).mono ?_
  rintro e w1 ⟨rfl, hb⟩
  have HG1 := Lib.hid (show Blk w1 w.heap.size 26 (recC k f x s A n c A' n' c') from (Blk.new w _ _).below hb (by simp))
  have HB1 := Lib.hid (((Below.refl w.heap.size w).alloc (Nat.le_refl _) _).trans (hb.mono (by simp)))
  clear hb
  go_wp2_with fail
  refine (may_yes k f x s n n' _ HM.out).mono ?_
  rintro e w2 ⟨rfl, hb⟩
  have hg : Blk w2 w1.heap.size 51 (headC k f x s n n') := (Blk.new w1 _ _).below hb (by simp)
  have HG2 := Lib.hid (show Blk w2 w.heap.size 26 (recC k f x s A n c A' n' c') from (HG1.out.alloc _).below hb (by have := HG1.out.lt; simp; omega))
  have HB2 := Lib.hid ((HB1.out.alloc HB1.out.size _).trans (hb.mono (by have := HB1.out.size; simp; omega)))
  have c0 := hg.cell 0
  have c1 := hg.cell 1
  have c2 := hg.cell 2
  have c3 := hg.cell 3
  have c4 := hg.cell 4
  have c5 := hg.cell 5
  simp only [List.getElem?_toArray, List.getElem?_cons_zero, List.getElem?_cons_succ] at c0 c1 c2 c3 c4 c5
  clear hb hg
  go_wp2_with fail
  refine (head_bytes k f x s n n' _ (by have := HM.out.2.2.2.2; omega) HR.out hn hm).mono ?_
  rintro e w3 ⟨g, rfl, hg, ha, hb⟩
  have HG3 := Lib.hid (HG2.out.below hb HG2.out.lt)
  have HB3 := Lib.hid (HB2.out.trans (hb.mono HB2.out.size))
  have HO3 := Lib.hid (ha.owns hg (headB_length _ _ _ _ _ _) rfl (by unfold maxLen; omega))
  have HX3 := Lib.hid (HX.out.below HB3.out hS)
  have HS3 := Lib.hid hb.size
  have hcell := HG3.out.cell 4
  simp only [List.getElem?_toArray, List.getElem?_cons_zero, List.getElem?_cons_succ] at hcell
  clear hb ha hg c0 c1 c2 c3 c4 c5
  go_wp2_with (first
    | (at_builtin; refine wpList_append_rowG rfl (.tmp 13) (.tmp 15) 24 rfl w2.heap.size 5 i0 (.int .u8 0) 1 Try.underlying24 hi hz0 hz1 hz2 rfl (fun _ => rfl) _ 21 _ rfl HO3.out S A n c xs rfl HX3.out hnA (by unfold maxLen; omega) (by omega) HS3.out ?_; intro v4 w4 hown4 hgrow4 hblk4; have HO4 := Lib.hid hown4; have HB4 := Lib.hid ((Below.refl w2.heap.size w3).grown hgrow4 HS3.out (fun k hk => (HO3.out.lt k hk).1)); have hcell4 := (HG3.out.grown hgrow4 (fun e => by have := (HO3.out.lt _ e.symm).1; have := HG2.out.lt; omega)).cell 5; have HX4 := Lib.hid (HY.out.below (HB3.out.trans (HB4.out.mono HB2.out.size)) hS); simp only [List.getElem?_toArray, List.getElem?_cons_zero, List.getElem?_cons_succ] at hcell4; clear hown4 hgrow4 hblk4)
    | (at_builtin; refine wpList_append_rowG rfl (.tmp 17) (.tmp 19) 24 rfl w2.heap.size 5 i0 (.int .u8 0) 1 Try.underlying24 hi hz0 hz1 hz2 rfl (fun _ => rfl) _ (21 + n) _ rfl HO4.out S A' n' c' ys rfl HX4.out hnA' (by unfold maxLen; omega) (by omega) (Nat.le_trans HS3.out HB4.out.size) ?_; intro v5 w5 hown5 hgrow5 hblk5; have HO5 := Lib.hid hown5; have HB5 := Lib.hid (HB4.out.grown hgrow5 (Nat.le_trans HS3.out HB4.out.size) (fun k hk => (HO4.out.lt k hk).1)); clear hown5 hgrow5 hblk5))
  go_ret2
  refine ⟨v5, rfl, ?_, HB3.out.trans (HB5.out.mono HB2.out.size)⟩
  have h5 := own_base HO5.out HB2.out.size
  rw [← List.map_append, ← List.map_append] at h5
  rw [recB_length, HX.out.1, HY.out.1]
  unfold recB
  rw [HX.out.1, HY.out.1]
  exact h5

end Go.Proofs.Ytehldhdpeefljaa
