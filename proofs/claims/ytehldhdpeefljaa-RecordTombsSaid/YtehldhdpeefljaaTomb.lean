/- Package record: Tomb. -/
import Derived.Test.YtehldhdpeefljaaDecAll
import Derived.Test.YtehldhdpeefljaaRec
namespace Go.Proofs.Ytehldhdpeefljaa
open Go.RowKit
set_option linter.unusedVariables false

theorem tomb_no (A : Option Addr) (n c : Nat) (s : Int) (w : World) (h : ¬ May 2 0 0 s n 0) :
    Calls Try.prog 27 #[.slice A n c, .int .u64 s] w fun e w' => e = .returned (.tuple #[.agg #[.int .i64 0, .int .u32 0, .int .u32 0, .int .u64 0, .slice none 0 0, .slice none 0 0], .int .i64 160]) ∧ Below w.heap.size w w' := by
  have HM := Lib.hid h
  clear h
  go_enter Try.func27, Try.ntmps27
  go_wp2_with fail
  refine (check_no 2 0 0 s A none n c 0 0 _ HM.out).mono ?_
  rintro e w1 ⟨rfl, hb⟩
  have HB1 := Lib.hid ((((Below.refl w.heap.size w).alloc (Nat.le_refl _) _).alloc (by simp) _).trans (hb.mono (by simp; omega)))
  have HRES := Lib.hid (((Blk.new w 26 zeroC).alloc (.cells (recC 2 0 0 s A n c none 0 0) 26)).below hb (by simp; omega))
  clear hb
  go_wp2_with (first
    | (refine wpList_store_rowB (.tmp 4) (.tmp 15) 26 rfl rfl w.heap.size zeroC rfl rfl 26 _ HRES.out size_rec rfl one_zero ?_)
    | (with_reducible refine halt_end ?_))
  exact Halt.ret (results_row2 (p := 4) (u := 5) rfl _ _ w.heap.size 26 zeroC _ rfl (setRow_heap _ _ _ zeroC _ _ HRES.out) Try.underlying26 rfl size_rec) rfl ⟨rfl, below_setRow HB1.out (Nat.le_refl _) _⟩

/-- What Tomb leaves. -/
def TombTold (s : Int) (xs : List Int) (w : World) (e : Ending) (w' : World) : Prop :=
  ∃ g, e = .returned (.tuple #[.agg #[.int .i64 2, .int .u32 0, .int .u32 0, .int .u64 s, .slice (some ⟨g, 0, none⟩) xs.length xs.length, .slice none 0 0], .int .i64 0]) ∧ w.heap.size ≤ g ∧ ArrU w' g xs ∧ Below w.heap.size w w'

set_option maxHeartbeats 2000000 in
theorem tomb_yes (A : Option Addr) (n c : Nat) (xs : List Int) (s : Int) (S : Nat → Prop) (w : World) (hx : RowI .u8 w S A n xs) (hS : ∀ b, S b → b < w.heap.size) (h : May 2 0 0 s n 0) :
    Calls Try.prog 27 #[.slice A n c, .int .u64 s] w (TombTold s xs w) := by
  have hn1 := h.2.1
  have hn2 := h.2.2.1
  have hmk := fun u : World => run_make_row' (P := Try.prog) 24 5 (.int .u8 0) 1 Try.underlying24 info_u8 rfl .i64 .i64 n (by omega) (by omega) u
  have HM := Lib.hid h
  have HX := Lib.hid hx
  have HLX := Lib.hid hx.1
  clear h hx
  go_enter Try.func27, Try.ntmps27
  go_wp2_with fail
  generalize hw1 : (w.alloc _).alloc _ = w1
  have HB1 := Lib.hid (show Below w.heap.size w w1 by rw [← hw1]; exact ((Below.refl _ _).alloc (Nat.le_refl _) _).alloc (by simp) _)
  have HZ1 := Lib.hid (show Blk w1 w.heap.size 26 zeroC by rw [← hw1]; exact (Blk.new w _ _).alloc _)
  have HR1 := Lib.hid (show Blk w1 (w.heap.size + 1) 26 (recC 2 0 0 s A n c none 0 0) by rw [← hw1]; exact blk_new2 w _ _ _)
  clear hw1
  refine (check_yes 2 0 0 s A none n c 0 0 _ HM.out).mono ?_
  rintro e w2 ⟨rfl, hb⟩
  have HB2 := Lib.hid (HB1.out.trans (hb.mono HB1.out.size))
  have HZ2 := Lib.hid (HZ1.out.below hb HZ1.out.lt)
  have HR2 := Lib.hid (HR1.out.below hb HR1.out.lt)
  clear hb
  have hr3 := HR2.out.alloc (.cells (madeCells #[.int .u8 0] n) 5)
  have q0 := hr3.cell 4
  have q1 := hr3.frozen 4
  simp only [List.getElem?_toArray, List.getElem?_cons_zero, List.getElem?_cons_succ] at q0
  have hr4 : Blk _ (w.heap.size + 1) 26 (recC 2 0 0 s (some ⟨w2.heap.size, 0, none⟩) n n none 0 0) := hr3.set_ 4 (.slice (some ⟨w2.heap.size, 0, none⟩) n n)
  have q4 := hr4.cell 4
  simp only [List.getElem?_toArray, List.getElem?_cons_zero, List.getElem?_cons_succ] at q4
  have hne : w2.heap.size ≠ w.heap.size + 1 := by have := HR2.out.lt; omega
  have hm4 : Arr (Value.int .u8) ((w2.alloc (.cells (madeCells #[.int .u8 0] n) 5)).setCell ⟨w.heap.size + 1, 4, none⟩ (.slice (some ⟨w2.heap.size, 0, none⟩) n n)) w2.heap.size 5 (List.replicate n 0) := Blk.far (Arr.made (mk := Value.int .u8) w2 0 n 5) hne _
  have hb4 : Below w.heap.size w ((w2.alloc (.cells (madeCells #[.int .u8 0] n) 5)).setCell ⟨w.heap.size + 1, 4, none⟩ (.slice (some ⟨w2.heap.size, 0, none⟩) n n)) := (HB2.out.alloc HB2.out.size _).setCell (by show w.heap.size ≤ w.heap.size + 1; omega) _
  have hz4 : Blk ((w2.alloc (.cells (madeCells #[.int .u8 0] n) 5)).setCell ⟨w.heap.size + 1, 4, none⟩ (.slice (some ⟨w2.heap.size, 0, none⟩) n n)) w.heap.size 26 zeroC := (HZ2.out.alloc _).far (by show w.heap.size ≠ w.heap.size + 1; omega) _
  have hx4 := HX.out.below hb4 hS
  have hk4 : Kept (fun b => b < w2.heap.size) w2 _ := (Kept.refl _ w2)
  have HR4 := Lib.hid hr4
  have HM4 := Lib.hid hm4
  have HB4 := Lib.hid hb4
  have HZ4 := Lib.hid hz4
  have HX4 := Lib.hid hx4
  have h1 := Lib.hid (show (xs.map (Value.int .u8)).length = Nat.min n n by rw [List.length_map, HLX.out]; exact (Nat.min_self n).symm)
  have h3 := Lib.hid (show 0 + (xs.map (Value.int .u8)).length ≤ ((List.replicate n (0 : Int)).map (Value.int .u8)).length by simp [HLX.out])
  have h4 := Lib.hid (show ((List.replicate n (0 : Int)).map (Value.int .u8)).length = (xs.map (Value.int .u8)).length by simp [HLX.out])
  have HS2 := Lib.hid (show w.heap.size ≤ w2.heap.size from HB2.out.size)
  have HNE := Lib.hid hne
  have HLT := Lib.hid (show w.heap.size + 1 < w2.heap.size from HR2.out.lt)
  clear hr3 hr4 hm4 hb4 hz4 hx4 hk4 hne
  go_wp2_with (first
    | (refine wpList_copy_splice rfl (.tmp 22) (.tmp 23) 24 24 rfl 5 Try.underlying24 size_u8 _ _ _ _ _ _ rfl rfl w2.heap.size 0 ((List.replicate n (0 : Int)).map (Value.int .u8)) 5 HM4.out (xs.map (Value.int .u8)) h1.out (fun hp => ⟨rfl, row_src HX4.out (by have := HLX.out; simpa [this] using hp)⟩) h3.out (one_u8 xs) w2.heap.size _ (Below.refl _ _) (Nat.le_refl _) ?_; intro w5 hg hb; rw [splice_all _ _ h4.out] at hg; have HA5 := Lib.hid (show ArrU w5 w2.heap.size xs from hg); have HR5 := Lib.hid (HR4.out.below hb HLT.out); have HZ5 := Lib.hid (HZ4.out.below hb (by have := HLT.out; omega)); have HB5 := Lib.hid (HB4.out.trans (hb.mono HS2.out)); clear hg hb)
    | (refine wpList_load_rowB (.tmp 6) 26 rfl rfl (w.heap.size + 1) rfl 26 [.int .i64 2, .int .u32 0, .int .u32 0, .int .u64 s, .slice (some ⟨w2.heap.size, 0, none⟩) n n, .slice none 0 0] _ Try.underlying26 rfl size_rec HR5.out ?_)
    | (refine wpList_store_rowB (.tmp 4) (.tmp 25) 26 rfl rfl w.heap.size (recC 2 0 0 s (some ⟨w2.heap.size, 0, none⟩) n n none 0 0) rfl rfl 26 _ HZ5.out size_rec rfl (one_rec _ _ _ _ _ _ _ _ _ _) ?_)
    | (with_reducible refine halt_end ?_))
  have hst := setRow_heap _ _ _ (recC 2 0 0 s (some ⟨w2.heap.size, 0, none⟩) n n none 0 0) _ _ HZ5.out
  refine Halt.ret (results_row2 (p := 4) (u := 5) rfl _ _ w.heap.size 26 (recC 2 0 0 s (some ⟨w2.heap.size, 0, none⟩) n n none 0 0) _ rfl hst Try.underlying26 rfl size_rec) rfl ⟨w2.heap.size, ?_, HS2.out, ?_, below_setRow HB5.out (Nat.le_refl _) _⟩
  · rw [HLX.out]
    rfl
  · exact Blk.kept (S := fun b => b ≠ w.heap.size) HA5.out ((Kept.refl _ _).setRow (fun h => h rfl) _) (by have := HLT.out; omega)

end Go.Proofs.Ytehldhdpeefljaa
