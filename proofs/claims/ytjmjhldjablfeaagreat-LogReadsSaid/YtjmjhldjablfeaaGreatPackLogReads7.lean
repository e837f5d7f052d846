/- Texts of LogReads, packed. -/
import Derived.Test.YtjmjhldjablfeaaGreatPackLogReads6
import Derived.Deep.RegionHeld3
set_option linter.unusedVariables false
set_option linter.unusedSimpArgs false
set_option maxRecDepth 100000
set_option maxHeartbeats 16000000
namespace Go.Proofs.YtjmjhldjablfeaaGreat
section
open Go.RowKit
def OwnZ (w : World) (base : Nat) (A : Option Addr) (n cap : Nat) (xs : List Seg) : Prop :=
 xs.length = n ∧ w.ownsRow base 126 3 (.slice A n cap) n (flatG xs) ∧ (A = none → cap = 0) ∧ n ≤ cap
theorem OwnZ.row {w : World} {base : Nat} {A : Option Addr} {n cap : Nat} {xs : List Seg} (h : OwnZ w base A n cap xs) : RowZ w (From base w) A n xs := by
 obtain ⟨A', cap', e, _, _, hr⟩ := rowZ_own h.2.1 rfl h.1
 injection e with e1 _ e2
 subst e1 e2
 exact hr
theorem OwnZ.below {w W : World} {base : Nat} {A : Option Addr} {n cap : Nat} {xs : List Seg} (h : OwnZ w base A n cap xs) (hb : Below w.heap.size w W) : OwnZ W base A n cap xs := ⟨h.1, own_below h.2.1 hb, h.2.2⟩
theorem OwnZ.base {w : World} {base m : Nat} {A : Option Addr} {n cap : Nat} {xs : List Seg} (h : OwnZ w base A n cap xs) (hm : m ≤ base) : OwnZ w m A n cap xs := ⟨h.1, own_base h.2.1 hm, h.2.2⟩
theorem ArrS.own {w : World} {g base n : Nat} {xs : List Seg} (h : ArrS w g xs) (hb : base ≤ g) (hn : xs.length = n) (hc : n ≤ 1000000) : OwnZ w base (some ⟨g, 0, none⟩) n n xs :=
 ⟨hn, ⟨by rw [flatG_length, hn], .inr ⟨g, n, (flatG xs).toArray, rfl, hb, h, nR _, by unfold maxLen; omega, by simp [flatG_length, hn], by rw [← hn, ← flatG_length]; simp⟩⟩, (fun h => by cases h), nR _⟩
theorem ArrS.cells {w : World} {g i : Nat} {xs : List Seg} {a b c : Int} (h : ArrS w g xs) (hi : i < xs.length) (hx : xs.getD i seg0 = (a, b, c)) :
 w.cell? ⟨g, i * 3, none⟩ = some (.int .i64 a) ∧ w.cell? ⟨g, i * 3 + 1, none⟩ = some (.int .u64 b) ∧ w.cell? ⟨g, i * 3 + 2, none⟩ = some (.int .i64 c) := by
 have key : ∀ j v, j < 3 → (segC (a, b, c))[j]? = some v → w.cell? ⟨g, i * 3 + j, none⟩ = some v := fun j v hj hv => by
  rw [Blk.cell h, List.getElem?_toArray, flatG_get xs _ (by omega), show (i * 3 + j) / 3 = i by omega, show (i * 3 + j) % 3 = j by omega, hx]
  exact hv
 exact ⟨key 0 _ (by omega) rfl, key 1 _ (by omega) rfl, key 2 _ (by omega) rfl⟩
theorem clo_open (s : Seg) (g : Int) (G : Nat) (w : World) (hG : w.cell? ⟨G, 0, none⟩ = some (.int .u64 g)) (hlt : G < w.heap.size) :
 Calls Tryz.prog 201 #[.agg (segC s).toArray, .pointer (some ⟨G, 0, none⟩)] w fun e w' => e = .returned (.agg (segC (1, g, 1)).toArray) ∧ Below w.heap.size w w' := by
 obtain ⟨a, b, c⟩ := s
 go_enter Tryz.func201, Tryz.ntmps201
 go_wp2
 exact Halt.ret (results_row1 rfl _ _ (w.heap.size + 1) 126 (segC (1, g, 1)).toArray _ rfl (blk_new2 w _ _ _) Tryz.underlying126 rfl size_seg) rfl ⟨rfl, ((Below.refl _ w).alloc (nR _) _).alloc (by simp) _⟩
theorem clo_use (s : Seg) (n : Int) (G : Nat) (w : World) (hG : w.cell? ⟨G, 0, none⟩ = some (.int .i64 n)) (hlt : G < w.heap.size) :
 Calls Tryz.prog 173 #[.agg (segC s).toArray, .pointer (some ⟨G, 0, none⟩)] w fun e w' => e = .returned (.agg (segC (s.1, s.2.1, wrap64 (s.2.2 + n))).toArray) ∧ Below w.heap.size w w' := by
 obtain ⟨a, b, c⟩ := s
 go_enter Tryz.func173, Tryz.ntmps173
 go_wp2
 exact Halt.ret (results_row1 rfl _ _ (w.heap.size + 1) 126 (segC (a, b, wrap64 (c + n))).toArray _ rfl (blk_new2 w _ _ _) Tryz.underlying126 rfl size_seg) rfl ⟨rfl, ((Below.refl _ w).alloc (nR _) _).alloc (by simp) _⟩
theorem clo_seal (s : Seg) (w : World) :
 Calls Tryz.prog 200 #[.agg (segC s).toArray] w fun e w' => e = .returned (.agg (segC (2, s.2.1, s.2.2)).toArray) ∧ Below w.heap.size w w' := by
 obtain ⟨a, b, c⟩ := s
 go_enter Tryz.func200, Tryz.ntmps200
 go_wp2
 exact Halt.ret (results_row1 rfl _ _ (w.heap.size + 1) 126 (segC (2, b, c)).toArray _ rfl (blk_new2 w _ _ _) Tryz.underlying126 rfl size_seg) rfl ⟨rfl, ((Below.refl _ w).alloc (nR _) _).alloc (by simp) _⟩
theorem clo_free (s : Seg) (w : World) :
 Calls Tryz.prog 132 #[.agg (segC s).toArray] w fun e w' => e = .returned (.agg (segC seg0).toArray) ∧ Below w.heap.size w w' := by
 obtain ⟨a, b, c⟩ := s
 go_enter Tryz.func132, Tryz.ntmps132
 go_wp2
 exact Halt.ret (results_row1 rfl _ _ (w.heap.size + 1) 126 (segC seg0).toArray _ rfl (blk_new2 w _ _ _) Tryz.underlying126 rfl size_seg) rfl ⟨rfl, ((Below.refl _ w).alloc (nR _) _).alloc (by simp) _⟩
theorem turned_seal {w : World} {A : Option Addr} {n cap : Nat} {xs : List Seg} (h : RowZ w (· < w.heap.size) A n xs) (sec : Int) (hn : n ≤ 1000) (i : Nat) (hi : i < n) :
 Calls Tryz.prog 133 #[ringV sec A n cap, .int .i64 i, .func (.func 200) #[] #[]] w fun e w' => (∃ A' cap', e = .returned (ringV sec A' n cap') ∧ OwnZ w' w.heap.size A' n cap' (xs.set i (2, genG xs i, usedG xs i))) ∧ Below w.heap.size w w' := by
 have hn6 : n ≤ 1000000 := by omega
 have h0n : 0 < n := by omega
 have HB := hI ((((Below.refl w.heap.size w).alloc (nR _) (.cells #[.int .i64 sec, .slice A n cap] 95)).alloc (by simp) (.cells #[.int .i64 0, .slice none 0 0] 95)).alloc (by simp; omega) (.cells (flatG (List.replicate n seg0)).toArray 126))
 have HX := hI (row_now h HB.out)
 have HK0 := hI (((Blk.new w 95 #[.int .i64 sec, .slice A n cap]).alloc (.cells #[.int .i64 0, .slice none 0 0] 95)).alloc (.cells (flatG (List.replicate n seg0)).toArray 126))
 have HK1 := hI ((blk_new2 w (.cells #[.int .i64 sec, .slice A n cap] 95) 95 #[.int .i64 0, .slice none 0 0]).alloc (.cells (flatG (List.replicate n seg0)).toArray 126))
 have HG := hI (show ArrS _ (w.heap.size + 1 + 1) (List.replicate n seg0) from blk_new3 w (.cells #[.int .i64 sec, .slice A n cap] 95) (.cells #[.int .i64 0, .slice none 0 0] 95) 126 (flatG (List.replicate n seg0)).toArray)
 have hl := h.1
 have HL := hI hl
 have hlx : i < xs.length := by omega
 have HLX := hI hlx
 obtain ⟨q0, q1⟩ := ring_cells HK0.out
 clear h hl hlx
 obtain ⟨st, g, u, hx⟩ : ∃ st g u, xs.getD i seg0 = (st, g, u) := ⟨_, _, _, rfl⟩
 rw [show ((2, genG xs i, usedG xs i) : Seg) = (2, g, u) by simp only [stG, genG, usedG, hx]]
 have HXI := hI hx
 clear hx
 go_enter Tryz.func133, Tryz.ntmps133
 go_wp2_with (first
  | (refine wpList_make_segs _ _ rfl rfl _ _ n n rfl rfl rfl rfl (nR _) hn6 ?_)
  | (refine wpList_copy_segs (.tmp 12) (.tmp 14) rfl rfl (w.heap.size + 1 + 1) n n cap A rfl rfl _ xs (List.replicate n seg0) HX.out HG.out (by simp) h0n ?_
     have HG1 := hI (HG.out.setRow xs)
     have n1 : w.heap.size ≠ w.heap.size + 1 + 1 := by omega
     have n2 : w.heap.size + 1 ≠ w.heap.size + 1 + 1 := by omega
     have HB1 := hI (below_setRow HB.out (g := w.heap.size + 1 + 1) (by omega) (flatG xs).toArray)
     have HK2 := hI (HK0.out.kept ((Kept.refl (fun b => b ≠ w.heap.size + 1 + 1) _).setRow (g := w.heap.size + 1 + 1) (fun h => h rfl) (flatG xs).toArray) n1)
     have HK3 := hI (HK1.out.kept ((Kept.refl (fun b => b ≠ w.heap.size + 1 + 1) _).setRow (g := w.heap.size + 1 + 1) (fun h => h rfl) (flatG xs).toArray) n2)
     obtain ⟨c0, c1, c2⟩ := ArrS.cells HG1.out HLX.out HXI.out
     clear n1 n2)
  | (go_at_call 200; refine (clo_seal (st, g, u) _).mono ?_; rintro e w4 ⟨rfl, hb4⟩
     have HB4 := hI (HB1.out.trans (hb4.mono HB1.out.size))
     have HG4 := hI (HG1.out.below hb4 HG1.out.lt)
     have HK5 := hI (HK2.out.below hb4 HK2.out.lt)
     have HK6 := hI (HK3.out.below hb4 HK3.out.lt)
     clear hb4)
  | (refine wpList_store_seg (.tmp 24) (.tmp 23) rfl rfl (w.heap.size + 1 + 1) i (2, g, u) rfl rfl xs HG4.out HLX.out ?_
     have HG5 := hI (HG4.out.setRow (xs.set i (2, g, u)))
     have n1 : w.heap.size ≠ w.heap.size + 1 + 1 := by omega
     have n2 : w.heap.size + 1 ≠ w.heap.size + 1 + 1 := by omega
     have HB5 := hI (below_setRow HB4.out (g := w.heap.size + 1 + 1) (by omega) (flatG (xs.set i (2, g, u))).toArray)
     have HK7 := hI (HK5.out.kept ((Kept.refl (fun b => b ≠ w.heap.size + 1 + 1) _).setRow (g := w.heap.size + 1 + 1) (fun h => h rfl) (flatG (xs.set i (2, g, u))).toArray) n1)
     have HK8 := hI (HK6.out.kept ((Kept.refl (fun b => b ≠ w.heap.size + 1 + 1) _).setRow (g := w.heap.size + 1 + 1) (fun h => h rfl) (flatG (xs.set i (2, g, u))).toArray) n2)
     obtain ⟨q0, q1⟩ := ring_cells HK7.out
     obtain ⟨p0, p1⟩ := ring_cells HK8.out
     obtain ⟨f0, f1⟩ := And.intro (HK7.out.frozen 0) (HK7.out.frozen 1)
     obtain ⟨g0, g1⟩ := And.intro (HK8.out.frozen 0) (HK8.out.frozen 1)
     clear n1 n2)
  | (with_reducible refine halt_end ?_))
 have n1 : w.heap.size + 1 ≠ w.heap.size := by omega
 have n2 : w.heap.size + 1 + 1 ≠ w.heap.size := by omega
 have n3 : w.heap.size + 1 + 1 ≠ w.heap.size + 1 := by omega
 have hst := ((HK8.out.far (p := ⟨w.heap.size, 1, none⟩) n1 (.slice (some ⟨w.heap.size + 1 + 1, 0, none⟩) n n)).set_ 0 (.int .i64 sec)).set_ 1 (.slice (some ⟨w.heap.size + 1 + 1, 0, none⟩) n n)
 have harr : ArrS _ (w.heap.size + 1 + 1) (xs.set i (2, g, u)) := ((Blk.far HG5.out (p := ⟨w.heap.size, 1, none⟩) n2 (.slice (some ⟨w.heap.size + 1 + 1, 0, none⟩) n n)).far (p := ⟨w.heap.size + 1, 0, none⟩) n3 (.int .i64 sec)).far (p := ⟨w.heap.size + 1, 1, none⟩) n3 (.slice (some ⟨w.heap.size + 1 + 1, 0, none⟩) n n)
 have hbel := ((HB5.out.setCell (p := ⟨w.heap.size, 1, none⟩) (nR _) (.slice (some ⟨w.heap.size + 1 + 1, 0, none⟩) n n)).setCell (p := ⟨w.heap.size + 1, 0, none⟩) (by simp) (.int .i64 sec)).setCell (p := ⟨w.heap.size + 1, 1, none⟩) (by simp) (.slice (some ⟨w.heap.size + 1 + 1, 0, none⟩) n n)
 exact Halt.ret (results_row1 rfl _ _ (w.heap.size + 1) 95 #[.int .i64 sec, .slice (some ⟨w.heap.size + 1 + 1, 0, none⟩) n n] _ rfl hst Tryz.underlying95 rfl size_ring) rfl ⟨⟨_, _, rfl, harr.own (by omega) (by rw [List.length_set, HL.out]) hn6⟩, hbel⟩
theorem turned_free {w : World} {A : Option Addr} {n cap : Nat} {xs : List Seg} (h : RowZ w (· < w.heap.size) A n xs) (sec : Int) (hn : n ≤ 1000) (i : Nat) (hi : i < n) :
 Calls Tryz.prog 133 #[ringV sec A n cap, .int .i64 i, .func (.func 132) #[] #[]] w fun e w' => (∃ A' cap', e = .returned (ringV sec A' n cap') ∧ OwnZ w' w.heap.size A' n cap' (xs.set i seg0)) ∧ Below w.heap.size w w' := by
 have hn6 : n ≤ 1000000 := by omega
 have h0n : 0 < n := by omega
 have HB := hI ((((Below.refl w.heap.size w).alloc (nR _) (.cells #[.int .i64 sec, .slice A n cap] 95)).alloc (by simp) (.cells #[.int .i64 0, .slice none 0 0] 95)).alloc (by simp; omega) (.cells (flatG (List.replicate n seg0)).toArray 126))
 have HX := hI (row_now h HB.out)
 have HK0 := hI (((Blk.new w 95 #[.int .i64 sec, .slice A n cap]).alloc (.cells #[.int .i64 0, .slice none 0 0] 95)).alloc (.cells (flatG (List.replicate n seg0)).toArray 126))
 have HK1 := hI ((blk_new2 w (.cells #[.int .i64 sec, .slice A n cap] 95) 95 #[.int .i64 0, .slice none 0 0]).alloc (.cells (flatG (List.replicate n seg0)).toArray 126))
 have HG := hI (show ArrS _ (w.heap.size + 1 + 1) (List.replicate n seg0) from blk_new3 w (.cells #[.int .i64 sec, .slice A n cap] 95) (.cells #[.int .i64 0, .slice none 0 0] 95) 126 (flatG (List.replicate n seg0)).toArray)
 have hl := h.1
 have HL := hI hl
 have hlx : i < xs.length := by omega
 have HLX := hI hlx
 obtain ⟨q0, q1⟩ := ring_cells HK0.out
 clear h hl hlx
 obtain ⟨st, g, u, hx⟩ : ∃ st g u, xs.getD i seg0 = (st, g, u) := ⟨_, _, _, rfl⟩
 rw [show (seg0 : Seg) = (0, 0, 0) from rfl]
 have HXI := hI hx
 clear hx
 go_enter Tryz.func133, Tryz.ntmps133
 go_wp2_with (first
  | (refine wpList_make_segs _ _ rfl rfl _ _ n n rfl rfl rfl rfl (nR _) hn6 ?_)
  | (refine wpList_copy_segs (.tmp 12) (.tmp 14) rfl rfl (w.heap.size + 1 + 1) n n cap A rfl rfl _ xs (List.replicate n seg0) HX.out HG.out (by simp) h0n ?_
     have HG1 := hI (HG.out.setRow xs)
     have n1 : w.heap.size ≠ w.heap.size + 1 + 1 := by omega
     have n2 : w.heap.size + 1 ≠ w.heap.size + 1 + 1 := by omega
     have HB1 := hI (below_setRow HB.out (g := w.heap.size + 1 + 1) (by omega) (flatG xs).toArray)
     have HK2 := hI (HK0.out.kept ((Kept.refl (fun b => b ≠ w.heap.size + 1 + 1) _).setRow (g := w.heap.size + 1 + 1) (fun h => h rfl) (flatG xs).toArray) n1)
     have HK3 := hI (HK1.out.kept ((Kept.refl (fun b => b ≠ w.heap.size + 1 + 1) _).setRow (g := w.heap.size + 1 + 1) (fun h => h rfl) (flatG xs).toArray) n2)
     obtain ⟨c0, c1, c2⟩ := ArrS.cells HG1.out HLX.out HXI.out
     clear n1 n2)
  | (go_at_call 132; refine (clo_free (st, g, u) _).mono ?_; rintro e w4 ⟨rfl, hb4⟩
     have HB4 := hI (HB1.out.trans (hb4.mono HB1.out.size))
     have HG4 := hI (HG1.out.below hb4 HG1.out.lt)
     have HK5 := hI (HK2.out.below hb4 HK2.out.lt)
     have HK6 := hI (HK3.out.below hb4 HK3.out.lt)
     clear hb4)
  | (refine wpList_store_seg (.tmp 24) (.tmp 23) rfl rfl (w.heap.size + 1 + 1) i (0, 0, 0) rfl rfl xs HG4.out HLX.out ?_
     have HG5 := hI (HG4.out.setRow (xs.set i (0, 0, 0)))
     have n1 : w.heap.size ≠ w.heap.size + 1 + 1 := by omega
     have n2 : w.heap.size + 1 ≠ w.heap.size + 1 + 1 := by omega
     have HB5 := hI (below_setRow HB4.out (g := w.heap.size + 1 + 1) (by omega) (flatG (xs.set i (0, 0, 0))).toArray)
     have HK7 := hI (HK5.out.kept ((Kept.refl (fun b => b ≠ w.heap.size + 1 + 1) _).setRow (g := w.heap.size + 1 + 1) (fun h => h rfl) (flatG (xs.set i (0, 0, 0))).toArray) n1)
     have HK8 := hI (HK6.out.kept ((Kept.refl (fun b => b ≠ w.heap.size + 1 + 1) _).setRow (g := w.heap.size + 1 + 1) (fun h => h rfl) (flatG (xs.set i (0, 0, 0))).toArray) n2)
     obtain ⟨q0, q1⟩ := ring_cells HK7.out
     obtain ⟨p0, p1⟩ := ring_cells HK8.out
     obtain ⟨f0, f1⟩ := And.intro (HK7.out.frozen 0) (HK7.out.frozen 1)
     obtain ⟨g0, g1⟩ := And.intro (HK8.out.frozen 0) (HK8.out.frozen 1)
     clear n1 n2)
  | (with_reducible refine halt_end ?_))
 have n1 : w.heap.size + 1 ≠ w.heap.size := by omega
 have n2 : w.heap.size + 1 + 1 ≠ w.heap.size := by omega
 have n3 : w.heap.size + 1 + 1 ≠ w.heap.size + 1 := by omega
 have hst := ((HK8.out.far (p := ⟨w.heap.size, 1, none⟩) n1 (.slice (some ⟨w.heap.size + 1 + 1, 0, none⟩) n n)).set_ 0 (.int .i64 sec)).set_ 1 (.slice (some ⟨w.heap.size + 1 + 1, 0, none⟩) n n)
 have harr : ArrS _ (w.heap.size + 1 + 1) (xs.set i (0, 0, 0)) := ((Blk.far HG5.out (p := ⟨w.heap.size, 1, none⟩) n2 (.slice (some ⟨w.heap.size + 1 + 1, 0, none⟩) n n)).far (p := ⟨w.heap.size + 1, 0, none⟩) n3 (.int .i64 sec)).far (p := ⟨w.heap.size + 1, 1, none⟩) n3 (.slice (some ⟨w.heap.size + 1 + 1, 0, none⟩) n n)
 have hbel := ((HB5.out.setCell (p := ⟨w.heap.size, 1, none⟩) (nR _) (.slice (some ⟨w.heap.size + 1 + 1, 0, none⟩) n n)).setCell (p := ⟨w.heap.size + 1, 0, none⟩) (by simp) (.int .i64 sec)).setCell (p := ⟨w.heap.size + 1, 1, none⟩) (by simp) (.slice (some ⟨w.heap.size + 1 + 1, 0, none⟩) n n)
 exact Halt.ret (results_row1 rfl _ _ (w.heap.size + 1) 95 #[.int .i64 sec, .slice (some ⟨w.heap.size + 1 + 1, 0, none⟩) n n] _ rfl hst Tryz.underlying95 rfl size_ring) rfl ⟨⟨_, _, rfl, harr.own (by omega) (by rw [List.length_set, HL.out]) hn6⟩, hbel⟩
theorem turned_open {w : World} {A : Option Addr} {n cap : Nat} {xs : List Seg} (h : RowZ w (· < w.heap.size) A n xs) (sec : Int) (hn : n ≤ 1000) (i : Nat) (hi : i < n) (v : Int) (G : Nat) (hG : G < w.heap.size) (hc : w.cell? ⟨G, 0, none⟩ = some (.int .u64 v)) :
 Calls Tryz.prog 133 #[ringV sec A n cap, .int .i64 i, .func (.func 201) #[] #[.pointer (some ⟨G, 0, none⟩)]] w fun e w' => (∃ A' cap', e = .returned (ringV sec A' n cap') ∧ OwnZ w' w.heap.size A' n cap' (xs.set i (1, v, 1))) ∧ Below w.heap.size w w' := by
 have hn6 : n ≤ 1000000 := by omega
 have h0n : 0 < n := by omega
 have HB := hI ((((Below.refl w.heap.size w).alloc (nR _) (.cells #[.int .i64 sec, .slice A n cap] 95)).alloc (by simp) (.cells #[.int .i64 0, .slice none 0 0] 95)).alloc (by simp; omega) (.cells (flatG (List.replicate n seg0)).toArray 126))
 have HX := hI (row_now h HB.out)
 have HK0 := hI (((Blk.new w 95 #[.int .i64 sec, .slice A n cap]).alloc (.cells #[.int .i64 0, .slice none 0 0] 95)).alloc (.cells (flatG (List.replicate n seg0)).toArray 126))
 have HK1 := hI ((blk_new2 w (.cells #[.int .i64 sec, .slice A n cap] 95) 95 #[.int .i64 0, .slice none 0 0]).alloc (.cells (flatG (List.replicate n seg0)).toArray 126))
 have HG := hI (show ArrS _ (w.heap.size + 1 + 1) (List.replicate n seg0) from blk_new3 w (.cells #[.int .i64 sec, .slice A n cap] 95) (.cells #[.int .i64 0, .slice none 0 0] 95) 126 (flatG (List.replicate n seg0)).toArray)
 have hl := h.1
 have HCV := hI hc
 clear hc
 have HL := hI hl
 have hlx : i < xs.length := by omega
 have HLX := hI hlx
 obtain ⟨q0, q1⟩ := ring_cells HK0.out
 clear h hl hlx
 obtain ⟨st, g, u, hx⟩ : ∃ st g u, xs.getD i seg0 = (st, g, u) := ⟨_, _, _, rfl⟩
 have HXI := hI hx
 clear hx
 go_enter Tryz.func133, Tryz.ntmps133
 go_wp2_with (first
  | (refine wpList_make_segs _ _ rfl rfl _ _ n n rfl rfl rfl rfl (nR _) hn6 ?_)
  | (refine wpList_copy_segs (.tmp 12) (.tmp 14) rfl rfl (w.heap.size + 1 + 1) n n cap A rfl rfl _ xs (List.replicate n seg0) HX.out HG.out (by simp) h0n ?_
     have HG1 := hI (HG.out.setRow xs)
     have n1 : w.heap.size ≠ w.heap.size + 1 + 1 := by omega
     have n2 : w.heap.size + 1 ≠ w.heap.size + 1 + 1 := by omega
     have HB1 := hI (below_setRow HB.out (g := w.heap.size + 1 + 1) (by omega) (flatG xs).toArray)
     have HK2 := hI (HK0.out.kept ((Kept.refl (fun b => b ≠ w.heap.size + 1 + 1) _).setRow (g := w.heap.size + 1 + 1) (fun h => h rfl) (flatG xs).toArray) n1)
     have HK3 := hI (HK1.out.kept ((Kept.refl (fun b => b ≠ w.heap.size + 1 + 1) _).setRow (g := w.heap.size + 1 + 1) (fun h => h rfl) (flatG xs).toArray) n2)
     obtain ⟨c0, c1, c2⟩ := ArrS.cells HG1.out HLX.out HXI.out
     clear n1 n2)
  | (go_at_call 201; refine (clo_open (st, g, u) v G _ ((Below.cell HB1.out (p := ⟨G, 0, none⟩) hG).trans HCV.out) (nL hG HB1.out.size)).mono ?_; rintro e w4 ⟨rfl, hb4⟩
     have HB4 := hI (HB1.out.trans (hb4.mono HB1.out.size))
     have HG4 := hI (HG1.out.below hb4 HG1.out.lt)
     have HK5 := hI (HK2.out.below hb4 HK2.out.lt)
     have HK6 := hI (HK3.out.below hb4 HK3.out.lt)
     clear hb4)
  | (refine wpList_store_seg (.tmp 24) (.tmp 23) rfl rfl (w.heap.size + 1 + 1) i (1, v, 1) rfl rfl xs HG4.out HLX.out ?_
     have HG5 := hI (HG4.out.setRow (xs.set i (1, v, 1)))
     have n1 : w.heap.size ≠ w.heap.size + 1 + 1 := by omega
     have n2 : w.heap.size + 1 ≠ w.heap.size + 1 + 1 := by omega
     have HB5 := hI (below_setRow HB4.out (g := w.heap.size + 1 + 1) (by omega) (flatG (xs.set i (1, v, 1))).toArray)
     have HK7 := hI (HK5.out.kept ((Kept.refl (fun b => b ≠ w.heap.size + 1 + 1) _).setRow (g := w.heap.size + 1 + 1) (fun h => h rfl) (flatG (xs.set i (1, v, 1))).toArray) n1)
     have HK8 := hI (HK6.out.kept ((Kept.refl (fun b => b ≠ w.heap.size + 1 + 1) _).setRow (g := w.heap.size + 1 + 1) (fun h => h rfl) (flatG (xs.set i (1, v, 1))).toArray) n2)
     obtain ⟨q0, q1⟩ := ring_cells HK7.out
     obtain ⟨p0, p1⟩ := ring_cells HK8.out
     obtain ⟨f0, f1⟩ := And.intro (HK7.out.frozen 0) (HK7.out.frozen 1)
     obtain ⟨g0, g1⟩ := And.intro (HK8.out.frozen 0) (HK8.out.frozen 1)
     clear n1 n2)
  | (with_reducible refine halt_end ?_))
 have n1 : w.heap.size + 1 ≠ w.heap.size := by omega
 have n2 : w.heap.size + 1 + 1 ≠ w.heap.size := by omega
 have n3 : w.heap.size + 1 + 1 ≠ w.heap.size + 1 := by omega
 have hst := ((HK8.out.far (p := ⟨w.heap.size, 1, none⟩) n1 (.slice (some ⟨w.heap.size + 1 + 1, 0, none⟩) n n)).set_ 0 (.int .i64 sec)).set_ 1 (.slice (some ⟨w.heap.size + 1 + 1, 0, none⟩) n n)
 have harr : ArrS _ (w.heap.size + 1 + 1) (xs.set i (1, v, 1)) := ((Blk.far HG5.out (p := ⟨w.heap.size, 1, none⟩) n2 (.slice (some ⟨w.heap.size + 1 + 1, 0, none⟩) n n)).far (p := ⟨w.heap.size + 1, 0, none⟩) n3 (.int .i64 sec)).far (p := ⟨w.heap.size + 1, 1, none⟩) n3 (.slice (some ⟨w.heap.size + 1 + 1, 0, none⟩) n n)
 have hbel := ((HB5.out.setCell (p := ⟨w.heap.size, 1, none⟩) (nR _) (.slice (some ⟨w.heap.size + 1 + 1, 0, none⟩) n n)).setCell (p := ⟨w.heap.size + 1, 0, none⟩) (by simp) (.int .i64 sec)).setCell (p := ⟨w.heap.size + 1, 1, none⟩) (by simp) (.slice (some ⟨w.heap.size + 1 + 1, 0, none⟩) n n)
 exact Halt.ret (results_row1 rfl _ _ (w.heap.size + 1) 95 #[.int .i64 sec, .slice (some ⟨w.heap.size + 1 + 1, 0, none⟩) n n] _ rfl hst Tryz.underlying95 rfl size_ring) rfl ⟨⟨_, _, rfl, harr.own (by omega) (by rw [List.length_set, HL.out]) hn6⟩, hbel⟩
theorem turned_use {w : World} {A : Option Addr} {n cap : Nat} {xs : List Seg} (h : RowZ w (· < w.heap.size) A n xs) (sec : Int) (hn : n ≤ 1000) (i : Nat) (hi : i < n) (v : Int) (G : Nat) (hG : G < w.heap.size) (hc : w.cell? ⟨G, 0, none⟩ = some (.int .i64 v)) :
 Calls Tryz.prog 133 #[ringV sec A n cap, .int .i64 i, .func (.func 173) #[] #[.pointer (some ⟨G, 0, none⟩)]] w fun e w' => (∃ A' cap', e = .returned (ringV sec A' n cap') ∧ OwnZ w' w.heap.size A' n cap' (xs.set i (stG xs i, genG xs i, wrap64 (usedG xs i + v)))) ∧ Below w.heap.size w w' := by
 have hn6 : n ≤ 1000000 := by omega
 have h0n : 0 < n := by omega
 have HB := hI ((((Below.refl w.heap.size w).alloc (nR _) (.cells #[.int .i64 sec, .slice A n cap] 95)).alloc (by simp) (.cells #[.int .i64 0, .slice none 0 0] 95)).alloc (by simp; omega) (.cells (flatG (List.replicate n seg0)).toArray 126))
 have HX := hI (row_now h HB.out)
 have HK0 := hI (((Blk.new w 95 #[.int .i64 sec, .slice A n cap]).alloc (.cells #[.int .i64 0, .slice none 0 0] 95)).alloc (.cells (flatG (List.replicate n seg0)).toArray 126))
 have HK1 := hI ((blk_new2 w (.cells #[.int .i64 sec, .slice A n cap] 95) 95 #[.int .i64 0, .slice none 0 0]).alloc (.cells (flatG (List.replicate n seg0)).toArray 126))
 have HG := hI (show ArrS _ (w.heap.size + 1 + 1) (List.replicate n seg0) from blk_new3 w (.cells #[.int .i64 sec, .slice A n cap] 95) (.cells #[.int .i64 0, .slice none 0 0] 95) 126 (flatG (List.replicate n seg0)).toArray)
 have hl := h.1
 have HCV := hI hc
 clear hc
 have HL := hI hl
 have hlx : i < xs.length := by omega
 have HLX := hI hlx
 obtain ⟨q0, q1⟩ := ring_cells HK0.out
 clear h hl hlx
 obtain ⟨st, g, u, hx⟩ : ∃ st g u, xs.getD i seg0 = (st, g, u) := ⟨_, _, _, rfl⟩
 rw [show ((stG xs i, genG xs i, wrap64 (usedG xs i + v)) : Seg) = (st, g, wrap64 (u + v)) by simp only [stG, genG, usedG, hx]]
 have HXI := hI hx
 clear hx
 go_enter Tryz.func133, Tryz.ntmps133
 go_wp2_with (first
  | (refine wpList_make_segs _ _ rfl rfl _ _ n n rfl rfl rfl rfl (nR _) hn6 ?_)
  | (refine wpList_copy_segs (.tmp 12) (.tmp 14) rfl rfl (w.heap.size + 1 + 1) n n cap A rfl rfl _ xs (List.replicate n seg0) HX.out HG.out (by simp) h0n ?_
     have HG1 := hI (HG.out.setRow xs)
     have n1 : w.heap.size ≠ w.heap.size + 1 + 1 := by omega
     have n2 : w.heap.size + 1 ≠ w.heap.size + 1 + 1 := by omega
     have HB1 := hI (below_setRow HB.out (g := w.heap.size + 1 + 1) (by omega) (flatG xs).toArray)
     have HK2 := hI (HK0.out.kept ((Kept.refl (fun b => b ≠ w.heap.size + 1 + 1) _).setRow (g := w.heap.size + 1 + 1) (fun h => h rfl) (flatG xs).toArray) n1)
     have HK3 := hI (HK1.out.kept ((Kept.refl (fun b => b ≠ w.heap.size + 1 + 1) _).setRow (g := w.heap.size + 1 + 1) (fun h => h rfl) (flatG xs).toArray) n2)
     obtain ⟨c0, c1, c2⟩ := ArrS.cells HG1.out HLX.out HXI.out
     clear n1 n2)
  | (go_at_call 173; refine (clo_use (st, g, u) v G _ ((Below.cell HB1.out (p := ⟨G, 0, none⟩) hG).trans HCV.out) (nL hG HB1.out.size)).mono ?_; rintro e w4 ⟨rfl, hb4⟩
     have HB4 := hI (HB1.out.trans (hb4.mono HB1.out.size))
     have HG4 := hI (HG1.out.below hb4 HG1.out.lt)
     have HK5 := hI (HK2.out.below hb4 HK2.out.lt)
     have HK6 := hI (HK3.out.below hb4 HK3.out.lt)
     clear hb4)
  | (refine wpList_store_seg (.tmp 24) (.tmp 23) rfl rfl (w.heap.size + 1 + 1) i (st, g, wrap64 (u + v)) rfl rfl xs HG4.out HLX.out ?_
     have HG5 := hI (HG4.out.setRow (xs.set i (st, g, wrap64 (u + v))))
     have n1 : w.heap.size ≠ w.heap.size + 1 + 1 := by omega
     have n2 : w.heap.size + 1 ≠ w.heap.size + 1 + 1 := by omega
     have HB5 := hI (below_setRow HB4.out (g := w.heap.size + 1 + 1) (by omega) (flatG (xs.set i (st, g, wrap64 (u + v)))).toArray)
     have HK7 := hI (HK5.out.kept ((Kept.refl (fun b => b ≠ w.heap.size + 1 + 1) _).setRow (g := w.heap.size + 1 + 1) (fun h => h rfl) (flatG (xs.set i (st, g, wrap64 (u + v)))).toArray) n1)
     have HK8 := hI (HK6.out.kept ((Kept.refl (fun b => b ≠ w.heap.size + 1 + 1) _).setRow (g := w.heap.size + 1 + 1) (fun h => h rfl) (flatG (xs.set i (st, g, wrap64 (u + v)))).toArray) n2)
     obtain ⟨q0, q1⟩ := ring_cells HK7.out
     obtain ⟨p0, p1⟩ := ring_cells HK8.out
     obtain ⟨f0, f1⟩ := And.intro (HK7.out.frozen 0) (HK7.out.frozen 1)
     obtain ⟨g0, g1⟩ := And.intro (HK8.out.frozen 0) (HK8.out.frozen 1)
     clear n1 n2)
  | (with_reducible refine halt_end ?_))
 have n1 : w.heap.size + 1 ≠ w.heap.size := by omega
 have n2 : w.heap.size + 1 + 1 ≠ w.heap.size := by omega
 have n3 : w.heap.size + 1 + 1 ≠ w.heap.size + 1 := by omega
 have hst := ((HK8.out.far (p := ⟨w.heap.size, 1, none⟩) n1 (.slice (some ⟨w.heap.size + 1 + 1, 0, none⟩) n n)).set_ 0 (.int .i64 sec)).set_ 1 (.slice (some ⟨w.heap.size + 1 + 1, 0, none⟩) n n)
 have harr : ArrS _ (w.heap.size + 1 + 1) (xs.set i (st, g, wrap64 (u + v))) := ((Blk.far HG5.out (p := ⟨w.heap.size, 1, none⟩) n2 (.slice (some ⟨w.heap.size + 1 + 1, 0, none⟩) n n)).far (p := ⟨w.heap.size + 1, 0, none⟩) n3 (.int .i64 sec)).far (p := ⟨w.heap.size + 1, 1, none⟩) n3 (.slice (some ⟨w.heap.size + 1 + 1, 0, none⟩) n n)
 have hbel := ((HB5.out.setCell (p := ⟨w.heap.size, 1, none⟩) (nR _) (.slice (some ⟨w.heap.size + 1 + 1, 0, none⟩) n n)).setCell (p := ⟨w.heap.size + 1, 0, none⟩) (by simp) (.int .i64 sec)).setCell (p := ⟨w.heap.size + 1, 1, none⟩) (by simp) (.slice (some ⟨w.heap.size + 1 + 1, 0, none⟩) n n)
 exact Halt.ret (results_row1 rfl _ _ (w.heap.size + 1) 95 #[.int .i64 sec, .slice (some ⟨w.heap.size + 1 + 1, 0, none⟩) n n] _ rfl hst Tryz.underlying95 rfl size_ring) rfl ⟨⟨_, _, rfl, harr.own (by omega) (by rw [List.length_set, HL.out]) hn6⟩, hbel⟩
end
section
open Go.RowKit
noncomputable def nextE (sec : Int) (xs : List Seg) : Int := if ¬ OkR sec xs then 180 else if nxtR xs < 0 then 6 else 0
noncomputable def nextV (sec : Int) (xs : List Seg) : Int := if nextE sec xs = 0 then nxtR xs else 0
theorem next_any_s8 {w : World} {A : Option Addr} {n cap : Nat} {xs : List Seg} (h : RowZ w (· < w.heap.size) A n xs) (sec : Int) :
 Calls Tryz.prog 116 #[ringV sec A n cap] w fun e w' => e = .returned (.tuple #[.int .i64 (nextV sec xs), .int .i64 (nextE sec xs)]) ∧ Below w.heap.size w w' := by
 have HX := hI h
 have HB1 := hI ((Below.refl w.heap.size w).alloc (nR _) (.cells #[.int .i64 sec, .slice A n cap] 95))
 have HC := hI (check_any (cap := cap) (row_now h HB1.out) sec)
 clear h
 by_cases hk : OkR sec xs
 case neg =>
  have e1 : nextE sec xs = 180 := if_pos hk
  have e2 : nextV sec xs = 0 := by unfold nextV; rw [e1]; rfl
  rw [if_neg hk] at HC
  rw [e1, e2]
  clear e1 e2
  go_enter Tryz.func116, Tryz.ntmps116
  go_wp2
  go_step3
  go_wp2_with (go_at_call 110; refine HC.out.mono ?_; rintro e w1 ⟨rfl, hb1⟩; have HB2 := hI (ring_first hb1); clear hb1)
  try rw [Exit.noGoto_ret]
  go_ret2
  exact ⟨rfl, HB2.out.1⟩
 rw [if_pos hk] at HC
 have hn := (ok_n hk HX.out.1).2
 have hlat := ref_latest_sp xs xs.length
 rw [HX.out.1] at hlat
 have e : latTo xs n = latR xs := by unfold latR; rw [HX.out.1]
 have e2 : nxtR xs = nxtTo xs (latR xs) n := by unfold nxtR; rw [HX.out.1]
 have e3 : nextE sec xs = if nxtTo xs (latR xs) n < 0 then 6 else 0 := by unfold nextE; rw [if_neg (fun h => h hk), e2]
 have e4 : nextV sec xs = if nxtTo xs (latR xs) n < 0 then 0 else nxtTo xs (latR xs) n := by unfold nextV; rw [e3, e2]; split <;> rfl
 rw [e] at hlat
 obtain ⟨st, g, u, hl⟩ : ∃ st g u, lastR xs = (st, g, u) := ⟨_, _, _, rfl⟩
 have HL := hI (fun (W : World) (hh : RowZ W (· < W.heap.size) A n xs) => by have := latest_ok (cap := cap) hh hk; rw [hl] at this; exact this)
 have EE := hI e3
 have EV := hI e4
 clear e e2 e3 e4 hl hk
 generalize nextE sec xs = ee at *
 generalize nextV sec xs = ve at *
 generalize latR xs = a at *
 have HA := hI hlat
 clear hlat
 go_enter Tryz.func116, Tryz.ntmps116
 go_wp2
 go_step3
 go_wp2_with (first
  | (go_at_call 110; refine HC.out.mono ?_; rintro e w1 ⟨rfl, hb1⟩; have HB2 := hI (ring_first hb1); obtain ⟨k0, k1⟩ := ring_cells HB2.out.2; clear hb1)
  | (go_at_call 164; refine (HL.out _ (row_now HX.out HB2.out.1)).mono ?_; rintro e w2 ⟨rfl, hb2⟩; have HB3 := hI (HB2.out.1.trans (hb2.mono HB2.out.1.size)); have HK3 := hI (HB2.out.2.below hb2 HB2.out.2.lt); have HKa := hI (HK3.out.alloc (.cells #[.int .i64 st, .int .u64 g, .int .i64 u] 126)); have HBa := hI (HB3.out.alloc HB3.out.size (.cells #[.int .i64 st, .int .u64 g, .int .i64 u] 126)); obtain ⟨q0, q1⟩ := ring_cells HKa.out; clear hb2))
 go_step3
 go_wp2
 go_loopw [7, 8, 24] (fun v8 v9 i wr => ∃ j : Nat, RI w sec A n cap wr j i ∧ v8 = .int .i64 0 ∧ v9 = .int .i64 6 ∧ nxtTo xs a j = -1) (fun _ _ i _ => n - (intOf i).toNat)
 case atStart => exact ⟨0, ⟨Nat.zero_le _, rfl, HKa.out, HBa.out⟩, rfl, rfl, rfl⟩
 case round =>
  obtain ⟨j, ⟨hj, rfl, hb, hbel⟩, rfl, rfl, ho⟩ := hrel
  have HB := hI hb
  have HBEL := hI hbel
  have HO := hI ho
  obtain ⟨k0, k1⟩ := ring_cells hb
  clear hb hbel ho
  by_cases hlt : j < n
  ·obtain ⟨m, hm⟩ : ∃ m : Nat, a + 1 + (j : Int) = m := ⟨(a + 1 + (j : Int)).toNat, by rcases HA.out with h | ⟨i, _, h⟩ <;> omega⟩
   have hm80 : m ≤ 80 ∧ -1 ≤ a ∧ a ≤ 40 := by rcases HA.out with h | ⟨i, _, h⟩ <;> omega
   have hmod : (wrap64 (wrap64 (a + 1) + (j : Int))).tmod n = ((m % n : Nat) : Int) := by
    have e : wrap64 (wrap64 (a + 1) + (j : Int)) = (m : Int) := by unfold wrap64; omega
    rw [e]
    exact (Int.ofNat_tmod _ _).symm
   have hlm : m % n < n := Nat.mod_lt _ (by omega)
   obtain ⟨b, off, rfl, hbb, hcc⟩ := seg_get (HX.out.below HBEL.out (fun b h => h)) hlm
   obtain ⟨c0, c1, c2⟩ := hcc (m % n) hlm
   have e1 : nxtTo xs a (j + 1) = if stG xs (m % n) = 0 then ((m % n : Nat) : Int) else -1 := by
    conv => (lhs; unfold nxtTo)
    rw [HO.out, if_neg (by omega), hm, Int.toNat_natCast, HX.out.1]
   have E1 := hI e1
   clear hcc e1 c1 c2 hm hm80
   generalize stG xs (m % n) = st at *
   generalize m % n = q at *
   by_cases h0 : st = 0
   ·subst h0
    go_wp2
    try rw [Exit.noGoto_ret]
    go_ret2
    have h2 := E1.out
    simp only [if_true] at h2
    obtain ⟨d, hd⟩ : ∃ d, n = (j + 1) + d := ⟨n - (j + 1), by omega⟩
    have e : nxtTo xs a n = (q : Int) := by rw [hd, nxt_stay xs a (by omega), h2]
    exact ⟨by rw [EE.out, EV.out, e, if_neg (by omega), if_neg (by omega)]; rfl, HBEL.out⟩
   ·have d0 : (st == 0) = false := by simpa using h0
    go_wp2
    go_roundw
    case rel => exact ⟨j + 1, ⟨by omega, by simp, HB.out, HBEL.out⟩, rfl, rfl, by rw [E1.out, if_neg h0]⟩
    case measure => simp [intOf]; omega
  ·obtain rfl : j = n := by omega
   go_wp2
   try rw [Exit.noGoto_ret]
   go_ret2
   exact ⟨by rw [EE.out, EV.out, HO.out, if_pos (by omega), if_pos (by omega)]; rfl, HBEL.out⟩
end
section
open Go.RowKit
theorem OwnZ.far {w : World} {base : Nat} {A : Option Addr} {n cap : Nat} {xs : List Seg} (h : OwnZ w base A n cap xs) {p : Addr} (hp : p.block < base) (v : Value) : OwnZ (w.setCell p v) base A n cap xs :=
 ⟨h.1, ownsRow_setCell_other h.2.1 (fun e => by have := own_least h.2.1 e; omega) v, h.2.2⟩
def RingO (w : World) (base : Nat) (v : Value) (sec : Int) (xs : List Seg) : Prop := ∃ A n cap, v = ringV sec A n cap ∧ OwnZ w base A n cap xs
theorem RingO.below {w W : World} {base : Nat} {v : Value} {sec : Int} {xs : List Seg} (h : RingO w base v sec xs) (hb : Below w.heap.size w W) : RingO W base v sec xs := by
 obtain ⟨A, n, cap, e, ho⟩ := h
 exact ⟨A, n, cap, e, ho.below hb⟩
theorem RingO.base {w : World} {base m : Nat} {v : Value} {sec : Int} {xs : List Seg} (h : RingO w base v sec xs) (hm : m ≤ base) : RingO w m v sec xs := by
 obtain ⟨A, n, cap, e, ho⟩ := h
 exact ⟨A, n, cap, e, ho.base hm⟩
def OV (w : World) (sec : Int) (A : Option Addr) (n cap : Nat) (t : TypeId) (x : Value) (W : World) : Prop :=
 Below w.heap.size w W ∧ Blk W w.heap.size 95 #[.int .i64 sec, .slice A n cap] ∧ Blk W (w.heap.size + 1) t #[x] ∧ Blk W (w.heap.size + 1 + 1) 95 #[.int .i64 0, .slice none 0 0]
section
variable {w : World} {sec : Int} {A : Option Addr} {n cap : Nat} {t : TypeId} {x : Value} {W W' : World}
theorem OV.start (w : World) (sec : Int) (A : Option Addr) (n cap : Nat) (t : TypeId) (x : Value) : OV w sec A n cap t x (((w.alloc (.cells #[.int .i64 sec, .slice A n cap] 95)).alloc (.cells #[x] t)).alloc (.cells #[.int .i64 0, .slice none 0 0] 95)) :=
 ⟨(((Below.refl _ w).alloc (nR _) _).alloc (by simp) _).alloc (by simp; omega) _, ((Blk.new w _ _).alloc _).alloc _, (blk_new2 w _ _ _).alloc _, blk_new3 w _ _ _ _⟩
theorem OV.next (h : OV w sec A n cap t x W) (hb : Below W.heap.size W W') : OV w sec A n cap t x W' :=
 ⟨h.1.trans (hb.mono h.1.size), h.2.1.below hb h.2.1.lt, h.2.2.1.below hb h.2.2.1.lt, h.2.2.2.below hb h.2.2.2.lt⟩
theorem OV.alloc (h : OV w sec A n cap t x W) (o : Obj) : OV w sec A n cap t x (W.alloc o) := h.next ((Below.refl _ W).alloc (nR _) o)
theorem OV.cells (h : OV w sec A n cap t x W) : W.cell? ⟨w.heap.size, 0, none⟩ = some (.int .i64 sec) ∧ W.cell? ⟨w.heap.size, 1, none⟩ = some (.slice A n cap) ∧ W.cell? ⟨w.heap.size + 1, 0, none⟩ = some x ∧
 W.cell? ⟨w.heap.size + 1 + 1, 0, none⟩ = some (.int .i64 0) ∧ W.cell? ⟨w.heap.size + 1 + 1, 1, none⟩ = some (.slice none 0 0) ∧ W.frozen? ⟨w.heap.size + 1 + 1, 0, none⟩ = false ∧ W.frozen? ⟨w.heap.size + 1 + 1, 1, none⟩ = false :=
 ⟨h.2.1.cell 0, h.2.1.cell 1, h.2.2.1.cell 0, h.2.2.2.cell 0, h.2.2.2.cell 1, h.2.2.2.frozen 0, h.2.2.2.frozen 1⟩
theorem OV.res (h : OV w sec A n cap t x W) (s : Int) (B : Option Addr) (m c : Nat) : Blk ((W.setCell ⟨w.heap.size + 1 + 1, 0, none⟩ (.int .i64 s)).setCell ⟨w.heap.size + 1 + 1, 1, none⟩ (.slice B m c)) (w.heap.size + 1 + 1) 95 #[.int .i64 s, .slice B m c] :=
 (h.2.2.2.set_ 0 (.int .i64 s)).set_ 1 (.slice B m c)
theorem OV.below (h : OV w sec A n cap t x W) (u v : Value) : Below w.heap.size w ((W.setCell ⟨w.heap.size + 1 + 1, 0, none⟩ u).setCell ⟨w.heap.size + 1 + 1, 1, none⟩ v) :=
 (h.1.setCell (p := ⟨w.heap.size + 1 + 1, 0, none⟩) (by simp; omega) u).setCell (p := ⟨w.heap.size + 1 + 1, 1, none⟩) (by simp; omega) v
theorem OV.lt (h : OV w sec A n cap t x W) : w.heap.size + 1 + 1 < W.heap.size := h.2.2.2.lt
end
theorem open_bad {sec : Int} {xs : List Seg} {g : Int} (h : ¬ OkR sec xs) : openE sec xs g = 180 := if_pos h
theorem open_state {sec : Int} {xs : List Seg} {g : Int} (h : OkR sec xs) (h1 : 0 ≤ opnR xs) : openE sec xs g = 181 := by unfold openE; rw [if_neg (fun k => k h), if_pos h1]
theorem open_arg {sec : Int} {xs : List Seg} {g : Int} (h : OkR sec xs) (h1 : ¬ 0 ≤ opnR xs) (h2 : g ≤ topG xs) : openE sec xs g = 2 := by unfold openE; rw [if_neg (fun k => k h), if_neg h1, if_pos h2]
theorem open_full {sec : Int} {xs : List Seg} {g : Int} (h : OkR sec xs) (h1 : ¬ 0 ≤ opnR xs) (h2 : ¬ g ≤ topG xs) (h3 : nxtR xs < 0) : openE sec xs g = 6 := by unfold openE; rw [if_neg (fun k => k h), if_neg h1, if_neg h2, if_pos h3]
theorem open_go {sec : Int} {xs : List Seg} {g : Int} (h : OkR sec xs) (h1 : ¬ 0 ≤ opnR xs) (h2 : ¬ g ≤ topG xs) (h3 : ¬ nxtR xs < 0) : openE sec xs g = 0 := by unfold openE; rw [if_neg (fun k => k h), if_neg h1, if_neg h2, if_neg h3]
def OpenT (w : World) (sec : Int) (xs : List Seg) (g : Int) (e : Ending) (w' : World) : Prop :=
 (openE sec xs g = 0 ∧ (∃ v, e = .returned (.tuple #[v, .int .i64 (nxtR xs), .int .i64 0]) ∧ RingO w' w.heap.size v sec (openX xs g)) ∨
  openE sec xs g ≠ 0 ∧ e = .returned (.tuple #[ringV 0 none 0 0, .int .i64 0, .int .i64 (openE sec xs g)])) ∧ Below w.heap.size w w'
theorem OpenT.no {w w' : World} {sec : Int} {xs : List Seg} {g E : Int} (hE : openE sec xs g = E) (h0 : E ≠ 0) (hb : Below w.heap.size w w') : OpenT w sec xs g (.returned (.tuple #[ringV 0 none 0 0, .int .i64 0, .int .i64 E])) w' :=
 ⟨.inr ⟨by rw [hE]; exact h0, by rw [hE]⟩, hb⟩
theorem open_any {w : World} {A : Option Addr} {n cap : Nat} {xs : List Seg} (h : RowZ w (· < w.heap.size) A n xs) (sec g : Int) :
 Calls Tryz.prog 169 #[ringV sec A n cap, .int .u64 g] w fun e w' => OpenT w sec xs g e w' := by
 have HX := hI h
 have HV0 := hI (OV.start w sec A n cap 30 (.int .u64 g))
 have HC := hI (check_any (cap := cap) (row_now h HV0.out.1) sec)
 clear h
 by_cases hk : OkR sec xs
 case neg =>
  have HE := hI (open_bad (g := g) hk)
  rw [if_neg hk] at HC
  clear hk
  go_enter Tryz.func169, Tryz.ntmps169
  go_wp2_with (first
   | (go_at_call 110; refine HC.out.mono ?_; rintro e w1 ⟨rfl, hb1⟩; have HV1 := hI (HV0.out.next hb1); obtain ⟨q0, q1, q2, q3, q4, f3, f4⟩ := HV1.out.cells; clear hb1)
   | (with_reducible refine halt_end ?_))
  exact Halt.ret (results_row3 (p := 4) (u := 5) (v := 6) rfl _ _ (w.heap.size + 1 + 1) 95 #[.int .i64 0, .slice none 0 0] _ rfl (HV1.out.res 0 none 0 0) Tryz.underlying95 rfl size_ring) rfl (OpenT.no HE.out (by decide) (HV1.out.below _ _))
 rw [if_pos hk] at HC
 have HK := hI hk
 have HLO := hI (last_open hk)
 have HLT := hI (last_top xs)
 clear hk
 obtain ⟨st, lg, u, hl⟩ : ∃ st lg u, lastR xs = (st, lg, u) := ⟨_, _, _, rfl⟩
 rw [hl] at HLO HLT
 have HL := hI (fun (W : World) (hh : RowZ W (· < W.heap.size) A n xs) => by have := latest_ok (cap := cap) hh HK.out; rw [hl] at this; exact this)
 clear hl
 by_cases h1 : st = 1
 ·subst h1
  have HE := hI (open_state (g := g) HK.out (HLO.out.1 rfl))
  generalize latR xs = a at *
  go_enter Tryz.func169, Tryz.ntmps169
  go_wp2_with (first
   | (go_at_call 110; refine HC.out.mono ?_; rintro e w1 ⟨rfl, hb1⟩; have HV1 := hI (HV0.out.next hb1); obtain ⟨q0, q1, q2, q3, q4, f3, f4⟩ := HV1.out.cells; clear hb1)
   | (go_at_call 164; refine (HL.out _ (row_now HX.out HV1.out.1)).mono ?_; rintro e w2 ⟨rfl, hb2⟩; have HV2 := hI ((HV1.out.next hb2).alloc (.cells #[.int .i64 1, .int .u64 lg, .int .i64 u] 126)); obtain ⟨r0, r1, r2, r3, r4, f5, f6⟩ := HV2.out.cells; clear hb2)
   | (with_reducible refine halt_end ?_))
  exact Halt.ret (results_row3 (p := 4) (u := 5) (v := 6) rfl _ _ (w.heap.size + 1 + 1) 95 #[.int .i64 0, .slice none 0 0] _ rfl (HV2.out.res 0 none 0 0) Tryz.underlying95 rfl size_ring) rfl (OpenT.no HE.out (by decide) (HV2.out.below _ _))
 have d1 : (st == 1) = false := by simpa using h1
 have HO := hI (show ¬ 0 ≤ opnR xs from fun h => h1 (HLO.out.2 h))
 by_cases h2 : g ≤ lg
 ·have d2 : decide (g ≤ lg) = true := decide_eq_true h2
  have HE := hI (open_arg (g := g) HK.out HO.out (by rw [← HLT.out]; exact h2))
  generalize latR xs = a at *
  go_enter Tryz.func169, Tryz.ntmps169
  go_wp2_with (first
   | (go_at_call 110; refine HC.out.mono ?_; rintro e w1 ⟨rfl, hb1⟩; have HV1 := hI (HV0.out.next hb1); obtain ⟨q0, q1, q2, q3, q4, f3, f4⟩ := HV1.out.cells; clear hb1)
   | (go_at_call 164; refine (HL.out _ (row_now HX.out HV1.out.1)).mono ?_; rintro e w2 ⟨rfl, hb2⟩; have HV2 := hI ((HV1.out.next hb2).alloc (.cells #[.int .i64 st, .int .u64 lg, .int .i64 u] 126)); obtain ⟨r0, r1, r2, r3, r4, f5, f6⟩ := HV2.out.cells; clear hb2)
   | (with_reducible refine halt_end ?_))
  exact Halt.ret (results_row3 (p := 4) (u := 5) (v := 6) rfl _ _ (w.heap.size + 1 + 1) 95 #[.int .i64 0, .slice none 0 0] _ rfl (HV2.out.res 0 none 0 0) Tryz.underlying95 rfl size_ring) rfl (OpenT.no HE.out (by decide) (HV2.out.below _ _))
 have d2 : decide (g ≤ lg) = false := decide_eq_false h2
 have HG := hI (show ¬ g ≤ topG xs by rw [← HLT.out]; exact h2)
 have HN := hI (fun (W : World) (hh : RowZ W (· < W.heap.size) A n xs) => next_any_s8 (cap := cap) hh sec)
 by_cases h3 : nxtR xs < 0
 ·have HE := hI (open_full (g := g) HK.out HO.out HG.out h3)
  have e1 : nextE sec xs = 6 := by unfold nextE; rw [if_neg (fun k => k HK.out), if_pos h3]
  have e2 : nextV sec xs = 0 := by unfold nextV; rw [e1]; rfl
  rw [e1, e2] at HN
  clear e1 e2 h3
  generalize latR xs = a at *
  go_enter Tryz.func169, Tryz.ntmps169
  go_wp2_with (first
   | (go_at_call 110; refine HC.out.mono ?_; rintro e w1 ⟨rfl, hb1⟩; have HV1 := hI (HV0.out.next hb1); obtain ⟨q0, q1, q2, q3, q4, f3, f4⟩ := HV1.out.cells; clear hb1)
   | (go_at_call 164; refine (HL.out _ (row_now HX.out HV1.out.1)).mono ?_; rintro e w2 ⟨rfl, hb2⟩; have HV2 := hI ((HV1.out.next hb2).alloc (.cells #[.int .i64 st, .int .u64 lg, .int .i64 u] 126)); obtain ⟨r0, r1, r2, r3, r4, f5, f6⟩ := HV2.out.cells; clear hb2)
   | (go_at_call 116; refine (HN.out _ (row_now HX.out HV2.out.1)).mono ?_; rintro e w3 ⟨rfl, hb3⟩; have HV3 := hI (HV2.out.next hb3); obtain ⟨s0, s1, s2, s3, s4, f7, f8⟩ := HV3.out.cells; clear hb3)
   | (with_reducible refine halt_end ?_))
  exact Halt.ret (results_row3 (p := 4) (u := 5) (v := 6) rfl _ _ (w.heap.size + 1 + 1) 95 #[.int .i64 0, .slice none 0 0] _ rfl (HV3.out.res 0 none 0 0) Tryz.underlying95 rfl size_ring) rfl (OpenT.no HE.out (by decide) (HV3.out.below _ _))
 ·have HE := hI (open_go (g := g) HK.out HO.out HG.out h3)
  have e1 : nextE sec xs = 0 := by unfold nextE; rw [if_neg (fun k => k HK.out), if_neg h3]
  have e2 : nextV sec xs = nxtR xs := by unfold nextV; rw [e1]; rfl
  obtain ⟨i, hi, e3⟩ : ∃ i : Nat, i < n ∧ nxtR xs = i := by
   rcases nxt_or xs with ⟨e, _⟩ | ⟨k, hk, e, _⟩
   ·omega
   ·exact ⟨_, by rw [← HX.out.1]; exact Nat.mod_lt _ (by have := ok_n HK.out HX.out.1; omega), e⟩
  have HXX := hI (show openX xs g = xs.set i (1, g, 1) by unfold openX; rw [e3, Int.toNat_natCast])
  have HI := hI e3
  rw [e1, e2, e3] at HN
  have HT := hI (fun (W : World) (hh : RowZ W (· < W.heap.size) A n xs) (hG : w.heap.size + 1 < W.heap.size) (hc : W.cell? ⟨w.heap.size + 1, 0, none⟩ = some (.int .u64 g)) => turned_open (cap := cap) hh sec (by have := (ok_n HK.out HX.out.1).2; omega) i hi g (w.heap.size + 1) hG hc)
  clear e1 e2 e3 h3
  generalize latR xs = a at *
  go_enter Tryz.func169, Tryz.ntmps169
  go_wp2_with (first
   | (go_at_call 110; refine HC.out.mono ?_; rintro e w1 ⟨rfl, hb1⟩; have HV1 := hI (HV0.out.next hb1); obtain ⟨q0, q1, q2, q3, q4, f3, f4⟩ := HV1.out.cells; clear hb1)
   | (go_at_call 164; refine (HL.out _ (row_now HX.out HV1.out.1)).mono ?_; rintro e w2 ⟨rfl, hb2⟩; have HV2 := hI ((HV1.out.next hb2).alloc (.cells #[.int .i64 st, .int .u64 lg, .int .i64 u] 126)); obtain ⟨r0, r1, r2, r3, r4, f5, f6⟩ := HV2.out.cells; clear hb2)
   | (go_at_call 116; refine (HN.out _ (row_now HX.out HV2.out.1)).mono ?_; rintro e w3 ⟨rfl, hb3⟩; have HV3 := hI (HV2.out.next hb3); obtain ⟨s0, s1, s2, s3, s4, f7, f8⟩ := HV3.out.cells; clear hb3)
   | (go_at_call 133; refine (HT.out _ (row_now HX.out HV3.out.1) HV3.out.2.2.1.lt s2).mono ?_; rintro e w4 ⟨⟨A', cap', rfl, hown⟩, hb4⟩; have HV4 := hI (HV3.out.next hb4); obtain ⟨t0, t1, t2, t3, t4, f9, f0⟩ := HV4.out.cells; have HOW := hI hown; clear hb4 hown)
   | (with_reducible refine halt_end ?_))
  have hlt := HV3.out.lt
  have hown := ((HOW.out.far (p := ⟨w.heap.size + 1 + 1, 0, none⟩) hlt (.int .i64 sec)).far (p := ⟨w.heap.size + 1 + 1, 1, none⟩) hlt (.slice A' n cap')).base HV3.out.1.size
  rw [← HXX.out] at hown
  refine Halt.ret (results_row3 (p := 4) (u := 5) (v := 6) rfl _ _ (w.heap.size + 1 + 1) 95 #[.int .i64 sec, .slice A' n cap'] _ rfl (HV4.out.res sec A' n cap') Tryz.underlying95 rfl size_ring) rfl ⟨.inl ⟨HE.out, _, ?_, ⟨A', n, cap', rfl, hown⟩⟩, HV4.out.below _ _⟩
  rw [HI.out]
  rfl
end
section
open Go.RowKit
def TurnT (w : World) (sec : Int) (E : Int) (ys : List Seg) (e : Ending) (w' : World) : Prop :=
 (E = 0 ∧ (∃ v, e = .returned (.tuple #[v, .int .i64 0]) ∧ RingO w' w.heap.size v sec ys) ∨
  E ≠ 0 ∧ e = .returned (.tuple #[ringV 0 none 0 0, .int .i64 E])) ∧ Below w.heap.size w w'
theorem TurnT.no {w w' : World} {sec E : Int} {ys : List Seg} (h0 : E ≠ 0) (hb : Below w.heap.size w w') : TurnT w sec E ys (.returned (.tuple #[ringV 0 none 0 0, .int .i64 E])) w' := ⟨.inr ⟨h0, rfl⟩, hb⟩
theorem seal_yes {sec : Int} {xs : List Seg} (h : sealE sec xs = 0) : OkR sec xs ∧ ¬ opnR xs < 0 := by
 unfold sealE at h
 by_cases hk : OkR sec xs
 ·rw [if_neg (fun k => k hk)] at h
  by_cases h1 : opnR xs < 0
  ·rw [if_pos h1] at h; omega
  ·exact ⟨hk, h1⟩
 ·rw [if_pos hk] at h; omega
theorem use_seal {sec : Int} {xs : List Seg} {n : Int} (h : sealE sec xs ≠ 0) : useE sec xs n = sealE sec xs := by
 unfold useE sealE at *
 by_cases hk : OkR sec xs
 ·by_cases h1 : opnR xs < 0
  ·simp [hk, h1]
  ·simp [hk, h1] at h
 ·simp [hk]
theorem use_arg {sec : Int} {xs : List Seg} {n : Int} (h : sealE sec xs = 0) (h2 : n < 0) : useE sec xs n = 2 := by
 obtain ⟨hk, h1⟩ := seal_yes h
 unfold useE; rw [if_neg (fun k => k hk), if_neg h1, if_pos h2]
theorem use_full {sec : Int} {xs : List Seg} {n : Int} (h : sealE sec xs = 0) (h2 : ¬ n < 0) (h3 : leftR sec xs < n) : useE sec xs n = 6 := by
 obtain ⟨hk, h1⟩ := seal_yes h
 unfold useE; rw [if_neg (fun k => k hk), if_neg h1, if_neg h2, if_pos h3]
theorem use_go {sec : Int} {xs : List Seg} {n : Int} (h : sealE sec xs = 0) (h2 : ¬ n < 0) (h3 : ¬ leftR sec xs < n) : useE sec xs n = 0 := by
 obtain ⟨hk, h1⟩ := seal_yes h
 unfold useE; rw [if_neg (fun k => k hk), if_neg h1, if_neg h2, if_neg h3]
theorem opn_nat {sec : Int} {xs : List Seg} (h : OkR sec xs) (h1 : ¬ opnR xs < 0) : ∃ i : Nat, i < xs.length ∧ opnR xs = i ∧ stG xs i = 1 := by
 rcases opn_or h with ⟨e, _⟩ | ⟨i, hi, e, _, hs⟩
 ·omega
 ·exact ⟨i, hi, e, hs⟩
theorem used_bound {sec : Int} {xs : List Seg} (h : OkR sec xs) {i : Nat} (hi : i < xs.length) : 0 ≤ usedG xs i ∧ usedG xs i ≤ 64 ∧ 24 ≤ sec ∧ sec ≤ 64 := by
 have h1 := h.1
 unfold SizedR at h1
 have h2 := may_at h.2.1 hi
 unfold MayG at h2
 split at h2
 ·simp only [usedG]; omega
 ·simp only [usedG]; omega
theorem use_any {w : World} {A : Option Addr} {n cap : Nat} {xs : List Seg} (h : RowZ w (· < w.heap.size) A n xs) (sec v : Int) :
 Calls Tryz.prog 119 #[ringV sec A n cap, .int .i64 v] w fun e w' => TurnT w sec (useE sec xs v) (useX xs v) e w' := by
 have HX := hI h
 have HV0 := hI (OV.start w sec A n cap 3 (.int .i64 v))
 have HC := hI (working_any (cap := cap) (row_now h HV0.out.1) sec)
 clear h
 by_cases hs : sealE sec xs = 0
 case neg =>
  rw [use_seal hs]
  have d : (sealE sec xs != 0) = true := by simpa using hs
  have HS := hI hs
  clear hs
  generalize sealE sec xs = se at *
  generalize openedV sec xs = ov at *
  go_enter Tryz.func119, Tryz.ntmps119
  go_wp2_with (first
   | (go_at_call 172; refine HC.out.mono ?_; rintro e w1 ⟨rfl, hb1⟩; have HV1 := hI (HV0.out.next hb1); obtain ⟨q0, q1, q2, q3, q4, f3, f4⟩ := HV1.out.cells; clear hb1)
   | (with_reducible refine halt_end ?_))
  exact Halt.ret (results_row2 (p := 4) (u := 5) rfl _ _ (w.heap.size + 1 + 1) 95 #[.int .i64 0, .slice none 0 0] _ rfl (HV1.out.res 0 none 0 0) Tryz.underlying95 rfl size_ring) rfl (TurnT.no HS.out (HV1.out.below _ _))
 obtain ⟨hk, ho⟩ := seal_yes hs
 obtain ⟨i, hi, hio, hst⟩ := opn_nat hk ho
 have hov : openedV sec xs = i := by rw [(opened_yes hk ho).2, hio]
 rw [hs, hov] at HC
 have HK := hI hk
 have HSE := hI hs
 have HIO := hI hio
 have HST := hI hst
 have hin : i < n := by rw [← HX.out.1]; exact hi
 have HI := hI hi
 clear hk ho hio hst hov hs hi
 by_cases h2 : v < 0
 ·have d2 : decide (v < 0) = true := decide_eq_true h2
  rw [use_arg HSE.out h2]
  go_enter Tryz.func119, Tryz.ntmps119
  go_wp2_with (first
   | (go_at_call 172; refine HC.out.mono ?_; rintro e w1 ⟨rfl, hb1⟩; have HV1 := hI (HV0.out.next hb1); obtain ⟨q0, q1, q2, q3, q4, f3, f4⟩ := HV1.out.cells; clear hb1)
   | (with_reducible refine halt_end ?_))
  exact Halt.ret (results_row2 (p := 4) (u := 5) rfl _ _ (w.heap.size + 1 + 1) 95 #[.int .i64 0, .slice none 0 0] _ rfl (HV1.out.res 0 none 0 0) Tryz.underlying95 rfl size_ring) rfl (TurnT.no (by decide) (HV1.out.below _ _))
 have d2 : decide (v < 0) = false := decide_eq_false h2
 have HLE := hI (show leftW sec xs = leftR sec xs from if_pos HK.out)
 have HLF := hI (fun (W : World) (hh : RowZ W (· < W.heap.size) A n xs) => left_ring (cap := cap) hh sec)
 rw [HLE.out] at HLF
 have HG := hI (fun h3 => use_full (n := v) HSE.out h2 h3)
 have HGO := hI (fun h3 => use_go (n := v) HSE.out h2 h3)
 obtain ⟨lr, hlr⟩ : ∃ lr, leftR sec xs = lr := ⟨_, rfl⟩
 have HLR := hI hlr
 rw [hlr] at HLF HG HGO
 clear hlr HLE
 obtain ⟨E, hE⟩ : ∃ E, useE sec xs v = E := ⟨_, rfl⟩
 obtain ⟨Y, hY⟩ : ∃ Y, useX xs v = Y := ⟨_, rfl⟩
 rw [hE] at HG HGO
 rw [hE, hY]
 have HY := hI hY
 clear hE hY
 obtain ⟨bb, hbb⟩ : ∃ bb, decide (lr < v) = bb := ⟨_, rfl⟩
 go_enter Tryz.func119, Tryz.ntmps119
 go_wp2_with (first
  | (go_at_call 172; refine HC.out.mono ?_; rintro e w1 ⟨rfl, hb1⟩; have HV1 := hI (HV0.out.next hb1); obtain ⟨q0, q1, q2, q3, q4, f3, f4⟩ := HV1.out.cells; clear hb1))
 refine calm_region (fun W => OV w sec A n cap 3 (.int .i64 v) W) (by kernel_rfl) (by kernel_rfl) (HV1.out.next (Below.refl _ _).drew) ?_
 refine calm_load_cell (.tmp 3) 3 rfl rfl ⟨w.heap.size + 1, 0, none⟩ rfl (.int .i64 v) (fun W h => by simp [go_sem, h, Tryz.underlying3]) (fun W h => h.cells.2.2.1) ?_
 simp only [Act.put, sA, sZ, sS]
 refine calm_load_row (.tmp 2) 95 rfl rfl w.heap.size rfl 95 [.int .i64 sec, .slice A n cap] _ Tryz.underlying95 rfl size_ring (fun W h => h.2.1) ?_
 simp only [Act.put, sA, sZ, sS]
 refine calm_call 46 #[.tmp 25] #[95] rfl rfl Tryz.func46 rfl rfl (.int .i64 lr) [ringV sec A n cap] rfl (fun W h => (HLF.out W (row_now HX.out h.1)).mono fun e w' ⟨h1, h2⟩ => ⟨h1, h.next h2⟩) ?_
 simp only [Act.put, sA, sZ, sS]
 refine calm_by (.bool bb) rfl (fun W _ => by unfold execOp; simp [go_sem, Tryz.underlying3, hbb]) ?_
 simp only [Act.put, sA, sZ, sS]
 go_big_quiet_step (fail)
 refine wpQuiet_nil ?_
 intro w5 hw5
 have HV5 := hI hw5
 obtain ⟨r0, r1, r2, r3, r4, f5, f6⟩ := HV5.out.cells
 clear hw5 q0 q1 q2 q3 q4 f3 f4
 by_cases h3 : lr < v
 ·obtain rfl : bb = true := by rw [← hbb]; exact decide_eq_true h3
  obtain rfl := HG.out h3
  go_wp2_with (with_reducible refine halt_end ?_)
  exact Halt.ret (results_row2 (p := 4) (u := 5) rfl _ _ (w.heap.size + 1 + 1) 95 #[.int .i64 0, .slice none 0 0] _ rfl (HV5.out.res 0 none 0 0) Tryz.underlying95 rfl size_ring) rfl (TurnT.no (by decide) (HV5.out.below _ _))
 ·obtain rfl : bb = false := by rw [← hbb]; exact decide_eq_false h3
  obtain rfl := HGO.out (by omega)
  have hub := used_bound HK.out HI.out
  have hul : leftR sec xs = sec - usedG xs i := by unfold leftR; rw [HIO.out, if_pos (by omega), Int.toNat_natCast]
  have hw : wrap64 (usedG xs i + v) = usedG xs i + v := by have := HLR.out; unfold wrap64; omega
  have HXX := hI (show Y = xs.set i (stG xs i, genG xs i, wrap64 (usedG xs i + v)) by rw [← HY.out]; unfold useX; rw [HIO.out, Int.toNat_natCast, hw])
  have HT := hI (fun (W : World) (hh : RowZ W (· < W.heap.size) A n xs) (hG : w.heap.size + 1 < W.heap.size) (hc : W.cell? ⟨w.heap.size + 1, 0, none⟩ = some (.int .i64 v)) => turned_use (cap := cap) hh sec (by have := (ok_n HK.out HX.out.1).2; omega) i hin v (w.heap.size + 1) hG hc)
  clear hub hul hw
  go_wp2_with (first
   | (go_at_call 133; refine (HT.out _ (row_now HX.out HV5.out.1) HV5.out.2.2.1.lt r2).mono ?_; rintro e w6 ⟨⟨A', cap', rfl, hown⟩, hb6⟩; have HV6 := hI (HV5.out.next hb6); obtain ⟨t0, t1, t2, t3, t4, f9, f0⟩ := HV6.out.cells; have HOW := hI hown; clear hb6 hown)
   | (with_reducible refine halt_end ?_))
  have hlt := HV5.out.lt
  have hown := ((HOW.out.far (p := ⟨w.heap.size + 1 + 1, 0, none⟩) hlt (.int .i64 sec)).far (p := ⟨w.heap.size + 1 + 1, 1, none⟩) hlt (.slice A' n cap')).base HV5.out.1.size
  rw [← HXX.out] at hown
  exact Halt.ret (results_row2 (p := 4) (u := 5) rfl _ _ (w.heap.size + 1 + 1) 95 #[.int .i64 sec, .slice A' n cap'] _ rfl (HV6.out.res sec A' n cap') Tryz.underlying95 rfl size_ring) rfl ⟨.inl ⟨rfl, _, rfl, ⟨A', n, cap', rfl, hown⟩⟩, HV6.out.below _ _⟩
end
section
open Go.RowKit
def OW (w : World) (sec : Int) (A : Option Addr) (n cap : Nat) (W : World) : Prop :=
 Below w.heap.size w W ∧ Blk W w.heap.size 95 #[.int .i64 sec, .slice A n cap] ∧ Blk W (w.heap.size + 1) 95 #[.int .i64 0, .slice none 0 0]
section
variable {w : World} {sec : Int} {A : Option Addr} {n cap : Nat} {W W' : World}
theorem OW.start (w : World) (sec : Int) (A : Option Addr) (n cap : Nat) : OW w sec A n cap ((w.alloc (.cells #[.int .i64 sec, .slice A n cap] 95)).alloc (.cells #[.int .i64 0, .slice none 0 0] 95)) :=
 ⟨((Below.refl _ w).alloc (nR _) _).alloc (by simp) _, (Blk.new w _ _).alloc _, blk_new2 w _ _ _⟩
theorem OW.next (h : OW w sec A n cap W) (hb : Below W.heap.size W W') : OW w sec A n cap W' :=
 ⟨h.1.trans (hb.mono h.1.size), h.2.1.below hb h.2.1.lt, h.2.2.below hb h.2.2.lt⟩
theorem OW.cells (h : OW w sec A n cap W) : W.cell? ⟨w.heap.size, 0, none⟩ = some (.int .i64 sec) ∧ W.cell? ⟨w.heap.size, 1, none⟩ = some (.slice A n cap) ∧
 W.cell? ⟨w.heap.size + 1, 0, none⟩ = some (.int .i64 0) ∧ W.cell? ⟨w.heap.size + 1, 1, none⟩ = some (.slice none 0 0) ∧ W.frozen? ⟨w.heap.size + 1, 0, none⟩ = false ∧ W.frozen? ⟨w.heap.size + 1, 1, none⟩ = false :=
 ⟨h.2.1.cell 0, h.2.1.cell 1, h.2.2.cell 0, h.2.2.cell 1, h.2.2.frozen 0, h.2.2.frozen 1⟩
theorem OW.res (h : OW w sec A n cap W) (s : Int) (B : Option Addr) (m c : Nat) : Blk ((W.setCell ⟨w.heap.size + 1, 0, none⟩ (.int .i64 s)).setCell ⟨w.heap.size + 1, 1, none⟩ (.slice B m c)) (w.heap.size + 1) 95 #[.int .i64 s, .slice B m c] :=
 (h.2.2.set_ 0 (.int .i64 s)).set_ 1 (.slice B m c)
theorem OW.below (h : OW w sec A n cap W) (u v : Value) : Below w.heap.size w ((W.setCell ⟨w.heap.size + 1, 0, none⟩ u).setCell ⟨w.heap.size + 1, 1, none⟩ v) :=
 (h.1.setCell (p := ⟨w.heap.size + 1, 0, none⟩) (by simp) u).setCell (p := ⟨w.heap.size + 1, 1, none⟩) (by simp) v
theorem OW.lt (h : OW w sec A n cap W) : w.heap.size + 1 < W.heap.size := h.2.2.lt
end
theorem seal_any {w : World} {A : Option Addr} {n cap : Nat} {xs : List Seg} (h : RowZ w (· < w.heap.size) A n xs) (sec : Int) :
 Calls Tryz.prog 168 #[ringV sec A n cap] w fun e w' => TurnT w sec (sealE sec xs) (sealX xs) e w' := by
 have HX := hI h
 have HV0 := hI (OW.start w sec A n cap)
 have HC := hI (working_any (cap := cap) (row_now h HV0.out.1) sec)
 clear h
 by_cases hs : sealE sec xs = 0
 case neg =>
  have d : (sealE sec xs != 0) = true := by simpa using hs
  have HS := hI hs
  clear hs
  generalize sealE sec xs = se at *
  generalize openedV sec xs = ov at *
  go_enter Tryz.func168, Tryz.ntmps168
  go_wp2_with (first
   | (go_at_call 172; refine HC.out.mono ?_; rintro e w1 ⟨rfl, hb1⟩; have HV1 := hI (HV0.out.next hb1); obtain ⟨q0, q1, q3, q4, f3, f4⟩ := HV1.out.cells; clear hb1)
   | (with_reducible refine halt_end ?_))
  exact Halt.ret (results_row2 (p := 2) (u := 3) rfl _ _ (w.heap.size + 1) 95 #[.int .i64 0, .slice none 0 0] _ rfl (HV1.out.res 0 none 0 0) Tryz.underlying95 rfl size_ring) rfl (TurnT.no HS.out (HV1.out.below _ _))
 obtain ⟨hk, ho⟩ := seal_yes hs
 obtain ⟨i, hi, hio, hst⟩ := opn_nat hk ho
 have hov : openedV sec xs = i := by rw [(opened_yes hk ho).2, hio]
 rw [hs, hov] at HC
 have hin : i < n := by rw [← HX.out.1]; exact hi
 have HXX := hI (show sealX xs = xs.set i (2, genG xs i, usedG xs i) by unfold sealX; rw [hio, Int.toNat_natCast])
 have HT := hI (fun (W : World) (hh : RowZ W (· < W.heap.size) A n xs) => turned_seal (cap := cap) hh sec (by have := (ok_n hk HX.out.1).2; omega) i hin)
 rw [hs]
 clear hk ho hio hst hov hs hi
 go_enter Tryz.func168, Tryz.ntmps168
 go_wp2_with (first
  | (go_at_call 172; refine HC.out.mono ?_; rintro e w1 ⟨rfl, hb1⟩; have HV1 := hI (HV0.out.next hb1); obtain ⟨q0, q1, q3, q4, f3, f4⟩ := HV1.out.cells; clear hb1)
  | (go_at_call 133; refine (HT.out _ (row_now HX.out HV1.out.1)).mono ?_; rintro e w6 ⟨⟨A', cap', rfl, hown⟩, hb6⟩; have HV6 := hI (HV1.out.next hb6); obtain ⟨t0, t1, t3, t4, f9, f0⟩ := HV6.out.cells; have HOW := hI hown; clear hb6 hown)
  | (with_reducible refine halt_end ?_))
 have hlt := HV1.out.lt
 have hown := ((HOW.out.far (p := ⟨w.heap.size + 1, 0, none⟩) hlt (.int .i64 sec)).far (p := ⟨w.heap.size + 1, 1, none⟩) hlt (.slice A' n cap')).base HV1.out.1.size
 rw [← HXX.out] at hown
 exact Halt.ret (results_row2 (p := 2) (u := 3) rfl _ _ (w.heap.size + 1) 95 #[.int .i64 sec, .slice A' n cap'] _ rfl (HV6.out.res sec A' n cap') Tryz.underlying95 rfl size_ring) rfl ⟨.inl ⟨rfl, _, rfl, ⟨A', n, cap', rfl, hown⟩⟩, HV6.out.below _ _⟩
theorem free_bad {sec : Int} {xs : List Seg} {i : Int} (h : ¬ OkR sec xs) : freeE sec xs i = 180 := if_pos h
theorem free_arg {sec : Int} {xs : List Seg} {i : Int} (h : OkR sec xs) (h1 : i < 0 ∨ (xs.length : Int) ≤ i) : freeE sec xs i = 2 := by unfold freeE; rw [if_neg (fun k => k h), if_pos h1]
theorem free_state {sec : Int} {xs : List Seg} {i : Nat} (h : OkR sec xs) (h1 : i < xs.length) (h2 : stG xs i ≠ 2) : freeE sec xs i = 181 := by unfold freeE; rw [if_neg (fun k => k h), if_neg (by omega), if_pos (by simpa using h2)]
theorem free_go {sec : Int} {xs : List Seg} {i : Nat} (h : OkR sec xs) (h1 : i < xs.length) (h2 : stG xs i = 2) : freeE sec xs i = 0 := by unfold freeE; rw [if_neg (fun k => k h), if_neg (by omega), if_neg (by simpa using h2)]
theorem free_any {w : World} {A : Option Addr} {n cap : Nat} {xs : List Seg} (h : RowZ w (· < w.heap.size) A n xs) (sec v : Int) :
 Calls Tryz.prog 62 #[ringV sec A n cap, .int .i64 v] w fun e w' => TurnT w sec (freeE sec xs v) (freeX xs v) e w' := by
 have HX := hI h
 have HV0 := hI (OW.start w sec A n cap)
 have HC := hI (check_any (cap := cap) (row_now h HV0.out.1) sec)
 clear h
 by_cases hk : OkR sec xs
 case neg =>
  rw [free_bad hk]
  rw [if_neg hk] at HC
  clear hk
  go_enter Tryz.func62, Tryz.ntmps62
  go_wp2_with (first
   | (go_at_call 110; refine HC.out.mono ?_; rintro e w1 ⟨rfl, hb1⟩; have HV1 := hI (HV0.out.next hb1); obtain ⟨q0, q1, q3, q4, f3, f4⟩ := HV1.out.cells; clear hb1)
   | (with_reducible refine halt_end ?_))
  exact Halt.ret (results_row2 (p := 4) (u := 5) rfl _ _ (w.heap.size + 1) 95 #[.int .i64 0, .slice none 0 0] _ rfl (HV1.out.res 0 none 0 0) Tryz.underlying95 rfl size_ring) rfl (TurnT.no (by decide) (HV1.out.below _ _))
 rw [if_pos hk] at HC
 have HK := hI hk
 have hln := HX.out.1
 clear hk
 by_cases h1 : v < 0
 ·have d1 : decide (v < 0) = true := decide_eq_true h1
  rw [free_arg HK.out (.inl h1)]
  go_enter Tryz.func62, Tryz.ntmps62
  go_wp2_with (first
   | (go_at_call 110; refine HC.out.mono ?_; rintro e w1 ⟨rfl, hb1⟩; have HV1 := hI (HV0.out.next hb1); obtain ⟨q0, q1, q3, q4, f3, f4⟩ := HV1.out.cells; clear hb1)
   | (with_reducible refine halt_end ?_))
  exact Halt.ret (results_row2 (p := 4) (u := 5) rfl _ _ (w.heap.size + 1) 95 #[.int .i64 0, .slice none 0 0] _ rfl (HV1.out.res 0 none 0 0) Tryz.underlying95 rfl size_ring) rfl (TurnT.no (by decide) (HV1.out.below _ _))
 have d1 : decide (v < 0) = false := decide_eq_false h1
 by_cases h2 : (n : Int) ≤ v
 ·have d2 : decide ((n : Int) ≤ v) = true := decide_eq_true h2
  rw [free_arg HK.out (.inr (by rw [hln]; exact h2))]
  go_enter Tryz.func62, Tryz.ntmps62
  go_wp2_with (first
   | (go_at_call 110; refine HC.out.mono ?_; rintro e w1 ⟨rfl, hb1⟩; have HV1 := hI (HV0.out.next hb1); obtain ⟨q0, q1, q3, q4, f3, f4⟩ := HV1.out.cells; clear hb1)
   | (with_reducible refine halt_end ?_))
  exact Halt.ret (results_row2 (p := 4) (u := 5) rfl _ _ (w.heap.size + 1) 95 #[.int .i64 0, .slice none 0 0] _ rfl (HV1.out.res 0 none 0 0) Tryz.underlying95 rfl size_ring) rfl (TurnT.no (by decide) (HV1.out.below _ _))
 obtain ⟨i, rfl⟩ : ∃ i : Nat, v = i := ⟨v.toNat, by omega⟩
 have hin : i < n := by omega
 have d2 : decide ((n : Int) ≤ (i : Int)) = false := decide_eq_false h2
 obtain ⟨b, off, rfl, hbb, hcc⟩ := seg_get HX.out hin
 have HCC := hI (hcc i hin).1
 have HFS := hI (fun h2 => free_state HK.out (by rw [hln]; exact hin) h2)
 have HFG := hI (fun h2 => free_go HK.out (by rw [hln]; exact hin) h2)
 clear hcc hln h1 h2
 generalize stG xs i = st at *
 by_cases h3 : st = 2
 ·subst h3
  have HXX := hI (show freeX xs i = xs.set i seg0 by unfold freeX; rw [Int.toNat_natCast])
  have HT := hI (fun (W : World) (hh : RowZ W (· < W.heap.size) (some ⟨b, off, none⟩) n xs) => turned_free (cap := cap) hh sec (by have := (ok_n HK.out HX.out.1).2; omega) i hin)
  rw [HFG.out rfl]
  go_enter Tryz.func62, Tryz.ntmps62
  go_wp2_with (first
   | (go_at_call 110; refine HC.out.mono ?_; rintro e w1 ⟨rfl, hb1⟩; have HV1 := hI (HV0.out.next hb1); obtain ⟨q0, q1, q3, q4, f3, f4⟩ := HV1.out.cells; have kG : w1.cell? ⟨b, off + i * 3, none⟩ = some (.int .i64 2) := (Below.cell HV1.out.1 (p := ⟨b, _, none⟩) hbb).trans HCC.out; clear hb1)
   | (go_at_call 133; refine (HT.out _ (row_now HX.out HV1.out.1)).mono ?_; rintro e w6 ⟨⟨A', cap', rfl, hown⟩, hb6⟩; have HV6 := hI (HV1.out.next hb6); obtain ⟨t0, t1, t3, t4, f9, f0⟩ := HV6.out.cells; have HOW := hI hown; clear hb6 hown)
   | (with_reducible refine halt_end ?_))
  have hlt := HV1.out.lt
  have hown := ((HOW.out.far (p := ⟨w.heap.size + 1, 0, none⟩) hlt (.int .i64 sec)).far (p := ⟨w.heap.size + 1, 1, none⟩) hlt (.slice A' n cap')).base HV1.out.1.size
  rw [← HXX.out] at hown
  exact Halt.ret (results_row2 (p := 4) (u := 5) rfl _ _ (w.heap.size + 1) 95 #[.int .i64 sec, .slice A' n cap'] _ rfl (HV6.out.res sec A' n cap') Tryz.underlying95 rfl size_ring) rfl ⟨.inl ⟨rfl, _, rfl, ⟨A', n, cap', rfl, hown⟩⟩, HV6.out.below _ _⟩
 ·have d3 : (st != 2) = true := by simpa using h3
  rw [HFS.out h3]
  go_enter Tryz.func62, Tryz.ntmps62
  go_wp2_with (first
   | (go_at_call 110; refine HC.out.mono ?_; rintro e w1 ⟨rfl, hb1⟩; have HV1 := hI (HV0.out.next hb1); obtain ⟨q0, q1, q3, q4, f3, f4⟩ := HV1.out.cells; have kG : w1.cell? ⟨b, off + i * 3, none⟩ = some (.int .i64 st) := (Below.cell HV1.out.1 (p := ⟨b, _, none⟩) hbb).trans HCC.out; clear hb1)
   | (with_reducible refine halt_end ?_))
  exact Halt.ret (results_row2 (p := 4) (u := 5) rfl _ _ (w.heap.size + 1) 95 #[.int .i64 0, .slice none 0 0] _ rfl (HV1.out.res 0 none 0 0) Tryz.underlying95 rfl size_ring) rfl (TurnT.no (by decide) (HV1.out.below _ _))
end
section
open Go.RowKit
theorem opn_range (xs : List Seg) : opnR xs = -1 ∨ ∃ i : Nat, i < xs.length ∧ opnR xs = (i : Int) := by
 rcases opn_spec xs xs.length with ⟨e, _⟩ | ⟨i, hi, e, _⟩
 ·exact .inl e
 ·exact .inr ⟨i, hi, e⟩
theorem OwnZ.of {w : World} {base : Nat} {A : Option Addr} {n cap : Nat} {xs : List Seg} (h1 : xs.length = n) (h : n ≤ cap ∧ (A = none → cap = 0) ∧ w.ownsRow base 126 3 (.slice A n cap) n (flatG xs)) : OwnZ w base A n cap xs := ⟨h1, h.2.2, h.2.1, h.1⟩
end
section
open Go.RowKit
theorem nxt_range (xs : List Seg) : nxtR xs < 0 ∨ ∃ i : Nat, i < xs.length ∧ nxtR xs = i := by
 rcases nxt_or xs with ⟨e, _⟩ | ⟨k, hk2, e, _⟩
 ·exact .inl (by omega)
 ·exact .inr ⟨(latR xs + 1 + (k : Nat)).toNat % xs.length, Nat.mod_lt _ (by omega), e⟩
end
section
open Go.RowKit
theorem getD_set (xs : List Seg) (i j : Nat) (s : Seg) (hi : i < xs.length) : (xs.set i s).getD j seg0 = if i = j then s else xs.getD j seg0 := by
 by_cases h : i = j
 ·subst h
  simp [List.getD, hi]
 ·simp [List.getD, List.getElem?_set, h]
theorem ok_set {sec : Int} {xs : List Seg} (h : OkR sec xs) {i : Nat} (hi : i < xs.length) {s : Seg} (hm : MayG s sec)
 (ha : s.1 ≠ 0 → ∀ j, j < xs.length → j ≠ i → stG xs j ≠ 0 → genG xs j ≠ s.2.1 ∧ (s.1 = 1 → genG xs j < s.2.1) ∧ (stG xs j = 1 → s.2.1 < genG xs j)) : OkR sec (xs.set i s) := by
 refine ⟨by rw [List.length_set]; exact h.1, ?_, ?_⟩
 ·intro x hx
  rcases List.mem_or_eq_of_mem_set hx with h1 | rfl
  ·exact h.2.1 x h1
  ·exact hm
 ·intro a hla b hlb hne ha0 hb0
  rw [List.length_set] at hla hlb
  rw [getD_set xs i a s hi] at ha0 ⊢
  rw [getD_set xs i b s hi] at hb0 ⊢
  by_cases h1 : i = a
  ·rw [if_pos h1] at ha0 ⊢
   have h2 : ¬ i = b := fun h => hne (by omega)
   rw [if_neg h2] at hb0 ⊢
   obtain ⟨k1, k2, k3⟩ := ha ha0 b hlb (fun h => h2 h.symm) hb0
   exact ⟨fun e => k1 e.symm, k2⟩
  ·rw [if_neg h1] at ha0 ⊢
   by_cases h2 : i = b
   ·rw [if_pos h2] at hb0 ⊢
    obtain ⟨k1, k2, k3⟩ := ha hb0 a hla (fun h => h1 h.symm) ha0
    exact ⟨k1, k3⟩
   ·rw [if_neg h2] at hb0 ⊢
    exact h.2.2 a hla b hlb hne ha0 hb0
theorem ok_new {n : Nat} {sec : Int} (h : SizedR n sec) : OkR sec (List.replicate n seg0) := by
 refine ⟨by rw [List.length_replicate]; exact h, fun s hs => ?_, fun i hi j hj _ h0 => ?_⟩
 ·rw [List.eq_of_mem_replicate hs]
  exact ⟨rfl, rfl⟩
 ·exfalso
  refine h0 ?_
  simp [List.getD, List.getElem?_replicate]
  split <;> rfl
theorem top_nonneg {sec : Int} {xs : List Seg} (h : OkR sec xs) : 0 ≤ topG xs := by
 unfold topG
 rcases lat_or xs with ⟨e, _⟩ | ⟨i, hi, e, hs, _⟩
 ·rw [if_pos (by omega)]; omega
 ·rw [if_neg (by omega), e, Int.toNat_natCast]
  have := (may_live (may_at h.2.1 hi) hs).2.1
  simp only [genG]
  omega
theorem top_max {xs : List Seg} {j : Nat} (hj : j < xs.length) (hs : stG xs j ≠ 0) : genG xs j ≤ topG xs := by
 unfold topG
 rcases lat_or xs with ⟨e, hz⟩ | ⟨i, hi, e, _, hm⟩
 ·exact absurd (hz j hj) hs
 ·rw [if_neg (by omega), e, Int.toNat_natCast]
  exact hm j hj hs
theorem open_zero {sec : Int} {xs : List Seg} {g : Int} (h : openE sec xs g = 0) : OkR sec xs ∧ ¬ 0 ≤ opnR xs ∧ topG xs < g ∧ ∃ i : Nat, i < xs.length ∧ nxtR xs = i ∧ stG xs i = 0 := by
 unfold openE at h
 by_cases hk : OkR sec xs
 ·rw [if_neg (fun k => k hk)] at h
  by_cases h1 : 0 ≤ opnR xs
  ·rw [if_pos h1] at h; omega
  ·rw [if_neg h1] at h
   by_cases h2 : g ≤ topG xs
   ·rw [if_pos h2] at h; omega
   ·rw [if_neg h2] at h
    by_cases h3 : nxtR xs < 0
    ·rw [if_pos h3] at h; omega
    ·refine ⟨hk, h1, by omega, ?_⟩
     rcases nxt_or xs with ⟨e, _⟩ | ⟨k, hk', e, hs, _⟩
     ·omega
     ·exact ⟨_, Nat.mod_lt _ (by omega), e, hs⟩
 ·rw [if_pos hk] at h; omega
theorem no_open {sec : Int} {xs : List Seg} (h : OkR sec xs) (h1 : ¬ 0 ≤ opnR xs) {j : Nat} (hj : j < xs.length) : stG xs j ≠ 1 := by
 rcases opn_or h with ⟨_, hz⟩ | ⟨i, _, e, _⟩
 ·exact hz j hj
 ·omega
theorem ok_open {sec : Int} {xs : List Seg} {g : Int} (h : openE sec xs g = 0) : OkR sec (openX xs g) := by
 obtain ⟨hk, h1, h2, i, hi, e, hs⟩ := open_zero h
 unfold openX
 rw [e, Int.toNat_natCast]
 have h0 := top_nonneg hk
 have hsz := hk.1
 unfold SizedR at hsz
 refine ok_set hk hi ?_ ?_
 ·unfold MayG
  rw [if_neg (show ¬ (1 : Int) = 0 by decide)]
  exact ⟨.inl rfl, by show (0 : Int) < g; omega, show (1 : Int) ≤ 1 by decide, by show (1 : Int) ≤ sec; omega⟩
 ·intro _ j hj hne hj0
  have := top_max hj hj0
  refine ⟨by show genG xs j ≠ g; omega, fun _ => by show genG xs j < g; omega, fun ho => absurd ho (no_open hk h1 hj)⟩
theorem ok_use {sec : Int} {xs : List Seg} {n : Int} (h : useE sec xs n = 0) : OkR sec (useX xs n) := by
 have hs : sealE sec xs = 0 := by
  by_cases h1 : sealE sec xs = 0
  ·exact h1
  ·rw [use_seal h1] at h; exact absurd h h1
 obtain ⟨hk, h1⟩ := seal_yes hs
 obtain ⟨i, hi, e, hst⟩ := opn_nat hk h1
 have hn0 : ¬ n < 0 := fun k => by rw [use_arg hs k] at h; omega
 have hle : ¬ leftR sec xs < n := fun k => by rw [use_full hs hn0 k] at h; omega
 have hl : leftR sec xs = sec - usedG xs i := by unfold leftR; rw [e, if_pos (by omega), Int.toNat_natCast]
 have hm := may_live (may_at hk.2.1 hi) (by rw [show (xs.getD i seg0).1 = 1 from hst]; decide)
 unfold useX
 rw [e, Int.toNat_natCast]
 refine ok_set hk hi ?_ ?_
 ·unfold MayG
  rw [if_neg (by show ¬ stG xs i = 0; rw [hst]; decide)]
  refine ⟨.inl hst, hm.2.1, ?_, ?_⟩
  ·show (1 : Int) ≤ usedG xs i + n
   simp only [usedG]
   omega
  ·show usedG xs i + n ≤ sec
   omega
 ·intro _ j hj hne hj0
  have h2 := hk.2.2 i hi j hj (fun h => hne h.symm) (by rw [show (xs.getD i seg0).1 = 1 from hst]; decide) hj0
  have h3 := h2.2 hst
  refine ⟨by show genG xs j ≠ genG xs i; simp only [genG]; omega, fun _ => h3, fun ho => ?_⟩
  have h4 := (hk.2.2 j hj i hi hne hj0 (by rw [show (xs.getD i seg0).1 = 1 from hst]; decide)).2 ho
  exact h4
theorem ok_seal {sec : Int} {xs : List Seg} (h : sealE sec xs = 0) : OkR sec (sealX xs) := by
 obtain ⟨hk, h1⟩ := seal_yes h
 obtain ⟨i, hi, e, hst⟩ := opn_nat hk h1
 have hm := may_live (may_at hk.2.1 hi) (by rw [show (xs.getD i seg0).1 = 1 from hst]; decide)
 unfold sealX
 rw [e, Int.toNat_natCast]
 refine ok_set hk hi ?_ ?_
 ·unfold MayG
  rw [if_neg (show ¬ (2 : Int) = 0 by decide)]
  exact ⟨.inr rfl, hm.2.1, hm.2.2⟩
 ·intro _ j hj hne hj0
  have h2 := hk.2.2 i hi j hj (fun h => hne h.symm) (by rw [show (xs.getD i seg0).1 = 1 from hst]; decide) hj0
  have h3 := h2.2 hst
  refine ⟨by show genG xs j ≠ genG xs i; simp only [genG]; omega, fun ho => absurd ho (show ¬ (2 : Int) = 1 by decide), fun ho => ?_⟩
  exact (hk.2.2 j hj i hi hne hj0 (by rw [show (xs.getD i seg0).1 = 1 from hst]; decide)).2 ho
theorem free_zero {sec : Int} {xs : List Seg} {v : Int} (h : freeE sec xs v = 0) : OkR sec xs ∧ ∃ i : Nat, i < xs.length ∧ v = i ∧ stG xs i = 2 := by
 unfold freeE at h
 by_cases hk : OkR sec xs
 ·rw [if_neg (fun k => k hk)] at h
  by_cases h1 : v < 0 ∨ (xs.length : Int) ≤ v
  ·rw [if_pos h1] at h; omega
  ·rw [if_neg h1] at h
   by_cases h2 : stG xs v.toNat = 2
   ·exact ⟨hk, v.toNat, by omega, by omega, h2⟩
   ·rw [if_pos h2] at h; omega
 ·rw [if_pos hk] at h; omega
theorem ok_free {sec : Int} {xs : List Seg} {v : Int} (h : freeE sec xs v = 0) : OkR sec (freeX xs v) := by
 obtain ⟨hk, i, hi, rfl, _⟩ := free_zero h
 unfold freeX
 rw [Int.toNat_natCast]
 exact ok_set hk hi ⟨rfl, rfl⟩ (fun h => absurd rfl h)
end
section
open Go.RowKit
theorem SeqM.mono {w : World} {n₀ n₁ B : Nat} {L : List Num} (h : SeqM w n₁ B L) (hn : n₀ ≤ n₁) : SeqM w n₀ B L := by
 obtain ⟨h1, h2, A, cap, h3, h4⟩ := h
 refine ⟨by omega, h2, A, cap, h3, h4.1, fun hp => ?_⟩
 obtain ⟨b, off, e, hb, hc⟩ := h4.2 hp
 exact ⟨b, off, e, ⟨nT hn hb.1, hb.2⟩, hc⟩
end
section
open Go.RowKit Go.Shelf
attribute [local go_sem] Oper.semAt_some
noncomputable def oldE (sec : Int) (xs : List Seg) : Int := if ¬ OkR sec xs then 180 else if oldR xs < 0 then 4 else 0
noncomputable def oldV (sec : Int) (xs : List Seg) : Int := if oldE sec xs = 0 then oldR xs else 0
def OldM (w : World) (sec : Int) (A : Option Addr) (n cap : Nat) (W : World) : Prop :=
 Below w.heap.size w W ∧ Blk W w.heap.size 95 #[.int .i64 sec, .slice A n cap] ∧ Blk W (w.heap.size + 1) 3 #[.int .i64 0] ∧ Blk W (w.heap.size + 1 + 1) 36 #[.int .i64 0]
theorem OldM.start (w : World) (sec : Int) (A : Option Addr) (n cap : Nat) : OldM w sec A n cap (((w.alloc (.cells #[.int .i64 sec, .slice A n cap] 95)).alloc (.cells #[.int .i64 0] 3)).alloc (.cells #[.int .i64 0] 36)) :=
 ⟨(((Below.refl _ w).alloc (nR _) _).alloc (by simp) _).alloc (by simp; omega) _, ((Blk.new w _ _).alloc _).alloc _, (blk_new2 w _ _ _).alloc _, blk_new3 w _ _ _ _⟩
theorem OldM.next {w : World} {sec : Int} {A : Option Addr} {n cap : Nat} {W W' : World} (h : OldM w sec A n cap W) (hb : Below W.heap.size W W') : OldM w sec A n cap W' :=
 ⟨h.1.trans (hb.mono h.1.size), h.2.1.below hb h.2.1.lt, h.2.2.1.below hb h.2.2.1.lt, h.2.2.2.below hb h.2.2.2.lt⟩
theorem oldest_bad {w : World} {A : Option Addr} {n cap : Nat} {xs : List Seg} (h : RowZ w (· < w.heap.size) A n xs) (sec : Int) (hk : ¬ OkR sec xs) :
 Calls Tryz.prog 59 #[.agg #[.int .i64 sec, .slice A n cap]] w fun e w' => e = .returned (.tuple #[.int .i64 0, .int .i64 180]) ∧ Below w.heap.size w w' := by
 have HV0 := hI (OldM.start w sec A n cap)
 have HC := hI (check_any (cap := cap) (row_now h HV0.out.1) sec)
 rw [if_neg hk] at HC
 clear h hk
 refine (callsIn_wide (n := 5)).1 ?_
 refine callsIn_of_wp_marks Tryz.func59 rfl trivial ?_ rfl
 simp only [Tryz.ntmps59, List.size_toArray, List.length_cons, List.length_nil, Nat.reduceAdd, Nat.reduceSub, Array.replicate_succ, Array.replicate_zero, List.push_toArray, List.append_toArray, List.nil_append, List.cons_append]
 gi_wp2_with (refine ⟨trivial, ?_⟩; gi_at_call 110; refine (callsIn_wide.2 HC.out).mono ?_; rintro e w1 ⟨rfl, hb1⟩; have HV1 := hI (HV0.out.next hb1); have k1 : w1.cell? ⟨w.heap.size + 1, 0, none⟩ = some (.int .i64 0) := HV1.out.2.2.1.cell 0; have k2 : w1.cell? ⟨w.heap.size + 1 + 1, 0, none⟩ = some (.int .i64 0) := HV1.out.2.2.2.cell 0; obtain ⟨f1, f2⟩ := And.intro (HV1.out.2.2.1.frozen 0) (HV1.out.2.2.2.frozen 0); clear hb1)
 have hne : w.heap.size + 1 ≠ w.heap.size + 1 + 1 := by omega
 have hc1 : ((w1.setCell ⟨w.heap.size + 1, 0, none⟩ (.int .i64 0)).setCell ⟨w.heap.size + 1 + 1, 0, none⟩ (.int .i64 180)).cell? ⟨w.heap.size + 1, 0, none⟩ = some (.int .i64 0) := ((HV1.out.2.2.1.set_ 0 (.int .i64 0)).far (p := ⟨w.heap.size + 1 + 1, 0, none⟩) hne (.int .i64 180)).cell 0
 have hc2 : ((w1.setCell ⟨w.heap.size + 1, 0, none⟩ (.int .i64 0)).setCell ⟨w.heap.size + 1 + 1, 0, none⟩ (.int .i64 180)).cell? ⟨w.heap.size + 1 + 1, 0, none⟩ = some (.int .i64 180) := ((HV1.out.2.2.2.far (p := ⟨w.heap.size + 1, 0, none⟩) hne.symm (.int .i64 0)).set_ 0 (.int .i64 180)).cell 0
 refine ⟨.tuple #[.int .i64 0, .int .i64 180], ?_, rfl, (HV1.out.1.setCell (p := ⟨w.heap.size + 1, 0, none⟩) (by simp) _).setCell (p := ⟨w.heap.size + 1 + 1, 0, none⟩) (by simp; omega) _⟩
 simp [results, Tryz.f59, go_sem, hc1, hc2]
def FirstS (pre : List Num) : Prop := ∃ p x, pre = p ++ [x] ∧ (∀ y ∈ p, y.2.1 ≠ 2) ∧ x.2.1 = 2
theorem none_snoc {pre : List Num} {x : Num} (h : ∀ y ∈ pre, y.2.1 ≠ 2) (hx : x.2.1 ≠ 2) : ∀ y ∈ pre ++ [x], y.2.1 ≠ 2 := by
 intro y hy
 rcases List.mem_append.1 hy with h1 | h1
 ·exact h y h1
 ·rw [List.mem_singleton.1 h1]; exact hx
theorem oldest_ok {w : World} {A : Option Addr} {n cap : Nat} {xs : List Seg} (h : RowZ w (· < w.heap.size) A n xs) (sec : Int) (hk : OkR sec xs) :
 Calls Tryz.prog 59 #[.agg #[.int .i64 sec, .slice A n cap]] w fun e w' => e = .returned (.tuple #[.int .i64 (oldV sec xs), .int .i64 (oldE sec xs)]) ∧ Below w.heap.size w w' := by
 have HX := hI h
 have HV0 := hI (OldM.start w sec A n cap)
 have HC := hI (check_any (cap := cap) (row_now h HV0.out.1) sec)
 rw [if_pos hk] at HC
 have hn16 := (ok_n hk h.1).2
 have HN := hI hn16
 have HON := hI (fun (L : List Num) (hp : L.Perm (live xs)) (hr : Rises L) (hpre : ∀ y ∈ L, y.2.1 ≠ 2) => show oldV sec xs = 0 ∧ oldE sec xs = 4 by
  have e := ord_old_none hk hp hr hpre
  have e1 : oldE sec xs = 4 := by unfold oldE; rw [if_neg (fun k => k hk), e, if_pos (by omega)]
  exact ⟨by unfold oldV; rw [e1]; rfl, e1⟩)
 have HOY := hI (fun (L pre r : List Num) (hp : L.Perm (live xs)) (hr : Rises L) (hL : L = pre ++ r) (hpre : FirstS pre) => show oldV sec xs = atOf 0 pre ∧ oldE sec xs = 0 by
  obtain ⟨p, x, rfl, h1, h2⟩ := hpre
  have e := ord_old hk hp hr (pre := p) (x := x) (r := r) (by rw [hL]; simp) h1 h2
  have e1 : oldE sec xs = 0 := by unfold oldE; rw [if_neg (fun k => k hk), e, if_neg (by omega)]
  exact ⟨by unfold oldV; rw [e1, atOf_snoc]; exact e, e1⟩)
 generalize oldV sec xs = ov at *
 generalize oldE sec xs = oe at *
 clear h hk hn16
 refine (callsIn_wide (n := 5)).1 ?_
 refine callsIn_of_wp_marks Tryz.func59 rfl trivial ?_ rfl
 simp only [Tryz.ntmps59, List.size_toArray, List.length_cons, List.length_nil, Nat.reduceAdd, Nat.reduceSub, Array.replicate_succ, Array.replicate_zero, List.push_toArray, List.append_toArray, List.nil_append, List.cons_append]
 gi_wp2_with (first
  | (refine ⟨trivial, ?_⟩; gi_at_call 110; refine (callsIn_wide.2 HC.out).mono ?_; rintro e w1 ⟨rfl, hb1⟩; have HV1 := hI (HV0.out.next hb1); obtain ⟨q0, q1⟩ := ring_cells HV1.out.2.1; have HRI := hI (rising_any (w := w1) (cap := cap) (row_now HX.out HV1.out.1) HN.out); clear hb1)
  | (refine ⟨trivial, ?_⟩; gi_at_call 130; refine (callsIn_wide.2 HRI.out).mono ?_; rintro e w5 ⟨B, L, rfl, hsq, hperm, hri, hb5⟩))
 have hL16 : L.length ≤ 16 := by have hn := HN.out; rw [hperm.length_eq]; have := liveTo_length xs xs.length; rw [HX.out.1] at this; unfold live; rw [HX.out.1]; omega
 have hv5 := HV1.out.next hb5
 have hs1 : w.heap.size + 1 + 1 < w1.heap.size := HV1.out.2.2.2.lt
 have hs5 := hb5.size
 have hbb := hv5.1
 have hb2 := hv5.2.2.1
 have hb3 := hv5.2.2.2
 clear hb5 hv5
 refine wpIn_rangeFunc_ownH rfl (by omega) (gf := 184) (lb := #[.pointer (some ⟨B, 0, none⟩)]) rfl trivial (enters_of Tryz.func184 (by kernel_rfl) rfl)
  (rise_stops Fence.wide 4 trivial rfl (by omega) B w1.heap.size w5.heap.size L hL16 w5 hsq rfl) keptK_t (keptK_b (nR _)) (Below.refl _ _) (fun _ => rfl)
  (fun pre W => ((Blk W (w.heap.size + 1) 3 #[.int .i64 0] ∧ Blk W (w.heap.size + 1 + 1) 36 #[.int .i64 0]) ∧ (∀ y ∈ pre, y.2.1 ≠ 2)) ∧ Below w.heap.size w W ∧ w5.heap.size ≤ W.heap.size)
  (fun c pre W => ((Blk W (w.heap.size + 1) 3 #[.int .i64 (atOf 0 pre)] ∧ Blk W (w.heap.size + 1 + 1) 36 #[.int .i64 0]) ∧ c = .ret ∧ FirstS pre) ∧ Below w.heap.size w W)
  (OwnFrom.and (OwnFrom.and (OwnFrom.and (Own.from (blk_own _ _ _) _) (Own.from (blk_own _ _ _) _)) (ownFrom_pure _ _)) (OwnFrom.and (ownFrom_below (nR _) hbb.size) (own_size _)))
  (fun c => OwnFrom.and (OwnFrom.and (OwnFrom.and (Own.from (blk_own _ _ _) _) (Own.from (blk_own _ _ _) _)) (ownFrom_pure _ _)) (ownFrom_below (nR _) hbb.size))
  ⟨⟨⟨hb2, hb3⟩, fun y hy => by cases hy⟩, hbb, nR _⟩
  (fun x a' W => ∃ Bx, w1.heap.size ≤ Bx ∧ Blk W Bx 126 (segC x.2).toArray ∧ a' = { tmps := #[.agg #[.int .i64 sec, .slice A n cap], .pointer (some ⟨w.heap.size, 0, none⟩), .pointer (some ⟨w.heap.size + 1, 0, none⟩), .pointer (some ⟨w.heap.size + 1 + 1, 0, none⟩), .int .i64 0, .int .i64 x.1, .pointer (some ⟨Bx, 0, none⟩), .agg #[.int .i64 sec, .slice A n cap], .int .i64 0, .int .i64 0, .bool false, undef, .pointer (some ⟨w.heap.size, 1, none⟩), .slice A n cap, .func (.func 184) #[] #[.pointer (some ⟨B, 0, none⟩)], .int .i64 x.1, .agg (segC x.2).toArray, undef, undef, undef, undef], defers := [] })
  (fun x a' _ X Y row hs hg hr => by obtain ⟨Bx, h1, h2, h3⟩ := hs; exact ⟨Bx, h1, blk_own Bx _ (fun (_ : Unit) => _) () X Y row h2 hg (fun r e => (hr r e).2), h3⟩)
  ?assign ?body ?done ?stop
 case assign =>
  rintro l pre x W K ⟨⟨⟨h1, h2⟩, h3⟩, hB, hsz⟩ hK
  gi_wp2
  exact hK _ _ ((KeepsOthers.alloc _ _).from _) ((Kept.refl _ W).alloc (fun b hb => nL hb.2 hsz) _) ⟨⟨⟨h1.alloc _, h2.alloc _⟩, h3⟩, hB.alloc hB.size _, nT hsz (by simp)⟩ ⟨W.heap.size, nT hs5 hsz, Blk.new W _ _, rfl⟩
 case body =>
  rintro l pre ⟨i, st, g, u⟩ a' W hl ⟨r, hr⟩ ⟨⟨⟨h1, h2⟩, h3⟩, hB, hsz⟩ ⟨Bx, hBx, bX, rfl⟩ hlt
  have H1 := hI h1
  have H2 := hI h2
  have H3 := hI h3
  have HBB := hI hB
  have c1 : W.cell? ⟨w.heap.size + 1, 0, none⟩ = some (.int .i64 0) := H1.out.cell 0
  have c2 : W.cell? ⟨w.heap.size + 1 + 1, 0, none⟩ = some (.int .i64 0) := H2.out.cell 0
  obtain ⟨f1, f2⟩ := And.intro (H1.out.frozen 0) (H2.out.frozen 0)
  obtain ⟨b0, b1, b2⟩ : W.cell? ⟨Bx, 0, none⟩ = some (.int .i64 st) ∧ W.cell? ⟨Bx, 1, none⟩ = some (.int .u64 g) ∧ W.cell? ⟨Bx, 2, none⟩ = some (.int .i64 u) := ⟨bX.cell 0, bX.cell 1, bX.cell 2⟩
  clear h1 h2 h3 hB bX
  by_cases d1 : st = 2
  ·subst d1
   gi_wp2
   have hne : w.heap.size + 1 ≠ w.heap.size + 1 + 1 := by omega
   refine ⟨((KeepsOthers.setCell _ _ _).trans (KeepsOthers.setCell _ _ _)).from _, ⟨⟨?_, ?_⟩, rfl, ⟨pre, (i, 2, g, u), rfl, H3.out, rfl⟩⟩, (HBB.out.setCell (p := ⟨w.heap.size + 1, 0, none⟩) (by simp) _).setCell (p := ⟨w.heap.size + 1 + 1, 0, none⟩) (by simp; omega) _⟩
   ·rw [atOf_snoc]
    exact (H1.out.set_ 0 _).far (p := ⟨w.heap.size + 1 + 1, 0, none⟩) hne _
   ·exact (H2.out.far (p := ⟨w.heap.size + 1, 0, none⟩) hne.symm _).set_ 0 _
  ·have e1 : (st == 2) = false := by simpa using d1
   gi_wp2
   exact ⟨(KeepsOthers.refl _).from _, Kept.refl _ _, ⟨⟨H1.out, H2.out⟩, none_snoc H3.out d1⟩, HBB.out, hsz⟩
 case done =>
  rintro D ys W hD rfl ⟨⟨⟨h1, h2⟩, h3⟩, hB, hsz⟩ hK
  obtain ⟨rfl, rfl⟩ := HON.out _ hperm hri h3
  have f1 := h1.frozen 0
  have f2 := h2.frozen 0
  have c1 : W.cell? ⟨w.heap.size + 1, 0, none⟩ = some (.int .i64 0) := h1.cell 0
  have c2 : W.cell? ⟨w.heap.size + 1 + 1, 0, none⟩ = some (.int .i64 0) := h2.cell 0
  have H1 := hI h1
  have H2 := hI h2
  have HBB := hI hB
  clear h1 h2 hB
  gi_wp2
  have hne : w.heap.size + 1 ≠ w.heap.size + 1 + 1 := by omega
  have hK' := ((KeepsOthers.setCell W ⟨w.heap.size + 1, 0, none⟩ (.int .i64 0)).trans (KeepsOthers.setCell _ ⟨w.heap.size + 1 + 1, 0, none⟩ (.int .i64 4))).same D _ hK rfl
  refine ⟨by simp, .inl ⟨_, _, rfl, run_takeDeferred hK', ?_⟩⟩
  have hd1 := ((H1.out.set_ 0 (.int .i64 0)).far (p := ⟨w.heap.size + 1 + 1, 0, none⟩) hne (.int .i64 4)).cell 0
  have hd2 := ((H2.out.far (p := ⟨w.heap.size + 1, 0, none⟩) hne.symm (.int .i64 0)).set_ 0 (.int .i64 4)).cell 0
  have hc1 := cell_kept (v := .int .i64 0) hd1 (grownBy_putObj' _ D (.deferred none)) (fun r e => by cases e; exact ⟨_, hK', rfl⟩)
  have hc2 := cell_kept (v := .int .i64 4) hd2 (grownBy_putObj' _ D (.deferred none)) (fun r e => by cases e; exact ⟨_, hK', rfl⟩)
  refine ⟨.tuple #[.int .i64 0, .int .i64 4], ?_, rfl, ((HBB.out.setCell (p := ⟨w.heap.size + 1, 0, none⟩) (by simp) _).setCell (p := ⟨w.heap.size + 1 + 1, 0, none⟩) (by simp; omega) _).trans (belowK_b (w := w) (nR _) _ D _ _ (nT hbb.size hD) hK' rfl rfl)⟩
  simp [results, Tryz.f59, go_sem, hc1, hc2]
 case stop =>
  rintro D c pre W hD ⟨k, hk, rfl⟩ ⟨⟨⟨h1, h2⟩, rfl, h3⟩, hB⟩ hK
  obtain ⟨rfl, rfl⟩ := HOY.out L (L.take k) (L.drop k) hperm hri (List.take_append_drop k L).symm h3
  have c1 : W.cell? ⟨w.heap.size + 1, 0, none⟩ = some (.int .i64 (atOf 0 (L.take k))) := h1.cell 0
  have c2 : W.cell? ⟨w.heap.size + 1 + 1, 0, none⟩ = some (.int .i64 0) := h2.cell 0
  gi_wp2
  refine ⟨by simp, .inl ⟨_, _, rfl, run_takeDeferred hK, ?_⟩⟩
  have hc1 := cell_kept c1 (grownBy_putObj' _ D (.deferred none)) (fun r e => by cases e; exact ⟨_, hK, rfl⟩)
  have hc2 := cell_kept c2 (grownBy_putObj' _ D (.deferred none)) (fun r e => by cases e; exact ⟨_, hK, rfl⟩)
  refine ⟨.tuple #[.int .i64 (atOf 0 (L.take k)), .int .i64 0], ?_, rfl, hB.trans (belowK_b (w := w) (nR _) W D _ _ (nT hbb.size hD) hK rfl rfl)⟩
  simp [results, Tryz.f59, go_sem, hc1, hc2]
theorem oldest_any {w : World} {A : Option Addr} {n cap : Nat} {xs : List Seg} (h : RowZ w (· < w.heap.size) A n xs) (sec : Int) :
 Calls Tryz.prog 59 #[ringV sec A n cap] w fun e w' => e = .returned (.tuple #[.int .i64 (oldV sec xs), .int .i64 (oldE sec xs)]) ∧ Below w.heap.size w w' := by
 by_cases hk : OkR sec xs
 ·exact oldest_ok h sec hk
 ·have e1 : oldE sec xs = 180 := if_pos hk
  have e2 : oldV sec xs = 0 := by unfold oldV; rw [e1]; rfl
  rw [e1, e2]
  exact oldest_bad h sec hk
end
section
open Go.RowKit
def xs4 : List Seg := List.replicate 4 seg0
end
section
open Go.RowKit
theorem below_next {w W W' : World} (h : Below w.heap.size w W) (hb : Below W.heap.size W W') : Below w.heap.size w W' := h.trans (hb.mono h.size)
def GoM (w : World) (G n : Nat) (A : Option Addr) (cap : Nat) (xs : List Seg) (W : World) : Prop :=
 Blk W G 95 #[.int .i64 64, .slice A n cap] ∧ RowZ W (fun b => b < W.heap.size ∧ b ≠ G) A n xs ∧ Below w.heap.size w W
section
variable {w : World} {G n : Nat} {A : Option Addr} {cap : Nat} {xs : List Seg} {W W' : World}
theorem GoM.now (h : GoM w G n A cap xs W) : RowZ W (· < W.heap.size) A n xs := h.2.1.more (fun b h => h.1)
theorem GoM.next (h : GoM w G n A cap xs W) (hb : Below W.heap.size W W') : GoM w G n A cap xs W' :=
 ⟨h.1.below hb h.1.lt, (h.2.1.below hb (fun b h => h.1)).more (fun b h => ⟨nL h.1 hb.size, h.2⟩), below_next h.2.2 hb⟩
end
theorem GoM.first {w W0 : World} {n₀ n : Nat} {A : Option Addr} {cap : Nat} {xs : List Seg} (hr : RowZ W0 (From n₀ W0) A n xs) (hb : Below w.heap.size w W0) :
 GoM w W0.heap.size n A cap xs (W0.alloc (.cells #[.int .i64 64, .slice A n cap] 95)) :=
 ⟨Blk.new W0 _ _, (hr.below ((Below.refl W0.heap.size W0).alloc (nR _) _) (fun b h => h.2)).more (fun b h => ⟨by have := h.2; simp; omega, by have := h.2; omega⟩), hb.alloc hb.size _⟩
theorem GoM.fresh {w W0 : World} {m n : Nat} {A : Option Addr} {cap : Nat} {xs : List Seg} (ho : OwnZ W0 m A n cap xs) (hb : Below w.heap.size w W0) :
 GoM w W0.heap.size n A cap xs (W0.alloc (.cells #[.int .i64 64, .slice A n cap] 95)) := GoM.first ho.row hb
theorem GoM.store {w W : World} {G n m n0 : Nat} {A A' : Option Addr} {cap cap' : Nat} {ys : List Seg} (h1 : Blk W G 95 #[.int .i64 64, .slice A n0 cap]) (h2 : Below w.heap.size w W) (ho : OwnZ W m A' n cap' ys) (hm : G < m) (hB : w.heap.size ≤ G) :
 GoM w G n A' cap' ys ((W.setCell ⟨G, 0, none⟩ (.int .i64 64)).setCell ⟨G, 1, none⟩ (.slice A' n cap')) := by
 have ho2 := (ho.far (p := ⟨G, 0, none⟩) hm (.int .i64 64)).far (p := ⟨G, 1, none⟩) hm (.slice A' n cap')
 exact ⟨(h1.set_ 0 (.int .i64 64)).set_ 1 (.slice A' n cap'), ho2.row.more (fun b hb => ⟨hb.2, by have := hb.1; omega⟩), (h2.setCell (p := ⟨G, 0, none⟩) hB _).setCell (p := ⟨G, 1, none⟩) hB _⟩
theorem OwnZ.setRow {w : World} {base : Nat} {A : Option Addr} {n cap : Nat} {xs : List Seg} (h : OwnZ w base A n cap xs) {g : Nat} (hg : g < base) (cs : Array Value) : OwnZ (w.setRow g cs) base A n cap xs :=
 ⟨h.1, h.2.1.kept (row := some g) ⟨rfl, rfl, rfl, by simp [World.setRow], fun k _ hne => setRow_other w g k cs (fun e => hne (by rw [e]))⟩ (.inr (fun e => by have := own_least h.2.1 e; omega)), h.2.2⟩
theorem GoM.row {w W : World} {G n m n0 : Nat} {A A' : Option Addr} {cap cap' : Nat} {ys : List Seg} (h1 : Blk W G 95 #[.int .i64 64, .slice A n0 cap]) (h2 : Below w.heap.size w W) (ho : OwnZ W m A' n cap' ys) (hm : G < m) (hB : w.heap.size ≤ G) :
 GoM w G n A' cap' ys (W.setRow G #[.int .i64 64, .slice A' n cap']) :=
 ⟨setRow_heap W G _ _ _ _ h1, (ho.setRow hm _).row.more (fun b hb => ⟨hb.2, by have := hb.1; omega⟩), below_setRow h2 hB _⟩
section
variable {P : Program} {w : World} {o : Oper} {a : Act} {Q : Exit → Act → World → Prop} {K : Act → World → Prop} {E : Prop} {ops : Array Oper}
end
end
section
open Go.RowKit
section
variable {P : Program} {w : World} {o : Oper} {a : Act} {Q : Exit → Act → World → Prop} {K : Act → World → Prop} {E : Prop} {ops : Array Oper}
end
end
section
open Go.RowKit
def posR (n s k : Nat) : Nat := if s + k < n then s + k else s + k - n
theorem pos_lt {n s k : Nat} (hs : s < n) (hk : k ≤ n) : posR n s k < n := by unfold posR; split <;> omega
theorem pos_onto {n s j : Nat} (hs : s < n) (hj : j < n) : ∃ k, k < n ∧ posR n s k = j := by
 refine ⟨if s ≤ j then j - s else j + n - s, ?_, ?_⟩
 ·split <;> omega
 ·unfold posR
  split <;> split <;> omega
theorem pos_step {n s k : Nat} (hs : s < n) (hk : k < n) : (posR n s k + 1) % n = posR n s (k + 1) := by
 unfold posR
 by_cases h : s + k < n
 ·rw [if_pos h]
  by_cases h2 : s + (k + 1) < n
  ·rw [if_pos h2, Nat.mod_eq_of_lt (by omega)]; omega
  ·rw [if_neg h2, show s + k + 1 = n by omega, Nat.mod_self]; omega
 ·rw [if_neg h, if_neg (by omega), Nat.mod_eq_of_lt (by omega)]; omega
structure Arc (n : Nat) (xs : List Seg) (s c : Nat) : Prop where
 len : xs.length = n
 hs : s < n
 hc : c ≤ n
 live : ∀ k, k < n → (stG xs (posR n s k) ≠ 0 ↔ k < c)
 mids : ∀ k, k + 1 < c → stG xs (posR n s k) = 2
 rise : ∀ k, k + 1 < c → genG xs (posR n s k) < genG xs (posR n s (k + 1))
section
variable {n s c : Nat} {xs : List Seg} {sec : Int}
theorem Arc.rises (h : Arc n xs s c) (a : Nat) : ∀ d, a + d + 1 < c → genG xs (posR n s a) < genG xs (posR n s (a + d + 1))
 | 0, hd => h.rise a hd
 | d + 1, hd => Int.lt_trans (h.rises a d (by omega)) (h.rise (a + d + 1) (by omega))
theorem Arc.less (h : Arc n xs s c) {a b : Nat} (hab : a < b) (hb : b < c) : genG xs (posR n s a) < genG xs (posR n s b) := by
 have := h.rises a (b - a - 1) (by omega)
 rwa [show a + (b - a - 1) + 1 = b by omega] at this
theorem Arc.lat (h : Arc n xs s c) (h0 : 0 < c) : latR xs = (posR n s (c - 1) : Nat) := by
 have hc := h.hc
 rcases lat_or xs with ⟨_, hz⟩ | ⟨i, hi, e, hs, hm⟩
 ·exact absurd (hz _ (by rw [h.len]; exact pos_lt h.hs (k := 0) (by omega))) ((h.live 0 (by omega)).2 h0)
 ·rw [h.len] at hi
  obtain ⟨k, hk, rfl⟩ := pos_onto h.hs hi
  have hkc := (h.live k hk).1 hs
  by_cases he : k = c - 1
  ·rw [e, he]
  ·have h1 := h.less (a := k) (b := c - 1) (by omega) (by omega)
   have h2 := hm _ (by rw [h.len]; exact pos_lt h.hs (k := c - 1) (by omega)) ((h.live (c - 1) (by omega)).2 (by omega))
   omega
theorem Arc.next (h : Arc n xs s c) (h0 : 0 < c) (hc : c < n) : nxtR xs = (posR n s c : Nat) := by
 have hl := h.lat h0
 have hf : stG xs (posR n s c) = 0 := by
  by_cases h0 : stG xs (posR n s c) = 0
  ·exact h0
  ·exact absurd ((h.live c hc).1 h0) (by omega)
 have hp : ((latR xs + 1 + ((0 : Nat) : Int)).toNat % xs.length) = posR n s c := by
  rw [hl, h.len, show ((posR n s (c - 1) : Nat) : Int) + 1 + ((0 : Nat) : Int) = ((posR n s (c - 1) + 1 : Nat) : Int) by omega, Int.toNat_natCast, pos_step h.hs (by omega), show c - 1 + 1 = c by omega]
 rcases nxt_or xs with ⟨_, hz⟩ | ⟨i, hi, e, hs, hq⟩
 ·have := hz 0 (by rw [h.len]; omega)
  rw [hp] at this
  exact absurd hf this
 ·rcases Nat.eq_zero_or_pos i with rfl | hi0
  ·rw [e, hp]
  ·have := hq 0 hi0
   rw [hp] at this
   exact absurd hf this
theorem st_set {i j : Nat} {x : Seg} (hi : i < xs.length) : stG (xs.set i x) j = if i = j then x.1 else stG xs j := by
 simp only [stG, getD_set xs i j x hi]; split <;> rfl
theorem gen_set {i j : Nat} {x : Seg} (hi : i < xs.length) : genG (xs.set i x) j = if i = j then x.2.1 else genG xs j := by
 simp only [genG, getD_set xs i j x hi]; split <;> rfl
theorem Arc.old (h : Arc n xs s c) {o : Nat} (ho : oldR xs = o) : o = s ∧ 0 < c := by
 rcases old_or xs with ⟨e, _⟩ | ⟨i, hi, e, hst, hm⟩
 ·omega
 ·obtain rfl : o = i := by omega
  rw [h.len] at hi
  obtain ⟨k, hk, hki⟩ := pos_onto h.hs hi
  have hkc := (h.live k hk).1 (by rw [hki, hst]; decide)
  have hp0 : posR n s 0 = s := by unfold posR; rw [if_pos (by have := h.hs; omega)]; rfl
  refine ⟨?_, by omega⟩
  rcases Nat.eq_zero_or_pos k with rfl | hk0
  ·omega
  ·have h1 := h.less hk0 hkc
   have h2 := hm _ (by rw [h.len]; exact pos_lt h.hs (k := 0) (by omega)) (h.mids 0 (by omega))
   rw [hki] at h1
   omega
end
end
section
open Go.RowKit
def beginsN (ys : List Int) (gen : Int) (at_ : Int) : Nat :=
 if stamped ys = true ∧ genOf ys = gen ∧ posOf ys = at_ ∧ needE (meantOf ys) (meantOf ys).length = 0 then cntOf (needK (meantOf ys) (meantOf ys).length) else 0
theorem needK_le (xs : List Int) (n : Nat) : needK xs n ≤ 783 := by
 unfold needK
 split
 ·rename_i h
  have h2 := h.2
  unfold MayB May at h2
  unfold needOf
  omega
 ·omega
theorem begins_le (ys : List Int) (gen at_ : Int) : beginsN ys gen at_ ≤ 17 := by
 unfold beginsN
 split
 ·have := needK_le (meantOf ys) (meantOf ys).length
  unfold cntOf
  omega
 ·omega
theorem begins_any (ys : List Int) (gen : Int) (at_ : Nat) (w : World) (hl : ys.length = 64) (hb : Bytes ys) (hat : at_ ≤ 100000) :
 Calls Tryz.prog 127 #[.agg (cells8 ys), .int .u64 gen, .int .i64 at_] w fun e w' => e = .returned (.int .i64 (beginsN ys gen at_ : Nat)) ∧ Below w.heap.size w w' := by
 have HB0 := hI ((Below.refl w.heap.size w).alloc (nR _) (.cells (cells8 ys) 186))
 have HX0 := hI (show ArrB (w.alloc (.cells (cells8 ys) 186)) w.heap.size ys from Blk.new w _ _)
 have HL := hI hl
 have HBY := hI hb
 have hwr : IntKind.u32.wrap (at_ : Int) = (at_ : Int) := by rw [IntKind.wrap_u32]; omega
 cases hst : stamped ys with
 | false =>
  have HN := hI (show beginsN ys gen at_ = 0 by unfold beginsN; rw [if_neg (fun h => by rw [hst] at h; cases h.1)])
  have HRD := hI (fun (W : World) => read_bad ys W hl hb hst)
  clear hl hb hst
  go_enter Tryz.func127, Tryz.ntmps127
  go_wp2_with (refine wpList_load_blk (.tmp 3) rfl rfl w.heap.size 0 rfl ys HL.out HX0.out.range ?_)
  refine (HRD.out _).mono ?_
  rintro e w2 ⟨rfl, hb2⟩
  have HB2 := hI (HB0.out.trans (hb2.mono HB0.out.size))
  clear hb2
  go_wp2_with fail
  go_ret
  rw [HN.out]
  exact ⟨rfl, HB2.out.alloc HB2.out.size _⟩
 | true =>
  have HRD := hI (fun (W : World) => read_ok2 ys W hl hb hst)
  have HMB := hI (show Bytes (meantOf ys) by unfold meantOf; split; exact bytes_part hb 16 _; exact fun j => by simp)
  have hkk := needK_le (meantOf ys) (meantOf ys).length
  have hDEF : beginsN ys gen at_ = if genOf ys = gen ∧ posOf ys = (at_ : Int) ∧ needE (meantOf ys) (meantOf ys).length = 0 then cntOf (needK (meantOf ys) (meantOf ys).length) else 0 := by
   unfold beginsN
   simp [hst]
  have HDEF := hI hDEF
  obtain ⟨gg, hgg⟩ : ∃ g, genOf ys = g := ⟨_, rfl⟩
  obtain ⟨pp, hpp⟩ : ∃ g, posOf ys = g := ⟨_, rfl⟩
  obtain ⟨ff, hff⟩ : ∃ g, fillOf ys = g := ⟨_, rfl⟩
  have HND := hI (fun (A : Option Addr) (c : Nat) (W : World) (hx : RowI .u8 W (· < W.heap.size) A (meantOf ys).length (meantOf ys)) (hc : (meantOf ys).length ≤ c) => need_all A _ c (meantOf ys) _ W hx (fun b h => h) HMB.out hc)
  obtain ⟨ms, hms⟩ : ∃ g, meantOf ys = g := ⟨_, rfl⟩
  obtain ⟨nk, hnk⟩ : ∃ g, needK ms ms.length = g := ⟨_, rfl⟩
  obtain ⟨ne, hne⟩ : ∃ g, needE ms ms.length = g := ⟨_, rfl⟩
  unfold ReadTold2 at HRD
  rw [hgg, hpp, hff, hms] at HRD
  rw [hms, hnk, hne] at HND
  rw [hgg, hpp, hms, hnk, hne] at HDEF
  rw [hms, hnk] at hkk
  clear hl hb hst hDEF hgg hpp hff hms hnk hne
  go_enter Tryz.func127, Tryz.ntmps127
  go_wp2_with (refine wpList_load_blk (.tmp 3) rfl rfl w.heap.size 0 rfl ys HL.out HX0.out.range ?_)
  refine (HRD.out _).mono ?_
  rintro e w2 ⟨A, c, rfl, hrow, hb2, hnil, hcap⟩
  have HB2 := hI (HB0.out.trans (hb2.mono HB0.out.size))
  have HB3 := hI ((Below.refl w2.heap.size w2).alloc (nR _) (.cells #[.int .u64 gg, .int .u32 pp, .int .i64 (ff : Nat)] 203))
  have HROW := hI ((hrow.below HB3.out (fun b h => h.2)).more (T := (· < (w2.alloc (.cells #[.int .u64 gg, .int .u32 pp, .int .i64 (ff : Nat)] 203)).heap.size)) (fun b h => nL h.2 HB3.out.size))
  have HCAP := hI hcap
  have hk := Blk.new w2 203 #[.int .u64 gg, .int .u32 pp, .int .i64 (ff : Nat)]
  have c0 := hk.cell 0
  have c1 := hk.cell 1
  simp only [List.getElem?_toArray, List.getElem?_cons_zero, List.getElem?_cons_succ] at c0 c1
  clear hrow hb2 hnil hcap hk
  by_cases hg : gg = gen
  ·by_cases hp : pp = (at_ : Int)
   ·have hN := HND.out A c _ HROW.out HCAP.out
    have HN := hI hN
    subst hg hp
    clear hN
    go_wp2_with fail
    refine HN.out.mono ?_
    rintro e w4 ⟨rfl, hb4⟩
    have HB4 := hI ((HB2.out.trans (HB3.out.mono HB2.out.size)).trans (hb4.mono (by have := HB2.out.size; have := HB3.out.size; omega)))
    clear hb4 c0 c1
    by_cases he : ne = 0
    ·subst he
     have HSC := hI (sectors_any nk w4 (by omega))
     clear hkk
     go_wp2_with fail
     refine HSC.out.mono ?_
     rintro e w5 ⟨rfl, rfl⟩
     go_wp2
     go_ret
     rw [HDEF.out, if_pos (by simp)]
     exact ⟨rfl, HB4.out⟩
    ·have HE := hI he
     have hneb : (ne != 0) = true := by simpa using he
     clear hkk he
     go_wp2
     go_ret
     rw [HDEF.out, if_neg (fun h => HE.out h.2.2)]
     exact ⟨rfl, HB4.out⟩
   ·have HP := hI hp
    have hpb : (pp != (at_ : Int)) = true := by simpa using hp
    subst hg
    clear hp hkk
    go_wp2
    go_ret
    rw [HDEF.out, if_neg (fun h => HP.out h.2.1)]
    exact ⟨rfl, HB2.out.trans (HB3.out.mono HB2.out.size)⟩
  ·have HGN := hI hg
   have hgb : (gg != gen) = true := by simpa using hg
   clear hg hkk
   go_wp2
   go_ret
   rw [HDEF.out, if_neg (fun h => HGN.out h.1)]
   exact ⟨rfl, HB2.out.trans (HB3.out.mono HB2.out.size)⟩
end
section
open Go.RowKit
attribute [local go_sem] Oper.semAt_some
def JoinTold9 (xss : List (List Int)) (w : World) (e : Ending) (w' : World) : Prop :=
 ∃ A c, e = .returned (.tuple #[.slice A (meants xss).length c, .int .i64 0]) ∧ RowI .u8 w' (fun b => w.heap.size ≤ b ∧ b < w'.heap.size) A (meants xss).length (meants xss) ∧ Below w.heap.size w w' ∧ (meants xss).length ≤ c
def JoinAny9 (xss : List (List Int)) (w : World) (e : Ending) (w' : World) : Prop := (1 ≤ xss.length ∧ Chain xss → JoinTold9 xss w e w') ∧ (¬ (1 ≤ xss.length ∧ Chain xss) → JoinBad w e w')
theorem join_no9 {xss : List (List Int)} {w : World} {e : Ending} {w' : World} (h : ¬ (1 ≤ xss.length ∧ Chain xss)) (hb : JoinBad w e w') : JoinAny9 xss w e w' := ⟨fun k => absurd k h, fun _ => hb⟩
theorem join_any9 (A : Option Addr) (n c : Nat) (xss : List (List Int)) (S : Nat → Prop) (w : World) (hx : RowK w S A n xss) (hS : ∀ b, S b → b < w.heap.size) (hs : Secs xss) (hby : ∀ i, Bytes (xss.getD i [])) (hn : n ≤ 1000000) :
 Calls Tryz.prog 128 #[.slice A n c] w (JoinAny9 xss w) := by
 obtain ⟨i0, hi, hz0, hz1, hz2⟩ := info_parts info_u8
 have HX := hI hx
 have HL := hI hx.1
 have HS := hI hs
 have HBY := hI hby
 clear hx hs hby
 by_cases h0 : n = 0
 ·subst h0
  have hno := hI (show ¬ (1 ≤ xss.length ∧ Chain xss) from fun h => by have := HL.out; omega)
  go_enter Tryz.func128, Tryz.ntmps128
  go_wp2
  go_ret2
  exact join_no9 hno.out ⟨rfl, Below.refl _ _⟩
 have e0 : ((n : Int) == 0) = false := by simp; omega
 have hn1 : 1 ≤ n := by omega
 clear h0
 go_enter Tryz.func128, Tryz.ntmps128
 go_wp2_with fail
 have HJ0 := hI (show Joining xss w (w.alloc (.cells #[.int .u64 0, .int .u32 0, .int .i64 0] 203)) (.slice none 0 0) 0 from
  ⟨World.ownsRow_nil _ _ _ _, Blk.new w _ _, (Below.refl _ _).alloc (nR _) _, fun i h => by omega⟩)
 go_loopw [4, 16] (fun o i wr => ∃ k : Nat, k ≤ n ∧ i = .int .i64 k ∧ Joining xss w wr o k) (fun _ i _ => n - (intOf i).toNat)
 case atStart => exact ⟨0, by omega, rfl, HJ0.out⟩
 case round =>
  obtain ⟨k, hk, rfl, hj⟩ := hrel
  by_cases hlt : k < n
  ·obtain ⟨b, off, rfl, hb, hc⟩ := (HX.out.below hj.bel hS).2 (by omega)
   have hr := hc k hlt
   have hxl := HS.out.get k (by have := HL.out; omega)
   have hxb := HBY.out k
   have hbw := hS b hb
   have HJ := hI hj
   have HXK := hI (show xss.getD k [] = xss.getD k [] from rfl)
   obtain ⟨xs, hxs⟩ : ∃ xs, xs = xss.getD k [] := ⟨_, rfl⟩
   rw [← hxs] at hr hxl hxb
   have HXS := hI hxs
   have HR := hI hr
   have HXL := hI hxl
   have HXB := hI hxb
   obtain ⟨w1, hw1⟩ : ∃ w1, w1 = wr.alloc (.cells (cells8 xs) 186) := ⟨_, rfl⟩
   have HW1 := hI hw1
   have HX1 := hI (show ArrB w1 wr.heap.size xs by rw [hw1]; exact Blk.new wr _ _)
   have HB1 := hI (show Below wr.heap.size wr w1 by rw [hw1]; exact (Below.refl _ _).alloc (nR _) _)
   clear hc hj hxs hr hxl hxb hw1
   go_wp2_with (first
    | (refine wpList_load_blk (.tmp 19) rfl rfl b (off + k * 64) rfl xs HXL.out HR.out ?_)
    | (refine wpList_alloc_blk rfl rfl ?_)
    | (refine wpList_store_new (.tmp 7) (.tmp 20) rfl rfl wr xs rfl rfl (noughts 64) rfl (noughts_length 64) HXL.out ?_; rw [← HW1.out])
    | (refine wpList_load_blk (.tmp 7) rfl rfl wr.heap.size 0 rfl xs HXL.out HX1.out.range ?_))
   by_cases hst : stamped xs = true
   case neg =>
    have hst : stamped xs = false := by simpa using hst
    have hno := hI (not_chain (k := k) (xss := xss) (by have := HL.out; omega) (fun h => by have h := h.1; rw [← HXS.out, hst] at h; cases h))
    refine (read_bad xs w1 HXL.out HXB.out hst).mono ?_
    rintro e w2 ⟨rfl, hb2⟩
    have HB2 := hI ((HJ.out.bel.trans (HB1.out.mono HJ.out.bel.size)).trans (hb2.mono (nT HJ.out.bel.size HB1.out.size)))
    clear hst hb2
    go_wp2_with fail
    go_ret2
    exact join_no9 hno.out ⟨rfl, HB2.out.alloc HB2.out.size _⟩
   refine (read_ok_s5 xs w1 HXL.out HXB.out hst).mono ?_
   rintro e w2 ⟨A2, c2, rfl, hr2, hb2, hn2⟩
   have HN2 := hI hn2
   clear hn2
   have HST := hI hst
   have HR2 := hI hr2
   have HB2 := hI (HB1.out.trans (hb2.mono HB1.out.size))
   obtain ⟨w3, hw3⟩ : ∃ w3, w3 = w2.alloc (.cells #[.int .u64 (genOf xs), .int .u32 (posOf xs), .int .i64 (fillOf xs)] 203) := ⟨_, rfl⟩
   have hb3 : Below w2.heap.size w2 w3 := by rw [hw3]; exact (Below.refl _ _).alloc (nR _) _
   have HS3 := hI (show Blk w3 w2.heap.size 203 #[.int .u64 (genOf xs), .int .u32 (posOf xs), .int .i64 (fillOf xs)] by rw [hw3]; exact Blk.new w2 _ _)
   have HR3 := hI (HR2.out.below hb3 (fun b h => h.2))
   have HB3 := hI (HB2.out.trans (hb3.mono HB2.out.size))
   have HW3 := hI hw3
   clear hst hr2 hb2 hw3 hb3
   by_cases hk0 : k = 0
   ·subst hk0
    have HCH := hI (show ChainAt xss 0 from ⟨by rw [← HXS.out]; exact HST.out, fun h => by omega⟩)
    have ho4 := own_below HJ.out.own HB3.out
    have HO4 := hI ho4
    have hlo := meants_length xss 0 (by have := HL.out; omega)
    have hml := meant_le xs
    have HLT := hI HJ.out.own.lt
    have hsz4 : w.heap.size + 1 ≤ w3.heap.size := by have := HJ.out.st.lt; have := HB3.out.size; omega
    clear ho4
    go_wp2_with (first
     | rw [← HW3.out]
     | (at_builtin; refine wpList_append_rowG rfl (.tmp 39) (.tmp 40) 31 rfl (w.heap.size + 1) 5 i0 (.int .u8 0) 1 Tryz.underlying31 hi hz0 hz1 hz2 rfl (fun _ => rfl) u4 _ _ rfl HO4.out _ A2 (meantOf xs).length c2 (meantOf xs) rfl HR3.out HN2.out (by unfold maxLen; omega) (by omega) hsz4 ?_; intro v' w5 hown' hgrow' _; have HO5 := hI hown'; have HG5 := hI hgrow'; clear hown' hgrow';
         have hs5 : Blk w5 w2.heap.size 203 #[.int .u64 (genOf xs), .int .u32 (posOf xs), .int .i64 (fillOf xs)] := HS3.out.grown HG5.out (fun e => by have := HLT.out _ e.symm; have := HB2.out.size; omega);
         have ha5 : Blk w5 w.heap.size 203 (aheadOf xss 0) := (HJ.out.st.below HB3.out HJ.out.st.lt).grown HG5.out (fun e => by have := HLT.out _ e.symm; omega);
         obtain ⟨a0, a1, a2, ha⟩ : ∃ a0 a1 a2 : Value, aheadOf xss 0 = #[a0, a1, a2] := by { unfold aheadOf; split <;> exact ⟨_, _, _, rfl⟩ };
         rw [ha] at ha5; clear ha;
         have p0 := hs5.cell 0; have p1 := hs5.cell 1; have p2 := hs5.cell 2; have q0 := ha5.cell 0; have q1 := ha5.cell 1; have q2 := ha5.cell 2; have y0 := ha5.frozen 0; have y1 := ha5.frozen 1; have y2 := ha5.frozen 2;
         simp only [List.getElem?_toArray, List.getElem?_cons_zero, List.getElem?_cons_succ] at p0 p1 p2 q0 q1 q2;
         clear hs5 ha5))
    go_roundw
    case rel => exact ⟨0 + 1, by omega, by go_num, HJ.out.next (by have := HL.out; omega) HXS.out HCH.out HB3.out HO5.out HG5.out⟩
    case measure => (simp [intOf] <;> omega)
   ·have HA3 := hI (show Blk w3 w.heap.size 203 #[.int .u64 (genOf (xss.getD (k - 1) [])), .int .u32 (posOf (xss.getD (k - 1) [])), .int .i64 (fillOf (xss.getD (k - 1) []))] by
     have := HJ.out.st.below HB3.out HJ.out.st.lt
     unfold aheadOf at this
     rw [if_neg hk0] at this
     exact this)
    have hk1 : (0 : Int) < k := by omega
    have hpb := pos_bounds HXB.out HXL.out
    have hpl := HS.out.get (k - 1) (by have := HL.out; omega)
    have hpf := fill_lt (HBY.out (k - 1))
    obtain ⟨ps, hps⟩ : ∃ ps, ps = xss.getD (k - 1) [] := ⟨_, rfl⟩
    rw [← hps] at HA3 hpl hpf
    have HPS := hI hps
    have HK0 := hI hk0
    have hfol := fun W => follows_any (genOf ps) (posOf ps) (fillOf ps) (genOf xs) (posOf xs) (fillOf xs) W hpb.1 hpb.2 (by omega) (by omega)
    obtain ⟨lb, hlb⟩ : ∃ lb, linkB ps xs = lb := ⟨_, rfl⟩
    have hlb' : folB (genOf ps) (posOf ps) (fillOf ps) (genOf xs) (posOf xs) = lb := hlb
    rw [hlb'] at hfol
    have HFOL := hI hfol
    have HLB := hI hlb
    have g0 := HS3.out.cell 0
    have g1 := HS3.out.cell 1
    have g2 := HS3.out.cell 2
    have f0 := HA3.out.cell 0
    have f1 := HA3.out.cell 1
    have f2 := HA3.out.cell 2
    simp only [List.getElem?_toArray, List.getElem?_cons_zero, List.getElem?_cons_succ] at g0 g1 g2 f0 f1 f2
    clear hfol hlb hlb' hps hk0 hpl hpb
    cases lb with
    | false =>
     have hno := hI (not_chain (k := k) (xss := xss) (by have := HL.out; omega) (fun h => by have h := h.2 (by omega); rw [← HXS.out, ← HPS.out, HLB.out] at h; cases h))
     go_wp2_with (first
      | rw [← HW3.out]
      | (go_at_call 177; refine (HFOL.out _).mono ?_; rintro e w4 ⟨rfl, hb4⟩; have HB4 := hI hb4; clear hb4))
     go_ret2
     exact join_no9 hno.out ⟨rfl, (HJ.out.bel.trans (HB3.out.mono HJ.out.bel.size)).trans (HB4.out.mono (nT HJ.out.bel.size HB3.out.size))⟩
    | true =>
     have HCH := hI (show ChainAt xss k from ⟨by rw [← HXS.out]; exact HST.out, fun _ => by rw [← HXS.out, ← HPS.out]; exact HLB.out⟩)
     go_wp2_with (rw [← HW3.out])
     refine (HFOL.out _).mono ?_
     rintro e w4 ⟨rfl, hb4⟩
     have HB34 := hI (HB3.out.trans (hb4.mono HB3.out.size))
     have HR4 := hI (HR3.out.below hb4 (fun b h => by have := h.2; have := HS3.out.lt; omega))
     have HS4 := hI (HS3.out.below hb4 HS3.out.lt)
     clear hb4 g0 g1 g2 f0 f1 f2
     have ho4 := own_below HJ.out.own HB34.out
     have HO4 := hI ho4
     have hlo := meants_length xss k (by have := HL.out; omega)
     have hml := meant_le xs
     have HLT := hI HJ.out.own.lt
     have hsz4 : w.heap.size + 1 ≤ w4.heap.size := by have := HJ.out.st.lt; have := HB34.out.size; omega
     clear ho4
     go_wp2_with (first
      | (at_builtin; refine wpList_append_rowG rfl (.tmp 39) (.tmp 40) 31 rfl (w.heap.size + 1) 5 i0 (.int .u8 0) 1 Tryz.underlying31 hi hz0 hz1 hz2 rfl (fun _ => rfl) u4 _ _ rfl HO4.out _ A2 (meantOf xs).length c2 (meantOf xs) rfl HR4.out HN2.out (by unfold maxLen; omega) (by omega) hsz4 ?_; intro v' w5 hown' hgrow' _; have HO5 := hI hown'; have HG5 := hI hgrow'; clear hown' hgrow';
          have hs5 : Blk w5 w2.heap.size 203 #[.int .u64 (genOf xs), .int .u32 (posOf xs), .int .i64 (fillOf xs)] := HS4.out.grown HG5.out (fun e => by have := HLT.out _ e.symm; have := HB2.out.size; omega);
          have ha5 : Blk w5 w.heap.size 203 (aheadOf xss k) := (HJ.out.st.below HB34.out HJ.out.st.lt).grown HG5.out (fun e => by have := HLT.out _ e.symm; omega);
          obtain ⟨a0, a1, a2, ha⟩ : ∃ a0 a1 a2 : Value, aheadOf xss k = #[a0, a1, a2] := by { unfold aheadOf; split <;> exact ⟨_, _, _, rfl⟩ };
          rw [ha] at ha5; clear ha;
          have p0 := hs5.cell 0; have p1 := hs5.cell 1; have p2 := hs5.cell 2; have q0 := ha5.cell 0; have q1 := ha5.cell 1; have q2 := ha5.cell 2; have y0 := ha5.frozen 0; have y1 := ha5.frozen 1; have y2 := ha5.frozen 2;
          simp only [List.getElem?_toArray, List.getElem?_cons_zero, List.getElem?_cons_succ] at p0 p1 p2 q0 q1 q2;
          clear hs5 ha5))
     go_roundw
     case rel => exact ⟨k + 1, by omega, by go_num, HJ.out.next (by have := HL.out; omega) HXS.out HCH.out HB34.out HO5.out HG5.out⟩
     case measure => (simp [intOf] <;> omega)
  ·obtain rfl : k = n := by omega
   have hch : Chain xss := fun i hi => hj.chain i (by have := HL.out; omega)
   have hmt : meants (xss.take k) = meants xss := by rw [List.take_of_length_le (by have := HL.out; omega)]
   have ho := hj.own
   rw [hmt] at ho
   obtain ⟨A2, c2, rfl, hc1, hc2, hr2⟩ := rowG_own 0 ho
   have HR2 := hI hr2
   have HCH := hI hch
   have HBEL := hI hj.bel
   have HC9 := hI hc1
   clear hch hmt ho hj hr2 hc1 hc2
   go_wp2
   go_ret2
   exact ⟨fun _ => ⟨_, _, rfl, HR2.out.more (fun b h => ⟨by omega, h.2.1⟩), HBEL.out, HC9.out⟩, fun h => absurd ⟨by have := HL.out; omega, HCH.out⟩ h⟩
end
end Go.Proofs.YtjmjhldjablfeaaGreat
