/- Package ring: turned, by each of its four closures. -/
import Derived.Test.YtkmbbfdjdmkjpaaCopyR
namespace Go.Proofs.Ytkmbbfdjdmkjpaa
open Go.RowKit
set_option linter.unusedVariables false
set_option linter.unusedSimpArgs false

/-- A row of segments that is the call's own: it reads as the list, and can be written. -/
def OwnZ (w : World) (base : Nat) (A : Option Addr) (n cap : Nat) (xs : List Seg) : Prop :=
  xs.length = n ∧ w.ownsRow base 78 3 (.slice A n cap) n (flatG xs) ∧ (A = none → cap = 0) ∧ n ≤ cap
theorem OwnZ.row {w : World} {base : Nat} {A : Option Addr} {n cap : Nat} {xs : List Seg} (h : OwnZ w base A n cap xs) : RowZ w (From base w) A n xs := by
  obtain ⟨A', cap', e, _, _, hr⟩ := rowZ_own h.2.1 rfl h.1
  injection e with e1 _ e2
  subst e1 e2
  exact hr
theorem OwnZ.below {w W : World} {base : Nat} {A : Option Addr} {n cap : Nat} {xs : List Seg} (h : OwnZ w base A n cap xs) (hb : Below w.heap.size w W) : OwnZ W base A n cap xs := ⟨h.1, own_below h.2.1 hb, h.2.2⟩
theorem OwnZ.base {w : World} {base m : Nat} {A : Option Addr} {n cap : Nat} {xs : List Seg} (h : OwnZ w base A n cap xs) (hm : m ≤ base) : OwnZ w m A n cap xs := ⟨h.1, own_base h.2.1 hm, h.2.2⟩
theorem ArrS.own {w : World} {g base n : Nat} {xs : List Seg} (h : ArrS w g xs) (hb : base ≤ g) (hn : xs.length = n) (hc : n ≤ 1000000) : OwnZ w base (some ⟨g, 0, none⟩) n n xs :=
  ⟨hn, ⟨by rw [flatG_length, hn], .inr ⟨g, n, (flatG xs).toArray, rfl, hb, h, Nat.le_refl _, by unfold maxLen; omega, by simp [flatG_length, hn], by rw [← hn, ← flatG_length]; simp⟩⟩, (fun h => by cases h), Nat.le_refl _⟩

theorem ArrS.cells {w : World} {g i : Nat} {xs : List Seg} {a b c : Int} (h : ArrS w g xs) (hi : i < xs.length) (hx : xs.getD i seg0 = (a, b, c)) :
    w.cell? ⟨g, i * 3, none⟩ = some (.int .i64 a) ∧ w.cell? ⟨g, i * 3 + 1, none⟩ = some (.int .u64 b) ∧ w.cell? ⟨g, i * 3 + 2, none⟩ = some (.int .i64 c) := by
  have key : ∀ j v, j < 3 → (segC (a, b, c))[j]? = some v → w.cell? ⟨g, i * 3 + j, none⟩ = some v := fun j v hj hv => by
    rw [Blk.cell h, List.getElem?_toArray, flatG_get xs _ (by omega), show (i * 3 + j) / 3 = i by omega, show (i * 3 + j) % 3 = j by omega, hx]
    exact hv
  exact ⟨key 0 _ (by omega) rfl, key 1 _ (by omega) rfl, key 2 _ (by omega) rfl⟩

/-! The closures. -/
set_option maxRecDepth 100000 in
theorem clo_open (s : Seg) (g : Int) (G : Nat) (w : World) (hG : w.cell? ⟨G, 0, none⟩ = some (.int .u64 g)) (hlt : G < w.heap.size) :
    Calls Try.prog 91 #[.agg (segC s).toArray, .pointer (some ⟨G, 0, none⟩)] w fun e w' => e = .returned (.agg (segC (1, g, 1)).toArray) ∧ Below w.heap.size w w' := by
  obtain ⟨a, b, c⟩ := s
  go_enter Try.func91, Try.ntmps91
  go_wp2
  exact Halt.ret (results_row1 rfl _ _ (w.heap.size + 1) 78 (segC (1, g, 1)).toArray _ rfl (blk_new2 w _ _ _) Try.underlying78 rfl size_seg) rfl ⟨rfl, ((Below.refl _ w).alloc (Nat.le_refl _) _).alloc (by simp) _⟩
set_option maxRecDepth 100000 in
theorem clo_use (s : Seg) (n : Int) (G : Nat) (w : World) (hG : w.cell? ⟨G, 0, none⟩ = some (.int .i64 n)) (hlt : G < w.heap.size) :
    Calls Try.prog 96 #[.agg (segC s).toArray, .pointer (some ⟨G, 0, none⟩)] w fun e w' => e = .returned (.agg (segC (s.1, s.2.1, wrap64 (s.2.2 + n))).toArray) ∧ Below w.heap.size w w' := by
  obtain ⟨a, b, c⟩ := s
  go_enter Try.func96, Try.ntmps96
  go_wp2
  exact Halt.ret (results_row1 rfl _ _ (w.heap.size + 1) 78 (segC (a, b, wrap64 (c + n))).toArray _ rfl (blk_new2 w _ _ _) Try.underlying78 rfl size_seg) rfl ⟨rfl, ((Below.refl _ w).alloc (Nat.le_refl _) _).alloc (by simp) _⟩
set_option maxRecDepth 100000 in
theorem clo_seal (s : Seg) (w : World) :
    Calls Try.prog 97 #[.agg (segC s).toArray] w fun e w' => e = .returned (.agg (segC (2, s.2.1, s.2.2)).toArray) ∧ Below w.heap.size w w' := by
  obtain ⟨a, b, c⟩ := s
  go_enter Try.func97, Try.ntmps97
  go_wp2
  exact Halt.ret (results_row1 rfl _ _ (w.heap.size + 1) 78 (segC (2, b, c)).toArray _ rfl (blk_new2 w _ _ _) Try.underlying78 rfl size_seg) rfl ⟨rfl, ((Below.refl _ w).alloc (Nat.le_refl _) _).alloc (by simp) _⟩
set_option maxRecDepth 100000 in
theorem clo_free (s : Seg) (w : World) :
    Calls Try.prog 98 #[.agg (segC s).toArray] w fun e w' => e = .returned (.agg (segC seg0).toArray) ∧ Below w.heap.size w w' := by
  obtain ⟨a, b, c⟩ := s
  go_enter Try.func98, Try.ntmps98
  go_wp2
  exact Halt.ret (results_row1 rfl _ _ (w.heap.size + 1) 78 (segC seg0).toArray _ rfl (blk_new2 w _ _ _) Try.underlying78 rfl size_seg) rfl ⟨rfl, ((Below.refl _ w).alloc (Nat.le_refl _) _).alloc (by simp) _⟩

set_option maxRecDepth 100000 in
set_option maxHeartbeats 2000000 in
theorem turned_seal {w : World} {A : Option Addr} {n cap : Nat} {xs : List Seg} (h : RowZ w (· < w.heap.size) A n xs) (sec : Int) (hn : n ≤ 1000) (i : Nat) (hi : i < n) :
    Calls Try.prog 92 #[ringV sec A n cap, .int .i64 i, .func (.func 97) #[] #[]] w fun e w' => (∃ A' cap', e = .returned (ringV sec A' n cap') ∧ OwnZ w' w.heap.size A' n cap' (xs.set i (2, genG xs i, usedG xs i))) ∧ Below w.heap.size w w' := by
  have hn6 : n ≤ 1000000 := by omega
  have h0n : 0 < n := by omega
  have HB := Lib.hid ((((Below.refl w.heap.size w).alloc (Nat.le_refl _) (.cells #[.int .i64 sec, .slice A n cap] 66)).alloc (by simp) (.cells #[.int .i64 0, .slice none 0 0] 66)).alloc (by simp; omega) (.cells (flatG (List.replicate n seg0)).toArray 78))
  have HX := Lib.hid (row_now h HB.out)
  have HK0 := Lib.hid (((Blk.new w 66 #[.int .i64 sec, .slice A n cap]).alloc (.cells #[.int .i64 0, .slice none 0 0] 66)).alloc (.cells (flatG (List.replicate n seg0)).toArray 78))
  have HK1 := Lib.hid ((blk_new2 w (.cells #[.int .i64 sec, .slice A n cap] 66) 66 #[.int .i64 0, .slice none 0 0]).alloc (.cells (flatG (List.replicate n seg0)).toArray 78))
  have HG := Lib.hid (show ArrS _ (w.heap.size + 1 + 1) (List.replicate n seg0) from blk_new3 w (.cells #[.int .i64 sec, .slice A n cap] 66) (.cells #[.int .i64 0, .slice none 0 0] 66) 78 (flatG (List.replicate n seg0)).toArray)
  have hl := h.1
  have HL := Lib.hid hl
  have hlx : i < xs.length := by omega
  have HLX := Lib.hid hlx
  obtain ⟨q0, q1⟩ := ring_cells HK0.out
  clear h hl hlx
  obtain ⟨st, g, u, hx⟩ : ∃ st g u, xs.getD i seg0 = (st, g, u) := ⟨_, _, _, rfl⟩
  rw [show ((2, genG xs i, usedG xs i) : Seg) = (2, g, u) by simp only [stG, genG, usedG, hx]]
  have HXI := Lib.hid hx
  clear hx
  go_enter Try.func92, Try.ntmps92
  go_wp2_with (first
    | (refine wpList_make_segs _ _ rfl rfl _ _ n n rfl rfl rfl rfl (Nat.le_refl _) hn6 ?_)
    | (refine wpList_copy_segs (.tmp 12) (.tmp 14) rfl rfl (w.heap.size + 1 + 1) n n cap A rfl rfl _ xs (List.replicate n seg0) HX.out HG.out (by simp) h0n ?_
       have HG1 := Lib.hid (HG.out.setRow xs)
       have n1 : w.heap.size ≠ w.heap.size + 1 + 1 := by omega
       have n2 : w.heap.size + 1 ≠ w.heap.size + 1 + 1 := by omega
       have HB1 := Lib.hid (below_setRow HB.out (g := w.heap.size + 1 + 1) (by omega) (flatG xs).toArray)
       have HK2 := Lib.hid (HK0.out.kept ((Kept.refl (fun b => b ≠ w.heap.size + 1 + 1) _).setRow (g := w.heap.size + 1 + 1) (fun h => h rfl) (flatG xs).toArray) n1)
       have HK3 := Lib.hid (HK1.out.kept ((Kept.refl (fun b => b ≠ w.heap.size + 1 + 1) _).setRow (g := w.heap.size + 1 + 1) (fun h => h rfl) (flatG xs).toArray) n2)
       obtain ⟨c0, c1, c2⟩ := ArrS.cells HG1.out HLX.out HXI.out
       clear n1 n2)
    | (go_at_call 97; refine (clo_seal (st, g, u) _).mono ?_; rintro e w4 ⟨rfl, hb4⟩
       have HB4 := Lib.hid (HB1.out.trans (hb4.mono HB1.out.size))
       have HG4 := Lib.hid (HG1.out.below hb4 HG1.out.lt)
       have HK5 := Lib.hid (HK2.out.below hb4 HK2.out.lt)
       have HK6 := Lib.hid (HK3.out.below hb4 HK3.out.lt)
       clear hb4)
    | (refine wpList_store_seg (.tmp 24) (.tmp 23) rfl rfl (w.heap.size + 1 + 1) i (2, g, u) rfl rfl xs HG4.out HLX.out ?_
       have HG5 := Lib.hid (HG4.out.setRow (xs.set i (2, g, u)))
       have n1 : w.heap.size ≠ w.heap.size + 1 + 1 := by omega
       have n2 : w.heap.size + 1 ≠ w.heap.size + 1 + 1 := by omega
       have HB5 := Lib.hid (below_setRow HB4.out (g := w.heap.size + 1 + 1) (by omega) (flatG (xs.set i (2, g, u))).toArray)
       have HK7 := Lib.hid (HK5.out.kept ((Kept.refl (fun b => b ≠ w.heap.size + 1 + 1) _).setRow (g := w.heap.size + 1 + 1) (fun h => h rfl) (flatG (xs.set i (2, g, u))).toArray) n1)
       have HK8 := Lib.hid (HK6.out.kept ((Kept.refl (fun b => b ≠ w.heap.size + 1 + 1) _).setRow (g := w.heap.size + 1 + 1) (fun h => h rfl) (flatG (xs.set i (2, g, u))).toArray) n2)
       obtain ⟨q0, q1⟩ := ring_cells HK7.out
       obtain ⟨p0, p1⟩ := ring_cells HK8.out
       obtain ⟨f0, f1⟩ := And.intro (HK7.out.frozen 0) (HK7.out.frozen 1)
       obtain ⟨g0, g1⟩ := And.intro (HK8.out.frozen 0) (HK8.out.frozen 1)
       clear n1 n2)
    | (with_reducible refine halt_end ?_))
  have n1 : w.heap.size + 1 ≠ w.heap.size := by omega
  have n2 : w.heap.size + 1 + 1 ≠ w.heap.size := by omega
  have n3 : w.heap.size + 1 + 1 ≠ w.heap.size + 1 := by omega
  have hst := ((HK8.out.far (p := ⟨w.heap.size, 1, none⟩) n1 (.slice (some ⟨w.heap.size + 1 + 1, 0, none⟩) n n)).set_ 0 (.int .i64 sec)).set_ 1 (.slice (some ⟨w.heap.size + 1 + 1, 0, none⟩) n n)
  have harr : ArrS _ (w.heap.size + 1 + 1) (xs.set i (2, g, u)) := ((Blk.far HG5.out (p := ⟨w.heap.size, 1, none⟩) n2 (.slice (some ⟨w.heap.size + 1 + 1, 0, none⟩) n n)).far (p := ⟨w.heap.size + 1, 0, none⟩) n3 (.int .i64 sec)).far (p := ⟨w.heap.size + 1, 1, none⟩) n3 (.slice (some ⟨w.heap.size + 1 + 1, 0, none⟩) n n)
  have hbel := ((HB5.out.setCell (p := ⟨w.heap.size, 1, none⟩) (Nat.le_refl _) (.slice (some ⟨w.heap.size + 1 + 1, 0, none⟩) n n)).setCell (p := ⟨w.heap.size + 1, 0, none⟩) (by simp) (.int .i64 sec)).setCell (p := ⟨w.heap.size + 1, 1, none⟩) (by simp) (.slice (some ⟨w.heap.size + 1 + 1, 0, none⟩) n n)
  exact Halt.ret (results_row1 rfl _ _ (w.heap.size + 1) 66 #[.int .i64 sec, .slice (some ⟨w.heap.size + 1 + 1, 0, none⟩) n n] _ rfl hst Try.underlying66 rfl size_ring) rfl ⟨⟨_, _, rfl, harr.own (by omega) (by rw [List.length_set, HL.out]) hn6⟩, hbel⟩

set_option maxRecDepth 100000 in
set_option maxHeartbeats 2000000 in
theorem turned_free {w : World} {A : Option Addr} {n cap : Nat} {xs : List Seg} (h : RowZ w (· < w.heap.size) A n xs) (sec : Int) (hn : n ≤ 1000) (i : Nat) (hi : i < n) :
    Calls Try.prog 92 #[ringV sec A n cap, .int .i64 i, .func (.func 98) #[] #[]] w fun e w' => (∃ A' cap', e = .returned (ringV sec A' n cap') ∧ OwnZ w' w.heap.size A' n cap' (xs.set i seg0)) ∧ Below w.heap.size w w' := by
  have hn6 : n ≤ 1000000 := by omega
  have h0n : 0 < n := by omega
  have HB := Lib.hid ((((Below.refl w.heap.size w).alloc (Nat.le_refl _) (.cells #[.int .i64 sec, .slice A n cap] 66)).alloc (by simp) (.cells #[.int .i64 0, .slice none 0 0] 66)).alloc (by simp; omega) (.cells (flatG (List.replicate n seg0)).toArray 78))
  have HX := Lib.hid (row_now h HB.out)
  have HK0 := Lib.hid (((Blk.new w 66 #[.int .i64 sec, .slice A n cap]).alloc (.cells #[.int .i64 0, .slice none 0 0] 66)).alloc (.cells (flatG (List.replicate n seg0)).toArray 78))
  have HK1 := Lib.hid ((blk_new2 w (.cells #[.int .i64 sec, .slice A n cap] 66) 66 #[.int .i64 0, .slice none 0 0]).alloc (.cells (flatG (List.replicate n seg0)).toArray 78))
  have HG := Lib.hid (show ArrS _ (w.heap.size + 1 + 1) (List.replicate n seg0) from blk_new3 w (.cells #[.int .i64 sec, .slice A n cap] 66) (.cells #[.int .i64 0, .slice none 0 0] 66) 78 (flatG (List.replicate n seg0)).toArray)
  have hl := h.1
  have HL := Lib.hid hl
  have hlx : i < xs.length := by omega
  have HLX := Lib.hid hlx
  obtain ⟨q0, q1⟩ := ring_cells HK0.out
  clear h hl hlx
  obtain ⟨st, g, u, hx⟩ : ∃ st g u, xs.getD i seg0 = (st, g, u) := ⟨_, _, _, rfl⟩
  rw [show (seg0 : Seg) = (0, 0, 0) from rfl]
  have HXI := Lib.hid hx
  clear hx
  go_enter Try.func92, Try.ntmps92
  go_wp2_with (first
    | (refine wpList_make_segs _ _ rfl rfl _ _ n n rfl rfl rfl rfl (Nat.le_refl _) hn6 ?_)
    | (refine wpList_copy_segs (.tmp 12) (.tmp 14) rfl rfl (w.heap.size + 1 + 1) n n cap A rfl rfl _ xs (List.replicate n seg0) HX.out HG.out (by simp) h0n ?_
       have HG1 := Lib.hid (HG.out.setRow xs)
       have n1 : w.heap.size ≠ w.heap.size + 1 + 1 := by omega
       have n2 : w.heap.size + 1 ≠ w.heap.size + 1 + 1 := by omega
       have HB1 := Lib.hid (below_setRow HB.out (g := w.heap.size + 1 + 1) (by omega) (flatG xs).toArray)
       have HK2 := Lib.hid (HK0.out.kept ((Kept.refl (fun b => b ≠ w.heap.size + 1 + 1) _).setRow (g := w.heap.size + 1 + 1) (fun h => h rfl) (flatG xs).toArray) n1)
       have HK3 := Lib.hid (HK1.out.kept ((Kept.refl (fun b => b ≠ w.heap.size + 1 + 1) _).setRow (g := w.heap.size + 1 + 1) (fun h => h rfl) (flatG xs).toArray) n2)
       obtain ⟨c0, c1, c2⟩ := ArrS.cells HG1.out HLX.out HXI.out
       clear n1 n2)
    | (go_at_call 98; refine (clo_free (st, g, u) _).mono ?_; rintro e w4 ⟨rfl, hb4⟩
       have HB4 := Lib.hid (HB1.out.trans (hb4.mono HB1.out.size))
       have HG4 := Lib.hid (HG1.out.below hb4 HG1.out.lt)
       have HK5 := Lib.hid (HK2.out.below hb4 HK2.out.lt)
       have HK6 := Lib.hid (HK3.out.below hb4 HK3.out.lt)
       clear hb4)
    | (refine wpList_store_seg (.tmp 24) (.tmp 23) rfl rfl (w.heap.size + 1 + 1) i (0, 0, 0) rfl rfl xs HG4.out HLX.out ?_
       have HG5 := Lib.hid (HG4.out.setRow (xs.set i (0, 0, 0)))
       have n1 : w.heap.size ≠ w.heap.size + 1 + 1 := by omega
       have n2 : w.heap.size + 1 ≠ w.heap.size + 1 + 1 := by omega
       have HB5 := Lib.hid (below_setRow HB4.out (g := w.heap.size + 1 + 1) (by omega) (flatG (xs.set i (0, 0, 0))).toArray)
       have HK7 := Lib.hid (HK5.out.kept ((Kept.refl (fun b => b ≠ w.heap.size + 1 + 1) _).setRow (g := w.heap.size + 1 + 1) (fun h => h rfl) (flatG (xs.set i (0, 0, 0))).toArray) n1)
       have HK8 := Lib.hid (HK6.out.kept ((Kept.refl (fun b => b ≠ w.heap.size + 1 + 1) _).setRow (g := w.heap.size + 1 + 1) (fun h => h rfl) (flatG (xs.set i (0, 0, 0))).toArray) n2)
       obtain ⟨q0, q1⟩ := ring_cells HK7.out
       obtain ⟨p0, p1⟩ := ring_cells HK8.out
       obtain ⟨f0, f1⟩ := And.intro (HK7.out.frozen 0) (HK7.out.frozen 1)
       obtain ⟨g0, g1⟩ := And.intro (HK8.out.frozen 0) (HK8.out.frozen 1)
       clear n1 n2)
    | (with_reducible refine halt_end ?_))
  have n1 : w.heap.size + 1 ≠ w.heap.size := by omega
  have n2 : w.heap.size + 1 + 1 ≠ w.heap.size := by omega
  have n3 : w.heap.size + 1 + 1 ≠ w.heap.size + 1 := by omega
  have hst := ((HK8.out.far (p := ⟨w.heap.size, 1, none⟩) n1 (.slice (some ⟨w.heap.size + 1 + 1, 0, none⟩) n n)).set_ 0 (.int .i64 sec)).set_ 1 (.slice (some ⟨w.heap.size + 1 + 1, 0, none⟩) n n)
  have harr : ArrS _ (w.heap.size + 1 + 1) (xs.set i (0, 0, 0)) := ((Blk.far HG5.out (p := ⟨w.heap.size, 1, none⟩) n2 (.slice (some ⟨w.heap.size + 1 + 1, 0, none⟩) n n)).far (p := ⟨w.heap.size + 1, 0, none⟩) n3 (.int .i64 sec)).far (p := ⟨w.heap.size + 1, 1, none⟩) n3 (.slice (some ⟨w.heap.size + 1 + 1, 0, none⟩) n n)
  have hbel := ((HB5.out.setCell (p := ⟨w.heap.size, 1, none⟩) (Nat.le_refl _) (.slice (some ⟨w.heap.size + 1 + 1, 0, none⟩) n n)).setCell (p := ⟨w.heap.size + 1, 0, none⟩) (by simp) (.int .i64 sec)).setCell (p := ⟨w.heap.size + 1, 1, none⟩) (by simp) (.slice (some ⟨w.heap.size + 1 + 1, 0, none⟩) n n)
  exact Halt.ret (results_row1 rfl _ _ (w.heap.size + 1) 66 #[.int .i64 sec, .slice (some ⟨w.heap.size + 1 + 1, 0, none⟩) n n] _ rfl hst Try.underlying66 rfl size_ring) rfl ⟨⟨_, _, rfl, harr.own (by omega) (by rw [List.length_set, HL.out]) hn6⟩, hbel⟩

set_option maxRecDepth 100000 in
set_option maxHeartbeats 2000000 in
theorem turned_open {w : World} {A : Option Addr} {n cap : Nat} {xs : List Seg} (h : RowZ w (· < w.heap.size) A n xs) (sec : Int) (hn : n ≤ 1000) (i : Nat) (hi : i < n) (v : Int) (G : Nat) (hG : G < w.heap.size) (hc : w.cell? ⟨G, 0, none⟩ = some (.int .u64 v)) :
    Calls Try.prog 92 #[ringV sec A n cap, .int .i64 i, .func (.func 91) #[] #[.pointer (some ⟨G, 0, none⟩)]] w fun e w' => (∃ A' cap', e = .returned (ringV sec A' n cap') ∧ OwnZ w' w.heap.size A' n cap' (xs.set i (1, v, 1))) ∧ Below w.heap.size w w' := by
  have hn6 : n ≤ 1000000 := by omega
  have h0n : 0 < n := by omega
  have HB := Lib.hid ((((Below.refl w.heap.size w).alloc (Nat.le_refl _) (.cells #[.int .i64 sec, .slice A n cap] 66)).alloc (by simp) (.cells #[.int .i64 0, .slice none 0 0] 66)).alloc (by simp; omega) (.cells (flatG (List.replicate n seg0)).toArray 78))
  have HX := Lib.hid (row_now h HB.out)
  have HK0 := Lib.hid (((Blk.new w 66 #[.int .i64 sec, .slice A n cap]).alloc (.cells #[.int .i64 0, .slice none 0 0] 66)).alloc (.cells (flatG (List.replicate n seg0)).toArray 78))
  have HK1 := Lib.hid ((blk_new2 w (.cells #[.int .i64 sec, .slice A n cap] 66) 66 #[.int .i64 0, .slice none 0 0]).alloc (.cells (flatG (List.replicate n seg0)).toArray 78))
  have HG := Lib.hid (show ArrS _ (w.heap.size + 1 + 1) (List.replicate n seg0) from blk_new3 w (.cells #[.int .i64 sec, .slice A n cap] 66) (.cells #[.int .i64 0, .slice none 0 0] 66) 78 (flatG (List.replicate n seg0)).toArray)
  have hl := h.1
  have HCV := Lib.hid hc
  clear hc
  have HL := Lib.hid hl
  have hlx : i < xs.length := by omega
  have HLX := Lib.hid hlx
  obtain ⟨q0, q1⟩ := ring_cells HK0.out
  clear h hl hlx
  obtain ⟨st, g, u, hx⟩ : ∃ st g u, xs.getD i seg0 = (st, g, u) := ⟨_, _, _, rfl⟩
  have HXI := Lib.hid hx
  clear hx
  go_enter Try.func92, Try.ntmps92
  go_wp2_with (first
    | (refine wpList_make_segs _ _ rfl rfl _ _ n n rfl rfl rfl rfl (Nat.le_refl _) hn6 ?_)
    | (refine wpList_copy_segs (.tmp 12) (.tmp 14) rfl rfl (w.heap.size + 1 + 1) n n cap A rfl rfl _ xs (List.replicate n seg0) HX.out HG.out (by simp) h0n ?_
       have HG1 := Lib.hid (HG.out.setRow xs)
       have n1 : w.heap.size ≠ w.heap.size + 1 + 1 := by omega
       have n2 : w.heap.size + 1 ≠ w.heap.size + 1 + 1 := by omega
       have HB1 := Lib.hid (below_setRow HB.out (g := w.heap.size + 1 + 1) (by omega) (flatG xs).toArray)
       have HK2 := Lib.hid (HK0.out.kept ((Kept.refl (fun b => b ≠ w.heap.size + 1 + 1) _).setRow (g := w.heap.size + 1 + 1) (fun h => h rfl) (flatG xs).toArray) n1)
       have HK3 := Lib.hid (HK1.out.kept ((Kept.refl (fun b => b ≠ w.heap.size + 1 + 1) _).setRow (g := w.heap.size + 1 + 1) (fun h => h rfl) (flatG xs).toArray) n2)
       obtain ⟨c0, c1, c2⟩ := ArrS.cells HG1.out HLX.out HXI.out
       clear n1 n2)
    | (go_at_call 91; refine (clo_open (st, g, u) v G _ ((Below.cell HB1.out (p := ⟨G, 0, none⟩) hG).trans HCV.out) (Nat.lt_of_lt_of_le hG HB1.out.size)).mono ?_; rintro e w4 ⟨rfl, hb4⟩
       have HB4 := Lib.hid (HB1.out.trans (hb4.mono HB1.out.size))
       have HG4 := Lib.hid (HG1.out.below hb4 HG1.out.lt)
       have HK5 := Lib.hid (HK2.out.below hb4 HK2.out.lt)
       have HK6 := Lib.hid (HK3.out.below hb4 HK3.out.lt)
       clear hb4)
    | (refine wpList_store_seg (.tmp 24) (.tmp 23) rfl rfl (w.heap.size + 1 + 1) i (1, v, 1) rfl rfl xs HG4.out HLX.out ?_
       have HG5 := Lib.hid (HG4.out.setRow (xs.set i (1, v, 1)))
       have n1 : w.heap.size ≠ w.heap.size + 1 + 1 := by omega
       have n2 : w.heap.size + 1 ≠ w.heap.size + 1 + 1 := by omega
       have HB5 := Lib.hid (below_setRow HB4.out (g := w.heap.size + 1 + 1) (by omega) (flatG (xs.set i (1, v, 1))).toArray)
       have HK7 := Lib.hid (HK5.out.kept ((Kept.refl (fun b => b ≠ w.heap.size + 1 + 1) _).setRow (g := w.heap.size + 1 + 1) (fun h => h rfl) (flatG (xs.set i (1, v, 1))).toArray) n1)
       have HK8 := Lib.hid (HK6.out.kept ((Kept.refl (fun b => b ≠ w.heap.size + 1 + 1) _).setRow (g := w.heap.size + 1 + 1) (fun h => h rfl) (flatG (xs.set i (1, v, 1))).toArray) n2)
       obtain ⟨q0, q1⟩ := ring_cells HK7.out
       obtain ⟨p0, p1⟩ := ring_cells HK8.out
       obtain ⟨f0, f1⟩ := And.intro (HK7.out.frozen 0) (HK7.out.frozen 1)
       obtain ⟨g0, g1⟩ := And.intro (HK8.out.frozen 0) (HK8.out.frozen 1)
       clear n1 n2)
    | (with_reducible refine halt_end ?_))
  have n1 : w.heap.size + 1 ≠ w.heap.size := by omega
  have n2 : w.heap.size + 1 + 1 ≠ w.heap.size := by omega
  have n3 : w.heap.size + 1 + 1 ≠ w.heap.size + 1 := by omega
  have hst := ((HK8.out.far (p := ⟨w.heap.size, 1, none⟩) n1 (.slice (some ⟨w.heap.size + 1 + 1, 0, none⟩) n n)).set_ 0 (.int .i64 sec)).set_ 1 (.slice (some ⟨w.heap.size + 1 + 1, 0, none⟩) n n)
  have harr : ArrS _ (w.heap.size + 1 + 1) (xs.set i (1, v, 1)) := ((Blk.far HG5.out (p := ⟨w.heap.size, 1, none⟩) n2 (.slice (some ⟨w.heap.size + 1 + 1, 0, none⟩) n n)).far (p := ⟨w.heap.size + 1, 0, none⟩) n3 (.int .i64 sec)).far (p := ⟨w.heap.size + 1, 1, none⟩) n3 (.slice (some ⟨w.heap.size + 1 + 1, 0, none⟩) n n)
  have hbel := ((HB5.out.setCell (p := ⟨w.heap.size, 1, none⟩) (Nat.le_refl _) (.slice (some ⟨w.heap.size + 1 + 1, 0, none⟩) n n)).setCell (p := ⟨w.heap.size + 1, 0, none⟩) (by simp) (.int .i64 sec)).setCell (p := ⟨w.heap.size + 1, 1, none⟩) (by simp) (.slice (some ⟨w.heap.size + 1 + 1, 0, none⟩) n n)
  exact Halt.ret (results_row1 rfl _ _ (w.heap.size + 1) 66 #[.int .i64 sec, .slice (some ⟨w.heap.size + 1 + 1, 0, none⟩) n n] _ rfl hst Try.underlying66 rfl size_ring) rfl ⟨⟨_, _, rfl, harr.own (by omega) (by rw [List.length_set, HL.out]) hn6⟩, hbel⟩

set_option maxRecDepth 100000 in
set_option maxHeartbeats 2000000 in
theorem turned_use {w : World} {A : Option Addr} {n cap : Nat} {xs : List Seg} (h : RowZ w (· < w.heap.size) A n xs) (sec : Int) (hn : n ≤ 1000) (i : Nat) (hi : i < n) (v : Int) (G : Nat) (hG : G < w.heap.size) (hc : w.cell? ⟨G, 0, none⟩ = some (.int .i64 v)) :
    Calls Try.prog 92 #[ringV sec A n cap, .int .i64 i, .func (.func 96) #[] #[.pointer (some ⟨G, 0, none⟩)]] w fun e w' => (∃ A' cap', e = .returned (ringV sec A' n cap') ∧ OwnZ w' w.heap.size A' n cap' (xs.set i (stG xs i, genG xs i, wrap64 (usedG xs i + v)))) ∧ Below w.heap.size w w' := by
  have hn6 : n ≤ 1000000 := by omega
  have h0n : 0 < n := by omega
  have HB := Lib.hid ((((Below.refl w.heap.size w).alloc (Nat.le_refl _) (.cells #[.int .i64 sec, .slice A n cap] 66)).alloc (by simp) (.cells #[.int .i64 0, .slice none 0 0] 66)).alloc (by simp; omega) (.cells (flatG (List.replicate n seg0)).toArray 78))
  have HX := Lib.hid (row_now h HB.out)
  have HK0 := Lib.hid (((Blk.new w 66 #[.int .i64 sec, .slice A n cap]).alloc (.cells #[.int .i64 0, .slice none 0 0] 66)).alloc (.cells (flatG (List.replicate n seg0)).toArray 78))
  have HK1 := Lib.hid ((blk_new2 w (.cells #[.int .i64 sec, .slice A n cap] 66) 66 #[.int .i64 0, .slice none 0 0]).alloc (.cells (flatG (List.replicate n seg0)).toArray 78))
  have HG := Lib.hid (show ArrS _ (w.heap.size + 1 + 1) (List.replicate n seg0) from blk_new3 w (.cells #[.int .i64 sec, .slice A n cap] 66) (.cells #[.int .i64 0, .slice none 0 0] 66) 78 (flatG (List.replicate n seg0)).toArray)
  have hl := h.1
  have HCV := Lib.hid hc
  clear hc
  have HL := Lib.hid hl
  have hlx : i < xs.length := by omega
  have HLX := Lib.hid hlx
  obtain ⟨q0, q1⟩ := ring_cells HK0.out
  clear h hl hlx
  obtain ⟨st, g, u, hx⟩ : ∃ st g u, xs.getD i seg0 = (st, g, u) := ⟨_, _, _, rfl⟩
  rw [show ((stG xs i, genG xs i, wrap64 (usedG xs i + v)) : Seg) = (st, g, wrap64 (u + v)) by simp only [stG, genG, usedG, hx]]
  have HXI := Lib.hid hx
  clear hx
  go_enter Try.func92, Try.ntmps92
  go_wp2_with (first
    | (refine wpList_make_segs _ _ rfl rfl _ _ n n rfl rfl rfl rfl (Nat.le_refl _) hn6 ?_)
    | (refine wpList_copy_segs (.tmp 12) (.tmp 14) rfl rfl (w.heap.size + 1 + 1) n n cap A rfl rfl _ xs (List.replicate n seg0) HX.out HG.out (by simp) h0n ?_
       have HG1 := Lib.hid (HG.out.setRow xs)
       have n1 : w.heap.size ≠ w.heap.size + 1 + 1 := by omega
       have n2 : w.heap.size + 1 ≠ w.heap.size + 1 + 1 := by omega
       have HB1 := Lib.hid (below_setRow HB.out (g := w.heap.size + 1 + 1) (by omega) (flatG xs).toArray)
       have HK2 := Lib.hid (HK0.out.kept ((Kept.refl (fun b => b ≠ w.heap.size + 1 + 1) _).setRow (g := w.heap.size + 1 + 1) (fun h => h rfl) (flatG xs).toArray) n1)
       have HK3 := Lib.hid (HK1.out.kept ((Kept.refl (fun b => b ≠ w.heap.size + 1 + 1) _).setRow (g := w.heap.size + 1 + 1) (fun h => h rfl) (flatG xs).toArray) n2)
       obtain ⟨c0, c1, c2⟩ := ArrS.cells HG1.out HLX.out HXI.out
       clear n1 n2)
    | (go_at_call 96; refine (clo_use (st, g, u) v G _ ((Below.cell HB1.out (p := ⟨G, 0, none⟩) hG).trans HCV.out) (Nat.lt_of_lt_of_le hG HB1.out.size)).mono ?_; rintro e w4 ⟨rfl, hb4⟩
       have HB4 := Lib.hid (HB1.out.trans (hb4.mono HB1.out.size))
       have HG4 := Lib.hid (HG1.out.below hb4 HG1.out.lt)
       have HK5 := Lib.hid (HK2.out.below hb4 HK2.out.lt)
       have HK6 := Lib.hid (HK3.out.below hb4 HK3.out.lt)
       clear hb4)
    | (refine wpList_store_seg (.tmp 24) (.tmp 23) rfl rfl (w.heap.size + 1 + 1) i (st, g, wrap64 (u + v)) rfl rfl xs HG4.out HLX.out ?_
       have HG5 := Lib.hid (HG4.out.setRow (xs.set i (st, g, wrap64 (u + v))))
       have n1 : w.heap.size ≠ w.heap.size + 1 + 1 := by omega
       have n2 : w.heap.size + 1 ≠ w.heap.size + 1 + 1 := by omega
       have HB5 := Lib.hid (below_setRow HB4.out (g := w.heap.size + 1 + 1) (by omega) (flatG (xs.set i (st, g, wrap64 (u + v)))).toArray)
       have HK7 := Lib.hid (HK5.out.kept ((Kept.refl (fun b => b ≠ w.heap.size + 1 + 1) _).setRow (g := w.heap.size + 1 + 1) (fun h => h rfl) (flatG (xs.set i (st, g, wrap64 (u + v)))).toArray) n1)
       have HK8 := Lib.hid (HK6.out.kept ((Kept.refl (fun b => b ≠ w.heap.size + 1 + 1) _).setRow (g := w.heap.size + 1 + 1) (fun h => h rfl) (flatG (xs.set i (st, g, wrap64 (u + v)))).toArray) n2)
       obtain ⟨q0, q1⟩ := ring_cells HK7.out
       obtain ⟨p0, p1⟩ := ring_cells HK8.out
       obtain ⟨f0, f1⟩ := And.intro (HK7.out.frozen 0) (HK7.out.frozen 1)
       obtain ⟨g0, g1⟩ := And.intro (HK8.out.frozen 0) (HK8.out.frozen 1)
       clear n1 n2)
    | (with_reducible refine halt_end ?_))
  have n1 : w.heap.size + 1 ≠ w.heap.size := by omega
  have n2 : w.heap.size + 1 + 1 ≠ w.heap.size := by omega
  have n3 : w.heap.size + 1 + 1 ≠ w.heap.size + 1 := by omega
  have hst := ((HK8.out.far (p := ⟨w.heap.size, 1, none⟩) n1 (.slice (some ⟨w.heap.size + 1 + 1, 0, none⟩) n n)).set_ 0 (.int .i64 sec)).set_ 1 (.slice (some ⟨w.heap.size + 1 + 1, 0, none⟩) n n)
  have harr : ArrS _ (w.heap.size + 1 + 1) (xs.set i (st, g, wrap64 (u + v))) := ((Blk.far HG5.out (p := ⟨w.heap.size, 1, none⟩) n2 (.slice (some ⟨w.heap.size + 1 + 1, 0, none⟩) n n)).far (p := ⟨w.heap.size + 1, 0, none⟩) n3 (.int .i64 sec)).far (p := ⟨w.heap.size + 1, 1, none⟩) n3 (.slice (some ⟨w.heap.size + 1 + 1, 0, none⟩) n n)
  have hbel := ((HB5.out.setCell (p := ⟨w.heap.size, 1, none⟩) (Nat.le_refl _) (.slice (some ⟨w.heap.size + 1 + 1, 0, none⟩) n n)).setCell (p := ⟨w.heap.size + 1, 0, none⟩) (by simp) (.int .i64 sec)).setCell (p := ⟨w.heap.size + 1, 1, none⟩) (by simp) (.slice (some ⟨w.heap.size + 1 + 1, 0, none⟩) n n)
  exact Halt.ret (results_row1 rfl _ _ (w.heap.size + 1) 66 #[.int .i64 sec, .slice (some ⟨w.heap.size + 1 + 1, 0, none⟩) n n] _ rfl hst Try.underlying66 rfl size_ring) rfl ⟨⟨_, _, rfl, harr.own (by omega) (by rw [List.length_set, HL.out]) hn6⟩, hbel⟩

end Go.Proofs.Ytkmbbfdjdmkjpaa
