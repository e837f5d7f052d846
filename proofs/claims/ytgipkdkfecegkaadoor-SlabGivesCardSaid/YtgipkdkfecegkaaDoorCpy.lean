/- Copy. -/
import Derived.Test.YtgipkdkfecegkaaDoorTake
import Derived.Test.YtgipkdkfecegkaaDoorRfM
namespace Go.Proofs.YtgipkdkfecegkaaDoor
open Go.RowKit Go.Shelf PgM
attribute [local go_sem] Oper.semAt_some
set_option linter.unusedVariables false
set_option linter.unusedSimpArgs false
theorem eql_nil_pg (A : Option Addr) (n c : Nat) (w : World) : (binOp .eql 55 (.slice A n c) (.slice none 0 0)).run Tryd.prog w = .ok (.bool A.isNone) w := by
  have h := run_equal_slice_nil (P := Tryd.prog) w 55 60 A n c Tryd.underlying55
  simp [go_sem, binOp, h]
theorem own_empty2 (w : World) : (w.alloc (.cells #[] 60)).ownsRow w.heap.size 60 2 (.slice (some ⟨w.heap.size, 0, none⟩) 0 0) 0 [] :=
  ⟨rfl, .inr ⟨w.heap.size, 0, #[], rfl, Nat.le_refl _, heap_alloc_new w _, Nat.le_refl _, Nat.zero_le _, rfl, rfl⟩⟩
set_option maxHeartbeats 1000000 in
theorem clone_pg {w : World} {a : Addr} {n c : Nat} {xs : List Pg} (h : RowP w (· < w.heap.size) (some a) n xs) (hn : n ≤ 1000) (hp : 0 < n) :
    Calls Tryd.prog 29 #[.slice (some a) n c] w fun e w' => (∃ g cap X, e = .returned (.slice (some ⟨g, 0, none⟩) n cap) ∧ Blk w' g 60 (flatG xs ++ X).toArray ∧ w.heap.size ≤ g) ∧ Below w.heap.size w w' := by
  have heq := eql_nil_pg (some a) n c
  have HO := Lib.hid (own_empty2 w)
  have HB := Lib.hid ((Below.refl w.heap.size w).alloc (Nat.le_refl _) (.cells #[] 60))
  have HX := Lib.hid (show RowP (w.alloc (.cells #[] 60)) (· < w.heap.size) (some a) n xs from ⟨h.1, fun h0 => by
    obtain ⟨b, off, e, hb, hc⟩ := h.2 h0
    exact ⟨b, off, e, hb, fun i hi j v hv => ((HB.out.cell (p := ⟨b, off + i * 2 + j, none⟩) hb).trans (hc i hi j v hv))⟩⟩)
  have HL := Lib.hid h.1
  have h1000 : (0 : Nat) + n ≤ 1000000 := by omega
  clear h
  go_enter Tryd.func29, Tryd.ntmps29
  go_wp2_with (at_builtin; refine wpList_append_rowZ (.tmp 5) (.tmp 6) rfl rfl w.heap.size _ 0 [] rfl HO.out _ (some a) n c xs rfl HX.out (fun e => by cases e) h1000 (by simp) ?_; rintro v' w4 ho hg _; have HB4 := Lib.hid (below_append HB.out HO.out (Nat.le_refl _) HB.out.size hg); obtain ⟨A', cap', rfl⟩ := ownsRow_slice' ho; rw [Nat.zero_add, List.nil_append] at ho; simp only [Nat.zero_add]; have HROW := Lib.hid ho; clear ho hg)
  go_ret
  rcases HROW.out.2 with ⟨e, rfl⟩ | ⟨g, cap, cur, e, hg, hh, hnc, hm, hcs, htk⟩
  · omega
  · injection e with e1 _ e2
    subst e1 e2
    refine ⟨⟨g, cap', cur.toList.drop (n * 2), rfl, ?_, hg⟩, HB4.out⟩
    have : (flatG xs ++ cur.toList.drop (n * 2)).toArray = cur := by
      rw [← htk, List.take_append_drop]
    rw [this]
    exact hh
set_option maxHeartbeats 1000000 in
theorem copy_any {w : World} {x g : Nat} {ps : List Pg} (h : ArM w x g ps) : Calls Tryd.prog 17 #[.pointer (some ⟨x, 0, none⟩)] w fun e w' =>
    (∃ x2 g2, e = .returned (.pointer (some ⟨x2, 0, none⟩)) ∧ ArM w' x2 g2 ps ∧ w.heap.size ≤ x2 ∧ w.heap.size ≤ g2) ∧ Below w.heap.size w w' := by
  have HA := Lib.hid h
  obtain ⟨hxl, hgl⟩ := h.lt
  obtain ⟨⟨cap, X, hx, hg⟩, hp, hn, hi, ht, h7, h8⟩ := h
  have c0 := hx.cell 0
  have hrow := row_of_flat (S := (· < w.heap.size)) hg hgl rfl
  have HCL := Lib.hid (clone_pg (c := cap) hrow (by omega) hp)
  have HP := Lib.hid (And.intro hp (And.intro hn (And.intro hi (And.intro ht (And.intro h7 h8)))))
  obtain ⟨n, hnn⟩ : ∃ n, ps.length = n := ⟨_, rfl⟩
  rw [hnn] at c0 HCL
  have HN := Lib.hid hnn
  clear hx hg hrow hi ht hnn hp hn h7 h8
  go_enter Tryd.func17, Tryd.ntmps17
  go_wp2_with fail
  refine HCL.out.mono ?_
  rintro e w2 ⟨⟨g2, cap2, X2, rfl, hb2, hg2⟩, hB⟩
  have HB := Lib.hid hB
  have HG := Lib.hid hb2
  have HG2 := Lib.hid hg2
  clear hB hb2 hg2
  go_wp2
  go_ret
  obtain ⟨q1, q2, q3, q4, q5, q6⟩ := HP.out
  refine ⟨⟨_, g2, rfl, ⟨⟨cap2, X2, ?_, HG.out.alloc _⟩, q1, q2, q3, (q4.below HB.out (by omega)).below ((Below.refl _ w2).alloc (Nat.le_refl _) _) (by have := HB.out.size; omega), ?_, ?_⟩, HB.out.size, HG2.out⟩, HB.out.alloc HB.out.size _⟩
  · rw [HN.out]; exact Blk.new w2 _ _
  · have := HB.out.size; omega
  · have := HG2.out; omega
end Go.Proofs.YtgipkdkfecegkaaDoor
