/- New; where the next chunk is given; Give. -/
import Derived.Test.YtgipkdkfecegkaaDoorArn
namespace Go.Proofs.YtgipkdkfecegkaaDoor
open Go.RowKit Go.Shelf PgM
attribute [local go_sem] Oper.semAt_some
set_option linter.unusedVariables false
set_option linter.unusedSimpArgs false
theorem roomy1_any (k : Nat) (q : Pg) (hq : q.2 < 4294967296) (gk : Nat) (w : World) (hk : w.cell? ⟨gk, 0, none⟩ = some (.int .i64 (k : Nat))) (hkl : gk < w.heap.size) :
    Calls Tryd.prog 38 (#[pgV q] ++ #[.pointer (some ⟨gk, 0, none⟩)]) w fun e w' => e = .returned (.bool (roomB k q)) ∧ Below w.heap.size w w' := by
  obtain ⟨c, g⟩ := q
  have hb := (Below.refl w.heap.size w).alloc (Nat.le_refl _) (.cells (pgC (c, g)).toArray 60)
  have HB := Lib.hid hb
  have HK := Lib.hid (Blk.new w 60 (pgC (c, g)).toArray)
  have hk1 : (w.alloc (.cells (pgC (c, g)).toArray 60)).cell? ⟨gk, 0, none⟩ = some (.int .i64 (k : Nat)) := (hb.cell (p := ⟨gk, 0, none⟩) hkl).trans hk
  have hh := has_any (k : Int) c g
  have hf := full_any c g hq
  have e1 : (!(decide (g = 0)) && decide ((c : Int) = (k : Int))) = hasP k (c, g) := by
    unfold hasP
    congr 1
    by_cases h : c = k
    · subst h; simp
    · rw [decide_eq_false h, decide_eq_false (by omega)]
  rw [e1] at hh
  unfold roomB
  obtain ⟨v, hv⟩ : ∃ v, hasP k (c, g) = v := ⟨_, rfl⟩
  rw [hv] at hh ⊢
  obtain ⟨u, hu⟩ : ∃ v, decide (pop g = chN c) = v := ⟨_, rfl⟩
  rw [show decide (pop (c, g).2 = chN (c, g).1) = u from hu]
  rw [hu] at hf
  have HH := Lib.hid hh
  have HF := Lib.hid hf
  clear hh hf hv hu e1 hb
  show Calls Tryd.prog 38 #[pgV (c, g), .pointer (some ⟨gk, 0, none⟩)] w _
  go_enter Tryd.func38, Tryd.ntmps38
  cases v with
  | false =>
    go_wp2_with (go_at_call 39; refine (HH.out _).mono ?_; rintro e w2 ⟨rfl, hb2⟩)
    go_ret
    exact ⟨rfl, HB.out.trans (hb2.mono HB.out.size)⟩
  | true =>
    go_wp2_with fail
    refine (HH.out _).mono ?_
    rintro e w2 ⟨rfl, hb2⟩
    have HB2 := Lib.hid (HB.out.trans (hb2.mono HB.out.size))
    have HK2 := Lib.hid (HK.out.below hb2 HK.out.lt)
    have c0 := HK2.out.cell 0
    have c1 := HK2.out.cell 1
    clear hb2
    go_wp2_with fail
    refine (HF.out _).mono ?_
    rintro e w3 ⟨rfl, hb3⟩
    go_wp2
    go_ret
    exact ⟨rfl, HB2.out.trans (hb3.mono HB2.out.size)⟩
theorem roomy_any {w : World} {x g : Nat} {ps : List Pg} (h : ArM w x g ps) (k : Nat) :
    Calls Tryd.prog 30 #[.pointer (some ⟨x, 0, none⟩), .int .i64 (k : Nat)] w fun e w' => e = .returned (.int .i64 (roomyP k ps)) ∧ Below w.heap.size w w' := by
  obtain ⟨hxl, hgl⟩ := h.lt
  obtain ⟨⟨cap, X, hx, hg⟩, hp, hn, hi, ht, -⟩ := h
  have hb := (Below.refl w.heap.size w).alloc (Nat.le_refl _) (.cells #[.int .i64 (k : Nat)] 3)
  obtain ⟨w1, hw1⟩ : ∃ w1, w1 = w.alloc (.cells #[.int .i64 (k : Nat)] 3) := ⟨_, rfl⟩
  have HK := Lib.hid (show Blk w1 w.heap.size 3 #[.int .i64 (k : Nat)] by rw [hw1]; exact Blk.new w _ _)
  rw [← hw1] at hb
  have HB := Lib.hid hb
  have HX1 := Lib.hid (hx.below hb hxl)
  have HG1 := Lib.hid (hg.below hb hgl)
  have h1 := index_any 38 #[.pointer (some ⟨w.heap.size, 0, none⟩)] (roomB k) (enters_of Tryd.func38 (by kernel_rfl) rfl) (cap := cap) HG1.out rfl hn
    (fun W i hi' hb2 => roomy1_any k _ (hi.get i).u32 w.heap.size W ((HK.out.below hb2 HK.out.lt).cell 0) (Nat.lt_of_lt_of_le HK.out.lt hb2.size))
  have h2 := fun (W : World) (hb2 : Below w1.heap.size w1 W) => index_any 28 #[] freeB (enters_of Tryd.func28 (by kernel_rfl) rfl) (cap := cap) (HG1.out.below hb2 HG1.out.lt) rfl hn
    (fun V i hi' hb3 => by simpa [freeB] using free_any (ps.getD i pg0).1 (ps.getD i pg0).2 V)
  have H1 := Lib.hid h1
  have H2 := Lib.hid h2
  have c0 := hx.cell 0
  clear h1 h2 hx hg hb
  unfold roomyP
  obtain ⟨r1, hr1⟩ : ∃ r, Lib.idxBy (fun _ y => roomB k y) ps pg0 = r := ⟨_, rfl⟩
  obtain ⟨r2, hr2⟩ : ∃ r, Lib.idxBy (fun _ y => freeB y) ps pg0 = r := ⟨_, rfl⟩
  rw [hr1] at H1 ⊢
  rw [hr2] at H2 ⊢
  clear hr1 hr2
  obtain ⟨r, hr⟩ : ∃ r, (if r1 < 0 then r2 else r1) = r := ⟨_, rfl⟩
  rw [hr]
  have HR := Lib.hid hr
  clear hr
  go_enter Tryd.func30, Tryd.ntmps30
  go_wp2_with fail
  rw [← hw1]
  refine H1.out.mono ?_
  rintro e w2 ⟨rfl, hb2⟩
  have HB2 := Lib.hid hb2
  have HBA := Lib.hid (HB.out.trans (hb2.mono HB.out.size))
  have c1 := (HX1.out.below hb2 HX1.out.lt).cell 0
  clear hb2 hw1 c0
  by_cases hr : r1 < 0
  · go_wp2_with fail
    refine (H2.out _ HB2.out).mono ?_
    rintro e w3 ⟨rfl, hb3⟩
    go_wp2
    go_ret
    refine ⟨?_, HBA.out.trans (hb3.mono HBA.out.size)⟩
    rw [← HR.out, if_pos hr]
    rfl
  · go_wp2
    go_ret
    refine ⟨?_, HBA.out⟩
    rw [← HR.out, if_neg (by omega)]
    rfl
theorem new_ok (n : Nat) (h1 : 1 ≤ n) (h2 : n ≤ 256) (w : World) (hT : Tab w) : Calls Tryd.prog 14 #[.int .i64 n] w fun e w' => ∃ x, e = .returned (.tuple #[.pointer (some ⟨x, 0, none⟩), .int .i64 0]) ∧ ∃ g, ArM w' x g (List.replicate n pg0) ∧ Below w.heap.size w w' ∧ w.heap.size ≤ x ∧ w.heap.size ≤ g := by
  go_enter Tryd.func14, Tryd.ntmps14
  have q1 : ¬ ((n : Int) < 1) := by omega
  have q2 : ¬ ((n : Int) > 256) := by omega
  have HT := Lib.hid hT
  go_wp2_with (refine wpList_make_segs (.tmp 10) (.tmp 10) rfl rfl n n n n rfl rfl rfl rfl (Nat.le_refl _) (by omega) ?_)
  go_ret2
  have hB := ((Below.refl w.heap.size w).alloc (Nat.le_refl _) (.cells (flatG (List.replicate n pg0)).toArray 60)).alloc (by simp) (.cells #[.slice (some ⟨w.heap.size, 0, none⟩) n n] 57)
  have h0 := HT.out.1
  refine ⟨w.heap.size + 1, rfl, w.heap.size, ⟨⟨n, [], ?_, ?_⟩, by simp; omega, by simp; omega, InvP.rep n, HT.out.below hB h0, by omega, h0⟩, hB, by omega, Nat.le_refl _⟩
  · have h := Blk.new (w.alloc (.cells (flatG (List.replicate n pg0)).toArray 60)) 57 #[.slice (some ⟨w.heap.size, 0, none⟩) n n]
    simpa using h
  · have h := (Blk.new w 60 (flatG (List.replicate n pg0)).toArray).alloc (.cells #[.slice (some ⟨w.heap.size, 0, none⟩) n n] 57)
    simpa using h
theorem new_bad (n : Int) (h : n < 1 ∨ 256 < n) (w : World) : Calls Tryd.prog 14 #[.int .i64 n] w fun e w' => e = .returned (.tuple #[.pointer none, .int .i64 2]) ∧ w' = w := by
  go_enter Tryd.func14, Tryd.ntmps14
  by_cases h1 : n < 1
  · go_wp2
    go_ret2
    exact ⟨rfl, rfl⟩
  · have h2 : n > 256 := by omega
    go_wp2
    go_ret2
    exact ⟨rfl, rfl⟩
end Go.Proofs.YtgipkdkfecegkaaDoor
