/- Package ring: Oldest. -/
import Derived.Test.YtkmbbfdjdmkjpaaTold
import Derived.Deep.RegionHeld3
namespace Go.Proofs.Ytkmbbfdjdmkjpaa
open Go.RowKit Go.Shelf
attribute [local go_sem] Oper.semAt_some
set_option linter.unusedVariables false
set_option linter.unusedSimpArgs false

noncomputable def oldE (sec : Int) (xs : List Seg) : Int := if ¬ OkR sec xs then 180 else if oldR xs < 0 then 4 else 0
noncomputable def oldV (sec : Int) (xs : List Seg) : Int := if oldE sec xs = 0 then oldR xs else 0
/-- The variables of Oldest: the ring, the number and the error that are told. -/
def OldM (w : World) (sec : Int) (A : Option Addr) (n cap : Nat) (W : World) : Prop :=
  Below w.heap.size w W ∧ Blk W w.heap.size 66 #[.int .i64 sec, .slice A n cap] ∧ Blk W (w.heap.size + 1) 3 #[.int .i64 0] ∧ Blk W (w.heap.size + 1 + 1) 28 #[.int .i64 0]
theorem OldM.start (w : World) (sec : Int) (A : Option Addr) (n cap : Nat) : OldM w sec A n cap (((w.alloc (.cells #[.int .i64 sec, .slice A n cap] 66)).alloc (.cells #[.int .i64 0] 3)).alloc (.cells #[.int .i64 0] 28)) :=
  ⟨(((Below.refl _ w).alloc (Nat.le_refl _) _).alloc (by simp) _).alloc (by simp; omega) _, ((Blk.new w _ _).alloc _).alloc _, (blk_new2 w _ _ _).alloc _, blk_new3 w _ _ _ _⟩
theorem OldM.next {w : World} {sec : Int} {A : Option Addr} {n cap : Nat} {W W' : World} (h : OldM w sec A n cap W) (hb : Below W.heap.size W W') : OldM w sec A n cap W' :=
  ⟨h.1.trans (hb.mono h.1.size), h.2.1.below hb h.2.1.lt, h.2.2.1.below hb h.2.2.1.lt, h.2.2.2.below hb h.2.2.2.lt⟩

set_option maxRecDepth 100000 in
set_option maxHeartbeats 2000000 in
theorem oldest_bad {w : World} {A : Option Addr} {n cap : Nat} {xs : List Seg} (h : RowZ w (· < w.heap.size) A n xs) (sec : Int) (hk : ¬ OkR sec xs) :
    Calls Try.prog 38 #[.agg #[.int .i64 sec, .slice A n cap]] w fun e w' => e = .returned (.tuple #[.int .i64 0, .int .i64 180]) ∧ Below w.heap.size w w' := by
  have HV0 := Lib.hid (OldM.start w sec A n cap)
  have HC := Lib.hid (check_any (cap := cap) (row_now h HV0.out.1) sec)
  rw [if_neg hk] at HC
  clear h hk
  refine (callsIn_wide (n := 5)).1 ?_
  refine callsIn_of_wp_marks Try.func38 rfl trivial ?_ rfl
  simp only [Try.ntmps38, List.size_toArray, List.length_cons, List.length_nil, Nat.reduceAdd, Nat.reduceSub, Array.replicate_succ, Array.replicate_zero, List.push_toArray, List.append_toArray, List.nil_append, List.cons_append]
  gi_wp2_with (refine ⟨trivial, ?_⟩; gi_at_call 44; refine (callsIn_wide.2 HC.out).mono ?_; rintro e w1 ⟨rfl, hb1⟩; have HV1 := Lib.hid (HV0.out.next hb1); have k1 : w1.cell? ⟨w.heap.size + 1, 0, none⟩ = some (.int .i64 0) := HV1.out.2.2.1.cell 0; have k2 : w1.cell? ⟨w.heap.size + 1 + 1, 0, none⟩ = some (.int .i64 0) := HV1.out.2.2.2.cell 0; obtain ⟨f1, f2⟩ := And.intro (HV1.out.2.2.1.frozen 0) (HV1.out.2.2.2.frozen 0); clear hb1)
  have hne : w.heap.size + 1 ≠ w.heap.size + 1 + 1 := by omega
  have hc1 : ((w1.setCell ⟨w.heap.size + 1, 0, none⟩ (.int .i64 0)).setCell ⟨w.heap.size + 1 + 1, 0, none⟩ (.int .i64 180)).cell? ⟨w.heap.size + 1, 0, none⟩ = some (.int .i64 0) := ((HV1.out.2.2.1.set_ 0 (.int .i64 0)).far (p := ⟨w.heap.size + 1 + 1, 0, none⟩) hne (.int .i64 180)).cell 0
  have hc2 : ((w1.setCell ⟨w.heap.size + 1, 0, none⟩ (.int .i64 0)).setCell ⟨w.heap.size + 1 + 1, 0, none⟩ (.int .i64 180)).cell? ⟨w.heap.size + 1 + 1, 0, none⟩ = some (.int .i64 180) := ((HV1.out.2.2.2.far (p := ⟨w.heap.size + 1, 0, none⟩) hne.symm (.int .i64 0)).set_ 0 (.int .i64 180)).cell 0
  refine ⟨.tuple #[.int .i64 0, .int .i64 180], ?_, rfl, (HV1.out.1.setCell (p := ⟨w.heap.size + 1, 0, none⟩) (by simp) _).setCell (p := ⟨w.heap.size + 1 + 1, 0, none⟩) (by simp; omega) _⟩
  simp [results, Try.f38, go_sem, hc1, hc2]

def FirstS (pre : List Num) : Prop := ∃ p x, pre = p ++ [x] ∧ (∀ y ∈ p, y.2.1 ≠ 2) ∧ x.2.1 = 2
theorem none_snoc {pre : List Num} {x : Num} (h : ∀ y ∈ pre, y.2.1 ≠ 2) (hx : x.2.1 ≠ 2) : ∀ y ∈ pre ++ [x], y.2.1 ≠ 2 := by
  intro y hy
  rcases List.mem_append.1 hy with h1 | h1
  · exact h y h1
  · rw [List.mem_singleton.1 h1]; exact hx

set_option maxRecDepth 100000 in
set_option maxHeartbeats 2000000 in
theorem oldest_ok {w : World} {A : Option Addr} {n cap : Nat} {xs : List Seg} (h : RowZ w (· < w.heap.size) A n xs) (sec : Int) (hk : OkR sec xs) :
    Calls Try.prog 38 #[.agg #[.int .i64 sec, .slice A n cap]] w fun e w' => e = .returned (.tuple #[.int .i64 (oldV sec xs), .int .i64 (oldE sec xs)]) ∧ Below w.heap.size w w' := by
  have HX := Lib.hid h
  have HV0 := Lib.hid (OldM.start w sec A n cap)
  have HC := Lib.hid (check_any (cap := cap) (row_now h HV0.out.1) sec)
  rw [if_pos hk] at HC
  have hn16 := (ok_n hk h.1).2
  have HN := Lib.hid hn16
  have HON := Lib.hid (fun (L : List Num) (hp : L.Perm (live xs)) (hr : Rises L) (hpre : ∀ y ∈ L, y.2.1 ≠ 2) => show oldV sec xs = 0 ∧ oldE sec xs = 4 by
    have e := ord_old_none hk hp hr hpre
    have e1 : oldE sec xs = 4 := by unfold oldE; rw [if_neg (fun k => k hk), e, if_pos (by omega)]
    exact ⟨by unfold oldV; rw [e1]; rfl, e1⟩)
  have HOY := Lib.hid (fun (L pre r : List Num) (hp : L.Perm (live xs)) (hr : Rises L) (hL : L = pre ++ r) (hpre : FirstS pre) => show oldV sec xs = atOf 0 pre ∧ oldE sec xs = 0 by
    obtain ⟨p, x, rfl, h1, h2⟩ := hpre
    have e := ord_old hk hp hr (pre := p) (x := x) (r := r) (by rw [hL]; simp) h1 h2
    have e1 : oldE sec xs = 0 := by unfold oldE; rw [if_neg (fun k => k hk), e, if_neg (by omega)]
    exact ⟨by unfold oldV; rw [e1, atOf_snoc]; exact e, e1⟩)
  generalize oldV sec xs = ov at *
  generalize oldE sec xs = oe at *
  clear h hk hn16
  refine (callsIn_wide (n := 5)).1 ?_
  refine callsIn_of_wp_marks Try.func38 rfl trivial ?_ rfl
  simp only [Try.ntmps38, List.size_toArray, List.length_cons, List.length_nil, Nat.reduceAdd, Nat.reduceSub, Array.replicate_succ, Array.replicate_zero, List.push_toArray, List.append_toArray, List.nil_append, List.cons_append]
  gi_wp2_with (first
    | (refine ⟨trivial, ?_⟩; gi_at_call 44; refine (callsIn_wide.2 HC.out).mono ?_; rintro e w1 ⟨rfl, hb1⟩; have HV1 := Lib.hid (HV0.out.next hb1); obtain ⟨q0, q1⟩ := ring_cells HV1.out.2.1; have HRI := Lib.hid (rising_any (w := w1) (cap := cap) (row_now HX.out HV1.out.1) HN.out); clear hb1)
    | (refine ⟨trivial, ?_⟩; gi_at_call 86; refine (callsIn_wide.2 HRI.out).mono ?_; rintro e w5 ⟨B, L, rfl, hsq, hperm, hri, hb5⟩))
  have hL16 : L.length ≤ 16 := by have hn := HN.out; rw [hperm.length_eq]; have := liveTo_length xs xs.length; rw [HX.out.1] at this; unfold live; rw [HX.out.1]; omega
  have hv5 := HV1.out.next hb5
  have hs1 : w.heap.size + 1 + 1 < w1.heap.size := HV1.out.2.2.2.lt
  have hs5 := hb5.size
  have hbb := hv5.1
  have hb2 := hv5.2.2.1
  have hb3 := hv5.2.2.2
  clear hb5 hv5
  refine wpIn_rangeFunc_ownH rfl (by omega) (gf := 114) (lb := #[.pointer (some ⟨B, 0, none⟩)]) rfl trivial (enters_of Try.func114 (by kernel_rfl) rfl)
    (rise_stops Fence.wide 4 trivial rfl (by omega) B w1.heap.size w5.heap.size L hL16 w5 hsq rfl) keptK_t (keptK_b (Nat.le_refl _)) (Below.refl _ _) (fun _ => rfl)
    (fun pre W => ((Blk W (w.heap.size + 1) 3 #[.int .i64 0] ∧ Blk W (w.heap.size + 1 + 1) 28 #[.int .i64 0]) ∧ (∀ y ∈ pre, y.2.1 ≠ 2)) ∧ Below w.heap.size w W ∧ w5.heap.size ≤ W.heap.size)
    (fun c pre W => ((Blk W (w.heap.size + 1) 3 #[.int .i64 (atOf 0 pre)] ∧ Blk W (w.heap.size + 1 + 1) 28 #[.int .i64 0]) ∧ c = .ret ∧ FirstS pre) ∧ Below w.heap.size w W)
    (OwnFrom.and (OwnFrom.and (OwnFrom.and (Own.from (blk_own _ _ _) _) (Own.from (blk_own _ _ _) _)) (ownFrom_pure _ _)) (OwnFrom.and (ownFrom_below (Nat.le_refl _) hbb.size) (own_size _)))
    (fun c => OwnFrom.and (OwnFrom.and (OwnFrom.and (Own.from (blk_own _ _ _) _) (Own.from (blk_own _ _ _) _)) (ownFrom_pure _ _)) (ownFrom_below (Nat.le_refl _) hbb.size))
    ⟨⟨⟨hb2, hb3⟩, fun y hy => by cases hy⟩, hbb, Nat.le_refl _⟩
    (fun x a' W => ∃ Bx, w1.heap.size ≤ Bx ∧ Blk W Bx 78 (segC x.2).toArray ∧ a' = { tmps := #[.agg #[.int .i64 sec, .slice A n cap], .pointer (some ⟨w.heap.size, 0, none⟩), .pointer (some ⟨w.heap.size + 1, 0, none⟩), .pointer (some ⟨w.heap.size + 1 + 1, 0, none⟩), .int .i64 0, .int .i64 x.1, .pointer (some ⟨Bx, 0, none⟩), .agg #[.int .i64 sec, .slice A n cap], .int .i64 0, .int .i64 0, .bool false, undef, .pointer (some ⟨w.heap.size, 1, none⟩), .slice A n cap, .func (.func 114) #[] #[.pointer (some ⟨B, 0, none⟩)], .int .i64 x.1, .agg (segC x.2).toArray, undef, undef, undef, undef], defers := [] })
    (fun x a' _ X Y row hs hg hr => by obtain ⟨Bx, h1, h2, h3⟩ := hs; exact ⟨Bx, h1, blk_own Bx _ (fun (_ : Unit) => _) () X Y row h2 hg (fun r e => (hr r e).2), h3⟩)
    ?assign ?body ?done ?stop
  case assign =>
    rintro l pre x W K ⟨⟨⟨h1, h2⟩, h3⟩, hB, hsz⟩ hK
    gi_wp2
    exact hK _ _ ((KeepsOthers.alloc _ _).from _) ((Kept.refl _ W).alloc (fun b hb => Nat.lt_of_lt_of_le hb.2 hsz) _) ⟨⟨⟨h1.alloc _, h2.alloc _⟩, h3⟩, hB.alloc hB.size _, Nat.le_trans hsz (by simp)⟩ ⟨W.heap.size, Nat.le_trans hs5 hsz, Blk.new W _ _, rfl⟩
  case body =>
    rintro l pre ⟨i, st, g, u⟩ a' W hl ⟨r, hr⟩ ⟨⟨⟨h1, h2⟩, h3⟩, hB, hsz⟩ ⟨Bx, hBx, bX, rfl⟩ hlt
    have H1 := Lib.hid h1
    have H2 := Lib.hid h2
    have H3 := Lib.hid h3
    have HBB := Lib.hid hB
    have c1 : W.cell? ⟨w.heap.size + 1, 0, none⟩ = some (.int .i64 0) := H1.out.cell 0
    have c2 : W.cell? ⟨w.heap.size + 1 + 1, 0, none⟩ = some (.int .i64 0) := H2.out.cell 0
    obtain ⟨f1, f2⟩ := And.intro (H1.out.frozen 0) (H2.out.frozen 0)
    obtain ⟨b0, b1, b2⟩ : W.cell? ⟨Bx, 0, none⟩ = some (.int .i64 st) ∧ W.cell? ⟨Bx, 1, none⟩ = some (.int .u64 g) ∧ W.cell? ⟨Bx, 2, none⟩ = some (.int .i64 u) := ⟨bX.cell 0, bX.cell 1, bX.cell 2⟩
    clear h1 h2 h3 hB bX
    by_cases d1 : st = 2
    · subst d1
      gi_wp2
      have hne : w.heap.size + 1 ≠ w.heap.size + 1 + 1 := by omega
      refine ⟨((KeepsOthers.setCell _ _ _).trans (KeepsOthers.setCell _ _ _)).from _, ⟨⟨?_, ?_⟩, rfl, ⟨pre, (i, 2, g, u), rfl, H3.out, rfl⟩⟩, (HBB.out.setCell (p := ⟨w.heap.size + 1, 0, none⟩) (by simp) _).setCell (p := ⟨w.heap.size + 1 + 1, 0, none⟩) (by simp; omega) _⟩
      · rw [atOf_snoc]
        exact (H1.out.set_ 0 _).far (p := ⟨w.heap.size + 1 + 1, 0, none⟩) hne _
      · exact (H2.out.far (p := ⟨w.heap.size + 1, 0, none⟩) hne.symm _).set_ 0 _
    · have e1 : (st == 2) = false := by simpa using d1
      gi_wp2
      exact ⟨(KeepsOthers.refl _).from _, Kept.refl _ _, ⟨⟨H1.out, H2.out⟩, none_snoc H3.out d1⟩, HBB.out, hsz⟩
  case done =>
    rintro D ys W hD rfl ⟨⟨⟨h1, h2⟩, h3⟩, hB, hsz⟩ hK
    obtain ⟨rfl, rfl⟩ := HON.out _ hperm hri h3
    have f1 := h1.frozen 0
    have f2 := h2.frozen 0
    have c1 : W.cell? ⟨w.heap.size + 1, 0, none⟩ = some (.int .i64 0) := h1.cell 0
    have c2 : W.cell? ⟨w.heap.size + 1 + 1, 0, none⟩ = some (.int .i64 0) := h2.cell 0
    have H1 := Lib.hid h1
    have H2 := Lib.hid h2
    have HBB := Lib.hid hB
    clear h1 h2 hB
    gi_wp2
    have hne : w.heap.size + 1 ≠ w.heap.size + 1 + 1 := by omega
    have hK' := ((KeepsOthers.setCell W ⟨w.heap.size + 1, 0, none⟩ (.int .i64 0)).trans (KeepsOthers.setCell _ ⟨w.heap.size + 1 + 1, 0, none⟩ (.int .i64 4))).same D _ hK rfl
    refine ⟨by simp, .inl ⟨_, _, rfl, run_takeDeferred hK', ?_⟩⟩
    have hd1 := ((H1.out.set_ 0 (.int .i64 0)).far (p := ⟨w.heap.size + 1 + 1, 0, none⟩) hne (.int .i64 4)).cell 0
    have hd2 := ((H2.out.far (p := ⟨w.heap.size + 1, 0, none⟩) hne.symm (.int .i64 0)).set_ 0 (.int .i64 4)).cell 0
    have hc1 := cell_kept (v := .int .i64 0) hd1 (grownBy_putObj' _ D (.deferred none)) (fun r e => by cases e; exact ⟨_, hK', rfl⟩)
    have hc2 := cell_kept (v := .int .i64 4) hd2 (grownBy_putObj' _ D (.deferred none)) (fun r e => by cases e; exact ⟨_, hK', rfl⟩)
    refine ⟨.tuple #[.int .i64 0, .int .i64 4], ?_, rfl, ((HBB.out.setCell (p := ⟨w.heap.size + 1, 0, none⟩) (by simp) _).setCell (p := ⟨w.heap.size + 1 + 1, 0, none⟩) (by simp; omega) _).trans (belowK_b (w := w) (Nat.le_refl _) _ D _ _ (Nat.le_trans hbb.size hD) hK' rfl rfl)⟩
    simp [results, Try.f38, go_sem, hc1, hc2]
  case stop =>
    rintro D c pre W hD ⟨k, hk, rfl⟩ ⟨⟨⟨h1, h2⟩, rfl, h3⟩, hB⟩ hK
    obtain ⟨rfl, rfl⟩ := HOY.out L (L.take k) (L.drop k) hperm hri (List.take_append_drop k L).symm h3
    have c1 : W.cell? ⟨w.heap.size + 1, 0, none⟩ = some (.int .i64 (atOf 0 (L.take k))) := h1.cell 0
    have c2 : W.cell? ⟨w.heap.size + 1 + 1, 0, none⟩ = some (.int .i64 0) := h2.cell 0
    gi_wp2
    refine ⟨by simp, .inl ⟨_, _, rfl, run_takeDeferred hK, ?_⟩⟩
    have hc1 := cell_kept c1 (grownBy_putObj' _ D (.deferred none)) (fun r e => by cases e; exact ⟨_, hK, rfl⟩)
    have hc2 := cell_kept c2 (grownBy_putObj' _ D (.deferred none)) (fun r e => by cases e; exact ⟨_, hK, rfl⟩)
    refine ⟨.tuple #[.int .i64 (atOf 0 (L.take k)), .int .i64 0], ?_, rfl, hB.trans (belowK_b (w := w) (Nat.le_refl _) W D _ _ (Nat.le_trans hbb.size hD) hK rfl rfl)⟩
    simp [results, Try.f38, go_sem, hc1, hc2]

theorem oldest_any {w : World} {A : Option Addr} {n cap : Nat} {xs : List Seg} (h : RowZ w (· < w.heap.size) A n xs) (sec : Int) :
    Calls Try.prog 38 #[ringV sec A n cap] w fun e w' => e = .returned (.tuple #[.int .i64 (oldV sec xs), .int .i64 (oldE sec xs)]) ∧ Below w.heap.size w w' := by
  by_cases hk : OkR sec xs
  · exact oldest_ok h sec hk
  · have e1 : oldE sec xs = 180 := if_pos hk
    have e2 : oldV sec xs = 0 := by unfold oldV; rw [e1]; rfl
    rw [e1, e2]
    exact oldest_bad h sec hk

end Go.Proofs.Ytkmbbfdjdmkjpaa
