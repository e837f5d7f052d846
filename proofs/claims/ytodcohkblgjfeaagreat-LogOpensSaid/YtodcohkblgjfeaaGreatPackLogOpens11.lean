/- Texts of LogOpens, packed. -/
import Derived.Test.YtodcohkblgjfeaaGreatPackLogOpens10
import Derived.Deep.RegionHeld3
set_option linter.unusedVariables false
set_option linter.unusedSimpArgs false
set_option linter.unnecessarySimpa false
namespace Go.Proofs.YtodcohkblgjfeaaGreat
set_option maxRecDepth 100000
open Go.RowKit Go.Shelf
attribute [local go_sem] Oper.semAt_some
set_option linter.unusedVariables false
set_option linter.unusedSimpArgs false
noncomputable def oldE (sec : Int) (xs : List Seg) : Int := if ¬ OkR sec xs then 180 else if oldR xs < 0 then 4 else 0
noncomputable def oldV (sec : Int) (xs : List Seg) : Int := if oldE sec xs = 0 then oldR xs else 0
def OldM (w : World) (sec : Int) (A : Option Addr) (n cap : Nat) (W : World) : Prop :=
  Below w.heap.size w W ∧ Blk W w.heap.size 35 #[.int .i64 sec, .slice A n cap] ∧ Blk W (w.heap.size + 1) 3 #[.int .i64 0] ∧ Blk W (w.heap.size + 1 + 1) 49 #[.int .i64 0]
theorem OldM.start (w : World) (sec : Int) (A : Option Addr) (n cap : Nat) : OldM w sec A n cap (((w.alloc (.cells #[.int .i64 sec, .slice A n cap] 35)).alloc (.cells #[.int .i64 0] 3)).alloc (.cells #[.int .i64 0] 49)) :=
  ⟨(((Below.refl _ w).alloc (Nat.le_refl _) _).alloc (by simp) _).alloc (by simp; omega) _, ((Blk.new w _ _).alloc _).alloc _, (blk_new2 w _ _ _).alloc _, blk_new3 w _ _ _ _⟩
theorem OldM.next {w : World} {sec : Int} {A : Option Addr} {n cap : Nat} {W W' : World} (h : OldM w sec A n cap W) (hb : Below W.heap.size W W') : OldM w sec A n cap W' :=
  ⟨h.1.trans (hb.mono h.1.size), h.2.1.below hb h.2.1.lt, h.2.2.1.below hb h.2.2.1.lt, h.2.2.2.below hb h.2.2.2.lt⟩
set_option maxRecDepth 100000 in
set_option maxHeartbeats 16000000 in
theorem oldest_bad {w : World} {A : Option Addr} {n cap : Nat} {xs : List Seg} (h : RowZ w (· < w.heap.size) A n xs) (sec : Int) (hk : ¬ OkR sec xs) :
    Calls Tryz.prog 69 #[.agg #[.int .i64 sec, .slice A n cap]] w fun e w' => e = .returned (.tuple #[.int .i64 0, .int .i64 180]) ∧ Below w.heap.size w w' := by
  have HV0 := Lib.hid (OldM.start w sec A n cap)
  have HC := Lib.hid (check_any (cap := cap) (row_now h HV0.out.1) sec)
  rw [if_neg hk] at HC
  clear h hk
  refine (callsIn_wide (n := 5)).1 ?_
  refine callsIn_of_wp_marks Tryz.func69 rfl trivial ?_ rfl
  simp only [Tryz.ntmps69, List.size_toArray, List.length_cons, List.length_nil, Nat.reduceAdd, Nat.reduceSub, Array.replicate_succ, Array.replicate_zero, List.push_toArray, List.append_toArray, List.nil_append, List.cons_append]
  gi_wp2_with (refine ⟨trivial, ?_⟩; gi_at_call 81; refine (callsIn_wide.2 HC.out).mono ?_; rintro e w1 ⟨rfl, hb1⟩; have HV1 := Lib.hid (HV0.out.next hb1); have k1 : w1.cell? ⟨w.heap.size + 1, 0, none⟩ = some (.int .i64 0) := HV1.out.2.2.1.cell 0; have k2 : w1.cell? ⟨w.heap.size + 1 + 1, 0, none⟩ = some (.int .i64 0) := HV1.out.2.2.2.cell 0; obtain ⟨f1, f2⟩ := And.intro (HV1.out.2.2.1.frozen 0) (HV1.out.2.2.2.frozen 0); clear hb1)
  have hne : w.heap.size + 1 ≠ w.heap.size + 1 + 1 := by omega
  have hc1 : ((w1.setCell ⟨w.heap.size + 1, 0, none⟩ (.int .i64 0)).setCell ⟨w.heap.size + 1 + 1, 0, none⟩ (.int .i64 180)).cell? ⟨w.heap.size + 1, 0, none⟩ = some (.int .i64 0) := ((HV1.out.2.2.1.set_ 0 (.int .i64 0)).far (p := ⟨w.heap.size + 1 + 1, 0, none⟩) hne (.int .i64 180)).cell 0
  have hc2 : ((w1.setCell ⟨w.heap.size + 1, 0, none⟩ (.int .i64 0)).setCell ⟨w.heap.size + 1 + 1, 0, none⟩ (.int .i64 180)).cell? ⟨w.heap.size + 1 + 1, 0, none⟩ = some (.int .i64 180) := ((HV1.out.2.2.2.far (p := ⟨w.heap.size + 1, 0, none⟩) hne.symm (.int .i64 0)).set_ 0 (.int .i64 180)).cell 0
  refine ⟨.tuple #[.int .i64 0, .int .i64 180], ?_, rfl, (HV1.out.1.setCell (p := ⟨w.heap.size + 1, 0, none⟩) (by simp) _).setCell (p := ⟨w.heap.size + 1 + 1, 0, none⟩) (by simp; omega) _⟩
  simp [results, Tryz.f69, go_sem, hc1, hc2]
def FirstS (pre : List Num) : Prop := ∃ p x, pre = p ++ [x] ∧ (∀ y ∈ p, y.2.1 ≠ 2) ∧ x.2.1 = 2
theorem none_snoc {pre : List Num} {x : Num} (h : ∀ y ∈ pre, y.2.1 ≠ 2) (hx : x.2.1 ≠ 2) : ∀ y ∈ pre ++ [x], y.2.1 ≠ 2 := by
  intro y hy
  rcases List.mem_append.1 hy with h1 | h1
  · exact h y h1
  · rw [List.mem_singleton.1 h1]; exact hx
set_option maxRecDepth 100000 in
set_option maxHeartbeats 16000000 in
theorem oldest_ok {w : World} {A : Option Addr} {n cap : Nat} {xs : List Seg} (h : RowZ w (· < w.heap.size) A n xs) (sec : Int) (hk : OkR sec xs) :
    Calls Tryz.prog 69 #[.agg #[.int .i64 sec, .slice A n cap]] w fun e w' => e = .returned (.tuple #[.int .i64 (oldV sec xs), .int .i64 (oldE sec xs)]) ∧ Below w.heap.size w w' := by
  have HX := Lib.hid h
  have HV0 := Lib.hid (OldM.start w sec A n cap)
  have HC := Lib.hid (check_any (cap := cap) (row_now h HV0.out.1) sec)
  rw [if_pos hk] at HC
  have hn16 := (ok_n hk h.1).2
  have HN := Lib.hid hn16
  have HON := Lib.hid (fun (L : List Num) (hp : L.Perm (live xs)) (hr : Rises L) (hpre : ∀ y ∈ L, y.2.1 ≠ 2) => show oldV sec xs = 0 ∧ oldE sec xs = 4 by
    have e := ord_old_none hk hp hr hpre
    have e1 : oldE sec xs = 4 := by unfold oldE; rw [if_neg (fun k => k hk), e, if_pos (by omega)]
    exact ⟨by unfold oldV; rw [e1]; rfl, e1⟩)
  have HOY := Lib.hid (fun (L pre r : List Num) (hp : L.Perm (live xs)) (hr : Rises L) (hL : L = pre ++ r) (hpre : FirstS pre) => show oldV sec xs = atOf 0 pre ∧ oldE sec xs = 0 by
    obtain ⟨p, x, rfl, h1, h2⟩ := hpre
    have e := ord_old hk hp hr (pre := p) (x := x) (r := r) (by rw [hL]; simp) h1 h2
    have e1 : oldE sec xs = 0 := by unfold oldE; rw [if_neg (fun k => k hk), e, if_neg (by omega)]
    exact ⟨by unfold oldV; rw [e1, atOf_snoc]; exact e, e1⟩)
  generalize oldV sec xs = ov at *
  generalize oldE sec xs = oe at *
  clear h hk hn16
  refine (callsIn_wide (n := 5)).1 ?_
  refine callsIn_of_wp_marks Tryz.func69 rfl trivial ?_ rfl
  simp only [Tryz.ntmps69, List.size_toArray, List.length_cons, List.length_nil, Nat.reduceAdd, Nat.reduceSub, Array.replicate_succ, Array.replicate_zero, List.push_toArray, List.append_toArray, List.nil_append, List.cons_append]
  gi_wp2_with (first
    | (refine ⟨trivial, ?_⟩; gi_at_call 81; refine (callsIn_wide.2 HC.out).mono ?_; rintro e w1 ⟨rfl, hb1⟩; have HV1 := Lib.hid (HV0.out.next hb1); obtain ⟨q0, q1⟩ := ring_cells HV1.out.2.1; have HRI := Lib.hid (rising_any (w := w1) (cap := cap) (row_now HX.out HV1.out.1) HN.out); clear hb1)
    | (refine ⟨trivial, ?_⟩; gi_at_call 119; refine (callsIn_wide.2 HRI.out).mono ?_; rintro e w5 ⟨B, L, rfl, hsq, hperm, hri, hb5⟩))
  have hL16 : L.length ≤ 16 := by have hn := HN.out; rw [hperm.length_eq]; have := liveTo_length xs xs.length; rw [HX.out.1] at this; unfold live; rw [HX.out.1]; omega
  have hv5 := HV1.out.next hb5
  have hs1 : w.heap.size + 1 + 1 < w1.heap.size := HV1.out.2.2.2.lt
  have hs5 := hb5.size
  have hbb := hv5.1
  have hb2 := hv5.2.2.1
  have hb3 := hv5.2.2.2
  clear hb5 hv5
  refine wpIn_rangeFunc_ownH rfl (by omega) (gf := 156) (lb := #[.pointer (some ⟨B, 0, none⟩)]) rfl trivial (enters_of Tryz.func156 (by kernel_rfl) rfl)
    (rise_stops Fence.wide 4 trivial rfl (by omega) B w1.heap.size w5.heap.size L hL16 w5 hsq rfl) keptK_t (keptK_b (Nat.le_refl _)) (Below.refl _ _) (fun _ => rfl)
    (fun pre W => ((Blk W (w.heap.size + 1) 3 #[.int .i64 0] ∧ Blk W (w.heap.size + 1 + 1) 49 #[.int .i64 0]) ∧ (∀ y ∈ pre, y.2.1 ≠ 2)) ∧ Below w.heap.size w W ∧ w5.heap.size ≤ W.heap.size)
    (fun c pre W => ((Blk W (w.heap.size + 1) 3 #[.int .i64 (atOf 0 pre)] ∧ Blk W (w.heap.size + 1 + 1) 49 #[.int .i64 0]) ∧ c = .ret ∧ FirstS pre) ∧ Below w.heap.size w W)
    (OwnFrom.and (OwnFrom.and (OwnFrom.and (Own.from (blk_own _ _ _) _) (Own.from (blk_own _ _ _) _)) (ownFrom_pure _ _)) (OwnFrom.and (ownFrom_below (Nat.le_refl _) hbb.size) (own_size _)))
    (fun c => OwnFrom.and (OwnFrom.and (OwnFrom.and (Own.from (blk_own _ _ _) _) (Own.from (blk_own _ _ _) _)) (ownFrom_pure _ _)) (ownFrom_below (Nat.le_refl _) hbb.size))
    ⟨⟨⟨hb2, hb3⟩, fun y hy => by cases hy⟩, hbb, Nat.le_refl _⟩
    (fun x a' W => ∃ Bx, w1.heap.size ≤ Bx ∧ Blk W Bx 128 (segC x.2).toArray ∧ a' = { tmps := #[.agg #[.int .i64 sec, .slice A n cap], .pointer (some ⟨w.heap.size, 0, none⟩), .pointer (some ⟨w.heap.size + 1, 0, none⟩), .pointer (some ⟨w.heap.size + 1 + 1, 0, none⟩), .int .i64 0, .int .i64 x.1, .pointer (some ⟨Bx, 0, none⟩), .agg #[.int .i64 sec, .slice A n cap], .int .i64 0, .int .i64 0, .bool false, undef, .pointer (some ⟨w.heap.size, 1, none⟩), .slice A n cap, .func (.func 156) #[] #[.pointer (some ⟨B, 0, none⟩)], .int .i64 x.1, .agg (segC x.2).toArray, undef, undef, undef, undef], defers := [] })
    (fun x a' _ X Y row hs hg hr => by obtain ⟨Bx, h1, h2, h3⟩ := hs; exact ⟨Bx, h1, blk_own Bx _ (fun (_ : Unit) => _) () X Y row h2 hg (fun r e => (hr r e).2), h3⟩)
    ?assign ?body ?done ?stop
  case assign =>
    rintro l pre x W K ⟨⟨⟨h1, h2⟩, h3⟩, hB, hsz⟩ hK
    gi_wp2
    exact hK _ _ ((KeepsOthers.alloc _ _).from _) ((Kept.refl _ W).alloc (fun b hb => Nat.lt_of_lt_of_le hb.2 hsz) _) ⟨⟨⟨h1.alloc _, h2.alloc _⟩, h3⟩, hB.alloc hB.size _, Nat.le_trans hsz (by simp)⟩ ⟨W.heap.size, Nat.le_trans hs5 hsz, Blk.new W _ _, rfl⟩
  case body =>
    rintro l pre ⟨i, st, g, u⟩ a' W hl ⟨r, hr⟩ ⟨⟨⟨h1, h2⟩, h3⟩, hB, hsz⟩ ⟨Bx, hBx, bX, rfl⟩ hlt
    have H1 := Lib.hid h1
    have H2 := Lib.hid h2
    have H3 := Lib.hid h3
    have HBB := Lib.hid hB
    have c1 : W.cell? ⟨w.heap.size + 1, 0, none⟩ = some (.int .i64 0) := H1.out.cell 0
    have c2 : W.cell? ⟨w.heap.size + 1 + 1, 0, none⟩ = some (.int .i64 0) := H2.out.cell 0
    obtain ⟨f1, f2⟩ := And.intro (H1.out.frozen 0) (H2.out.frozen 0)
    obtain ⟨b0, b1, b2⟩ : W.cell? ⟨Bx, 0, none⟩ = some (.int .i64 st) ∧ W.cell? ⟨Bx, 1, none⟩ = some (.int .u64 g) ∧ W.cell? ⟨Bx, 2, none⟩ = some (.int .i64 u) := ⟨bX.cell 0, bX.cell 1, bX.cell 2⟩
    clear h1 h2 h3 hB bX
    by_cases d1 : st = 2
    · subst d1
      gi_wp2
      have hne : w.heap.size + 1 ≠ w.heap.size + 1 + 1 := by omega
      refine ⟨((KeepsOthers.setCell _ _ _).trans (KeepsOthers.setCell _ _ _)).from _, ⟨⟨?_, ?_⟩, rfl, ⟨pre, (i, 2, g, u), rfl, H3.out, rfl⟩⟩, (HBB.out.setCell (p := ⟨w.heap.size + 1, 0, none⟩) (by simp) _).setCell (p := ⟨w.heap.size + 1 + 1, 0, none⟩) (by simp; omega) _⟩
      · rw [atOf_snoc]
        exact (H1.out.set_ 0 _).far (p := ⟨w.heap.size + 1 + 1, 0, none⟩) hne _
      · exact (H2.out.far (p := ⟨w.heap.size + 1, 0, none⟩) hne.symm _).set_ 0 _
    · have e1 : (st == 2) = false := by simpa using d1
      gi_wp2
      exact ⟨(KeepsOthers.refl _).from _, Kept.refl _ _, ⟨⟨H1.out, H2.out⟩, none_snoc H3.out d1⟩, HBB.out, hsz⟩
  case done =>
    rintro D ys W hD rfl ⟨⟨⟨h1, h2⟩, h3⟩, hB, hsz⟩ hK
    obtain ⟨rfl, rfl⟩ := HON.out _ hperm hri h3
    have f1 := h1.frozen 0
    have f2 := h2.frozen 0
    have c1 : W.cell? ⟨w.heap.size + 1, 0, none⟩ = some (.int .i64 0) := h1.cell 0
    have c2 : W.cell? ⟨w.heap.size + 1 + 1, 0, none⟩ = some (.int .i64 0) := h2.cell 0
    have H1 := Lib.hid h1
    have H2 := Lib.hid h2
    have HBB := Lib.hid hB
    clear h1 h2 hB
    gi_wp2
    have hne : w.heap.size + 1 ≠ w.heap.size + 1 + 1 := by omega
    have hK' := ((KeepsOthers.setCell W ⟨w.heap.size + 1, 0, none⟩ (.int .i64 0)).trans (KeepsOthers.setCell _ ⟨w.heap.size + 1 + 1, 0, none⟩ (.int .i64 4))).same D _ hK rfl
    refine ⟨by simp, .inl ⟨_, _, rfl, run_takeDeferred hK', ?_⟩⟩
    have hd1 := ((H1.out.set_ 0 (.int .i64 0)).far (p := ⟨w.heap.size + 1 + 1, 0, none⟩) hne (.int .i64 4)).cell 0
    have hd2 := ((H2.out.far (p := ⟨w.heap.size + 1, 0, none⟩) hne.symm (.int .i64 0)).set_ 0 (.int .i64 4)).cell 0
    have hc1 := cell_kept (v := .int .i64 0) hd1 (grownBy_putObj' _ D (.deferred none)) (fun r e => by cases e; exact ⟨_, hK', rfl⟩)
    have hc2 := cell_kept (v := .int .i64 4) hd2 (grownBy_putObj' _ D (.deferred none)) (fun r e => by cases e; exact ⟨_, hK', rfl⟩)
    refine ⟨.tuple #[.int .i64 0, .int .i64 4], ?_, rfl, ((HBB.out.setCell (p := ⟨w.heap.size + 1, 0, none⟩) (by simp) _).setCell (p := ⟨w.heap.size + 1 + 1, 0, none⟩) (by simp; omega) _).trans (belowK_b (w := w) (Nat.le_refl _) _ D _ _ (Nat.le_trans hbb.size hD) hK' rfl rfl)⟩
    simp [results, Tryz.f69, go_sem, hc1, hc2]
  case stop =>
    rintro D c pre W hD ⟨k, hk, rfl⟩ ⟨⟨⟨h1, h2⟩, rfl, h3⟩, hB⟩ hK
    obtain ⟨rfl, rfl⟩ := HOY.out L (L.take k) (L.drop k) hperm hri (List.take_append_drop k L).symm h3
    have c1 : W.cell? ⟨w.heap.size + 1, 0, none⟩ = some (.int .i64 (atOf 0 (L.take k))) := h1.cell 0
    have c2 : W.cell? ⟨w.heap.size + 1 + 1, 0, none⟩ = some (.int .i64 0) := h2.cell 0
    gi_wp2
    refine ⟨by simp, .inl ⟨_, _, rfl, run_takeDeferred hK, ?_⟩⟩
    have hc1 := cell_kept c1 (grownBy_putObj' _ D (.deferred none)) (fun r e => by cases e; exact ⟨_, hK, rfl⟩)
    have hc2 := cell_kept c2 (grownBy_putObj' _ D (.deferred none)) (fun r e => by cases e; exact ⟨_, hK, rfl⟩)
    refine ⟨.tuple #[.int .i64 (atOf 0 (L.take k)), .int .i64 0], ?_, rfl, hB.trans (belowK_b (w := w) (Nat.le_refl _) W D _ _ (Nat.le_trans hbb.size hD) hK rfl rfl)⟩
    simp [results, Tryz.f69, go_sem, hc1, hc2]
theorem oldest_any {w : World} {A : Option Addr} {n cap : Nat} {xs : List Seg} (h : RowZ w (· < w.heap.size) A n xs) (sec : Int) :
    Calls Tryz.prog 69 #[ringV sec A n cap] w fun e w' => e = .returned (.tuple #[.int .i64 (oldV sec xs), .int .i64 (oldE sec xs)]) ∧ Below w.heap.size w w' := by
  by_cases hk : OkR sec xs
  · exact oldest_ok h sec hk
  · have e1 : oldE sec xs = 180 := if_pos hk
    have e2 : oldV sec xs = 0 := by unfold oldV; rw [e1]; rfl
    rw [e1, e2]
    exact oldest_bad h sec hk
end Go.Proofs.YtodcohkblgjfeaaGreat

namespace Go.Proofs.YtodcohkblgjfeaaGreat
set_option maxRecDepth 100000
open Go.RowKit
set_option linter.unusedVariables false
set_option linter.unusedSimpArgs false
theorem segs_of (a : Int) : ∃ n : Nat, wrap64 (4 + wrap64 ((IntKind.u64.wrap a).tmod 13)) = n ∧ 4 ≤ n ∧ n ≤ 16 := by
  have h0 : 0 ≤ IntKind.u64.wrap a := by rw [IntKind.wrap_u64]; omega
  have h1 : (IntKind.u64.wrap a).tmod 13 = (IntKind.u64.wrap a) % 13 := Int.tmod_eq_emod_of_nonneg h0
  refine ⟨(4 + (IntKind.u64.wrap a) % 13).toNat, ?_, by omega, by omega⟩
  rw [h1]
  unfold wrap64
  omega
theorem below_next {w W W' : World} (h : Below w.heap.size w W) (hb : Below W.heap.size W W') : Below w.heap.size w W' := h.trans (hb.mono h.size)
def GoM (w : World) (G n : Nat) (A : Option Addr) (cap : Nat) (xs : List Seg) (W : World) : Prop :=
  Blk W G 35 #[.int .i64 64, .slice A n cap] ∧ RowZ W (fun b => b < W.heap.size ∧ b ≠ G) A n xs ∧ Below w.heap.size w W
section
variable {w : World} {G n : Nat} {A : Option Addr} {cap : Nat} {xs : List Seg} {W W' : World}
theorem GoM.now (h : GoM w G n A cap xs W) : RowZ W (· < W.heap.size) A n xs := h.2.1.more (fun b h => h.1)
theorem GoM.next (h : GoM w G n A cap xs W) (hb : Below W.heap.size W W') : GoM w G n A cap xs W' :=
  ⟨h.1.below hb h.1.lt, (h.2.1.below hb (fun b h => h.1)).more (fun b h => ⟨Nat.lt_of_lt_of_le h.1 hb.size, h.2⟩), below_next h.2.2 hb⟩
end
theorem GoM.first {w W0 : World} {n₀ n : Nat} {A : Option Addr} {cap : Nat} {xs : List Seg} (hr : RowZ W0 (From n₀ W0) A n xs) (hb : Below w.heap.size w W0) :
    GoM w W0.heap.size n A cap xs (W0.alloc (.cells #[.int .i64 64, .slice A n cap] 35)) :=
  ⟨Blk.new W0 _ _, (hr.below ((Below.refl W0.heap.size W0).alloc (Nat.le_refl _) _) (fun b h => h.2)).more (fun b h => ⟨by have := h.2; simp; omega, by have := h.2; omega⟩), hb.alloc hb.size _⟩
theorem GoM.fresh {w W0 : World} {m n : Nat} {A : Option Addr} {cap : Nat} {xs : List Seg} (ho : OwnZ W0 m A n cap xs) (hb : Below w.heap.size w W0) :
    GoM w W0.heap.size n A cap xs (W0.alloc (.cells #[.int .i64 64, .slice A n cap] 35)) := GoM.first ho.row hb
theorem GoM.store {w W : World} {G n m n0 : Nat} {A A' : Option Addr} {cap cap' : Nat} {ys : List Seg} (h1 : Blk W G 35 #[.int .i64 64, .slice A n0 cap]) (h2 : Below w.heap.size w W) (ho : OwnZ W m A' n cap' ys) (hm : G < m) (hB : w.heap.size ≤ G) :
    GoM w G n A' cap' ys ((W.setCell ⟨G, 0, none⟩ (.int .i64 64)).setCell ⟨G, 1, none⟩ (.slice A' n cap')) := by
  have ho2 := (ho.far (p := ⟨G, 0, none⟩) hm (.int .i64 64)).far (p := ⟨G, 1, none⟩) hm (.slice A' n cap')
  exact ⟨(h1.set_ 0 (.int .i64 64)).set_ 1 (.slice A' n cap'), ho2.row.more (fun b hb => ⟨hb.2, by have := hb.1; omega⟩), (h2.setCell (p := ⟨G, 0, none⟩) hB _).setCell (p := ⟨G, 1, none⟩) hB _⟩
theorem OwnZ.setRow {w : World} {base : Nat} {A : Option Addr} {n cap : Nat} {xs : List Seg} (h : OwnZ w base A n cap xs) {g : Nat} (hg : g < base) (cs : Array Value) : OwnZ (w.setRow g cs) base A n cap xs :=
  ⟨h.1, h.2.1.kept (row := some g) ⟨rfl, rfl, rfl, by simp [World.setRow], fun k _ hne => setRow_other w g k cs (fun e => hne (by rw [e]))⟩ (.inr (fun e => by have := own_least h.2.1 e; omega)), h.2.2⟩
theorem GoM.row {w W : World} {G n m n0 : Nat} {A A' : Option Addr} {cap cap' : Nat} {ys : List Seg} (h1 : Blk W G 35 #[.int .i64 64, .slice A n0 cap]) (h2 : Below w.heap.size w W) (ho : OwnZ W m A' n cap' ys) (hm : G < m) (hB : w.heap.size ≤ G) :
    GoM w G n A' cap' ys (W.setRow G #[.int .i64 64, .slice A' n cap']) :=
  ⟨setRow_heap W G _ _ _ _ h1, (ho.setRow hm _).row.more (fun b hb => ⟨hb.2, by have := hb.1; omega⟩), below_setRow h2 hB _⟩
section
variable {P : Program} {w : World} {o : Oper} {a : Act} {Q : Exit → Act → World → Prop} {K : Act → World → Prop} {E : Prop} {ops : Array Oper}
theorem step_store_whole (x y : Operand) (ty : TypeId) (ho : o.op = .store ty x y) (hgd : Region.wanted o (yielded ops a.tmps) = true) (g : Nat) (cs old : Array Value) (t : TypeId) (hx : a.eval x = .pointer (some ⟨g, 0, none⟩)) (hy : a.eval y = .agg cs)
    (hg : Blk w g t old) (hsz : ∀ w, (sizeOf ty).run P w = .ok cs.size w) (hl : old.size = cs.size) (hone : ∀ v ∈ cs.toList, v.oneCell' = true) (h : K (a.put o.dst undef) (w.setRow g cs)) : if Region.wanted o (yielded ops a.tmps) = true then Oper.wp P o a w K Q else E := by
  have hs := run_storeCells_at P g 0 t cs.toList 0 old w hg (by simp; omega) hone
  have he : (List.take (0 + 0) old.toList ++ cs.toList ++ List.drop (0 + 0 + cs.toList.length) old.toList).toArray = cs := by
    rw [List.drop_eq_nil_of_le (by simp; omega)]; simp
  rw [he] at hs
  have hrun : (Instr.storeAt ty (.pointer (some ⟨g, 0, none⟩)) (.agg cs)).run P w = .ok () (w.setRow g cs) := by
    simp only [Instr.storeAt, Instr.sureAddr, Sem.run_bind, Sem.run_pure, Result.andThen_ok, storeVar, hsz, Value.cells]
    simpa using hs
  rw [if_pos hgd]
  unfold Oper.wp execOp
  simp only [ho, hx, hy, hrun, Sem.run_bind, Result.andThen_ok]
  exact h
end
abbrev gg0 : Oper := { dst := some 79, op := Go.Op.load 66 (Go.Operand.tmp 11), type := 66, pos := "outright.go:96", after := #[], guard := none }
abbrev gg1 : Oper := { dst := some 80, op := Go.Op.load 66 (Go.Operand.tmp 11), type := 66, pos := "outright.go:96", after := #[], guard := none }
abbrev gg2 : Oper := { dst := some 81, op := Go.Op.call { callee := Go.Callee.value (Go.Operand.func 40), args := #[Go.Operand.tmp 80], argTypes := #[66] }, type := 3, pos := "outright.go:96", after := #[{ on := 1, ground := Go.Ground.data }], guard := none }
abbrev gg3 : Oper := { dst := some 82, op := Go.Op.call { callee := Go.Callee.value (Go.Operand.func 54), args := #[Go.Operand.tmp 79, Go.Operand.tmp 81], argTypes := #[66, 3] }, type := 83, pos := "outright.go:96", after := #[{ on := 0, ground := Go.Ground.data }, { on := 2, ground := Go.Ground.data }, { on := 2, ground := Go.Ground.chain }], guard := none }
abbrev gg4 : Oper := { dst := some 78, op := Go.Op.move (Go.Operand.tmp 82), type := 83, pos := "outright.go:96", after := #[{ on := 3, ground := Go.Ground.data }], guard := none }
abbrev gg5 : Oper := { dst := some 83, op := Go.Op.extract (Go.Operand.tmp 78) 0, type := 66, pos := "outright.go:96", after := #[{ on := 4, ground := Go.Ground.data }], guard := none }
abbrev gg6 : Oper := { dst := some 84, op := Go.Op.extract (Go.Operand.tmp 78) 1, type := 28, pos := "outright.go:96", after := #[{ on := 4, ground := Go.Ground.data }, { on := 7, ground := Go.Ground.gcOnly Go.Departure.lateStores }], guard := none }
abbrev gg7 : Oper := { dst := none, op := Go.Op.store 66 (Go.Operand.tmp 11) (Go.Operand.tmp 83), type := 0, pos := "outright.go:96", after := #[{ on := 5, ground := Go.Ground.data }, { on := 3, ground := Go.Ground.chain }, { on := 0, ground := Go.Ground.phase }, { on := 1, ground := Go.Ground.phase }, { on := 2, ground := Go.Ground.phase }, { on := 3, ground := Go.Ground.phase }, { on := 4, ground := Go.Ground.phase }, { on := 5, ground := Go.Ground.phase }, { on := 6, ground := Go.Ground.textOnly Go.Departure.lateStores }], guard := none }
abbrev gg8 : Oper := { dst := some 13, op := Go.Op.assign (Go.Operand.tmp 84), type := 28, pos := "outright.go:96", after := #[{ on := 6, ground := Go.Ground.data }, { on := 7, ground := Go.Ground.chain }, { on := 0, ground := Go.Ground.phase }, { on := 1, ground := Go.Ground.phase }, { on := 2, ground := Go.Ground.phase }, { on := 3, ground := Go.Ground.phase }, { on := 4, ground := Go.Ground.phase }, { on := 5, ground := Go.Ground.phase }, { on := 6, ground := Go.Ground.phase }, { on := 7, ground := Go.Ground.phase }], guard := none }
end Go.Proofs.YtodcohkblgjfeaaGreat

namespace Go.Proofs.YtodcohkblgjfeaaGreat
set_option maxRecDepth 100000
open Go.RowKit
set_option linter.unusedVariables false
set_option linter.unusedSimpArgs false
abbrev rn0 : Oper := { dst := some 38, op := Go.Op.fieldAddr 66 (Go.Operand.tmp 1) 1, type := 0, pos := "outright.go:22", after := #[], guard := none }
abbrev rn1 : Oper := { dst := some 39, op := Go.Op.load 64 (Go.Operand.tmp 38), type := 64, pos := "outright.go:22", after := #[{ on := 0, ground := Go.Ground.data }], guard := none }
abbrev rn2 : Oper := { dst := some 40, op := Go.Op.move (Go.Operand.tmp 3), type := 3, pos := "outright.go:22", after := #[], guard := none }
abbrev rn3 : Oper := { dst := some 41, op := Go.Op.move (Go.Operand.tmp 9), type := 3, pos := "outright.go:22", after := #[], guard := none }
abbrev rn4 : Oper := { dst := some 42, op := Go.Op.binOp Go.BinOp.add 3 (Go.Operand.tmp 40) (Go.Operand.tmp 41) 3, type := 3, pos := "outright.go:22", after := #[{ on := 2, ground := Go.Ground.data }, { on := 3, ground := Go.Ground.data }], guard := none }
abbrev rn5 : Oper := { dst := some 43, op := Go.Op.fieldAddr 66 (Go.Operand.tmp 1) 1, type := 0, pos := "outright.go:22", after := #[], guard := none }
abbrev rn6 : Oper := { dst := some 44, op := Go.Op.load 64 (Go.Operand.tmp 43), type := 64, pos := "outright.go:22", after := #[{ on := 5, ground := Go.Ground.data }], guard := none }
abbrev rn7 : Oper := { dst := some 45, op := Go.Op.call { callee := Go.Callee.builtin Go.Builtin.len, args := #[Go.Operand.tmp 44], argTypes := #[64] }, type := 3, pos := "outright.go:22", after := #[{ on := 6, ground := Go.Ground.data }], guard := none }
abbrev rn8 : Oper := { dst := some 46, op := Go.Op.binOp Go.BinOp.rem 3 (Go.Operand.tmp 42) (Go.Operand.tmp 45) 3, type := 3, pos := "outright.go:22", after := #[{ on := 4, ground := Go.Ground.data }, { on := 7, ground := Go.Ground.data }], guard := none }
abbrev rn9 : Oper := { dst := some 47, op := Go.Op.indexAddr 64 (Go.Operand.tmp 39) (Go.Operand.tmp 46), type := 0, pos := "outright.go:22", after := #[{ on := 1, ground := Go.Ground.data }, { on := 8, ground := Go.Ground.data }], guard := none }
abbrev rn10 : Oper := { dst := some 48, op := Go.Op.load 78 (Go.Operand.tmp 47), type := 78, pos := "outright.go:22", after := #[{ on := 9, ground := Go.Ground.data }], guard := none }
abbrev rn11 : Oper := { dst := some 10, op := Go.Op.alloc 78, type := 0, pos := "outright.go:22", after := #[], guard := none }
abbrev rn12 : Oper := { dst := none, op := Go.Op.store 78 (Go.Operand.tmp 10) (Go.Operand.tmp 48), type := 0, pos := "outright.go:22", after := #[{ on := 11, ground := Go.Ground.data }, { on := 10, ground := Go.Ground.data }, { on := 0, ground := Go.Ground.phase }, { on := 1, ground := Go.Ground.phase }, { on := 2, ground := Go.Ground.phase }, { on := 3, ground := Go.Ground.phase }, { on := 4, ground := Go.Ground.phase }, { on := 5, ground := Go.Ground.phase }, { on := 6, ground := Go.Ground.phase }, { on := 7, ground := Go.Ground.phase }, { on := 8, ground := Go.Ground.phase }, { on := 9, ground := Go.Ground.phase }, { on := 10, ground := Go.Ground.phase }, { on := 11, ground := Go.Ground.phase }], guard := none }
section
variable {P : Program} {w : World} {o : Oper} {a : Act} {Q : Exit → Act → World → Prop} {K : Act → World → Prop} {E : Prop} {ops : Array Oper}
theorem step_alloc_z (ty : TypeId) (ho : o.op = .alloc ty) (hgd : Region.wanted o (yielded ops a.tmps) = true) (zs : Array Value) (hz : ∀ w, (zeroValue ty).run P w = .ok (.agg zs) w)
    (h : K (a.put o.dst (.pointer (some ⟨w.heap.size, 0, none⟩))) (w.alloc (.cells zs ty))) : if Region.wanted o (yielded ops a.tmps) = true then Oper.wp P o a w K Q else E := by
  rw [if_pos hgd]
  unfold Oper.wp execOp
  simp only [ho, Instr.alloc, Sem.run_bind, hz, Result.andThen_ok]
  exact h
end
def sealTo (xs : List Seg) : Nat → Nat
  | 0 => 0
  | j + 1 => sealTo xs j + (if stG xs j = 2 then 1 else 0)
theorem seal_le (xs : List Seg) : ∀ j, sealTo xs j ≤ j
  | 0 => Nat.le_refl _
  | j + 1 => by have := seal_le xs j; unfold sealTo; split <;> omega
def SideBy (xs : List Seg) (n o c : Nat) (gl : Nat → Int) : Prop :=
  gl 0 = 0 ∧ ∀ k, k < c → stG xs ((o + k) % n) = 2 ∧ gl k < genG xs ((o + k) % n) ∧ gl (k + 1) = genG xs ((o + k) % n)
def RndI (w : World) (sec : Int) (A : Option Addr) (n cap c : Nat) (gl : Nat → Int) (W : World) (v5 v9 : Value) : Prop :=
  ∃ k : Nat, k ≤ c ∧ v9 = .int .i64 k ∧ v5 = .int .u64 (gl k) ∧ Blk W w.heap.size 35 #[.int .i64 sec, .slice A n cap] ∧ Below w.heap.size w W
end Go.Proofs.YtodcohkblgjfeaaGreat

namespace Go.Proofs.YtodcohkblgjfeaaGreat
set_option maxRecDepth 100000
open Go.RowKit
set_option linter.unusedVariables false
set_option linter.unusedSimpArgs false
def posR (n s k : Nat) : Nat := if s + k < n then s + k else s + k - n
theorem pos_lt {n s k : Nat} (hs : s < n) (hk : k ≤ n) : posR n s k < n := by unfold posR; split <;> omega
theorem pos_inj {n s a b : Nat} (hs : s < n) (ha : a < n) (hb : b < n) (h : posR n s a = posR n s b) : a = b := by
  unfold posR at h
  split at h <;> split at h <;> omega
theorem pos_onto {n s j : Nat} (hs : s < n) (hj : j < n) : ∃ k, k < n ∧ posR n s k = j := by
  refine ⟨if s ≤ j then j - s else j + n - s, ?_, ?_⟩
  · split <;> omega
  · unfold posR
    split <;> split <;> omega
theorem pos_mod {n s k : Nat} (hs : s < n) (hk : k < n) : (s + k) % n = posR n s k := by
  unfold posR
  split
  case isTrue h => exact Nat.mod_eq_of_lt h
  case isFalse h => rw [Nat.mod_eq_sub_mod (by omega), Nat.mod_eq_of_lt (by omega)]
theorem pos_step {n s k : Nat} (hs : s < n) (hk : k < n) : (posR n s k + 1) % n = posR n s (k + 1) := by
  unfold posR
  by_cases h : s + k < n
  · rw [if_pos h]
    by_cases h2 : s + (k + 1) < n
    · rw [if_pos h2, Nat.mod_eq_of_lt (by omega)]; omega
    · rw [if_neg h2, show s + k + 1 = n by omega, Nat.mod_self]; omega
  · rw [if_neg h, if_neg (by omega), Nat.mod_eq_of_lt (by omega)]; omega
structure Arc (n : Nat) (xs : List Seg) (s c : Nat) : Prop where
  len : xs.length = n
  hs : s < n
  hc : c ≤ n
  live : ∀ k, k < n → (stG xs (posR n s k) ≠ 0 ↔ k < c)
  mids : ∀ k, k + 1 < c → stG xs (posR n s k) = 2
  rise : ∀ k, k + 1 < c → genG xs (posR n s k) < genG xs (posR n s (k + 1))
section
variable {n s c : Nat} {xs : List Seg} {sec : Int}
theorem Arc.rises (h : Arc n xs s c) (a : Nat) : ∀ d, a + d + 1 < c → genG xs (posR n s a) < genG xs (posR n s (a + d + 1))
  | 0, hd => h.rise a hd
  | d + 1, hd => Int.lt_trans (h.rises a d (by omega)) (h.rise (a + d + 1) (by omega))
theorem Arc.less (h : Arc n xs s c) {a b : Nat} (hab : a < b) (hb : b < c) : genG xs (posR n s a) < genG xs (posR n s b) := by
  have := h.rises a (b - a - 1) (by omega)
  rwa [show a + (b - a - 1) + 1 = b by omega] at this
theorem Arc.lat (h : Arc n xs s c) (h0 : 0 < c) : latR xs = (posR n s (c - 1) : Nat) := by
  have hc := h.hc
  rcases lat_or xs with ⟨_, hz⟩ | ⟨i, hi, e, hs, hm⟩
  · exact absurd (hz _ (by rw [h.len]; exact pos_lt h.hs (k := 0) (by omega))) ((h.live 0 (by omega)).2 h0)
  · rw [h.len] at hi
    obtain ⟨k, hk, rfl⟩ := pos_onto h.hs hi
    have hkc := (h.live k hk).1 hs
    by_cases he : k = c - 1
    · rw [e, he]
    · have h1 := h.less (a := k) (b := c - 1) (by omega) (by omega)
      have h2 := hm _ (by rw [h.len]; exact pos_lt h.hs (k := c - 1) (by omega)) ((h.live (c - 1) (by omega)).2 (by omega))
      omega
theorem Arc.lat0 (h : Arc n xs s 0) : latR xs = -1 ∧ ∀ j, j < n → stG xs j = 0 := by
  have hz : ∀ j, j < n → stG xs j = 0 := fun j hj => by
    obtain ⟨k, hk, rfl⟩ := pos_onto h.hs hj
    by_cases h0 : stG xs (posR n s k) = 0
    · exact h0
    · exact absurd ((h.live k hk).1 h0) (by omega)
  refine ⟨?_, hz⟩
  rcases lat_or xs with ⟨e, _⟩ | ⟨i, hi, e, hs, hm⟩
  · exact e
  · exact absurd (hz i (by rw [← h.len]; exact hi)) hs
theorem Arc.next (h : Arc n xs s c) (h0 : 0 < c) (hc : c < n) : nxtR xs = (posR n s c : Nat) := by
  have hl := h.lat h0
  have hf : stG xs (posR n s c) = 0 := by
    by_cases h0 : stG xs (posR n s c) = 0
    · exact h0
    · exact absurd ((h.live c hc).1 h0) (by omega)
  have hp : ((latR xs + 1 + ((0 : Nat) : Int)).toNat % xs.length) = posR n s c := by
    rw [hl, h.len, show ((posR n s (c - 1) : Nat) : Int) + 1 + ((0 : Nat) : Int) = ((posR n s (c - 1) + 1 : Nat) : Int) by omega, Int.toNat_natCast, pos_step h.hs (by omega), show c - 1 + 1 = c by omega]
  rcases nxt_or xs with ⟨_, hz⟩ | ⟨i, hi, e, hs, hq⟩
  · have := hz 0 (by rw [h.len]; omega)
    rw [hp] at this
    exact absurd hf this
  · rcases Nat.eq_zero_or_pos i with rfl | hi0
    · rw [e, hp]
    · have := hq 0 hi0
      rw [hp] at this
      exact absurd hf this
theorem Arc.next0 (h : Arc n xs s 0) : nxtR xs = 0 := by
  have hn := h.hs
  have hl := h.lat0
  have hp : ((latR xs + 1 + ((0 : Nat) : Int)).toNat % xs.length) = 0 := by rw [hl.1]; simp
  have hf := hl.2 0 (by omega)
  rcases nxt_or xs with ⟨_, hz⟩ | ⟨i, hi, e, hs, hq⟩
  · have := hz 0 (by rw [h.len]; omega)
    rw [hp] at this
    exact absurd hf this
  · rcases Nat.eq_zero_or_pos i with rfl | hi0
    · rw [e, hp]; rfl
    · have := hq 0 hi0
      rw [hp] at this
      exact absurd hf this
theorem st_set {i j : Nat} {x : Seg} (hi : i < xs.length) : stG (xs.set i x) j = if i = j then x.1 else stG xs j := by
  simp only [stG, getD_set xs i j x hi]; split <;> rfl
theorem gen_set {i j : Nat} {x : Seg} (hi : i < xs.length) : genG (xs.set i x) j = if i = j then x.2.1 else genG xs j := by
  simp only [genG, getD_set xs i j x hi]; split <;> rfl
theorem arc_new (n : Nat) (h : 0 < n) : Arc n (List.replicate n seg0) 0 0 := by
  have hz : ∀ j, stG (List.replicate n seg0) j = 0 := fun j => by
    simp [stG, List.getD, List.getElem?_replicate]
    split <;> rfl
  exact ⟨List.length_replicate, h, Nat.zero_le _, fun k _ => ⟨fun h => absurd (hz _) h, fun h => by omega⟩, fun k h => by omega, fun k h => by omega⟩
theorem arc_open (h : Arc n xs s c) {g : Int} (he : openE sec xs g = 0) : ∃ s' c', Arc n (openX xs g) s' c' := by
  obtain ⟨hk, hno, htop, i, hi, e, hfree⟩ := open_zero he
  rw [h.len] at hi
  have hi' : i < xs.length := by rw [h.len]; exact hi
  obtain ⟨k, hkn, hki⟩ := pos_onto h.hs hi
  have hcn : c < n := by
    by_cases hlt : k < c
    · exact absurd (show stG xs (posR n s k) = 0 by rw [hki]; exact hfree) ((h.live k hkn).2 hlt)
    · omega
  have hX : openX xs g = xs.set i (1, g, 1) := by unfold openX; rw [e, Int.toNat_natCast]
  rw [hX]
  rcases Nat.eq_zero_or_pos c with rfl | h0
  · have e0 := h.next0
    obtain rfl : i = 0 := by omega
    have hz := h.lat0.2
    refine ⟨0, 1, by rw [List.length_set]; exact h.len, by omega, by omega, fun q hq => ?_, fun q hq => by omega, fun q hq => by omega⟩
    rw [st_set hi', show posR n 0 q = q by unfold posR; rw [if_pos (by omega)]; omega]
    by_cases hq0 : q = 0
    · rw [if_pos hq0.symm]; exact ⟨fun _ => by omega, fun _ => (show (1 : Int) ≠ 0 by decide)⟩
    · rw [if_neg (fun e => hq0 e.symm)]; exact ⟨fun k => absurd (hz q hq) k, fun k => by omega⟩
  · have e1 := h.next h0 hcn
    obtain rfl : i = posR n s c := by omega
    have hl := h.lat h0
    have ht : genG xs (posR n s (c - 1)) < g := by
      unfold topG at htop
      rw [hl, if_neg (by omega), Int.toNat_natCast] at htop
      exact htop
    have hlast : stG xs (posR n s (c - 1)) = 2 := by
      have hp := pos_lt h.hs (k := c - 1) (by omega)
      have h1 := no_open hk hno (j := posR n s (c - 1)) (by rw [h.len]; exact hp)
      have h2 := (h.live (c - 1) (by omega)).2 (by omega)
      rcases (may_live (may_at hk.2.1 (by rw [h.len]; exact hp)) h2).1 with h3 | h3
      · exact absurd h3 h1
      · exact h3
    refine ⟨s, c + 1, by rw [List.length_set]; exact h.len, h.hs, by omega, fun q hq => ?_, fun q hq => ?_, fun q hq => ?_⟩
    · rw [st_set hi']
      by_cases hqc : q = c
      · subst hqc; rw [if_pos rfl]; exact ⟨fun _ => by omega, fun _ => (show (1 : Int) ≠ 0 by decide)⟩
      · rw [if_neg (fun e => hqc (pos_inj h.hs hcn hq e).symm), h.live q hq]; omega
    · rw [st_set hi', if_neg (fun e => by have := pos_inj h.hs hcn (by omega) e; omega)]
      by_cases hqc : q = c - 1
      · rw [hqc]; exact hlast
      · exact h.mids q (by omega)
    · rw [gen_set hi', gen_set hi', if_neg (fun e => by have := pos_inj h.hs hcn (by omega) e; omega)]
      by_cases hqc : q + 1 = c
      · rw [hqc, if_pos rfl, show q = c - 1 by omega]; exact ht
      · rw [if_neg (fun e => by have := pos_inj h.hs hcn (by omega) e; omega)]
        exact h.rise q (by omega)
theorem arc_keep (h : Arc n xs s c) {i : Nat} (hi : i < xs.length) (x : Seg) (hx : x.1 ≠ 0) (h0 : stG xs i ≠ 0) (hg : x.2.1 = genG xs i) (h2 : stG xs i = 2 → x.1 = 2) : Arc n (xs.set i x) s c := by
  have hgen : ∀ j, genG (xs.set i x) j = genG xs j := fun j => by
    rw [gen_set hi]
    split
    case isTrue e => rw [← e]; exact hg
    case isFalse e => rfl
  refine ⟨by rw [List.length_set]; exact h.len, h.hs, h.hc, fun k hk => ?_, fun k hk => ?_, fun k hk => ?_⟩
  · rw [← h.live k hk, st_set hi]
    split
    case isTrue e => rw [← e]; exact ⟨fun _ => h0, fun _ => hx⟩
    case isFalse e => exact Iff.rfl
  · have h3 := h.mids k hk
    rw [st_set hi]
    split
    case isTrue e => rw [← e] at h3; exact h2 h3
    case isFalse e => exact h3
  · rw [hgen, hgen]
    exact h.rise k hk
theorem arc_use (h : Arc n xs s c) {v : Int} (he : useE sec xs v = 0) : Arc n (useX xs v) s c := by
  have hs : sealE sec xs = 0 := by
    by_cases h1 : sealE sec xs = 0
    · exact h1
    · rw [use_seal h1] at he; exact absurd he h1
  obtain ⟨hk, h1⟩ := seal_yes hs
  obtain ⟨i, hi, e, hst⟩ := opn_nat hk h1
  unfold useX
  rw [e, Int.toNat_natCast]
  exact arc_keep h hi _ (by show stG xs i ≠ 0; rw [hst]; decide) (by rw [hst]; decide) rfl (fun h => h)
theorem arc_seal (h : Arc n xs s c) (he : sealE sec xs = 0) : Arc n (sealX xs) s c := by
  obtain ⟨hk, h1⟩ := seal_yes he
  obtain ⟨i, hi, e, hst⟩ := opn_nat hk h1
  unfold sealX
  rw [e, Int.toNat_natCast]
  exact arc_keep h hi _ (show (2 : Int) ≠ 0 by decide) (by rw [hst]; decide) rfl (fun _ => rfl)
theorem Arc.old (h : Arc n xs s c) {o : Nat} (ho : oldR xs = o) : o = s ∧ 0 < c := by
  rcases old_or xs with ⟨e, _⟩ | ⟨i, hi, e, hst, hm⟩
  · omega
  · obtain rfl : o = i := by omega
    rw [h.len] at hi
    obtain ⟨k, hk, hki⟩ := pos_onto h.hs hi
    have hkc := (h.live k hk).1 (by rw [hki, hst]; decide)
    have hp0 : posR n s 0 = s := by unfold posR; rw [if_pos (by have := h.hs; omega)]; rfl
    refine ⟨?_, by omega⟩
    rcases Nat.eq_zero_or_pos k with rfl | hk0
    · omega
    · have h1 := h.less hk0 hkc
      have h2 := hm _ (by rw [h.len]; exact pos_lt h.hs (k := 0) (by omega)) (h.mids 0 (by omega))
      rw [hki] at h1
      omega
theorem arc_free (h : Arc n xs s c) {o : Nat} (ho : oldR xs = o) : ∃ s' c', Arc n (freeX xs o) s' c' := by
  obtain ⟨rfl, h0⟩ := h.old ho
  have hs := h.hs
  have hcn := h.hc
  have hi : o < xs.length := by rw [h.len]; exact h.hs
  have hp0 : posR n o 0 = o := by unfold posR; rw [if_pos (by omega)]; rfl
  have hn1 : 1 < n ∨ n = 1 := by omega
  have hsh : ∀ q, q < n → posR n (posR n o 1) q = if q + 1 < n then posR n o (q + 1) else o := fun q hq => by
    unfold posR
    split <;> split <;> (try split) <;> (try split) <;> omega
  refine ⟨posR n o 1, c - 1, by unfold freeX; rw [List.length_set]; exact h.len, pos_lt hs (by omega), by omega, fun q hq => ?_, fun q hq => ?_, fun q hq => ?_⟩
  · unfold freeX
    rw [Int.toNat_natCast, st_set hi, hsh q hq]
    by_cases hq1 : q + 1 < n
    · rw [if_pos hq1, if_neg (fun e => by have := pos_inj hs (by omega) hq1 (hp0.trans e); omega), h.live (q + 1) hq1]; omega
    · rw [if_neg hq1, if_pos rfl]; exact ⟨fun k => absurd rfl k, fun k => by omega⟩
  · unfold freeX
    rw [Int.toNat_natCast, st_set hi, (hsh q (by omega)).trans (if_pos (by omega)), if_neg (fun e => by have := pos_inj hs (by omega) (by omega) (hp0.trans e); omega)]
    exact h.mids (q + 1) (by omega)
  · unfold freeX
    rw [Int.toNat_natCast, gen_set hi, gen_set hi, (hsh q (by omega)).trans (if_pos (by omega)), (hsh (q + 1) (by omega)).trans (if_pos (by omega)), if_neg (fun e => by have := pos_inj hs (by omega) (by omega) (hp0.trans e); omega), if_neg (fun e => by have := pos_inj hs (by omega) (by omega) (hp0.trans e); omega)]
    exact h.rise (q + 1) (by omega)
def cntF (f : Nat → Nat) : Nat → Nat
  | 0 => 0
  | k + 1 => cntF f k + f k
theorem cnt_add (f : Nat → Nat) (a : Nat) : ∀ b, cntF f (a + b) = cntF f a + cntF (fun i => f (a + i)) b
  | 0 => rfl
  | b + 1 => by
    show cntF f (a + b) + f (a + b) = _
    rw [cnt_add f a b]
    show _ = cntF f a + (cntF (fun i => f (a + i)) b + f (a + b))
    omega
theorem cnt_congr {f g : Nat → Nat} : ∀ {m : Nat}, (∀ k, k < m → f k = g k) → cntF f m = cntF g m
  | 0, _ => rfl
  | m + 1, h => by
    show cntF f m + f m = cntF g m + g m
    rw [cnt_congr (fun k hk => h k (by omega)), h m (by omega)]
theorem cnt_rot (f : Nat → Nat) {n s : Nat} (hs : s < n) : cntF (fun k => f (posR n s k)) n = cntF f n := by
  have e1 : n = (n - s) + s := by omega
  have e2 : n = s + (n - s) := by omega
  have h1 : cntF (fun k => f (posR n s k)) ((n - s) + s) = cntF (fun k => f (posR n s k)) (n - s) + cntF (fun i => f (posR n s (n - s + i))) s := cnt_add _ _ _
  have h2 : cntF f (s + (n - s)) = cntF f s + cntF (fun i => f (s + i)) (n - s) := cnt_add _ _ _
  have h3 : cntF (fun k => f (posR n s k)) (n - s) = cntF (fun i => f (s + i)) (n - s) := cnt_congr fun k hk => by
    show f (posR n s k) = f (s + k)
    unfold posR; rw [if_pos (by omega)]
  have h4 : cntF (fun i => f (posR n s (n - s + i))) s = cntF f s := cnt_congr fun k hk => by
    show f (posR n s (n - s + k)) = f k
    unfold posR; rw [if_neg (by omega), show s + (n - s + k) - n = k by omega]
  rw [← e1] at h1
  rw [← e2] at h2
  omega
theorem cnt_le (f : Nat → Nat) (h1 : ∀ k, f k ≤ 1) {b : Nat} : ∀ m, (∀ k, b ≤ k → k < m → f k = 0) → cntF f m ≤ b
  | 0, _ => Nat.zero_le _
  | m + 1, h => by
    show cntF f m + f m ≤ b
    have ih := cnt_le f h1 m (fun k hb hk => h k hb (by omega))
    by_cases hb : b ≤ m
    · rw [h m hb (by omega)]; exact ih
    · have : ∀ m, cntF f m ≤ m := fun m => by
        induction m with
        | zero => exact Nat.le_refl _
        | succ m ih => show cntF f m + f m ≤ m + 1; have := h1 m; omega
      have h2 := this m
      have h3 := h1 m
      omega
theorem seal_cnt (xs : List Seg) : ∀ m, sealTo xs m = cntF (fun j => if stG xs j = 2 then 1 else 0) m
  | 0 => rfl
  | m + 1 => by
    show sealTo xs m + _ = cntF _ m + _
    rw [seal_cnt xs m]
theorem Arc.side (h : Arc n xs s c) (hk : OkR sec xs) {o : Nat} (ho : oldR xs = o) : SideBy xs n o (sealTo xs n) (fun k => if k = 0 then 0 else genG xs (posR n s (k - 1))) := by
  obtain ⟨rfl, h0⟩ := h.old ho
  have hsl := seal_le xs n
  refine ⟨rfl, fun k hkn => ?_⟩
  rw [pos_mod h.hs (by omega)]
  have h2 : stG xs (posR n o k) = 2 := by
    by_cases e : stG xs (posR n o k) = 2
    · exact e
    · exfalso
      have hle : sealTo xs n ≤ k := by
        rw [seal_cnt, ← cnt_rot _ h.hs]
        refine cnt_le _ (fun q => by split <;> omega) n (fun q hq hqn => ?_)
        rw [if_neg]
        intro h3
        have h4 := (h.live q hqn).1 (by rw [h3]; decide)
        by_cases e2 : q = k
        · rw [e2] at h3; exact e h3
        · exact e (h.mids k (by omega))
      omega
  have hkc := (h.live k (by omega)).1 (by rw [h2]; decide)
  refine ⟨h2, ?_, by simp⟩
  show (if k = 0 then (0 : Int) else genG xs (posR n o (k - 1))) < _
  by_cases e : k = 0
  · rw [if_pos e]
    have := (may_live (may_at hk.2.1 (i := posR n o k) (by rw [h.len]; exact pos_lt h.hs (by omega))) (by show stG xs _ ≠ 0; rw [h2]; decide)).2.1
    simp only [genG]
    omega
  · rw [if_neg e]
    exact h.less (a := k - 1) (b := k) (by omega) hkc
end
end Go.Proofs.YtodcohkblgjfeaaGreat

namespace Go.Proofs.YtodcohkblgjfeaaGreat
set_option linter.unusedVariables false
set_option linter.unusedSimpArgs false
theorem opn_uniq {sec : Int} {xs : List Seg} (h : OkR sec xs) {i : Nat} (hi : i < xs.length) (h1 : stG xs i = 1) : opnR xs = i ∧ latR xs = i := by
  have hl := opn_lat h hi h1
  rcases opn_or h with ⟨_, hz⟩ | ⟨j, hj, e1, e2, _⟩
  · exact absurd h1 (hz i hi)
  · exact ⟨by omega, hl⟩
theorem used_set9 {xs : List Seg} {i j : Nat} {x : Seg} (hi : i < xs.length) : usedG (xs.set i x) j = if i = j then x.2.2 else usedG xs j := by
  unfold usedG
  by_cases e : i = j
  · subst e; simp [List.getD, List.getElem?_set_self hi]
  · simp [List.getD, List.getElem?_set_ne e, e]
theorem lat_congr {xs zs : List Seg} (h : ∀ j, (stG zs j = 0 ↔ stG xs j = 0) ∧ genG zs j = genG xs j) : ∀ k, latTo zs k = latTo xs k
  | 0 => rfl
  | k + 1 => by
    have ih := lat_congr h k
    unfold latTo
    rw [ih, (h k).2, (h (latTo xs k).toNat).2]
    by_cases e : stG xs k = 0
    · have e2 := (h k).1.2 e
      rw [if_neg (fun hh => hh.1 e2), if_neg (fun hh => hh.1 e)]
    · have e2 : stG zs k ≠ 0 := fun hh => e ((h k).1.1 hh)
      simp [e, e2]
theorem nxt_congr {xs zs : List Seg} (hl : zs.length = xs.length) (h : ∀ j, (stG zs j = 0 ↔ stG xs j = 0)) (a : Int) : ∀ k, nxtTo zs a k = nxtTo xs a k
  | 0 => rfl
  | k + 1 => by
    have ih := nxt_congr hl h a k
    unfold nxtTo
    rw [ih, hl]
    by_cases e : stG xs ((a + 1 + k).toNat % xs.length) = 0
    · rw [if_pos ((h _).2 e), if_pos e]
    · rw [if_neg (fun hh => e ((h _).1 hh)), if_neg e]
theorem seal_facts {sec : Int} {xs zs : List Seg} (h : OkR sec xs) (hz : zs = if sealE sec xs = 0 then sealX xs else xs) :
    OkR sec zs ∧ opnR zs = -1 ∧ latR zs = latR xs ∧ nxtR zs = nxtR xs ∧ topG zs = topG xs ∧ zs.length = xs.length ∧ ∀ j, (stG zs j = 0 ↔ stG xs j = 0) ∧ genG zs j = genG xs j ∧ usedG zs j = usedG xs j := by
  have key : OkR sec zs ∧ opnR zs = -1 ∧ zs.length = xs.length ∧ ∀ j, (stG zs j = 0 ↔ stG xs j = 0) ∧ genG zs j = genG xs j ∧ usedG zs j = usedG xs j := by
    rcases opn_or h with ⟨e1, hno⟩ | ⟨i, hi, e1, e2, hs⟩
    · have hE : sealE sec xs ≠ 0 := by unfold sealE; rw [if_neg (fun k => k h), if_pos (by omega)]; decide
      rw [if_neg hE] at hz
      subst hz
      exact ⟨h, e1, rfl, fun j => ⟨Iff.rfl, rfl, rfl⟩⟩
    · have hE : sealE sec xs = 0 := by unfold sealE; rw [if_neg (fun k => k h), if_neg (by omega)]
      rw [if_pos hE] at hz
      have hX : sealX xs = xs.set i (2, genG xs i, usedG xs i) := by unfold sealX; rw [e1]; rfl
      have hok := ok_seal hE
      rw [hX] at hz hok
      subst hz
      have hst : ∀ j, stG (xs.set i (2, genG xs i, usedG xs i)) j = if i = j then 2 else stG xs j := fun j => st_set hi
      refine ⟨hok, ?_, by simp, fun j => ⟨?_, ?_, ?_⟩⟩
      · rcases opn_or hok with ⟨e3, _⟩ | ⟨j, hj, e3, _, hs3⟩
        · exact e3
        · rw [hst] at hs3
          by_cases e : i = j
          · rw [if_pos e] at hs3; omega
          · rw [if_neg e] at hs3
            have := (opn_uniq h (by simpa using hj) hs3).1
            omega
      · rw [hst]
        by_cases e : i = j
        · subst e; simp [hs]
        · rw [if_neg e]
      · rw [gen_set hi]
        by_cases e : i = j
        · subst e; simp
        · rw [if_neg e]
      · rw [used_set9 hi]
        by_cases e : i = j
        · subst e; simp
        · rw [if_neg e]
  obtain ⟨k1, k2, k3, k4⟩ := key
  have hlat : latR zs = latR xs := by unfold latR; rw [k3]; exact lat_congr (fun j => ⟨(k4 j).1, (k4 j).2.1⟩) _
  refine ⟨k1, k2, hlat, ?_, ?_, k3, k4⟩
  · unfold nxtR; rw [hlat, k3]; exact nxt_congr k3 (fun j => (k4 j).1) _ _
  · unfold topG; rw [hlat, (k4 _).2.1]
theorem open_facts {sec : Int} {zs : List Seg} {g : Int} (hE : openE sec zs g = 0) : ∃ i, i < zs.length ∧ nxtR zs = (i : Nat) ∧ OkR sec (openX zs g) ∧ opnR (openX zs g) = (i : Nat) ∧ latR (openX zs g) = (i : Nat) ∧ topG (openX zs g) = g ∧ genG (openX zs g) i = g ∧ usedG (openX zs g) i = 1 ∧ leftR sec (openX zs g) = sec - 1 ∧
    (openX zs g).length = zs.length ∧ openX zs g = zs.set i (1, g, 1) := by
  have hok := ok_open hE
  unfold openE at hE
  split at hE
  · omega
  rename_i h0
  split at hE
  · omega
  split at hE
  · omega
  split at hE
  · omega
  rename_i hn
  have hk : OkR sec zs := Decidable.not_not.1 h0
  have hlen : 0 < zs.length := by have := hk.1.1; omega
  obtain ⟨i, hi, e1⟩ : ∃ i, i < zs.length ∧ nxtR zs = (i : Nat) := by
    rcases nxt_or zs with ⟨e, _⟩ | ⟨i, hi, e, _⟩
    · omega
    · exact ⟨_, Nat.mod_lt _ hlen, e⟩
  have hX : openX zs g = zs.set i (1, g, 1) := by unfold openX; rw [e1]; rfl
  rw [hX] at hok ⊢
  have hs : stG (zs.set i (1, g, 1)) i = 1 := by rw [st_set hi]; simp
  have hg : genG (zs.set i (1, g, 1)) i = g := by rw [gen_set hi]; simp
  have hu : usedG (zs.set i (1, g, 1)) i = 1 := by rw [used_set9 hi]; simp
  obtain ⟨e2, e3⟩ := opn_uniq hok (by simpa using hi) hs
  refine ⟨i, hi, e1, hok, e2, e3, ?_, hg, hu, ?_, by simp, rfl⟩
  · unfold topG; rw [e3, if_neg (by omega)]; exact hg
  · unfold leftR; rw [e2, if_pos (by omega)]; simp only [Int.toNat_natCast]; rw [hu]
theorem use_facts {sec : Int} {xs : List Seg} {n : Int} (hE : useE sec xs n = 0) : ∃ i, i < xs.length ∧ opnR xs = (i : Nat) ∧ OkR sec (useX xs n) ∧ opnR (useX xs n) = (i : Nat) ∧ latR (useX xs n) = (i : Nat) ∧ topG (useX xs n) = topG xs ∧ genG (useX xs n) i = genG xs i ∧ usedG (useX xs n) i = usedG xs i + n ∧
    (useX xs n).length = xs.length ∧ useX xs n = xs.set i (1, genG xs i, usedG xs i + n) ∧ 0 ≤ n ∧ n ≤ leftR sec xs := by
  have hok := ok_use hE
  unfold useE at hE
  split at hE
  · omega
  rename_i h0
  split at hE
  · omega
  rename_i h1
  split at hE
  · omega
  split at hE
  · omega
  have hk : OkR sec xs := Decidable.not_not.1 h0
  rcases opn_or hk with ⟨e1, _⟩ | ⟨i, hi, e1, e2, hs⟩
  · omega
  have hX : useX xs n = xs.set i (1, genG xs i, usedG xs i + n) := by unfold useX; rw [e1]; simp only [Int.toNat_natCast]; rw [hs]
  rw [hX] at hok ⊢
  have hs' : stG (xs.set i (1, genG xs i, usedG xs i + n)) i = 1 := by rw [st_set hi]; simp
  have hg : genG (xs.set i (1, genG xs i, usedG xs i + n)) i = genG xs i := by rw [gen_set hi]; simp
  have hu : usedG (xs.set i (1, genG xs i, usedG xs i + n)) i = usedG xs i + n := by rw [used_set9 hi]; simp
  obtain ⟨e3, e4⟩ := opn_uniq hok (by simpa using hi) hs'
  refine ⟨i, hi, e1, hok, e3, e4, ?_, hg, hu, by simp, rfl, by omega, by omega⟩
  unfold topG
  rw [e4, e2, if_neg (by omega), if_neg (by omega)]
  exact hg
theorem turn_open {sec : Int} {xs zs : List Seg} {g : Int} (h : OkR sec xs) (hz : zs = if sealE sec xs = 0 then sealX xs else xs) (hg : topG xs ≤ g) (hn : 0 ≤ nxtR xs) : openE sec zs (g + 1) = 0 := by
  obtain ⟨k1, k2, _, k4, k5, _⟩ := seal_facts h hz
  unfold openE
  rw [if_neg (fun k => k k1), if_neg (by omega), if_neg (by omega), if_neg (by omega)]
theorem use_zero {sec : Int} {xs : List Seg} (h : OkR sec xs) {n : Int} (h0 : 0 ≤ opnR xs) (h1 : 0 ≤ n) (h2 : n ≤ leftR sec xs) : useE sec xs n = 0 := by
  unfold useE
  rw [if_neg (fun k => k h), if_neg (by omega), if_neg (by omega), if_neg (by omega)]
theorem opn_bounds {sec : Int} {xs : List Seg} (h : OkR sec xs) {i : Nat} (ho : opnR xs = (i : Nat)) : i < xs.length ∧ 0 < genG xs i ∧ genG xs i = topG xs ∧ 1 ≤ usedG xs i ∧ usedG xs i + leftR sec xs = sec ∧ stG xs i = 1 := by
  rcases opn_or h with ⟨e1, _⟩ | ⟨j, hj, e1, e2, hs⟩
  · omega
  obtain rfl : j = i := by omega
  have hm := may_live (may_at h.2.1 hj) (by rw [show (xs.getD j seg0).1 = 1 from hs]; decide)
  refine ⟨hj, hm.2.1, ?_, hm.2.2.1, ?_, hs⟩
  · unfold topG; rw [e2, if_neg (by omega)]; rfl
  · unfold leftR; rw [e1, if_pos (by omega)]; simp only [Int.toNat_natCast]; omega
end Go.Proofs.YtodcohkblgjfeaaGreat

namespace Go.Proofs.YtodcohkblgjfeaaGreat
open Go.RowKit
set_option maxRecDepth 100000
set_option linter.unusedVariables false
set_option linter.unusedSimpArgs false
structure LgM (w : World) (X : Nat → Prop) (l p d n : Nat) (s : Sup) (t : Int) (k : Dk) (xs : List Seg) (pe : Nat) : Prop where
  log : ∃ A c, LogM w X l p d n s t k s.b A xs.length c xs false ∧ xs.length ≤ c ∧ (A = none → c = 0)
  good : Good k
  ok : OkR s.b xs
  top : topG xs ≤ s.g
  may : s.May
  sin : s.In
  dims : (xs.length : Int) = s.a
  n2 : 2 ≤ n ∧ n ≤ 2048
  room : 2 + s.a * s.b ≤ (n : Int)
  pend : k.pend.length ≤ pe
section
variable {w w' : World} {X Y : Nat → Prop} {l p d n m c : Nat} {s : Sup} {t : Int} {k : Dk} {A : Option Addr} {xs : List Seg} {pe : Nat}
theorem LgM.below (h : LgM w X l p d n s t k xs pe) (hb : Below w.heap.size w w') : LgM w' X l p d n s t k xs pe := by
  obtain ⟨A, c, h1, h2, h3⟩ := h.log
  exact ⟨⟨A, c, h1.below hb, h2, h3⟩, h.good, h.ok, h.top, h.may, h.sin, h.dims, h.n2, h.room, h.pend⟩
theorem LgM.grow (h : LgM w X l p d n s t k xs pe) (hb : Below w.heap.size w w') : LgM w' (fun b => X b ∨ (w.heap.size ≤ b ∧ b < w'.heap.size)) l p d n s t k xs pe := by
  obtain ⟨A, c, h1, h2, h3⟩ := h.log
  exact ⟨⟨A, c, h1.grow hb, h2, h3⟩, h.good, h.ok, h.top, h.may, h.sin, h.dims, h.n2, h.room, h.pend⟩
theorem LogM.less {sec : Int} {m c : Nat} {br : Bool} (h : LogM w Y l p d n s t k sec A m c xs br) (hX : ∀ b, X b → Y b) : LogM w X l p d n s t k sec A m c xs br := by
  obtain ⟨h1, h2, R, h3, h4, h5⟩ := h
  refine ⟨h1, fun e => h2 (hX _ e), R, ?_, h4, h5⟩
  exact StoreM.kept (Z := fun _ => True) h3 (Kept.refl _ _) (fun _ _ _ => trivial) (fun b _ h => by
    rcases h with h | h | h
    · exact .inl (hX b h)
    · exact .inr (.inl h)
    · exact .inr (.inr h))
theorem LgM.less (h : LgM w Y l p d n s t k xs pe) (hX : ∀ b, X b → Y b) : LgM w X l p d n s t k xs pe := by
  obtain ⟨A, c, h1, h2, h3⟩ := h.log
  exact ⟨⟨A, c, h1.less hX, h2, h3⟩, h.good, h.ok, h.top, h.may, h.sin, h.dims, h.n2, h.room, h.pend⟩
theorem wrs_pend : ∀ (xss : List (List Int)) (k : Dk) (i : Nat), Good k → (wrs k i xss).1.pend.length ≤ k.pend.length + xss.length
  | [], k, i, h => Nat.le_refl _
  | ys :: r, k, i, h => by
    unfold wrs
    rw [if_pos h.wre]
    have h1 := wrs_pend r (k.wr (Dk.put i ys)) (i + 1) (h.put i ys)
    have h2 : (k.wr (Dk.put i ys)).pend.length ≤ k.pend.length + 1 := by
      rw [h.wr]
      unfold Dk.put
      simp
    simp only [List.length_cons]
    omega
end
end Go.Proofs.YtodcohkblgjfeaaGreat

namespace Go.Proofs.YtodcohkblgjfeaaGreat
open Go.RowKit
set_option maxRecDepth 100000
set_option linter.unusedVariables false
set_option linter.unusedSimpArgs false
def layK (k : Dk) (s : Sup) (xs : List Seg) (i : Nat) (bs : List Int) : Dk := (wrs k (2 + (i : Int) * s.b + usedG xs i).toNat (splitL (genG xs i) (usedG xs i) bs)).1
section
variable {w w' : World} {X Y : Nat → Prop} {l p d n m c : Nat} {s : Sup} {t : Int} {k : Dk} {A : Option Addr} {xs : List Seg} {pe : Nat}
theorem LogM.setOff {sec : Int} {br : Bool} {q : Nat} {ty : TypeId} {cs : Array Value} (h : LogM w Y l p d n s t k sec A m c xs br) (hm : 2 ≤ m) (hq : Blk w q ty cs) (hsz : cs.size ≤ 3) (hY : Y q) (i : Nat) (v : Value) : LogM (w.setCell ⟨q, i, none⟩ v) Y l p d n s t k sec A m c xs br := by
  obtain ⟨h1, h2, R, h3, h4, h5⟩ := h
  obtain ⟨b, off, rfl, hR, hc⟩ := h4.2 (by omega)
  have hbq : b ≠ q := fun e => by
    subst e
    have h9 := hc (m - 1) (by omega) 2 _ rfl
    rw [hq.cell, Array.getElem?_eq_none (by omega)] at h9
    cases h9
  have hlq : l ≠ q := fun e => h2 (e ▸ hY)
  have hk := (Kept.refl (· ≠ q) w).setCell (p := ⟨q, i, none⟩) (fun h => h rfl) v
  refine ⟨h1.kept hk hlq, h2, (· = b), ?_, ⟨h4.1, fun _ => ⟨b, off, rfl, rfl, fun i2 hi2 j u hu => (hk.cell (p := ⟨b, _, none⟩) hbq).trans (hc i2 hi2 j u hu)⟩⟩, fun b2 e => by subst e; exact ⟨Nat.lt_of_lt_of_le (h5 _ hR).1 hk.size, (h5 _ hR).2⟩⟩
  exact StoreM.kept h3 hk (fun b2 _ hx e => hx (.inl (e ▸ hY))) (fun b2 _ hh => by
    rcases hh with hh | hh | hh
    · exact .inl hh
    · exact .inr (.inl hh)
    · exact .inr (.inr (hh ▸ hR)))
theorem LgM.setOff {q : Nat} {ty : TypeId} {cs : Array Value} (h : LgM w Y l p d n s t k xs pe) (hq : Blk w q ty cs) (hsz : cs.size ≤ 3) (hY : Y q) (i : Nat) (v : Value) : LgM (w.setCell ⟨q, i, none⟩ v) Y l p d n s t k xs pe := by
  obtain ⟨A, c, h1, h2, h3⟩ := h.log
  have := h.ok.1.1
  exact ⟨⟨A, c, h1.setOff (by omega) hq hsz hY i v, h2, h3⟩, h.good, h.ok, h.top, h.may, h.sin, h.dims, h.n2, h.room, h.pend⟩
theorem LgM.setOff3 {q : Nat} {ty : TypeId} {a0 a1 a2 : Value} (h : LgM w Y l p d n s t k xs pe) (hq : Blk w q ty #[a0, a1, a2]) (hY : Y q) (hX : ∀ b, X b → Y b) (hne : ∀ b, X b → b ≠ q) (b0 b1 b2 : Value) :
    LgM (((w.setCell ⟨q, 0, none⟩ b0).setCell ⟨q, 1, none⟩ b1).setCell ⟨q, 2, none⟩ b2) X l p d n s t k xs pe ∧ Blk (((w.setCell ⟨q, 0, none⟩ b0).setCell ⟨q, 1, none⟩ b1).setCell ⟨q, 2, none⟩ b2) q ty #[b0, b1, b2] ∧ ∀ V, Kept X V w → Kept X V (((w.setCell ⟨q, 0, none⟩ b0).setCell ⟨q, 1, none⟩ b1).setCell ⟨q, 2, none⟩ b2) := by
  have e0 := hq.set_ 0 b0
  have e1 := e0.set_ 1 b1
  have e2 := e1.set_ 2 b2
  have g0 := h.setOff hq (by simp) hY 0 b0
  have g1 := g0.setOff e0 (by simp) hY 1 b1
  have g2 := g1.setOff e1 (by simp) hY 2 b2
  exact ⟨g2.less hX, e2, fun V hV => ((hV.setCell (p := ⟨q, 0, none⟩) (fun hh => hne q hh rfl) _).setCell (p := ⟨q, 1, none⟩) (fun hh => hne q hh rfl) _).setCell (p := ⟨q, 2, none⟩) (fun hh => hne q hh rfl) _⟩
theorem lay_lg {i : Nat} {B : Option Addr} {n0 c0 : Nat} {bs : List Int} (h : LgM w X l p d n s t k xs pe) (hX : ∀ b, X b → b < w.heap.size) (hpe : pe ≤ 900000)
    (ho : opnR xs = (i : Nat)) (hfit : ((cntOf n0 : Nat) : Int) ≤ leftR s.b xs) (hb : RowI .u8 w (· < w.heap.size) B n0 bs) (hbn : B = none → c0 = 0) (hbc : n0 ≤ c0) (hn0 : n0 ≤ 16384) (hby : Bytes bs) :
    Calls Tryz.prog 51 #[.pointer (some ⟨l, 0, none⟩), .slice B n0 c0] w fun e w' =>
      e = .returned (.tuple #[.agg #[.int .i64 (i : Int), .int .u64 (genG xs i), .int .i64 (usedG xs i)], .int .i64 0]) ∧ LgM w' X l p d n s t (layK k s xs i bs) (useX xs ((cntOf n0 : Nat) : Int)) (pe + cntOf n0) ∧ Kept X w w' := by
  obtain ⟨A, c, h1, h2, h3⟩ := h.log
  obtain ⟨b1, b2, b3, b4, b5, b6⟩ := opn_bounds h.ok ho
  have hue := use_zero h.ok (n := ((cntOf n0 : Nat) : Int)) (by omega) (by omega) hfit
  have htop := h.top
  have hsin := h.sin
  have hmay := h.may
  have hg : genG xs i ≤ 18446744073709551615 := by
    have h9 : s.g ≤ 18446744073709551615 := by
      have := hsin
      simp only [Sup.In, InS] at this
      omega
    omega
  have hb64 : s.b ≤ 64 := hmay.2.2.2.1
  have hoe := opened_yes h.ok (by omega)
  have hbl : bs.length = n0 := hb.1
  have key := lay_good (i := i) (c0 := c0) h1 hX h2 h3 h.good hoe.1 (by rw [hoe.2, ho]) b1 hb hbn hbc hn0 ⟨by omega, hg⟩ ⟨by omega, by omega⟩ hue hby (by rw [← h.dims]; omega) h.may (by omega) h.room h.n2.2 (by have := h.pend; omega)
  refine key.mono ?_
  rintro e w' ⟨he, A', c', h4, h5, h6, h7⟩
  refine ⟨he, ⟨⟨A', c', h4, h6, h7⟩, (wrs_good _ _ _ h.good).2, ok_use hue, ?_, h.may, h.sin, ?_, h.n2, h.room, ?_⟩, h5⟩
  · obtain ⟨_, _, _, _, _, _, e5, _⟩ := use_facts hue
    rw [e5]; exact h.top
  · obtain ⟨_, _, _, _, _, _, _, _, _, e5, _⟩ := use_facts hue
    rw [e5]; exact h.dims
  · have h8 := wrs_pend (splitL (genG xs i) (usedG xs i) bs) k (2 + (i : Int) * s.b + usedG xs i).toNat h.good
    rw [split_length, hbl] at h8
    have := h.pend
    unfold layK
    omega
theorem turn_lg (h : LgM w X l p d n s t k xs pe) (hX : ∀ b, X b → b < w.heap.size) (hpe : pe ≤ 900000) (hgm : s.g + 1 ≤ 18446744073709551615) :
    Calls Tryz.prog 50 #[.pointer (some ⟨l, 0, none⟩)] w fun e w' =>
      ((nxtR xs < 0 ∧ e = .returned (.int .i64 6) ∧ LgM w' X l p d n s t k xs pe) ∨
       (∃ i : Nat, nxtR xs = (i : Nat) ∧ e = .returned (.int .i64 0) ∧ LgM w' X l p d n (genS s) (nxt t) (begK k s t i) (openX (sealedX s.b xs) (s.g + 1)) 0)) ∧ Kept X w w' := by
  obtain ⟨A, c, h1, h2, h3⟩ := h.log
  have hz : sealedX s.b xs = if sealE s.b xs = 0 then sealX xs else xs := rfl
  obtain ⟨z1, z2, z3, z4, z5, z6, z7⟩ := seal_facts h.ok hz
  have hok : ∀ {P : Prop}, ¬ OkR s.b xs → P := fun hh => absurd h.ok hh
  have hop : nextE s.b xs = 0 → openE s.b (sealedX s.b xs) (s.g + 1) = 0 := fun hn => turn_open h.ok hz h.top (by
    unfold nextE at hn
    rw [if_neg (fun k => k h.ok)] at hn
    split at hn
    · cases hn
    · omega)
  have key := turn_good h1 hX h2 h3 h.good (by have := h.pend; omega) h.may h.sin hgm h.n2.1 h.n2.2 h.dims h.room hop
  refine key.mono ?_
  intro e w' ht
  rcases ht with ⟨hn, he, h4, h5⟩ | ⟨hn, he, v, hk, kk, ys, A', c', _, h4, h5, h6, h7, h8⟩
  · have hne : nxtR xs < 0 ∧ nextE s.b xs = 6 := by
      unfold nextE at hn ⊢
      rw [if_neg (fun k => k h.ok)] at hn ⊢
      split at hn
      · rename_i hh; exact ⟨hh, by rw [if_pos hh]⟩
      · exact absurd rfl hn
    exact ⟨.inl ⟨hne.1, by rw [he, hne.2], ⟨A, c, h4, h2, h3⟩, h.good, h.ok, h.top, h.may, h.sin, h.dims, h.n2, h.room, h.pend⟩, h5⟩
  · have hE := hop hn
    rcases h8 with ⟨h8, _⟩ | ⟨_, h8, h9⟩
    · exact absurd hE h8
    subst h8 h9
    obtain ⟨i, i1, i2, i3, i4, i5, i6, i7, i8, i9, i10, i11⟩ := open_facts hE
    rw [z4] at i2
    have hnx : nxtR (sealedX s.b xs) = (i : Nat) := by rw [z4]; exact i2
    refine ⟨.inr ⟨i, i2, he, ⟨A', c', ?_, h6, h7⟩, ?_, i3, ?_, ?_, ?_, ?_, h.n2, h.room, ?_⟩, hk.trans h5 (fun b h => h)⟩
    · rw [hnx] at h4; exact h4
    · exact ((((h.good.put _ _).sync).put _ _).sync)
    · rw [i6]; exact Int.le_refl _
    · have := h.may
      exact ⟨this.1, this.2.1, this.2.2.1, this.2.2.2.1, by have := this.2.2.2.2; show s.r ≤ s.g + 1; omega⟩
    · have := h.sin
      simp only [Sup.In, InS] at this ⊢
      omega
    · rw [i10, z6]; exact h.dims
    · have hgd : Good ((setK k s t).wr (Dk.put (2 + (i : Int) * s.b).toNat (hdrL (i : Int).toNat (s.g + 1)))) := ((h.good.put _ _).sync).put _ _
      have := hgd.pend_sync
      unfold begK
      rw [this]
      exact Nat.le_refl _
theorem turn_facts (h : LgM w X l p d n s t k xs pe) {i : Nat} (hi : nxtR xs = (i : Nat)) : opnR (openX (sealedX s.b xs) (s.g + 1)) = (i : Nat) ∧ genG (openX (sealedX s.b xs) (s.g + 1)) i = s.g + 1 ∧ usedG (openX (sealedX s.b xs) (s.g + 1)) i = 1 ∧ leftR s.b (openX (sealedX s.b xs) (s.g + 1)) = s.b - 1 := by
  have hz : sealedX s.b xs = if sealE s.b xs = 0 then sealX xs else xs := rfl
  obtain ⟨_, _, _, z4, _⟩ := seal_facts h.ok hz
  have hE := turn_open h.ok hz h.top (by omega)
  obtain ⟨j, _, j2, _, j4, _, _, j7, j8, j9, _⟩ := open_facts hE
  obtain rfl : j = i := by omega
  exact ⟨j4, j7, j8, j9⟩
theorem left_open {sec : Int} {xs : List Seg} {K : Int} (h : OkR sec xs) (hK : 1 ≤ K) (hl : K ≤ leftR sec xs) : ∃ i : Nat, opnR xs = (i : Nat) := by
  rcases opn_or h with ⟨e, _⟩ | ⟨i, _, e, _⟩
  · unfold leftR at hl
    rw [e, if_neg (by omega)] at hl
    omega
  · exact ⟨i, e⟩
end
end Go.Proofs.YtodcohkblgjfeaaGreat

namespace Go.Proofs.YtodcohkblgjfeaaGreat
set_option maxRecDepth 100000
open Go.RowKit
set_option linter.unusedVariables false
theorem u8_ok (w : World) (r g : Nat) (xs : List Int) (pos : Nat) (h : Rd w r g xs pos 0) (hn : 1 ≤ xs.length - pos) (hb : Bytes xs) :
    Calls Tryz.prog 165 #[.pointer (some ⟨r, 0, none⟩)] w fun e w' =>
      e = .returned (.int .u8 (numOf ((xs.drop pos).take 1))) ∧ Rd w' r g xs (pos + 1) 0 ∧ Kept (fun b => b < w.heap.size ∧ b ≠ r) w w' := by
  have H := Lib.hid h
  have HB := Lib.hid hb
  have hl : ((xs.drop pos).take 1).length = 1 := by simp; omega
  have hbt : Bytes ((xs.drop pos).take 1) := by
    have : Bytes (xs.drop pos) := fun j => by have := hb (pos + j); simpa [List.getD, List.getElem?_drop] using this
    exact this.take 1
  have hv := numOf_bounds _ hbt
  rw [hl] at hv
  have hv1 : numOf ((xs.drop pos).take 1) < 256 := hv.2
  have hv0 := hv.1
  clear h hb hbt hv hl
  go_enter Tryz.func165, Tryz.ntmps165
  go_wp2_with (go_at_call 171; refine (number_ok _ r g xs pos 1 H.out hn (by omega) HB.out).mono ?_; rintro e w1 ⟨rfl, hrd, hk⟩; have HD := Lib.hid hrd; have HK := Lib.hid hk; clear hrd hk)
  go_ret
  exact ⟨ret_int (by omega), HD.out, HK.out⟩
theorem part_bounds {xs : List Int} (hb : Bytes xs) (i n : Nat) : 0 ≤ numOf ((xs.drop i).take n) ∧ numOf ((xs.drop i).take n) < ((256 ^ n : Nat) : Int) := by
  have hd : Bytes ((xs.drop i).take n) := by
    have : Bytes (xs.drop i) := fun j => by have := hb (i + j); simpa [List.getD, List.getElem?_drop] using this
    exact this.take n
  have h := numOf_bounds _ hd
  have h2 : ((xs.drop i).take n).length ≤ n := by simp; omega
  have h3 : (256 ^ ((xs.drop i).take n).length : Nat) ≤ 256 ^ n := Nat.pow_le_pow_right (by omega) h2
  exact ⟨h.1, by omega⟩
def kindOf (xs : List Int) : Int := numOf (xs.take 1)
def flagsOf (xs : List Int) : Int := numOf ((xs.drop 1).take 4)
def expOf (xs : List Int) : Int := numOf ((xs.drop 5).take 4)
def seqOf (xs : List Int) : Int := numOf ((xs.drop 9).take 8)
def klenOf (xs : List Int) : Nat := (numOf ((xs.drop 17).take 2)).toNat
def vlenOf (xs : List Int) : Nat := (numOf ((xs.drop 19).take 2)).toNat
theorem klen_eq {xs : List Int} (hb : Bytes xs) : numOf ((xs.drop 17).take 2) = (klenOf xs : Int) := by have := (part_bounds hb 17 2).1; unfold klenOf; omega
theorem vlen_eq {xs : List Int} (hb : Bytes xs) : numOf ((xs.drop 19).take 2) = (vlenOf xs : Int) := by have := (part_bounds hb 19 2).1; unfold vlenOf; omega
theorem klen_lt {xs : List Int} (hb : Bytes xs) : klenOf xs < 65536 := by have := (part_bounds hb 17 2).2; unfold klenOf; omega
theorem vlen_lt {xs : List Int} (hb : Bytes xs) : vlenOf xs < 65536 := by have := (part_bounds hb 19 2).2; unfold vlenOf; omega
structure Heading (w wi : World) (r g : Nat) (xs : List Int) (pos : Nat) (cs : Array Value) : Prop where
  rd : Rd wi r g xs pos 0
  lo : r < w.heap.size
  lo' : g < w.heap.size
  res : Blk wi w.heap.size 172 #[.int .i64 0, .int .u32 0, .int .u32 0, .int .u64 0, .int .i64 0, .int .i64 0]
  st : Blk wi (w.heap.size + 1) 172 cs
  kept : Kept (fun b => b < w.heap.size ∧ b ≠ r) w wi
theorem Heading.read {w wi w' : World} {r g : Nat} {xs : List Int} {pos pos' : Nat} {cs : Array Value} (h : Heading w wi r g xs pos cs) (hr : Rd w' r g xs pos' 0) (hk : Kept (fun b => b < wi.heap.size ∧ b ≠ r) wi w') : Heading w w' r g xs pos' cs :=
  ⟨hr, h.lo, h.lo', h.res.kept hk ⟨h.res.lt, by have := h.lo; omega⟩, h.st.kept hk ⟨h.st.lt, by have := h.lo; omega⟩, h.kept.trans hk fun b hb => ⟨Nat.lt_of_lt_of_le hb.1 h.kept.size, hb.2⟩⟩
theorem Heading.set {w wi : World} {r g : Nat} {xs : List Int} {pos : Nat} {cs cs' : Array Value} (h : Heading w wi r g xs pos cs) (i : Nat) (u : Value) (hu : cs.setIfInBounds i u = cs') :
    Heading w (wi.setCell ⟨w.heap.size + 1, i, none⟩ u) r g xs pos cs' :=
  ⟨h.rd.far (by have := h.lo; show w.heap.size + 1 ≠ r; omega) (by have := h.lo'; show w.heap.size + 1 ≠ g; omega) u, h.lo, h.lo', h.res.far (by show w.heap.size ≠ w.heap.size + 1; omega) u, hu ▸ h.st.set_ i u, h.kept.setCell (by show ¬ (w.heap.size + 1 < w.heap.size ∧ w.heap.size + 1 ≠ r); omega) u⟩
def HeadTold (xs : List Int) (r g : Nat) (w : World) (e : Ending) (w' : World) : Prop :=
  e = .returned (.agg #[.int .i64 (kindOf xs), .int .u32 (flagsOf xs), .int .u32 (expOf xs), .int .u64 (seqOf xs), .int .i64 (klenOf xs), .int .i64 (vlenOf xs)]) ∧
    Rd w' r g xs 21 0 ∧ Kept (fun b => b < w.heap.size ∧ b ≠ r) w w'
set_option maxHeartbeats 16000000 in
theorem readHead_ok (xs : List Int) (w : World) (r g : Nat) (h : Rd w r g xs 0 0) (hl : 21 ≤ xs.length) (hb : Bytes xs) (hr : r < w.heap.size) (hg : g < w.heap.size) :
    Calls Tryz.prog 150 #[.pointer (some ⟨r, 0, none⟩)] w (HeadTold xs r g w) := by
  have HBY := Lib.hid hb
  have HRD := Lib.hid h
  have hk8 := part_bounds hb 0 1
  rw [List.drop_zero] at hk8
  have hk0 : 0 ≤ kindOf xs := hk8.1
  have hk1 : kindOf xs < 256 := hk8.2
  have hkl := klen_lt hb
  have hvl := vlen_lt hb
  clear hb h hk8
  go_enter Tryz.func150, Tryz.ntmps150
  go_wp2_with fail
  generalize hw1 : (w.alloc _).alloc _ = w1
  have HY0 := Lib.hid (show Heading w w1 r g xs 0 #[.int .i64 0, .int .u32 0, .int .u32 0, .int .u64 0, .int .i64 0, .int .i64 0] by
    rw [← hw1]
    have hk : Kept (fun b => b < w.heap.size) w ((w.alloc (.cells #[.int .i64 0, .int .u32 0, .int .u32 0, .int .u64 0, .int .i64 0, .int .i64 0] 172)).alloc (.cells #[.int .i64 0, .int .u32 0, .int .u32 0, .int .u64 0, .int .i64 0, .int .i64 0] 172)) :=
      ((Kept.refl _ w).alloc (fun b h => h) _).alloc (fun b h => by simp; omega) _
    exact ⟨HRD.out.kept hk hr hg, hr, hg, (Blk.new w _ _).alloc _, blk_new2 w _ _ _, hk.mono fun b h => h.1⟩)
  clear hw1
  refine (u8_ok _ r g xs 0 HY0.out.rd (by omega) HBY.out).mono ?_
  rintro e w2 ⟨rfl, hrd, hk⟩
  rw [List.drop_zero, show numOf (xs.take 1) = kindOf xs from rfl]
  have HY1 := Lib.hid ((HY0.out.read hrd hk).set 0 (.int .i64 (kindOf xs)) rfl)
  have hc := (HY0.out.read hrd hk).st.cell 0
  have hf := (HY0.out.read hrd hk).st.frozen 0
  clear hrd hk
  go_wp2_with fail
  clear hc hf
  refine (u32_ok _ r g xs 1 HY1.out.rd (by omega) HBY.out).mono ?_
  rintro e w3 ⟨rfl, hrd, hk⟩
  rw [show numOf ((xs.drop 1).take 4) = flagsOf xs from rfl]
  have HY2 := Lib.hid ((HY1.out.read hrd hk).set 1 (.int .u32 (flagsOf xs)) rfl)
  have hc := (HY1.out.read hrd hk).st.cell 1
  have hf := (HY1.out.read hrd hk).st.frozen 1
  clear hrd hk
  go_wp2_with fail
  clear hc hf
  refine (u32_ok _ r g xs 5 HY2.out.rd (by omega) HBY.out).mono ?_
  rintro e w4 ⟨rfl, hrd, hk⟩
  rw [show numOf ((xs.drop 5).take 4) = expOf xs from rfl]
  have HY3 := Lib.hid ((HY2.out.read hrd hk).set 2 (.int .u32 (expOf xs)) rfl)
  have hc := (HY2.out.read hrd hk).st.cell 2
  have hf := (HY2.out.read hrd hk).st.frozen 2
  clear hrd hk
  go_wp2_with fail
  clear hc hf
  refine (u64_ok _ r g xs 9 HY3.out.rd (by omega) HBY.out).mono ?_
  rintro e w5 ⟨rfl, hrd, hk⟩
  rw [show numOf ((xs.drop 9).take 8) = seqOf xs from rfl]
  have HY4 := Lib.hid ((HY3.out.read hrd hk).set 3 (.int .u64 (seqOf xs)) rfl)
  have hc := (HY3.out.read hrd hk).st.cell 3
  have hf := (HY3.out.read hrd hk).st.frozen 3
  clear hrd hk
  go_wp2_with fail
  clear hc hf
  refine (u16_ok _ r g xs 17 HY4.out.rd (by omega) HBY.out).mono ?_
  rintro e w6 ⟨rfl, hrd, hk⟩
  rw [klen_eq HBY.out]
  have HY5 := Lib.hid ((HY4.out.read hrd hk).set 4 (.int .i64 (klenOf xs)) rfl)
  have hc := (HY4.out.read hrd hk).st.cell 4
  have hf := (HY4.out.read hrd hk).st.frozen 4
  clear hrd hk
  go_wp2_with fail
  clear hc hf
  refine (u16_ok _ r g xs 19 HY5.out.rd (by omega) HBY.out).mono ?_
  rintro e w7 ⟨rfl, hrd, hk⟩
  rw [vlen_eq HBY.out]
  have HY6 := Lib.hid ((HY5.out.read hrd hk).set 5 (.int .i64 (vlenOf xs)) rfl)
  have hc := (HY5.out.read hrd hk).st.cell 5
  have hf := (HY5.out.read hrd hk).st.frozen 5
  clear hrd hk
  go_wp2_with (first
    | (refine wpList_load_rowB (.tmp 3) 172 rfl rfl (w.heap.size + 1) rfl 172 [.int .i64 (kindOf xs), .int .u32 (flagsOf xs), .int .u32 (expOf xs), .int .u64 (seqOf xs), .int .i64 (klenOf xs), .int .i64 (vlenOf xs)] _ Tryz.underlying172 rfl size_head HY6.out.st ?_)
    | (refine wpList_store_rowB (.tmp 2) (.tmp 25) 172 rfl rfl w.heap.size #[.int .i64 (kindOf xs), .int .u32 (flagsOf xs), .int .u32 (expOf xs), .int .u64 (seqOf xs), .int .i64 (klenOf xs), .int .i64 (vlenOf xs)] rfl rfl 172 _ HY6.out.res size_head rfl (one_head _ _ _ _ _ _) ?_)
    | (with_reducible refine halt_end ?_))
  have hst := setRow_heap _ _ _ (headC (kindOf xs) (flagsOf xs) (expOf xs) (seqOf xs) (klenOf xs) (vlenOf xs)) _ _ HY6.out.res
  refine Halt.ret (results_row1 rfl _ _ w.heap.size 172 (headC (kindOf xs) (flagsOf xs) (expOf xs) (seqOf xs) (klenOf xs) (vlenOf xs)) _ rfl hst Tryz.underlying172 rfl size_head) rfl ⟨rfl, ?_, ?_⟩
  · exact HY6.out.rd.kept ((Kept.refl (fun b => b < w.heap.size) _).setRow (by show ¬ w.heap.size < w.heap.size; omega) _) HY6.out.lo HY6.out.lo'
  · exact HY6.out.kept.setRow (by show ¬ (w.heap.size < w.heap.size ∧ w.heap.size ≠ r); omega) _
end Go.Proofs.YtodcohkblgjfeaaGreat

namespace Go.Proofs.YtodcohkblgjfeaaGreat
set_option maxRecDepth 100000
open Go.RowKit
set_option linter.unusedVariables false
theorem take_part {α : Type} (xs : List α) (m i n : Nat) (h : i + n ≤ m) : ((xs.take m).drop i).take n = (xs.drop i).take n := by
  rw [List.drop_take, List.take_take, Nat.min_eq_left (by omega)]
theorem kind_take (xs : List Int) (m : Nat) (h : 21 ≤ m) : kindOf (xs.take m) = kindOf xs := by unfold kindOf; rw [List.take_take, Nat.min_eq_left (by omega)]
theorem flags_take (xs : List Int) (m : Nat) (h : 21 ≤ m) : flagsOf (xs.take m) = flagsOf xs := by unfold flagsOf; rw [take_part _ _ _ _ (by omega)]
theorem exp_take (xs : List Int) (m : Nat) (h : 21 ≤ m) : expOf (xs.take m) = expOf xs := by unfold expOf; rw [take_part _ _ _ _ (by omega)]
theorem seq_take (xs : List Int) (m : Nat) (h : 21 ≤ m) : seqOf (xs.take m) = seqOf xs := by unfold seqOf; rw [take_part _ _ _ _ (by omega)]
theorem klen_take (xs : List Int) (m : Nat) (h : 21 ≤ m) : klenOf (xs.take m) = klenOf xs := by unfold klenOf; rw [take_part _ _ _ _ (by omega)]
theorem vlen_take (xs : List Int) (m : Nat) (h : 21 ≤ m) : vlenOf (xs.take m) = vlenOf xs := by unfold vlenOf; rw [take_part _ _ _ _ (by omega)]
def MayB (xs : List Int) : Prop := May (kindOf xs) (flagsOf xs) (expOf xs) (seqOf xs) (klenOf xs) (vlenOf xs)
instance aI6Need0 (xs : List Int) : Decidable (MayB xs) := by unfold MayB; infer_instance
def needOf (xs : List Int) : Nat := 21 + klenOf xs + vlenOf xs
theorem flags_bounds {xs : List Int} (hb : Bytes xs) : 0 ≤ flagsOf xs ∧ flagsOf xs ≤ 4294967295 := by have := part_bounds hb 1 4; unfold flagsOf; omega
theorem exp_bounds {xs : List Int} (hb : Bytes xs) : 0 ≤ expOf xs ∧ expOf xs ≤ 4294967295 := by have := part_bounds hb 5 4; unfold expOf; omega
theorem seq_bounds {xs : List Int} (hb : Bytes xs) : 0 ≤ seqOf xs ∧ seqOf xs ≤ 18446744073709551615 := by have := part_bounds hb 9 8; unfold seqOf; omega
theorem need_short (A : Option Addr) (n c : Nat) (w : World) (hn : n < 21) :
    Calls Tryz.prog 147 #[.slice A n c] w fun e w' => e = .returned (.tuple #[.int .i64 0, .int .i64 9]) ∧ Below w.heap.size w w' := by
  go_enter Tryz.func147, Tryz.ntmps147
  go_wp2_with fail
  go_ret2
  exact ⟨rfl, Below.refl _ _⟩
set_option maxHeartbeats 16000000 in
theorem need_bad (A : Option Addr) (n c : Nat) (xs : List Int) (S : Nat → Prop) (w : World) (hx : RowI .u8 w S A n xs) (hS : ∀ b, S b → b < w.heap.size) (hb : Bytes xs) (hn : 21 ≤ n) (hc : n ≤ c) (hm : ¬ MayB xs) :
    Calls Tryz.prog 147 #[.slice A n c] w fun e w' => e = .returned (.tuple #[.int .i64 0, .int .i64 160]) ∧ Below w.heap.size w w' := by
  obtain ⟨b0, o0, rfl, hb0, hc0⟩ := hx.2 (by omega)
  have hl := hx.1
  have HX := Lib.hid (hx.take 21 hn)
  have HBY := Lib.hid (hb.take 21)
  have HM := Lib.hid hm
  have h1 : ¬ ((n : Int) < 21) := by omega
  have h2 : (21 : Int) ≤ c := by omega
  clear hx hb hm hb0 hc0
  go_enter Tryz.func147, Tryz.ntmps147
  go_wp2_with fail
  refine (read_any _ 21 c (xs.take 21) S w HX.out hS (by omega)).mono ?_
  rintro e w2 ⟨r, rfl, hr, hrd, hb⟩
  have HB2 := Lib.hid hb
  have HD2 := Lib.hid hrd
  clear hb hrd
  go_wp2_with fail
  refine (readHead_ok (xs.take 21) w2 r w.heap.size HD2.out (by simp; omega) HBY.out HD2.out.blk.lt HD2.out.arr.lt).mono ?_
  rintro e w3 ⟨rfl, hrd, hk⟩
  rw [kind_take _ _ (by omega), flags_take _ _ (by omega), exp_take _ _ (by omega), seq_take _ _ (by omega), klen_take _ _ (by omega), vlen_take _ _ (by omega)]
  have HB3 := Lib.hid (HB2.out.trans (hk.to_below (B := w.heap.size) fun b hb => ⟨by have := HB2.out.size; omega, by omega⟩))
  clear hrd hk
  go_wp2_with fail
  refine (may_no _ _ _ _ _ _ _ HM.out).mono ?_
  rintro e w4 ⟨rfl, hb⟩
  have HB4 := Lib.hid ((HB3.out.alloc HB3.out.size _).trans (hb.mono (by have := HB3.out.size; simp; omega)))
  clear hb
  go_wp2_with fail
  go_ret2
  exact ⟨rfl, HB4.out⟩
set_option maxHeartbeats 16000000 in
theorem need_ok (A : Option Addr) (n c : Nat) (xs : List Int) (S : Nat → Prop) (w : World) (hx : RowI .u8 w S A n xs) (hS : ∀ b, S b → b < w.heap.size) (hb : Bytes xs) (hn : 21 ≤ n) (hc : n ≤ c) (hm : MayB xs) :
    Calls Tryz.prog 147 #[.slice A n c] w fun e w' => e = .returned (.tuple #[.int .i64 ((needOf xs : Nat) : Int), .int .i64 0]) ∧ Below w.heap.size w w' := by
  obtain ⟨b0, o0, rfl, hb0, hc0⟩ := hx.2 (by omega)
  have hl := hx.1
  have HX := Lib.hid (hx.take 21 hn)
  have HBY := Lib.hid (hb.take 21)
  have HM := Lib.hid hm
  have h1 : ¬ ((n : Int) < 21) := by omega
  have h2 : (21 : Int) ≤ c := by omega
  clear hx hb hm hb0 hc0
  go_enter Tryz.func147, Tryz.ntmps147
  go_wp2_with fail
  refine (read_any _ 21 c (xs.take 21) S w HX.out hS (by omega)).mono ?_
  rintro e w2 ⟨r, rfl, hr, hrd, hb⟩
  have HB2 := Lib.hid hb
  have HD2 := Lib.hid hrd
  clear hb hrd
  go_wp2_with fail
  refine (readHead_ok (xs.take 21) w2 r w.heap.size HD2.out (by simp; omega) HBY.out HD2.out.blk.lt HD2.out.arr.lt).mono ?_
  rintro e w3 ⟨rfl, hrd, hk⟩
  rw [kind_take _ _ (by omega), flags_take _ _ (by omega), exp_take _ _ (by omega), seq_take _ _ (by omega), klen_take _ _ (by omega), vlen_take _ _ (by omega)]
  have HB3 := Lib.hid (HB2.out.trans (hk.to_below (B := w.heap.size) fun b hb => ⟨by have := HB2.out.size; omega, by omega⟩))
  clear hrd hk
  go_wp2_with fail
  refine (may_yes _ _ _ _ _ _ _ HM.out).mono ?_
  rintro e w4 ⟨rfl, hb⟩
  have hg : Blk w4 w3.heap.size 172 (headC (kindOf xs) (flagsOf xs) (expOf xs) (seqOf xs) (klenOf xs) (vlenOf xs)) := (Blk.new w3 _ _).below hb (by simp)
  have HB4 := Lib.hid ((HB3.out.alloc HB3.out.size _).trans (hb.mono (by have := HB3.out.size; simp; omega)))
  have c0 := hg.cell 0
  have c1 := hg.cell 1
  have c2 := hg.cell 2
  have c3 := hg.cell 3
  have c4 := hg.cell 4
  have c5 := hg.cell 5
  simp only [List.getElem?_toArray, List.getElem?_cons_zero, List.getElem?_cons_succ] at c0 c1 c2 c3 c4 c5
  clear hb hg
  go_wp2_with fail
  refine (size_any _ _ _ _ _ _ _ HM.out.2.2.1 HM.out.2.2.2.1).mono ?_
  rintro e w5 ⟨rfl, hb⟩
  have HB5 := Lib.hid (HB4.out.trans (hb.mono HB4.out.size))
  clear hb c0 c1 c2 c3 c4 c5
  go_wp2_with fail
  go_ret2
  exact ⟨rfl, HB5.out⟩
end Go.Proofs.YtodcohkblgjfeaaGreat

namespace Go.Proofs.YtodcohkblgjfeaaGreat
open Go.RowKit
theorem cell_far6 (w : World) (g : Nat) (u0 u1 u2 u3 u4 u5 : Value) {p : Addr} (h : p.block ≠ g) : ((((((w.setCell ⟨g, 0, none⟩ u0).setCell ⟨g, 1, none⟩ u1).setCell ⟨g, 2, none⟩ u2).setCell ⟨g, 3, none⟩ u3).setCell ⟨g, 4, none⟩ u4).setCell ⟨g, 5, none⟩ u5).cell? p = w.cell? p := by
  have key : ∀ (w : World) (i : Nat) (u : Value), (w.setCell ⟨g, i, none⟩ u).cell? p = w.cell? p := fun w i u => World.cell?_setCell_other _ _ _ _ (by rintro rfl; exact h rfl)
  rw [key, key, key, key, key, key]
theorem Blk.set6 {w : World} {g : Nat} {t : TypeId} {a0 a1 a2 a3 a4 a5 : Value} (h : Blk w g t #[a0, a1, a2, a3, a4, a5]) (u0 u1 u2 u3 u4 u5 : Value) :
    Blk ((((((w.setCell ⟨g, 0, none⟩ u0).setCell ⟨g, 1, none⟩ u1).setCell ⟨g, 2, none⟩ u2).setCell ⟨g, 3, none⟩ u3).setCell ⟨g, 4, none⟩ u4).setCell ⟨g, 5, none⟩ u5) g t #[u0, u1, u2, u3, u4, u5] := (((((h.set_ 0 u0).set_ 1 u1).set_ 2 u2).set_ 3 u3).set_ 4 u4).set_ 5 u5
theorem Blk.far6 {w : World} {g g' : Nat} {t : TypeId} {cs : Array Value} (h : Blk w g' t cs) (hne : g' ≠ g) (u0 u1 u2 u3 u4 u5 : Value) :
    Blk ((((((w.setCell ⟨g, 0, none⟩ u0).setCell ⟨g, 1, none⟩ u1).setCell ⟨g, 2, none⟩ u2).setCell ⟨g, 3, none⟩ u3).setCell ⟨g, 4, none⟩ u4).setCell ⟨g, 5, none⟩ u5) g' t cs := (((((h.far hne u0).far hne u1).far hne u2).far hne u3).far hne u4).far hne u5
theorem below_set6 {B : Nat} {a w : World} (h : Below B a w) {g : Nat} (hg : B ≤ g) (u0 u1 u2 u3 u4 u5 : Value) :
    Below B a ((((((w.setCell ⟨g, 0, none⟩ u0).setCell ⟨g, 1, none⟩ u1).setCell ⟨g, 2, none⟩ u2).setCell ⟨g, 3, none⟩ u3).setCell ⟨g, 4, none⟩ u4).setCell ⟨g, 5, none⟩ u5) := (((((h.setCell hg u0).setCell hg u1).setCell hg u2).setCell hg u3).setCell hg u4).setCell hg u5
end Go.Proofs.YtodcohkblgjfeaaGreat

namespace Go.Proofs.YtodcohkblgjfeaaGreat
set_option maxRecDepth 100000
open Go.RowKit
set_option linter.unusedVariables false
abbrev zeroC : Array Value := #[.int .i64 0, .int .u32 0, .int .u32 0, .int .u64 0, .slice none 0 0, .slice none 0 0]
theorem one_zero : zeroC.all (·.oneCell') = true := by simp [zeroC, Value.oneCell']
theorem dec_short (A : Option Addr) (n c : Nat) (w : World) (hn : n < 21) :
    Calls Tryz.prog 114 #[.slice A n c] w fun e w' => e = .returned (.tuple #[.agg #[.int .i64 0, .int .u32 0, .int .u32 0, .int .u64 0, .slice none 0 0, .slice none 0 0], .int .i64 0, .int .i64 9]) ∧ Below w.heap.size w w' := by
  go_enter Tryz.func114, Tryz.ntmps114
  go_wp2_with fail
  refine (need_short A n c _ hn).mono ?_
  rintro e w1 ⟨rfl, hb⟩
  have HB1 := Lib.hid (((Below.refl w.heap.size w).alloc (Nat.le_refl _) _).trans (hb.mono (by simp)))
  have hres := (Blk.new w 44 zeroC).below hb (by simp)
  have HRES := Lib.hid hres
  clear hb hres
  go_wp2_with (first
    | (refine wpList_store_rowB (.tmp 2) (.tmp 17) 44 rfl rfl w.heap.size zeroC rfl rfl 44 _ HRES.out size_rec rfl one_zero ?_)
    | (with_reducible refine halt_end ?_))
  exact Halt.ret (results_row3 (p := 2) (u := 3) (v := 4) rfl _ _ w.heap.size 44 zeroC _ rfl (setRow_heap _ _ _ zeroC _ _ HRES.out) Tryz.underlying44 rfl size_rec) rfl ⟨rfl, below_setRow HB1.out (Nat.le_refl _) _⟩
theorem dec_bad (A : Option Addr) (n c : Nat) (xs : List Int) (S : Nat → Prop) (w : World) (hx : RowI .u8 w S A n xs) (hS : ∀ b, S b → b < w.heap.size) (hb : Bytes xs) (hn : 21 ≤ n) (hc : n ≤ c) (hm : ¬ MayB xs) :
    Calls Tryz.prog 114 #[.slice A n c] w fun e w' => e = .returned (.tuple #[.agg #[.int .i64 0, .int .u32 0, .int .u32 0, .int .u64 0, .slice none 0 0, .slice none 0 0], .int .i64 0, .int .i64 160]) ∧ Below w.heap.size w w' := by
  have HX := Lib.hid (hx.keep (w' := w.alloc (.cells zeroC 44)) fun p hp => World.cell?_alloc_lt w _ p (hS _ hp))
  clear hx
  go_enter Tryz.func114, Tryz.ntmps114
  go_wp2_with fail
  refine (need_bad A n c xs S _ HX.out (fun b h => by have := hS b h; simp; omega) hb hn hc hm).mono ?_
  rintro e w1 ⟨rfl, hb⟩
  have HB1 := Lib.hid (((Below.refl w.heap.size w).alloc (Nat.le_refl _) _).trans (hb.mono (by simp)))
  have hres := (Blk.new w 44 zeroC).below hb (by simp)
  have HRES := Lib.hid hres
  clear hb hres
  go_wp2_with (first
    | (refine wpList_store_rowB (.tmp 2) (.tmp 17) 44 rfl rfl w.heap.size zeroC rfl rfl 44 _ HRES.out size_rec rfl one_zero ?_)
    | (with_reducible refine halt_end ?_))
  exact Halt.ret (results_row3 (p := 2) (u := 3) (v := 4) rfl _ _ w.heap.size 44 zeroC _ rfl (setRow_heap _ _ _ zeroC _ _ HRES.out) Tryz.underlying44 rfl size_rec) rfl ⟨rfl, below_setRow HB1.out (Nat.le_refl _) _⟩
theorem dec_cut (A : Option Addr) (n c : Nat) (xs : List Int) (S : Nat → Prop) (w : World) (hx : RowI .u8 w S A n xs) (hS : ∀ b, S b → b < w.heap.size) (hb : Bytes xs) (hn : 21 ≤ n) (hc : n ≤ c) (hm : MayB xs) (hlt : n < needOf xs) :
    Calls Tryz.prog 114 #[.slice A n c] w fun e w' => e = .returned (.tuple #[.agg #[.int .i64 0, .int .u32 0, .int .u32 0, .int .u64 0, .slice none 0 0, .slice none 0 0], .int .i64 0, .int .i64 9]) ∧ Below w.heap.size w w' := by
  have HX := Lib.hid (hx.keep (w' := w.alloc (.cells zeroC 44)) fun p hp => World.cell?_alloc_lt w _ p (hS _ hp))
  clear hx
  go_enter Tryz.func114, Tryz.ntmps114
  go_wp2_with fail
  refine (need_ok A n c xs S _ HX.out (fun b h => by have := hS b h; simp; omega) hb hn hc hm).mono ?_
  rintro e w1 ⟨rfl, hb⟩
  have HB1 := Lib.hid (((Below.refl w.heap.size w).alloc (Nat.le_refl _) _).trans (hb.mono (by simp)))
  have hres := (Blk.new w 44 zeroC).below hb (by simp)
  have HRES := Lib.hid hres
  have hlt' : decide ((n : Int) < (needOf xs : Int)) = true := by simp; omega
  generalize needOf xs = nd at *
  clear hb hres
  go_wp2_with (first
    | (refine wpList_store_rowB (.tmp 2) (.tmp 24) 44 rfl rfl w.heap.size zeroC rfl rfl 44 _ HRES.out size_rec rfl one_zero ?_)
    | (with_reducible refine halt_end ?_))
  exact Halt.ret (results_row3 (p := 2) (u := 3) (v := 4) rfl _ _ w.heap.size 44 zeroC _ rfl (setRow_heap _ _ _ zeroC _ _ HRES.out) Tryz.underlying44 rfl size_rec) rfl ⟨rfl, below_setRow HB1.out (Nat.le_refl _) _⟩
theorem raw_rd (w : World) (r g : Nat) (xs : List Int) (pos n : Nat) (h : Rd w r g xs pos 0) (hn : n ≤ xs.length - pos) :
    Calls Tryz.prog 151 #[.pointer (some ⟨r, 0, none⟩), .int .i64 n] w fun e w' => ∃ b, e = .returned (.slice (some ⟨b, 0, none⟩) n n) ∧ w.heap.size ≤ b ∧
      ArrU w' b ((xs.drop pos).take n) ∧ Rd w' r g xs (pos + n) 0 ∧ Kept (fun b => b < w.heap.size ∧ b ≠ r) w w' := by
  have H := Lib.hid h
  have hx := h.2.2.2.2
  clear h
  go_enter Tryz.func151, Tryz.ntmps151
  go_wp2_with (first
    | (go_at_call 167; refine (take_ok _ r g xs pos n H.out hn).mono ?_; rintro e w1 ⟨A, c, rfl, hr, hrd, hk⟩; have HR := Lib.hid hr; have HD := Lib.hid hrd; have HK := Lib.hid hk; clear hr hrd hk)
    | (go_at_call 164; refine (clone_any A n c _ (· = g) _ HR.out (fun b e => by rw [e]; exact HD.out.arr.lt) (by omega)).mono ?_; rintro e w2 ⟨rfl, ha, hb⟩; have HA := Lib.hid ha; have HB := Lib.hid hb; clear ha hb))
  go_ret
  exact ⟨_, rfl, HK.out.size, HA.out, HD.out.kept (Kept.of_below (S := fun b => b < w1.heap.size) HB.out (fun b h => h)) HD.out.blk.lt HD.out.arr.lt, HK.out.below HB.out (fun b h => Nat.lt_of_lt_of_le h.1 HK.out.size)⟩
def keyOf (xs : List Int) : List Int := (xs.drop 21).take (klenOf xs)
def valOf (xs : List Int) : List Int := (xs.drop (21 + klenOf xs)).take (vlenOf xs)
structure Dec (w wi : World) (r g q : Nat) (zs : List Int) (pos : Nat) (cs : Array Value) : Prop where
  rd : Rd wi r g zs pos 0
  lo : w.heap.size < r
  res : Blk wi w.heap.size 44 zeroC
  hd : Blk wi q 172 cs
  far : q ≠ r ∧ q ≠ w.heap.size
  bel : Below w.heap.size w wi
theorem Dec.drew {w wi : World} {r g q : Nat} {zs : List Int} {pos : Nat} {cs : Array Value} (h : Dec w wi r g q zs pos cs) : Dec w wi.drew r g q zs pos cs := ⟨h.rd.drewN 1, h.lo, h.res, h.hd, h.far, h.bel.drew⟩
theorem Dec.read {w wi w' : World} {r g q : Nat} {zs : List Int} {pos pos' : Nat} {cs : Array Value} (h : Dec w wi r g q zs pos cs) (hr : Rd w' r g zs pos' 0) (hk : Kept (fun b => b < wi.heap.size ∧ b ≠ r) wi w') : Dec w w' r g q zs pos' cs :=
  ⟨hr, h.lo, h.res.kept hk ⟨h.res.lt, by have := h.lo; omega⟩, h.hd.kept hk ⟨h.hd.lt, h.far.1⟩, h.far, h.bel.trans (hk.to_below fun b hb => ⟨Nat.lt_of_lt_of_le hb h.bel.size, by have := h.lo; omega⟩)⟩
def DecTold (xs : List Int) (w : World) (e : Ending) (w' : World) : Prop :=
  ∃ b1 b2, e = .returned (.tuple #[.agg #[.int .i64 (kindOf xs), .int .u32 (flagsOf xs), .int .u32 (expOf xs), .int .u64 (seqOf xs), .slice (some ⟨b1, 0, none⟩) (klenOf xs) (klenOf xs), .slice (some ⟨b2, 0, none⟩) (vlenOf xs) (vlenOf xs)], .int .i64 ((needOf xs : Nat) : Int), .int .i64 0]) ∧
    w.heap.size ≤ b1 ∧ w.heap.size ≤ b2 ∧ b1 ≠ b2 ∧ ArrU w' b1 (keyOf xs) ∧ ArrU w' b2 (valOf xs) ∧ Below w.heap.size w w'
set_option maxHeartbeats 16000000 in
theorem dec_ok (A : Option Addr) (n c : Nat) (xs : List Int) (S : Nat → Prop) (w : World) (hx : RowI .u8 w S A n xs) (hS : ∀ b, S b → b < w.heap.size) (hb : Bytes xs) (hn : 21 ≤ n) (hc : n ≤ c) (hm : MayB xs) (hle : needOf xs ≤ n) :
    Calls Tryz.prog 114 #[.slice A n c] w (DecTold xs w) := by
  obtain ⟨b0, o0, rfl, hb0, hc0⟩ := hx.2 (by omega)
  have hl := hx.1
  have HX := Lib.hid (hx.keep (w' := w.alloc (.cells zeroC 44)) fun p hp => World.cell?_alloc_lt w _ p (hS _ hp))
  have HBY := Lib.hid hb
  have hn1 := hm.2.2.1
  have hn2 := hm.2.2.2.1
  have hneed : needOf xs = 21 + klenOf xs + vlenOf xs := rfl
  clear hx hb hb0 hc0
  go_enter Tryz.func114, Tryz.ntmps114
  go_wp2_with fail
  refine (need_ok _ n c xs S _ HX.out (fun b h => by have := hS b h; simp; omega) HBY.out hn hc hm).mono ?_
  rintro e w1 ⟨rfl, hb⟩
  have HB1 := Lib.hid (((Below.refl w.heap.size w).alloc (Nat.le_refl _) _).trans (hb.mono (by simp)))
  have HX1 := Lib.hid (HX.out.below hb (fun b h => by have := hS b h; simp; omega))
  have HRES := Lib.hid ((Blk.new w 44 zeroC).below hb (by simp))
  have hlt1 : w.heap.size < w1.heap.size := HRES.out.lt
  have HLT1 := Lib.hid hlt1
  clear hb
  have hlt' : decide ((n : Int) < (needOf xs : Int)) = false := by simp; omega
  have hle0 : (0 : Int) ≤ (needOf xs : Int) := by omega
  have hlec : (needOf xs : Int) ≤ c := by omega
  have HND := Lib.hid hneed
  clear hneed
  generalize hnd : needOf xs = nd at *
  have HNN := Lib.hid hnd
  clear hnd
  go_wp2_with fail
  refine (read_any _ nd c (xs.take nd) S w1 (HX1.out.take nd hle) (fun b h => by have := hS b h; omega) (by have := HND.out; omega)).mono ?_
  rintro e w2 ⟨r, rfl, hr, hrd, hb⟩
  have HB2 := Lib.hid (HB1.out.trans (hb.mono HB1.out.size))
  have HRES2 := Lib.hid (HRES.out.below hb HLT1.out)
  have HD2 := Lib.hid hrd
  have HLR := Lib.hid (show w.heap.size < r by omega)
  clear hb hrd
  go_wp2_with fail
  refine (readHead_ok (xs.take nd) w2 r w1.heap.size HD2.out (by have := HND.out; simp; omega) (HBY.out.take nd) HD2.out.blk.lt HD2.out.arr.lt).mono ?_
  rintro e w3 ⟨rfl, hrd, hk⟩
  rw [kind_take _ _ (by have := HND.out; omega), flags_take _ _ (by have := HND.out; omega), exp_take _ _ (by have := HND.out; omega), seq_take _ _ (by have := HND.out; omega), klen_take _ _ (by have := HND.out; omega), vlen_take _ _ (by have := HND.out; omega)]
  have HB3 := Lib.hid (HB2.out.trans (hk.to_below (B := w.heap.size) fun b hb => ⟨by have := HB2.out.size; omega, by have := HLR.out; omega⟩))
  have HRES3 := Lib.hid (HRES2.out.kept hk ⟨HRES2.out.lt, by have := HLR.out; omega⟩)
  have HD3 := Lib.hid hrd
  clear hrd hk
  obtain ⟨w4, hw4⟩ : ∃ w4, w4 = w3.alloc (.cells #[.int .i64 (kindOf xs), .int .u32 (flagsOf xs), .int .u32 (expOf xs), .int .u64 (seqOf xs), .int .i64 (klenOf xs), .int .i64 (vlenOf xs)] 172) := ⟨_, rfl⟩
  have HY := Lib.hid (show Dec w w4 r w1.heap.size w3.heap.size (xs.take nd) 21 #[.int .i64 (kindOf xs), .int .u32 (flagsOf xs), .int .u32 (expOf xs), .int .u64 (seqOf xs), .int .i64 (klenOf xs), .int .i64 (vlenOf xs)] by
    rw [hw4]
    have hk : Kept (fun b => b < w3.heap.size) w3 (w3.alloc (.cells #[.int .i64 (kindOf xs), .int .u32 (flagsOf xs), .int .u32 (expOf xs), .int .u64 (seqOf xs), .int .i64 (klenOf xs), .int .i64 (vlenOf xs)] 172)) := (Kept.refl _ w3).alloc (fun b h => h) _
    exact ⟨HD3.out.kept hk HD3.out.blk.lt HD3.out.arr.lt, HLR.out, HRES3.out.alloc _, Blk.new w3 _ _, ⟨by have := HD3.out.blk.lt; omega, by have := HB3.out.size; have := HRES3.out.lt; omega⟩, HB3.out.alloc HB3.out.size _⟩)
  have HW4 := Lib.hid hw4
  clear hw4
  have hcap1 : klenOf xs ≤ (xs.take nd).length - 21 := by have := HND.out; simp; omega
  have hcap2 : vlenOf xs ≤ (xs.take nd).length - (21 + klenOf xs) := by have := HND.out; simp; omega
  have HCP1 := Lib.hid hcap1
  have HCP2 := Lib.hid hcap2
  have HK1 := Lib.hid (show ((xs.take nd).drop 21).take (klenOf xs) = keyOf xs from take_part _ _ _ _ (by have := HND.out; omega))
  have HK2 := Lib.hid (show ((xs.take nd).drop (21 + klenOf xs)).take (vlenOf xs) = valOf xs from take_part _ _ _ _ (by have := HND.out; omega))
  clear hcap1 hcap2
  go_wp2_with fail
  rw [← HW4.out]
  have HY := Lib.hid HY.out.drew
  have HYD := HY
  have c0 := HY.out.hd.cell 0
  have c1 := HY.out.hd.cell 1
  have c2 := HY.out.hd.cell 2
  have c3 := HY.out.hd.cell 3
  have c4 := HY.out.hd.cell 4
  have c5 := HY.out.hd.cell 5
  simp only [List.getElem?_toArray, List.getElem?_cons_zero, List.getElem?_cons_succ] at c0 c1 c2 c3 c4 c5
  go_region_held3 (fun W => W.cell? ⟨w3.heap.size, 0, none⟩ = some (.int .i64 (kindOf xs)) ∧ W.cell? ⟨w3.heap.size, 1, none⟩ = some (.int .u32 (flagsOf xs)) ∧ W.cell? ⟨w3.heap.size, 2, none⟩ = some (.int .u32 (expOf xs)) ∧ W.cell? ⟨w3.heap.size, 3, none⟩ = some (.int .u64 (seqOf xs)) ∧ W.cell? ⟨w3.heap.size, 4, none⟩ = some (.int .i64 (klenOf xs)) ∧ W.cell? ⟨w3.heap.size, 5, none⟩ = some (.int .i64 (vlenOf xs)))
    (first | with_reducible exact ⟨c0, c1, c2, c3, c4, c5⟩ | with_reducible exact ⟨e0, e1, e2, e3, e4, e5⟩)
    (first
      | (go_at_call 151; with_reducible refine (raw_rd _ r w1.heap.size (xs.take nd) 21 (klenOf xs) ?_ ?_).mono ?_; exact HY.out.rd; exact HCP1.out; rintro e w5 ⟨b5, rfl, hb5, ha5, hrd, hk⟩; rw [HK1.out] at ha5; have HA5 := Lib.hid ha5; have HB5 := Lib.hid (Nat.le_trans HY.out.bel.size hb5); have HY := Lib.hid (HY.out.read hrd hk); have HN5 := Lib.hid (show b5 ≠ r ∧ b5 ≠ w.heap.size from ⟨by have h := HYD.out.rd.blk.lt; omega, by have h := HYD.out.res.lt; omega⟩); clear ha5 hb5 hrd hk; have c0 := HY.out.hd.cell 0; have c1 := HY.out.hd.cell 1; have c2 := HY.out.hd.cell 2; have c3 := HY.out.hd.cell 3; have c4 := HY.out.hd.cell 4; have c5 := HY.out.hd.cell 5; simp only [List.getElem?_toArray, List.getElem?_cons_zero, List.getElem?_cons_succ] at c0 c1 c2 c3 c4 c5)
      | (go_at_call 151; with_reducible refine (raw_rd _ r w1.heap.size (xs.take nd) (21 + klenOf xs) (vlenOf xs) ?_ ?_).mono ?_; exact HY.out.rd; exact HCP2.out; rintro e w6 ⟨b6, rfl, hb6, ha6, hrd, hk⟩; rw [HK2.out] at ha6; have HA6 := Lib.hid ha6; have HB6 := Lib.hid (Nat.le_trans HY.out.bel.size hb6); have HN6 := Lib.hid (show b6 ≠ b5 ∧ b6 ≠ w.heap.size from ⟨by have h := HA5.out.lt; omega, by have h := HY.out.res.lt; omega⟩); have HA5' := Lib.hid (HA5.out.kept hk ⟨HA5.out.lt, HN5.out.1⟩); have HY := Lib.hid (HY.out.read hrd hk); clear ha6 hb6 hrd hk; have c0 := HY.out.hd.cell 0; have c1 := HY.out.hd.cell 1; have c2 := HY.out.hd.cell 2; have c3 := HY.out.hd.cell 3; have c4 := HY.out.hd.cell 4; have c5 := HY.out.hd.cell 5; simp only [List.getElem?_toArray, List.getElem?_cons_zero, List.getElem?_cons_succ] at c0 c1 c2 c3 c4 c5; have z0 := HY.out.res.cell 0; have y0 := HY.out.res.frozen 0; have z1 := HY.out.res.cell 1; have y1 := HY.out.res.frozen 1; have z2 := HY.out.res.cell 2; have y2 := HY.out.res.frozen 2; have z3 := HY.out.res.cell 3; have y3 := HY.out.res.frozen 3; have z4 := HY.out.res.cell 4; have y4 := HY.out.res.frozen 4; have z5 := HY.out.res.cell 5; have y5 := HY.out.res.frozen 5; simp only [List.getElem?_toArray, List.getElem?_cons_zero, List.getElem?_cons_succ] at z0 z1 z2 z3 z4 z5; have e0 := (cell_far6 w6 w.heap.size (.int .i64 (kindOf xs)) (.int .u32 (flagsOf xs)) (.int .u32 (expOf xs)) (.int .u64 (seqOf xs)) (.slice (some ⟨b5, 0, none⟩) (klenOf xs) (klenOf xs)) (.slice (some ⟨b6, 0, none⟩) (vlenOf xs) (vlenOf xs)) (p := ⟨w3.heap.size, 0, none⟩) HY.out.far.2).trans c0; have e1 := (cell_far6 w6 w.heap.size (.int .i64 (kindOf xs)) (.int .u32 (flagsOf xs)) (.int .u32 (expOf xs)) (.int .u64 (seqOf xs)) (.slice (some ⟨b5, 0, none⟩) (klenOf xs) (klenOf xs)) (.slice (some ⟨b6, 0, none⟩) (vlenOf xs) (vlenOf xs)) (p := ⟨w3.heap.size, 1, none⟩) HY.out.far.2).trans c1; have e2 := (cell_far6 w6 w.heap.size (.int .i64 (kindOf xs)) (.int .u32 (flagsOf xs)) (.int .u32 (expOf xs)) (.int .u64 (seqOf xs)) (.slice (some ⟨b5, 0, none⟩) (klenOf xs) (klenOf xs)) (.slice (some ⟨b6, 0, none⟩) (vlenOf xs) (vlenOf xs)) (p := ⟨w3.heap.size, 2, none⟩) HY.out.far.2).trans c2; have e3 := (cell_far6 w6 w.heap.size (.int .i64 (kindOf xs)) (.int .u32 (flagsOf xs)) (.int .u32 (expOf xs)) (.int .u64 (seqOf xs)) (.slice (some ⟨b5, 0, none⟩) (klenOf xs) (klenOf xs)) (.slice (some ⟨b6, 0, none⟩) (vlenOf xs) (vlenOf xs)) (p := ⟨w3.heap.size, 3, none⟩) HY.out.far.2).trans c3; have e4 := (cell_far6 w6 w.heap.size (.int .i64 (kindOf xs)) (.int .u32 (flagsOf xs)) (.int .u32 (expOf xs)) (.int .u64 (seqOf xs)) (.slice (some ⟨b5, 0, none⟩) (klenOf xs) (klenOf xs)) (.slice (some ⟨b6, 0, none⟩) (vlenOf xs) (vlenOf xs)) (p := ⟨w3.heap.size, 4, none⟩) HY.out.far.2).trans c4; have e5 := (cell_far6 w6 w.heap.size (.int .i64 (kindOf xs)) (.int .u32 (flagsOf xs)) (.int .u32 (expOf xs)) (.int .u64 (seqOf xs)) (.slice (some ⟨b5, 0, none⟩) (klenOf xs) (klenOf xs)) (.slice (some ⟨b6, 0, none⟩) (vlenOf xs) (vlenOf xs)) (p := ⟨w3.heap.size, 5, none⟩) HY.out.far.2).trans c5))
  clear c0 c1 c2 c3 c4 c5 e0 e1 e2 e3 e4 e5 z0 z1 z2 z3 z4 z5 y0 y1 y2 y3 y4 y5
  go_wp2_with (with_reducible refine halt_end ?_)
  have hz := HY.out.res.set6 (.int .i64 (kindOf xs)) (.int .u32 (flagsOf xs)) (.int .u32 (expOf xs)) (.int .u64 (seqOf xs)) (.slice (some ⟨b5, 0, none⟩) (klenOf xs) (klenOf xs)) (.slice (some ⟨b6, 0, none⟩) (vlenOf xs) (vlenOf xs))
  refine Halt.ret (results_row3 (p := 2) (u := 3) (v := 4) rfl _ _ w.heap.size 44 _ _ rfl hz Tryz.underlying44 rfl size_rec) rfl ⟨b5, b6, ?_, HB5.out, HB6.out, HN6.out.1.symm, Blk.far6 HA5'.out HN5.out.2 _ _ _ _ _ _, Blk.far6 HA6.out HN6.out.2 _ _ _ _ _ _, below_set6 HY.out.bel (Nat.le_refl _) _ _ _ _ _ _⟩
  rw [HNN.out]
  rfl
end Go.Proofs.YtodcohkblgjfeaaGreat

namespace Go.Proofs.YtodcohkblgjfeaaGreat
set_option maxRecDepth 100000
open Go.RowKit
set_option linter.unusedVariables false
theorem recB_bytes {k f x s : Int} {xs ys : List Int} (hk : 0 ≤ k ∧ k ≤ 255) (hx : Bytes xs) (hy : Bytes ys) : Bytes (recB k f x s xs ys) := by
  unfold recB headB
  refine bytes_append (bytes_append (bytes_append (bytes_append (bytes_append (bytes_append (bytes_append ?_ (beBytes_bytes _ _)) (beBytes_bytes _ _)) (beBytes_bytes _ _)) (beBytes_bytes _ _)) (beBytes_bytes _ _)) hx) hy
  intro j
  match j with
  | 0 => simpa using hk
  | (j + 1) => simp
section
variable {k f x s : Int} {xs ys zs : List Int}
theorem rec_split : recB k f x s xs ys ++ zs = [k] ++ (beBytes f 4 ++ (beBytes x 4 ++ (beBytes s 8 ++ (beBytes xs.length 2 ++ (beBytes ys.length 2 ++ (xs ++ (ys ++ zs))))))) := by
  simp [recB, headB]
theorem drop_head {α : Type} (a b : List α) (n m : Nat) (h : a.length = n) : (a ++ b).drop (n + m) = b.drop m := by
  rw [← h, List.drop_append, List.drop_eq_nil_of_le (by omega)]
  simp
theorem rec_kind : kindOf (recB k f x s xs ys ++ zs) = k := by
  unfold kindOf
  rw [rec_split, List.take_left' (by rfl)]
  simp [numOf]
theorem rec_flags (hf : 0 ≤ f) (hf' : f ≤ 4294967295) : flagsOf (recB k f x s xs ys ++ zs) = f := by
  unfold flagsOf
  rw [rec_split, List.drop_left' (by rfl), List.take_left' (beBytes_length _ _), num_be 4 _ hf (by simp; omega)]
theorem rec_exp (hx : 0 ≤ x) (hx' : x ≤ 4294967295) : expOf (recB k f x s xs ys ++ zs) = x := by
  unfold expOf
  rw [rec_split, drop_head [k] _ 1 4 rfl, List.drop_left' (beBytes_length _ _), List.take_left' (beBytes_length _ _), num_be 4 _ hx (by simp; omega)]
theorem rec_seq (hs : 0 ≤ s) (hs' : s ≤ 18446744073709551615) : seqOf (recB k f x s xs ys ++ zs) = s := by
  unfold seqOf
  rw [rec_split, drop_head [k] _ 1 8 rfl, drop_head _ _ 4 4 (beBytes_length _ _), List.drop_left' (beBytes_length _ _), List.take_left' (beBytes_length _ _), num_be 8 _ hs (by simp; omega)]
theorem rec_klen (h : xs.length ≤ 65535) : klenOf (recB k f x s xs ys ++ zs) = xs.length := by
  unfold klenOf
  rw [rec_split, drop_head [k] _ 1 16 rfl, drop_head _ _ 4 12 (beBytes_length _ _), drop_head _ _ 4 8 (beBytes_length _ _), List.drop_left' (beBytes_length _ _), List.take_left' (beBytes_length _ _), num_be 2 _ (by omega) (by simp; omega)]
  omega
theorem rec_vlen (h : ys.length ≤ 65535) : vlenOf (recB k f x s xs ys ++ zs) = ys.length := by
  unfold vlenOf
  rw [rec_split, drop_head [k] _ 1 18 rfl, drop_head _ _ 4 14 (beBytes_length _ _), drop_head _ _ 4 10 (beBytes_length _ _), drop_head _ _ 8 2 (beBytes_length _ _), List.drop_left' (beBytes_length _ _), List.take_left' (beBytes_length _ _), num_be 2 _ (by omega) (by simp; omega)]
  omega
theorem rec_drop : (recB k f x s xs ys ++ zs).drop 21 = xs ++ (ys ++ zs) := by
  unfold recB
  rw [List.append_assoc, List.append_assoc, List.drop_left' (headB_length _ _ _ _ _ _)]
theorem rec_key (h : xs.length ≤ 65535) : keyOf (recB k f x s xs ys ++ zs) = xs := by
  unfold keyOf
  rw [rec_klen h, rec_drop, List.take_left' rfl]
theorem rec_val (h : xs.length ≤ 65535) (h' : ys.length ≤ 65535) : valOf (recB k f x s xs ys ++ zs) = ys := by
  unfold valOf
  rw [rec_klen h, rec_vlen h', ← List.drop_drop, rec_drop, List.drop_left' rfl, List.take_left' rfl]
end
theorem rec_may {k f x s : Int} {xs ys : List Int} (zs : List Int) (h : May k f x s xs.length ys.length) (hr : Rng f x s) :
    MayB (recB k f x s xs ys ++ zs) ∧ kindOf (recB k f x s xs ys ++ zs) = k ∧ flagsOf (recB k f x s xs ys ++ zs) = f ∧ expOf (recB k f x s xs ys ++ zs) = x ∧ seqOf (recB k f x s xs ys ++ zs) = s ∧
      klenOf (recB k f x s xs ys ++ zs) = xs.length ∧ vlenOf (recB k f x s xs ys ++ zs) = ys.length ∧ keyOf (recB k f x s xs ys ++ zs) = xs ∧ valOf (recB k f x s xs ys ++ zs) = ys := by
  have h1 := h.2.2.1
  have h2 := h.2.2.2.1
  have e1 := rec_kind (k := k) (f := f) (x := x) (s := s) (xs := xs) (ys := ys) (zs := zs)
  have e2 := rec_flags (k := k) (x := x) (s := s) (xs := xs) (ys := ys) (zs := zs) hr.f0 hr.f1
  have e3 := rec_exp (k := k) (f := f) (s := s) (xs := xs) (ys := ys) (zs := zs) hr.x0 hr.x1
  have e4 := rec_seq (k := k) (f := f) (x := x) (xs := xs) (ys := ys) (zs := zs) hr.s0 hr.s1
  have e5 := rec_klen (k := k) (f := f) (x := x) (s := s) (xs := xs) (ys := ys) (zs := zs) (by omega)
  have e6 := rec_vlen (k := k) (f := f) (x := x) (s := s) (xs := xs) (ys := ys) (zs := zs) (by omega)
  refine ⟨?_, e1, e2, e3, e4, e5, e6, rec_key (by omega), rec_val (by omega) (by omega)⟩
  unfold MayB
  rw [e1, e2, e3, e4, e5, e6]
  exact h
theorem rec_back {L : List Int} (hb : Bytes L) (hl : needOf L ≤ L.length) : recB (kindOf L) (flagsOf L) (expOf L) (seqOf L) (keyOf L) (valOf L) = L.take (needOf L) := by
  have hneed : needOf L = 21 + klenOf L + vlenOf L := rfl
  have hkl : (keyOf L).length = klenOf L := by unfold keyOf; simp; omega
  have hvl : (valOf L).length = vlenOf L := by unfold valOf; simp; omega
  have hpart : ∀ i n, i + n ≤ L.length → beBytes (numOf ((L.drop i).take n)) n = (L.drop i).take n := fun i n h => be_num n _ (bytes_part hb i n) (by simp; omega)
  have hk1 : [kindOf L] = (L.drop 0).take 1 := by
    have h1 : (L.drop 0).take 1 = [L.getD 0 0] := by
      match L, hl, hneed with
      | a :: r, _, _ => simp
      | [], h, h' => simp at h; omega
    have h2 : kindOf L = L.getD 0 0 := by
      have : kindOf L = numOf ((L.drop 0).take 1) := rfl
      rw [this, h1]
      simp [numOf]
    rw [h2, h1]
  have join : ∀ i n m, (L.drop i).take n ++ (L.drop (i + n)).take m = (L.drop i).take (n + m) := by
    intro i n m
    rw [← List.drop_drop, ← List.take_add]
  unfold recB headB
  rw [hkl, hvl, ← klen_eq hb, ← vlen_eq hb, hk1]
  unfold flagsOf expOf seqOf
  rw [hpart 1 4 (by omega), hpart 5 4 (by omega), hpart 9 8 (by omega), hpart 17 2 (by omega), hpart 19 2 (by omega)]
  have j1 := join 0 1 4
  have j2 := join 0 5 4
  have j3 := join 0 9 8
  have j4 := join 0 17 2
  have j5 := join 0 19 2
  have j6 := join 0 21 (klenOf L)
  have j7 := join 0 (21 + klenOf L) (vlenOf L)
  simp only [Nat.zero_add, Nat.reduceAdd] at j1 j2 j3 j4 j5 j6 j7
  unfold keyOf valOf
  rw [j1, j2, j3, j4, j5, j6, j7, hneed]
  simp
end Go.Proofs.YtodcohkblgjfeaaGreat

namespace Go.Proofs.YtodcohkblgjfeaaGreat
open Go.RowKit
set_option maxRecDepth 100000
set_option linter.unusedVariables false
set_option linter.unusedSimpArgs false
theorem rec_sectors (k f x s : Int) (A A' : Option Addr) (n c n' c' : Nat) (w : World) (h : May k f x s n n') (hn : n + n' ≤ 1000000) :
    Calls Tryz.prog 49 #[.agg #[.int .i64 k, .int .u32 f, .int .u32 x, .int .u64 s, .slice A n c, .slice A' n' c']] w fun e w' => e = .returned (.int .i64 (cntOf (21 + n + n'))) ∧ Below w.heap.size w w' := by
  have HB := Lib.hid ((Below.refl w.heap.size w).alloc (Nat.le_refl _) (.cells #[.int .i64 k, .int .u32 f, .int .u32 x, .int .u64 s, .slice A n c, .slice A' n' c'] 44))
  have HS := Lib.hid (fun v : World => size_yes k f x s A A' n c n' c' v h)
  obtain ⟨m, hm⟩ : ∃ m, 21 + n + n' = m := ⟨_, rfl⟩
  have h0 : 21 ≤ m := by omega
  have h1 : m ≤ 1000021 := by omega
  have h2 : (21 : Int) ≤ (m : Int) := by omega
  have h3 : (m : Int) ≤ 1000021 := by omega
  rw [hm] at HS
  rw [hm]
  have HV := Lib.hid (show ((m : Int) + 48 - 1) / 48 = ((cntOf m : Nat) : Int) by unfold cntOf; omega)
  clear h hm
  go_enter Tryz.func49, Tryz.ntmps49
  go_wp2_with fail
  refine (HS.out _).mono ?_
  rintro e w2 ⟨rfl, hb⟩
  have HB2 := Lib.hid (HB.out.trans (hb.mono HB.out.size))
  clear hb
  go_wp2_with fail
  go_ret
  rw [← HV.out]
  exact ⟨rfl, HB2.out⟩
end Go.Proofs.YtodcohkblgjfeaaGreat
