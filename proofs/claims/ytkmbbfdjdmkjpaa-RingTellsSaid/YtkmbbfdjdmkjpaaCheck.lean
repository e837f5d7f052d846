/- Package ring: Check. -/
import Derived.Test.YtkmbbfdjdmkjpaaSeqIt
import Derived.Test.YtkmbbfdjdmkjpaaSmall
namespace Go.Proofs.Ytkmbbfdjdmkjpaa
open Go.RowKit Go.Shelf
attribute [local go_sem] Oper.semAt_some
set_option linter.unusedVariables false

/-- Nothing stands behind an open one, and no two that are neighbours have one generation; a stands ahead. -/
def flow (a : Seg) : List Num → Bool
  | [] => true
  | x :: r => (!(a.1 == 1 || a.2.1 == x.2.2.1)) && flow x.2 r
def lastOf (a : Seg) : List Num → Seg
  | [] => a
  | x :: r => lastOf x.2 r
theorem lastOf_snoc (x : Num) : ∀ (pre : List Num) (a : Seg), lastOf a (pre ++ [x]) = x.2
  | [], _ => rfl
  | y :: pre, _ => lastOf_snoc x pre y.2
theorem flow_snoc (x : Num) : ∀ (pre : List Num) (a : Seg), flow a (pre ++ [x]) = (flow a pre && !((lastOf a pre).1 == 1 || (lastOf a pre).2.1 == x.2.2.1))
  | [], a => by simp [flow, lastOf]
  | y :: pre, a => by
    show (_ && flow y.2 (pre ++ [x])) = _
    rw [flow_snoc x pre y.2]
    simp only [flow, lastOf, Bool.and_assoc]
theorem flow_prefix (pre r : List Num) : ∀ (a : Seg), flow a pre = false → flow a (pre ++ r) = false := by
  induction pre with
  | nil => intro a h; cases h
  | cons y pre ih =>
    intro a h
    simp only [flow, List.cons_append, Bool.and_eq_false_iff] at h ⊢
    exact h.imp id (ih y.2)

theorem blk_own {β : Type} (g : Nat) (t : TypeId) (f : β → Array Value) : Own (fun s W => Blk W g t (f s)) := fun s X Y row hs hg hrow =>
  hs.grown hg (fun e => by obtain ⟨o, ho, hc⟩ := hrow g e.symm; rw [show X.heap[g]? = _ from hs] at ho; cases ho; cases hc)
theorem own_size {β : Type} {B : Nat} (m : Nat) : OwnFrom B (fun (_ : β) W => m ≤ W.heap.size) := fun _ _ _ _ hs hg _ => Nat.le_trans hs hg.size
theorem may_next {xs : List Seg} {sec : Int} {j : Nat} (h : ∀ k, k < j → MayG (xs.getD k seg0) sec) (hm : MayG (xs.getD j seg0) sec) (k : Nat) (hk : k < j + 1) : MayG (xs.getD k seg0) sec := by
  by_cases e : k < j
  · exact h k e
  · obtain rfl : k = j := by omega
    exact hm
theorem may_all {xs : List Seg} {sec : Int} (h : ∀ k, k < xs.length → MayG (xs.getD k seg0) sec) : ∀ s ∈ xs, MayG s sec := by
  intro s hs
  obtain ⟨i, hi, rfl⟩ := List.getElem_of_mem hs
  have := h i hi
  simpa [List.getD, hi] using this

set_option maxRecDepth 100000 in
set_option maxHeartbeats 2000000 in
theorem check_walk {w : World} {A : Option Addr} {n cap : Nat} {xs : List Seg} (h : RowZ w (· < w.heap.size) A n xs) (sec : Int) (hsz : SizedR n sec) :
    Calls Try.prog 44 #[.agg #[.int .i64 sec, .slice A n cap]] w fun e w' => ((∃ s ∈ xs, ¬ MayG s sec) ∧ e = .returned (.int .i64 180) ∨ (∀ s ∈ xs, MayG s sec) ∧ ∃ L, L.Perm (live xs) ∧ Rises L ∧ e = .returned (.int .i64 (if flow seg0 L then 0 else 180))) ∧ Below w.heap.size w w' := by
  have HX := Lib.hid h
  have HSZ := Lib.hid hsz
  have hd : decide (SizedR (n : Int) sec) = true := decide_eq_true hsz
  have HSI := Lib.hid (fun (W : World) => by have h := sized_any n sec W; rw [hd] at h; exact h)
  clear h hsz hd
  refine (callsIn_wide (n := 5)).1 ?_
  refine callsIn_of_wp_marks Try.func44 rfl trivial ?_ rfl
  simp only [Try.ntmps44, List.size_toArray, List.length_cons, List.length_nil, Nat.reduceAdd, Nat.reduceSub, Array.replicate_succ, Array.replicate_zero, List.push_toArray, List.append_toArray, List.nil_append, List.cons_append]
  gi_wp2_with (refine ⟨trivial, ?_⟩; gi_at_call 88; refine (callsIn_wide.2 (HSI.out _)).mono ?_; rintro e w' ⟨rfl, rfl⟩)
  have HK0 := Lib.hid (Blk.new w 66 #[.int .i64 sec, .slice A n cap])
  gi_loopw [18] (fun i wr => ∃ j : Nat, i = .int .i64 j ∧ j ≤ n ∧ (∀ k, k < j → MayG (xs.getD k seg0) sec) ∧ Blk wr w.heap.size 66 #[.int .i64 sec, .slice A n cap] ∧ Blk wr (w.heap.size + 1) 28 #[.int .i64 0] ∧ Below w.heap.size w wr)
    (fun i _ => n - (intOf i).toNat)
  case atStart => exact ⟨0, rfl, Nat.zero_le _, fun k h => absurd h (by omega), HK0.out.alloc _, blk_new2 w _ _ _, ((Below.refl _ w).alloc (Nat.le_refl _) _).alloc (by simp) _⟩
  case round =>
    obtain ⟨j, rfl, hj, hmay, hb0, hb1, hbel⟩ := hrel
    have HB0 := Lib.hid hb0
    have HB1 := Lib.hid hb1
    have HBEL := Lib.hid hbel
    have HMAY := Lib.hid hmay
    have hn16 : n ≤ 16 := by have := HSZ.out.2.1; omega
    clear hb0 hb1 hbel hmay
    by_cases hlt : j < n
    · obtain ⟨b, off, rfl, hbb, hcc⟩ := (HX.out.below HBEL.out (fun b h => h)).2 (by omega)
      have hr := hcc j hlt
      have hmem : xs.getD j seg0 ∈ xs := by
        have hl : j < xs.length := by rw [HX.out.1]; exact hlt
        simp [List.getD, hl]
      have HMEM := Lib.hid hmem
      obtain ⟨st, g, u, hx⟩ : ∃ st g u, xs.getD j seg0 = (st, g, u) := ⟨_, _, _, rfl⟩
      rw [hx] at hr
      have HXJ := Lib.hid hx
      obtain ⟨c0, c1, c2⟩ : wr.cell? ⟨b, off + j * 3, none⟩ = some (.int .i64 st) ∧ wr.cell? ⟨b, off + j * 3 + 1, none⟩ = some (.int .u64 g) ∧ wr.cell? ⟨b, off + j * 3 + 2, none⟩ = some (.int .i64 u) := ⟨hr 0 _ rfl, hr 1 _ rfl, hr 2 _ rfl⟩
      obtain ⟨k0, k1⟩ : _ ∧ _ := ⟨HB0.out.cell 0, HB0.out.cell 1⟩
      have k2 := HB1.out.cell 0
      have f2 := HB1.out.frozen 0
      simp only [List.getElem?_toArray, List.getElem?_cons_zero, List.getElem?_cons_succ] at k0 k1 k2
      have HMM := Lib.hid (fun W => segmay_any (st, g, u) sec W)
      have HB0a := Lib.hid (HB0.out.alloc (.cells (segC (st, g, u)).toArray 78))
      have HB1a := Lib.hid (HB1.out.alloc (.cells (segC (st, g, u)).toArray 78))
      have HBELa := Lib.hid (HBEL.out.alloc HBEL.out.size (.cells (segC (st, g, u)).toArray 78))
      have k0a : (wr.alloc (.cells #[.int .i64 st, .int .u64 g, .int .i64 u] 78)).cell? ⟨w.heap.size, 0, none⟩ = some (.int .i64 sec) := HB0a.out.cell 0
      clear hx hr hcc hmem
      by_cases hm : MayG (st, g, u) sec
      case neg =>
        rw [decide_eq_false hm] at HMM
        gi_wp2_with (refine ⟨trivial, ?_⟩; gi_at_call 89; refine (callsIn_wide.2 (HMM.out _)).mono ?_; rintro e w5 ⟨rfl, hb5⟩; have HB0b := Lib.hid (HB0a.out.below hb5 HB0a.out.lt); have HB1b := Lib.hid (HB1a.out.below hb5 HB1a.out.lt); have HBELb := Lib.hid (HBELa.out.trans (hb5.mono HBELa.out.size)); have k2b := HB1b.out.cell 0; have f2b := HB1b.out.frozen 0; simp only [List.getElem?_toArray, List.getElem?_cons_zero, List.getElem?_cons_succ] at k2b; clear hb5)
        refine ⟨.int .i64 180, ?_, .inl ⟨⟨_, HMEM.out, by rw [HXJ.out]; exact hm⟩, rfl⟩, HBELb.out.setCell (p := ⟨w.heap.size + 1, 0, none⟩) (by simp) _⟩
        have hc := World.cell?_setCell_same' w5 ⟨w.heap.size + 1, 0, none⟩ (.int .i64 180) (by rw [k2b]; rfl)
        simp [results, Try.f44, go_sem, hc]
      rw [decide_eq_true hm] at HMM
      gi_wp2_with (refine ⟨trivial, ?_⟩; gi_at_call 89; refine (callsIn_wide.2 (HMM.out _)).mono ?_; rintro e w5 ⟨rfl, hb5⟩; have HB0b := Lib.hid (HB0a.out.below hb5 HB0a.out.lt); have HB1b := Lib.hid (HB1a.out.below hb5 HB1a.out.lt); have HBELb := Lib.hid (HBELa.out.trans (hb5.mono HBELa.out.size)); have k2b := HB1b.out.cell 0; have f2b := HB1b.out.frozen 0; simp only [List.getElem?_toArray, List.getElem?_cons_zero, List.getElem?_cons_succ] at k2b; clear hb5)
      exact ⟨⟨j + 1, by simp, by omega, may_next HMAY.out (by rw [HXJ.out]; exact hm), HB0b.out, HB1b.out, HBELb.out⟩, by simp [intOf]; omega⟩
    · obtain rfl : j = n := by omega
      obtain ⟨k0, k1⟩ : _ ∧ _ := ⟨HB0.out.cell 0, HB0.out.cell 1⟩
      simp only [List.getElem?_toArray, List.getElem?_cons_zero, List.getElem?_cons_succ] at k0 k1
      have HB0a := Lib.hid (HB0.out.alloc (.cells (segC seg0).toArray 78))
      have HB1a := Lib.hid (HB1.out.alloc (.cells (segC seg0).toArray 78))
      have HBELa := Lib.hid (HBEL.out.alloc HBEL.out.size (.cells (segC seg0).toArray 78))
      have hRI := fun (hh : RowZ (wr.alloc (.cells (segC seg0).toArray 78)) (· < (wr.alloc (.cells (segC seg0).toArray 78)).heap.size) A j xs) => rising_any (cap := cap) hh hn16
      have HRI := Lib.hid (hRI ((HX.out.below HBELa.out (fun b h => h)).more (fun b h => Nat.lt_of_lt_of_le h HBELa.out.size)))
      have k1a : (wr.alloc (.cells #[.int .i64 0, .int .u64 0, .int .i64 0] 78)).cell? ⟨w.heap.size, 1, none⟩ = some (.slice A j cap) := HB0a.out.cell 1
      clear hRI
      gi_wp2_with (refine ⟨trivial, ?_⟩; gi_at_call 86; refine (callsIn_wide.2 HRI.out).mono ?_; rintro e w5 ⟨B, L, rfl, hsq, hperm, hri, hb5⟩)
      have hall := may_all (fun k hk => HMAY.out k (by rw [← HX.out.1]; exact hk))
      have HALL := Lib.hid hall
      have hL16 : L.length ≤ 16 := by rw [hperm.length_eq]; have := liveTo_length xs xs.length; rw [HX.out.1] at this; unfold live; rw [HX.out.1]; omega
      have hb1 := HB1a.out.below hb5 HB1a.out.lt
      have hb2 := (Blk.new wr 78 (segC seg0).toArray).below hb5 (by simp)
      have hB5 := HBELa.out.trans (hb5.mono HBELa.out.size)
      have hH5 : w.heap.size + 1 < wr.heap.size := HB1.out.lt
      have hs5 : wr.heap.size < w5.heap.size := hb2.lt
      have hn1 : (wr.alloc (.cells (segC seg0).toArray 78)).heap.size = wr.heap.size + 1 := by simp
      rw [hn1] at hsq
      refine wpIn_rangeFunc_ownH rfl (by omega) (gf := 114) (lb := #[.pointer (some ⟨B, 0, none⟩)]) rfl trivial (enters_of Try.func114 (by kernel_rfl) rfl)
        (rise_stops Fence.wide 4 trivial rfl (by omega) B (wr.heap.size + 1) w5.heap.size L hL16 w5 hsq rfl) keptK_t (keptK_b (Nat.le_refl _)) (Below.refl _ _) (fun _ => rfl)
        (fun pre W => ((Blk W (w.heap.size + 1) 28 #[.int .i64 0] ∧ Blk W wr.heap.size 78 (segC (lastOf seg0 pre)).toArray) ∧ flow seg0 pre = true) ∧ Below w.heap.size w W ∧ w5.heap.size ≤ W.heap.size)
        (fun c pre W => (Blk W (w.heap.size + 1) 28 #[.int .i64 180] ∧ c = .ret ∧ flow seg0 pre = false) ∧ Below w.heap.size w W)
        (OwnFrom.and (OwnFrom.and (OwnFrom.and (Own.from (blk_own _ _ _) _) (Own.from (blk_own _ _ _) _)) (ownFrom_pure _ _)) (OwnFrom.and (ownFrom_below (Nat.le_refl _) hB5.size) (own_size _)))
        (fun c => OwnFrom.and (OwnFrom.and (Own.from (blk_own _ _ _) _) (ownFrom_pure _ _)) (ownFrom_below (Nat.le_refl _) hB5.size))
        ⟨⟨⟨hb1, hb2⟩, rfl⟩, hB5, Nat.le_refl _⟩
        (fun x a' W => ∃ Bx, wr.heap.size < Bx ∧ Blk W Bx 78 (segC x.2).toArray ∧ a' = { tmps := #[.agg #[.int .i64 sec, .slice A j cap], .pointer (some ⟨w.heap.size, 0, none⟩), .pointer (some ⟨w.heap.size + 1, 0, none⟩), undef, u4, .pointer (some ⟨wr.heap.size, 0, none⟩), undef, .pointer (some ⟨Bx, 0, none⟩), .pointer (some ⟨w.heap.size, 1, none⟩), .slice A j cap, .int .i64 j, .pointer (some ⟨w.heap.size, 0, none⟩), .int .i64 sec, .bool true, .bool false, .pointer (some ⟨w.heap.size, 1, none⟩), .slice A j cap, .int .i64 j, .int .i64 j, .bool false, u20, u21, u22, u23, u24, u25, u26, u27, .pointer (some ⟨w.heap.size, 1, none⟩), .slice A j cap, .func (.func 114) #[] #[.pointer (some ⟨B, 0, none⟩)], .int .i64 x.1, .agg (segC x.2).toArray, undef, undef, undef, undef, undef, undef, undef, undef, undef, undef, undef], defers := [] })
        (fun x a' _ X Y row hs hg hr => by obtain ⟨Bx, h1, h2, h3⟩ := hs; exact ⟨Bx, h1, blk_own Bx _ (fun (_ : Unit) => _) () X Y row h2 hg (fun r e => (hr r e).2), h3⟩)
        ?assign ?body ?done ?stop
      case assign =>
        rintro l pre x W K ⟨⟨⟨h1, h2⟩, h3⟩, hB, hsz⟩ hK
        gi_wp2
        exact hK _ _ ((KeepsOthers.alloc _ _).from _) ((Kept.refl _ W).alloc (fun b hb => Nat.lt_of_lt_of_le hb.2 hsz) _) ⟨⟨⟨h1.alloc _, h2.alloc _⟩, h3⟩, hB.alloc hB.size _, Nat.le_trans hsz (by simp)⟩ ⟨W.heap.size, h2.lt, Blk.new W _ _, rfl⟩
      case body =>
        rintro l pre ⟨i, st, g, u⟩ a' W hl ⟨r, hr⟩ ⟨⟨⟨h1, h2⟩, h3⟩, hB, hsz⟩ ⟨Bx, hBx, bX, rfl⟩ hlt
        have hfs := flow_snoc (i, st, g, u) pre seg0
        have hls := lastOf_snoc (i, st, g, u) pre seg0
        rw [h3] at hfs
        obtain ⟨ast, ag, au, ha⟩ : ∃ ast ag au, lastOf seg0 pre = (ast, ag, au) := ⟨_, _, _, rfl⟩
        rw [ha] at hfs h2
        have HFS := Lib.hid hfs
        have HLS := Lib.hid hls
        have H1 := Lib.hid h1
        have H2 := Lib.hid h2
        have HBB := Lib.hid hB
        have f1 := H1.out.frozen 0
        have c1 : W.cell? ⟨w.heap.size + 1, 0, none⟩ = some (.int .i64 0) := H1.out.cell 0
        obtain ⟨a0, a1, a2⟩ : W.cell? ⟨wr.heap.size, 0, none⟩ = some (.int .i64 ast) ∧ W.cell? ⟨wr.heap.size, 1, none⟩ = some (.int .u64 ag) ∧ W.cell? ⟨wr.heap.size, 2, none⟩ = some (.int .i64 au) := ⟨H2.out.cell 0, H2.out.cell 1, H2.out.cell 2⟩
        obtain ⟨g0, g1, g2⟩ := And.intro (H2.out.frozen 0) (And.intro (H2.out.frozen 1) (H2.out.frozen 2))
        obtain ⟨b0, b1, b2⟩ : W.cell? ⟨Bx, 0, none⟩ = some (.int .i64 st) ∧ W.cell? ⟨Bx, 1, none⟩ = some (.int .u64 g) ∧ W.cell? ⟨Bx, 2, none⟩ = some (.int .i64 u) := ⟨bX.cell 0, bX.cell 1, bX.cell 2⟩
        clear hfs hls h1 h2 hB ha h3 bX
        have hneH : ∀ b, wr.heap.size + 1 ≤ b ∧ b < w5.heap.size → b ≠ wr.heap.size := fun b h => by omega
        have hneE : ∀ b, wr.heap.size + 1 ≤ b ∧ b < w5.heap.size → b ≠ w.heap.size + 1 := fun b h => by omega
        by_cases d1 : ast = 1
        · subst d1
          gi_wp2
          exact ⟨(KeepsOthers.setCell _ _ _).from _, ⟨H1.out.set_ 0 _, rfl, by rw [HFS.out]; rfl⟩, HBB.out.setCell (p := ⟨w.heap.size + 1, 0, none⟩) (by simp) _⟩
        · have e1 : (ast == 1) = false := by simpa using d1
          by_cases d2 : ag = g
          · subst d2
            gi_wp2
            exact ⟨(KeepsOthers.setCell _ _ _).from _, ⟨H1.out.set_ 0 _, rfl, by rw [HFS.out]; simp⟩, HBB.out.setCell (p := ⟨w.heap.size + 1, 0, none⟩) (by simp) _⟩
          · have e2 : (ag == g) = false := by simpa using d2
            gi_wp2
            have hle : w.heap.size ≤ wr.heap.size := by omega
            have hno : ∀ k, ¬ ((wr.heap.size + 1 ≤ (Addr.mk wr.heap.size k none).block) ∧ (Addr.mk wr.heap.size k none).block < w5.heap.size) := fun k h => hneH _ h rfl
            have hne : w.heap.size + 1 ≠ wr.heap.size := by omega
            refine ⟨(((KeepsOthers.setCell W _ _).trans (KeepsOthers.setCell _ _ _)).trans (KeepsOthers.setCell _ _ _)).from _, (((Kept.refl _ W).setCell (hno 0) _).setCell (hno 1) _).setCell (hno 2) _,
              ⟨⟨((H1.out.far (p := ⟨wr.heap.size, 0, none⟩) hne _).far (p := ⟨wr.heap.size, 1, none⟩) hne _).far (p := ⟨wr.heap.size, 2, none⟩) hne _, ?_⟩, by rw [HFS.out, e1, e2]; rfl⟩, ((HBB.out.setCell (p := ⟨wr.heap.size, 0, none⟩) hle _).setCell (p := ⟨wr.heap.size, 1, none⟩) hle _).setCell (p := ⟨wr.heap.size, 2, none⟩) hle _, by simpa [World.setCell] using hsz⟩
            rw [HLS.out]
            exact ((H2.out.set_ 0 _).set_ 1 _).set_ 2 _
      case done =>
        rintro D ys W hD rfl ⟨⟨⟨h1, h2⟩, h3⟩, hB, hsz⟩ hK
        have f1 := h1.frozen 0
        have c1 : W.cell? ⟨w.heap.size + 1, 0, none⟩ = some (.int .i64 0) := h1.cell 0
        gi_wp2
        have hK' := (KeepsOthers.setCell W ⟨w.heap.size + 1, 0, none⟩ (.int .i64 0)).same D _ hK rfl
        refine ⟨by simp, .inl ⟨_, _, rfl, run_takeDeferred hK', ?_⟩⟩
        have hc5 := cell_kept (World.cell?_setCell_same' W ⟨w.heap.size + 1, 0, none⟩ (.int .i64 0) (by rw [c1]; rfl)) (grownBy_putObj' _ D (.deferred none)) (fun r e => by cases e; exact ⟨_, hK', rfl⟩)
        refine ⟨.int .i64 0, ?_, .inr ⟨HALL.out, _, hperm, hri, by rw [h3]; rfl⟩, (hB.setCell (p := ⟨w.heap.size + 1, 0, none⟩) (by simp) _).trans (belowK_b (w := w) (Nat.le_refl _) _ D _ _ (Nat.le_trans hB5.size hD) hK' rfl rfl)⟩
        simp [results, Try.f44, go_sem, hc5]
      case stop =>
        rintro D c pre W hD ⟨k, hk, rfl⟩ ⟨⟨h1, rfl, h3⟩, hB⟩ hK
        have c1 : W.cell? ⟨w.heap.size + 1, 0, none⟩ = some (.int .i64 180) := h1.cell 0
        gi_wp2
        refine ⟨by simp, .inl ⟨_, _, rfl, run_takeDeferred hK, ?_⟩⟩
        have hc5 := cell_kept c1 (grownBy_putObj' _ D (.deferred none)) (fun r e => by cases e; exact ⟨_, hK, rfl⟩)
        have hfl : flow seg0 L = false := by
          have := flow_prefix (L.take k) (L.drop k) seg0 h3
          rwa [List.take_append_drop] at this
        refine ⟨.int .i64 180, ?_, .inr ⟨HALL.out, L, hperm, hri, by rw [hfl]; rfl⟩, hB.trans (belowK_b (w := w) (Nat.le_refl _) W D _ _ (Nat.le_trans hB5.size hD) hK rfl rfl)⟩
        simp [results, Try.f44, go_sem, hc5]

end Go.Proofs.Ytkmbbfdjdmkjpaa
