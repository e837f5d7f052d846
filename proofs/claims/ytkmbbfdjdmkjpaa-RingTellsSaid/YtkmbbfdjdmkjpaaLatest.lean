/- Package ring: latest. -/
import Derived.Test.YtkmbbfdjdmkjpaaOkR
import Derived.Deep.RegionHeld3
namespace Go.Proofs.Ytkmbbfdjdmkjpaa
open Go.RowKit Go.Shelf
attribute [local go_sem] Oper.semAt_some
set_option linter.unusedVariables false

def atOf (a : Int) : List Num → Int
  | [] => a
  | x :: r => atOf x.1 r
theorem atOf_snoc (x : Num) : ∀ (pre : List Num) (a : Int), atOf a (pre ++ [x]) = x.1
  | [], _ => rfl
  | y :: pre, _ => atOf_snoc x pre y.1

/-- A function's results, the second of them a struct in memory. -/
theorem results_rowU {P : Program} {fn : Func} {p u : Tmp} {ty : TypeId} (h : fn.results = #[.tmp u, .cell p ty]) (tmps : Array Value) (w : World) (g : Nat) (t : TypeId) (cs : Array Value) (d : TypeDesc) (hp : tmps.getD p undef = .pointer (some ⟨g, 0, none⟩))
    (hg : Blk w g t cs) (hu : P.underlying ty = some d) (hd : (match d with | .struct _ | .array _ _ => true | _ => false) = true) (hi : (P.info? ty).map (·.size) = some cs.size) :
    (results fn tmps).run P w = .ok (.tuple #[tmps.getD u undef, .agg cs]) w := by
  have hp' : tmps[p]?.getD undef = .pointer (some ⟨g, 0, none⟩) := by simpa using hp
  have := run_loadVar_row (P := P) w g t ty cs (0, 0) d hg hu hd hi
  simp [results, h, hp', asAddr, this]
theorem keeps_of {W W' : World} {a b : Nat} {t t' : TypeId} {cs cs' : Array Value} (h : Kept (fun k => k ≠ a ∧ k ≠ b) W W') (ha : Blk W a t cs) (hb : Blk W b t' cs') : KeepsOthers W W' :=
  ⟨h.size, fun k o hk ho => by
    refine (h.block k ⟨?_, ?_⟩).trans hk
    · rintro rfl
      rw [show W.heap[k]? = _ from ha] at hk
      cases hk
      cases ho
    · rintro rfl
      rw [show W.heap[k]? = _ from hb] at hk
      cases hk
      cases ho⟩

set_option maxRecDepth 100000 in
set_option maxHeartbeats 2000000 in
theorem latest_any {w : World} {A : Option Addr} {n cap : Nat} {xs : List Seg} (h : RowZ w (· < w.heap.size) A n xs) (sec : Int) (hn : n ≤ 16) :
    Calls Try.prog 85 #[.agg #[.int .i64 sec, .slice A n cap]] w fun e w' => (∃ L, L.Perm (live xs) ∧ Rises L ∧ e = .returned (.tuple #[.int .i64 (atOf (-1) L), .agg (segC (lastOf seg0 L)).toArray])) ∧ Below w.heap.size w w' := by
  have HX := Lib.hid h
  have HN := Lib.hid hn
  clear h hn
  obtain ⟨w4, hw4⟩ : ∃ w4, w4 = ((((w.alloc (.cells #[.int .i64 sec, .slice A n cap] 66)).alloc (.cells #[.int .i64 0, .int .u64 0, .int .i64 0] 78)).alloc (.cells #[.int .i64 (-1)] 3)).alloc (.cells #[.int .i64 0, .int .u64 0, .int .i64 0] 78)) := ⟨_, rfl⟩
  have HW4 := Lib.hid hw4
  have hB4 : Below w.heap.size w w4 := by rw [hw4]; exact ((((Below.refl _ w).alloc (Nat.le_refl _) _).alloc (by simp) _).alloc (by simp; omega) _).alloc (by simp; omega) _
  have HB4 := Lib.hid hB4
  have hs4 : w4.heap.size = w.heap.size + 4 := by rw [hw4]; simp
  have HS4 := Lib.hid hs4
  have HK1 := Lib.hid (show Blk w4 (w.heap.size + 1) 78 (segC seg0).toArray by rw [hw4]; exact ((blk_new2 w _ _ _).alloc _).alloc _)
  have HK2 := Lib.hid (show Blk w4 (w.heap.size + 1 + 1) 3 #[.int .i64 (-1)] by rw [hw4]; have h := (Blk.new ((w.alloc (.cells #[.int .i64 sec, .slice A n cap] 66)).alloc (.cells #[.int .i64 0, .int .u64 0, .int .i64 0] 78)) 3 #[.int .i64 (-1)]).alloc (.cells #[.int .i64 0, .int .u64 0, .int .i64 0] 78); simpa using h)
  have HK3 := Lib.hid (show Blk w4 (w.heap.size + 1 + 1 + 1) 78 (segC seg0).toArray by rw [hw4]; have h := Blk.new (((w.alloc (.cells #[.int .i64 sec, .slice A n cap] 66)).alloc (.cells #[.int .i64 0, .int .u64 0, .int .i64 0] 78)).alloc (.cells #[.int .i64 (-1)] 3)) 78 (segC seg0).toArray; simpa using h)
  have HRI := Lib.hid (rising_any (w := w4) (cap := cap) ((HX.out.below hB4 (fun b h => h)).more (fun b h => Nat.lt_of_lt_of_le h hB4.size)) HN.out)
  rw [hw4] at HRI
  clear hw4 hB4 hs4
  refine (callsIn_wide (n := 5)).1 ?_
  refine callsIn_of_wp_marks Try.func85 rfl trivial ?_ rfl
  simp only [Try.ntmps85, List.size_toArray, List.length_cons, List.length_nil, Nat.reduceAdd, Nat.reduceSub, Array.replicate_succ, Array.replicate_zero, List.push_toArray, List.append_toArray, List.nil_append, List.cons_append]
  gi_wp2_with (refine ⟨trivial, ?_⟩; gi_at_call 86; refine (callsIn_wide.2 HRI.out).mono ?_; rintro e w5 ⟨B, L, rfl, hsq, hperm, hri, hb5⟩)
  rw [← HW4.out] at hsq hb5
  have hL16 : L.length ≤ 16 := by have hn := HN.out; rw [hperm.length_eq]; have := liveTo_length xs xs.length; rw [HX.out.1] at this; unfold live; rw [HX.out.1]; omega
  have hb1 := HK1.out.below hb5 HK1.out.lt
  have hb2 := HK2.out.below hb5 HK2.out.lt
  have hb3 := HK3.out.below hb5 HK3.out.lt
  have hB5 := HB4.out.trans (hb5.mono HB4.out.size)
  have hs4 := HS4.out
  have hs5 := hb5.size
  refine wpIn_rangeFunc_ownH rfl (by omega) (gf := 114) (lb := #[.pointer (some ⟨B, 0, none⟩)]) rfl trivial (enters_of Try.func114 (by kernel_rfl) rfl)
    (rise_stops Fence.wide 4 trivial rfl (by omega) B w4.heap.size w5.heap.size L hL16 w5 hsq rfl) keptK_t (keptK_b (Nat.le_refl _)) (Below.refl _ _) (fun _ => rfl)
    (fun pre W => ((Blk W (w.heap.size + 1) 78 (segC seg0).toArray ∧ Blk W (w.heap.size + 1 + 1) 3 #[.int .i64 (atOf (-1) pre)]) ∧ Blk W (w.heap.size + 1 + 1 + 1) 78 (segC (lastOf seg0 pre)).toArray) ∧ Below w.heap.size w W ∧ w5.heap.size ≤ W.heap.size)
    (fun _ _ _ => False)
    (OwnFrom.and (OwnFrom.and (OwnFrom.and (Own.from (blk_own _ _ _) _) (Own.from (blk_own _ _ _) _)) (Own.from (blk_own _ _ _) _)) (OwnFrom.and (ownFrom_below (Nat.le_refl _) hB5.size) (own_size _)))
    (fun _ _ _ _ _ hs _ _ => hs)
    ⟨⟨⟨hb1, hb2⟩, hb3⟩, hB5, Nat.le_refl _⟩
    (fun x a' W => ∃ Bx, w4.heap.size ≤ Bx ∧ Blk W Bx 78 (segC x.2).toArray ∧ a' = { tmps := #[.agg #[.int .i64 sec, .slice A n cap], .pointer (some ⟨w.heap.size, 0, none⟩), .int .i64 0, .pointer (some ⟨w.heap.size + 1, 0, none⟩), .pointer (some ⟨w.heap.size + 1 + 1, 0, none⟩), .pointer (some ⟨w.heap.size + 1 + 1 + 1, 0, none⟩), .int .i64 x.1, .pointer (some ⟨Bx, 0, none⟩), .agg #[.int .i64 0, .int .u64 0, .int .i64 0], .pointer (some ⟨w.heap.size, 1, none⟩), .slice A n cap, .func (.func 114) #[] #[.pointer (some ⟨B, 0, none⟩)], .int .i64 x.1, .agg (segC x.2).toArray, undef, undef, undef, undef], defers := [] })
    (fun x a' _ X Y row hs hg hr => by obtain ⟨Bx, h1, h2, h3⟩ := hs; exact ⟨Bx, h1, blk_own Bx _ (fun (_ : Unit) => _) () X Y row h2 hg (fun r e => (hr r e).2), h3⟩)
    ?assign ?body ?done ?stop
  case assign =>
    rintro l pre x W K ⟨⟨⟨h1, h2⟩, h3⟩, hB, hsz⟩ hK
    gi_wp2
    exact hK _ _ ((KeepsOthers.alloc _ _).from _) ((Kept.refl _ W).alloc (fun b hb => Nat.lt_of_lt_of_le hb.2 hsz) _) ⟨⟨⟨h1.alloc _, h2.alloc _⟩, h3.alloc _⟩, hB.alloc hB.size _, Nat.le_trans hsz (by simp)⟩ ⟨W.heap.size, Nat.le_trans hs5 hsz, Blk.new W _ _, rfl⟩
  case body =>
    rintro l pre ⟨i, st, g, u⟩ a' W hl ⟨r, hr⟩ ⟨⟨⟨h1, h2⟩, h3⟩, hB, hsz⟩ ⟨Bx, hBx, bX, rfl⟩ hlt
    have hls := lastOf_snoc (i, st, g, u) pre seg0
    have has := atOf_snoc (i, st, g, u) pre (-1)
    obtain ⟨ast, ag, au, ha⟩ : ∃ ast ag au, lastOf seg0 pre = (ast, ag, au) := ⟨_, _, _, rfl⟩
    rw [ha] at h3
    generalize atOf (-1) pre = aat at h2
    have HLS := Lib.hid hls
    have HAS := Lib.hid has
    have H1 := Lib.hid h1
    have H2 := Lib.hid h2
    have H3 := Lib.hid h3
    have HBB := Lib.hid hB
    have c2 : W.cell? ⟨w.heap.size + 1 + 1, 0, none⟩ = some (.int .i64 aat) := H2.out.cell 0
    have f2 := H2.out.frozen 0
    obtain ⟨a0, a1, a2⟩ : W.cell? ⟨w.heap.size + 1 + 1 + 1, 0, none⟩ = some (.int .i64 ast) ∧ W.cell? ⟨w.heap.size + 1 + 1 + 1, 1, none⟩ = some (.int .u64 ag) ∧ W.cell? ⟨w.heap.size + 1 + 1 + 1, 2, none⟩ = some (.int .i64 au) := ⟨H3.out.cell 0, H3.out.cell 1, H3.out.cell 2⟩
    obtain ⟨g0, g1, g2⟩ := And.intro (H3.out.frozen 0) (And.intro (H3.out.frozen 1) (H3.out.frozen 2))
    obtain ⟨b0, b1, b2⟩ : W.cell? ⟨Bx, 0, none⟩ = some (.int .i64 st) ∧ W.cell? ⟨Bx, 1, none⟩ = some (.int .u64 g) ∧ W.cell? ⟨Bx, 2, none⟩ = some (.int .i64 u) := ⟨bX.cell 0, bX.cell 1, bX.cell 2⟩
    have n1 : Bx ≠ w.heap.size + 1 + 1 := by omega
    have n2 : Bx ≠ w.heap.size + 1 + 1 + 1 := by omega
    clear hls has h1 h2 h3 hB ha bX
    gi_wp2
    have mixed : Try.prog.follows Departure.mixedOrders = true := by kernel_rfl
    gi_region_with_o (fail)
    all_goals gi_wp2
    all_goals (try go_bits)
    all_goals
      have e3 : w.heap.size + 1 ≠ w.heap.size + 1 + 1 := by omega
      have e4 : w.heap.size + 1 ≠ w.heap.size + 1 + 1 + 1 := by omega
      have e5 : w.heap.size + 1 + 1 ≠ w.heap.size + 1 + 1 + 1 := by omega
      have hA := HAS.out
      have hL := HLS.out
      refine ⟨(((((KeepsOthers.setCell W _ _).trans (KeepsOthers.setCell _ _ _)).trans (KeepsOthers.setCell _ _ _)).trans (KeepsOthers.setCell _ _ _)).trans (KeepsOthers.drew _)).from _,
        (((((Kept.refl _ W).setCell (p := ⟨w.heap.size + 1 + 1, 0, none⟩) (fun h => by have := h.1; simp only [] at this; omega) _).setCell (p := ⟨w.heap.size + 1 + 1 + 1, 0, none⟩) (fun h => by have := h.1; simp only [] at this; omega) _).setCell (p := ⟨w.heap.size + 1 + 1 + 1, 1, none⟩) (fun h => by have := h.1; simp only [] at this; omega) _).setCell (p := ⟨w.heap.size + 1 + 1 + 1, 2, none⟩) (fun h => by have := h.1; simp only [] at this; omega) _).drew,
        ⟨⟨((((H1.out.far (p := ⟨w.heap.size + 1 + 1, 0, none⟩) e3 _).far (p := ⟨w.heap.size + 1 + 1 + 1, 0, none⟩) e4 _).far (p := ⟨w.heap.size + 1 + 1 + 1, 1, none⟩) e4 _).far (p := ⟨w.heap.size + 1 + 1 + 1, 2, none⟩) e4 _).drew, ?_⟩, ?_⟩,
        ((((HBB.out.setCell (p := ⟨w.heap.size + 1 + 1, 0, none⟩) (by simp only []; omega) _).setCell (p := ⟨w.heap.size + 1 + 1 + 1, 0, none⟩) (by simp only []; omega) _).setCell (p := ⟨w.heap.size + 1 + 1 + 1, 1, none⟩) (by simp only []; omega) _).setCell (p := ⟨w.heap.size + 1 + 1 + 1, 2, none⟩) (by simp only []; omega) _).drew, by simpa [World.setCell] using hsz⟩
      · rw [hA]
        exact ((((H2.out.set_ 0 _).far (p := ⟨w.heap.size + 1 + 1 + 1, 0, none⟩) e5 _).far (p := ⟨w.heap.size + 1 + 1 + 1, 1, none⟩) e5 _).far (p := ⟨w.heap.size + 1 + 1 + 1, 2, none⟩) e5 _).drew
      · rw [hL]
        exact ((((H3.out.far (p := ⟨w.heap.size + 1 + 1, 0, none⟩) e5.symm _).set_ 0 _).set_ 1 _).set_ 2 _).drew
  case done =>
    rintro D ys W hD rfl ⟨⟨⟨h1, h2⟩, h3⟩, hB, hsz⟩ hK
    obtain ⟨ast, ag, au, ha⟩ : ∃ ast ag au, lastOf seg0 ys = (ast, ag, au) := ⟨_, _, _, rfl⟩
    rw [ha] at h3
    have HA := Lib.hid ha
    obtain ⟨aat, hat⟩ : ∃ aat, atOf (-1) ys = aat := ⟨_, rfl⟩
    rw [hat] at h2
    have HAT := Lib.hid hat
    have H1 := Lib.hid h1
    have HBB := Lib.hid hB
    have c2 : W.cell? ⟨w.heap.size + 1 + 1, 0, none⟩ = some (.int .i64 aat) := h2.cell 0
    obtain ⟨a0, a1, a2⟩ : W.cell? ⟨w.heap.size + 1 + 1 + 1, 0, none⟩ = some (.int .i64 ast) ∧ W.cell? ⟨w.heap.size + 1 + 1 + 1, 1, none⟩ = some (.int .u64 ag) ∧ W.cell? ⟨w.heap.size + 1 + 1 + 1, 2, none⟩ = some (.int .i64 au) := ⟨h3.cell 0, h3.cell 1, h3.cell 2⟩
    obtain ⟨d0, d1, d2⟩ : W.cell? ⟨w.heap.size + 1, 0, none⟩ = some (.int .i64 0) ∧ W.cell? ⟨w.heap.size + 1, 1, none⟩ = some (.int .u64 0) ∧ W.cell? ⟨w.heap.size + 1, 2, none⟩ = some (.int .i64 0) := ⟨h1.cell 0, h1.cell 1, h1.cell 2⟩
    obtain ⟨g0, g1, g2⟩ := And.intro (H1.out.frozen 0) (And.intro (H1.out.frozen 1) (H1.out.frozen 2))
    have mixed : Try.prog.follows Departure.mixedOrders = true := by kernel_rfl
    clear h1 h2 h3 hB ha hat
    gi_wp2
    refine wpIn_mono (Q := NoPanic _) ?_ NoPanic.imp
    gi_region_with_o (fail)
    all_goals refine NoPanic.normal ?_
    all_goals gi_wp2
    all_goals (try go_bits)
    all_goals
      have hW : (((W.setCell ⟨w.heap.size + 1, 0, none⟩ (.int .i64 ast)).setCell ⟨w.heap.size + 1, 1, none⟩ (.int .u64 ag)).setCell ⟨w.heap.size + 1, 2, none⟩ (.int .i64 au)).drew.heap[D]? = some (.deferred (some [])) := ((((KeepsOthers.setCell W _ _).trans (KeepsOthers.setCell _ _ _)).trans (KeepsOthers.setCell _ _ _)).trans (KeepsOthers.drew _)).same D _ hK rfl
      have hF := (((HBB.out.setCell (p := ⟨w.heap.size + 1, 0, none⟩) (by simp) (.int .i64 ast)).setCell (p := ⟨w.heap.size + 1, 1, none⟩) (by simp) (.int .u64 ag)).setCell (p := ⟨w.heap.size + 1, 2, none⟩) (by simp) (.int .i64 au)).drew
      have hG := (((H1.out.set_ 0 (.int .i64 ast)).set_ 1 (.int .u64 ag)).set_ 2 (.int .i64 au)).drew
      refine ⟨by simp, .inl ⟨_, _, rfl, run_takeDeferred hW, ?_⟩⟩
      refine ⟨_, results_rowU (p := 3) (u := 2) rfl _ _ (w.heap.size + 1) 78 (segC (ast, ag, au)).toArray _ rfl ?_ Try.underlying78 rfl size_seg, ⟨_, hperm, hri, by rw [HA.out, HAT.out]; rfl⟩, hF.trans (belowK_b (w := w) (Nat.le_refl _) _ D _ _ (Nat.le_trans hB5.size hD) hW rfl rfl)⟩
      exact hG.grown (grownBy_putObj' _ D (.deferred none)) (fun e => by cases e; rw [show _ = _ from hG] at hW; cases hW)
  case stop =>
    rintro D c pre W _ _ h _
    exact h.elim

end Go.Proofs.Ytkmbbfdjdmkjpaa
