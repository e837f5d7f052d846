/- An arena in memory; slices.IndexFunc over pages; where the next chunk is given. -/
import Derived.Test.YtgipkdkfecegkaaDoorPc2
namespace Go.Proofs.YtgipkdkfecegkaaDoor
open Go.RowKit Go.Shelf PgM
attribute [local go_sem] Oper.semAt_some
set_option linter.unusedVariables false
set_option linter.unusedSimpArgs false
/-- An arena at x, its pages in the block g. -/
def ArM (w : World) (x g : Nat) (ps : List Pg) : Prop :=
  (∃ cap X, Blk w x 57 #[.slice (some ⟨g, 0, none⟩) ps.length cap] ∧ Blk w g 60 (flatG ps ++ X).toArray) ∧ 0 < ps.length ∧ ps.length ≤ 256 ∧ InvP ps ∧ Tab w ∧ 0 < x ∧ 0 < g
theorem ArM.ne {w : World} {x g : Nat} {ps : List Pg} (h : ArM w x g ps) : x ≠ g := by
  obtain ⟨⟨cap, X, h1, h2⟩, _⟩ := h
  exact Blk.ne_ h1 h2 (by decide)
theorem ArM.lt {w : World} {x g : Nat} {ps : List Pg} (h : ArM w x g ps) : x < w.heap.size ∧ g < w.heap.size := by
  obtain ⟨⟨cap, X, h1, h2⟩, _⟩ := h
  exact ⟨h1.lt, h2.lt⟩
theorem ArM.below {w w' : World} {x g B : Nat} {ps : List Pg} (h : ArM w x g ps) (hb : Below B w w') (hx : x < B) (hg : g < B) : ArM w' x g ps := by
  obtain ⟨⟨cap, X, h1, h2⟩, h3, h4, h5, h6, h7⟩ := h
  exact ⟨⟨cap, X, h1.below hb hx, h2.below hb hg⟩, h3, h4, h5, h6.below hb (by omega), h7⟩
theorem ArM.kept {w w' : World} {x g : Nat} {S : Nat → Prop} {ps : List Pg} (h : ArM w x g ps) (hb : Kept S w w') (hx : S x) (hg : S g) (h0 : S 0) : ArM w' x g ps := by
  obtain ⟨⟨cap, X, h1, h2⟩, h3, h4, h5, h6, h7⟩ := h
  exact ⟨⟨cap, X, h1.kept hb hx, h2.kept hb hg⟩, h3, h4, h5, h6.kept hb h0, h7⟩
theorem ArM.belowAll {w w' : World} {x g : Nat} {ps : List Pg} (h : ArM w x g ps) (hb : Below w.heap.size w w') : ArM w' x g ps := h.below hb h.lt.1 h.lt.2
theorem flat_cell {ps : List Pg} {X : List Value} {w : World} {g : Nat} {t : TypeId} (h : Blk w g t (flatG ps ++ X).toArray) {i : Nat} (hi : i < ps.length) :
    w.cell? ⟨g, i * 2, none⟩ = some (.int .i64 ((ps.getD i pg0).1 : Nat)) ∧ w.cell? ⟨g, i * 2 + 1, none⟩ = some (.int .u32 ((ps.getD i pg0).2 : Nat)) := by
  have hr := row_of_flat (S := fun _ => True) h trivial rfl
  obtain ⟨b, off, e, _, hc⟩ := hr.2 (by omega)
  cases e
  have h0 := hc i hi 0 _ rfl
  have h1 := hc i hi 1 _ rfl
  simp only [Nat.zero_add, Nat.add_zero] at h0 h1
  exact ⟨h0, h1⟩
/-- A page is stored, cell by cell. -/
theorem flat_set2 {ps : List Pg} {X : List Value} {w : World} {g : Nat} {t : TypeId} (h : Blk w g t (flatG ps ++ X).toArray) {i : Nat} (hi : i < ps.length) (c b : Nat) :
    Blk ((w.setCell ⟨g, i * 2, none⟩ (.int .i64 (c : Nat))).setCell ⟨g, i * 2 + 1, none⟩ (.int .u32 (b : Nat))) g t (flatG (ps.set i (c, b)) ++ X).toArray := by
  have h1 := (h.set_ (i * 2) (.int .i64 (c : Nat))).set_ (i * 2 + 1) (.int .u32 (b : Nat))
  have hl := flatG_length ps
  have e : ((flatG ps ++ X).toArray.setIfInBounds (i * 2) (.int .i64 (c : Nat))).setIfInBounds (i * 2 + 1) (.int .u32 (b : Nat)) = (flatG (ps.set i (c, b)) ++ X).toArray := by
    rw [flatG_set ps i (c, b) hi]
    simp only [List.setIfInBounds_toArray]
    congr 1
    have hA : ∃ P Q : List Value, flatG ps = P ++ pgC (ps.getD i pg0) ++ Q ∧ P.length = i * 2 ∧ (flatG ps).take (i * 2) = P ∧ (flatG ps).drop (i * 2 + 2) = Q := by
      have e2 := flatG_set ps i (ps.getD i pg0) hi
      have e3 : ps.set i (ps.getD i pg0) = ps := by
        simp [List.getD, List.getElem?_eq_getElem hi]
      rw [e3] at e2
      exact ⟨_, _, e2, by rw [List.length_take]; omega, rfl, rfl⟩
    obtain ⟨P, Q, hPQ, hP, hP2, hQ2⟩ := hA
    rw [hP2, hQ2, hPQ]
    rw [show P ++ pgC (ps.getD i pg0) ++ Q ++ X = P ++ ([.int .i64 ((ps.getD i pg0).1 : Nat), .int .u32 ((ps.getD i pg0).2 : Nat)] ++ (Q ++ X)) by simp [pgC]]
    rw [← hP, List.set_append_right _ _ (Nat.le_refl _), List.set_append_right _ _ (by omega)]
    simp [pgC]
  rw [e] at h1
  exact h1
/-- The first that a predicate takes. -/
theorem idx_spec (p : Pg → Bool) : ∀ (ps : List Pg), (Lib.idxBy (fun _ y => p y) ps pg0 = -1 ∧ ∀ i, i < ps.length → p (ps.getD i pg0) = false) ∨ (∃ k, k < ps.length ∧ Lib.idxBy (fun _ y => p y) ps pg0 = (k : Nat) ∧ p (ps.getD k pg0) = true ∧ ∀ j, j < k → p (ps.getD j pg0) = false) := by
  intro ps
  have hgd : ∀ j, j < ps.length → ps[j]! = ps.getD j pg0 := fun j hj => by simp [List.getD, List.getElem?_eq_getElem hj, hj]
  have key : ∀ n, n ≤ ps.length → (∀ i, i < n → p (ps.getD i pg0) = false) ∨ (∃ k, k < n ∧ p (ps.getD k pg0) = true ∧ ∀ j, j < k → p (ps.getD j pg0) = false) := by
    intro n
    induction n with
    | zero => exact fun _ => .inl fun i hi => absurd hi (by omega)
    | succ n ih =>
      intro hn
      rcases ih (by omega) with h | ⟨k, hk, h1, h2⟩
      · cases hp : p (ps.getD n pg0) with
        | true => exact .inr ⟨n, by omega, hp, h⟩
        | false =>
          refine .inl fun i hi => ?_
          by_cases e : i = n
          · rw [e]; exact hp
          · exact h i (by omega)
      · exact .inr ⟨k, by omega, h1, h2⟩
  rcases key ps.length (Nat.le_refl _) with h | ⟨k, hk, h1, h2⟩
  · refine .inl ⟨?_, h⟩
    have := Lib.idxBy_miss (fun _ y => p y) ps ps.length pg0 (fun j hj => by rw [hgd j hj]; exact h j hj)
    rwa [List.take_length] at this
  · refine .inr ⟨k, hk, ?_, h1, h2⟩
    have := Lib.idxBy_hit (fun _ y => p y) ps ps.length k pg0 hk (Nat.le_refl _) (by show p ps[k]! = true; rw [hgd k hk]; exact h1) (fun j hj => by rw [hgd j (by omega)]; exact h2 j hj)
    rwa [List.take_length] at this
set_option maxHeartbeats 2000000 in
theorem index_any (fn : Nat) (lb : Array Value) (p : Pg → Bool) (eg : ∀ args w, (callFunc fn args).run Tryd.prog w = .ok (.enter fn args) w) {w : World} {g n cap : Nat} {ps : List Pg} {X : List Value}
    (h : Blk w g 60 (flatG ps ++ X).toArray) (hn : ps.length = n) (hbig : n ≤ 256)
    (hp : ∀ (W : World) (i : Nat), i < n → Below w.heap.size w W → Calls Tryd.prog fn (#[pgV (ps.getD i pg0)] ++ lb) W fun e W' => e = .returned (.bool (p (ps.getD i pg0))) ∧ Below W.heap.size W W') :
    Calls Tryd.prog 37 #[.slice (some ⟨g, 0, none⟩) n cap, .func (.func fn) #[] lb] w fun e w' => e = .returned (.int .i64 (Lib.idxBy (fun _ y => p y) ps pg0)) ∧ Below w.heap.size w w' := by
  have HB := Lib.hid h
  have HP := Lib.hid hp
  have HN := Lib.hid hn
  have hspec := idx_spec p ps
  rw [hn] at hspec
  have HS := Lib.hid hspec
  clear h hp hn hspec
  go_enter Tryd.func37, Tryd.ntmps37
  go_wp2_with fail
  go_loopw [8] (fun i wr => ∃ j : Nat, i = .int .i64 j ∧ j ≤ n ∧ Below w.heap.size w wr ∧ ∀ t, t < j → p (ps.getD t pg0) = false) (fun i _ => n - (intOf i).toNat)
  case atStart => exact ⟨0, rfl, Nat.zero_le _, Below.refl _ _, fun t ht => absurd ht (by omega)⟩
  case round =>
    obtain ⟨j, rfl, hj, hB, hF⟩ := hrel
    have HF := Lib.hid hF
    have HBL := Lib.hid hB
    clear hF hB
    by_cases hjn : j < n
    · obtain ⟨c0, c1⟩ := flat_cell (HB.out.below HBL.out HB.out.lt) (i := j) (by rw [HN.out]; exact hjn)
      have hcall := HP.out wr j hjn HBL.out
      obtain ⟨⟨q0, q1⟩, hq⟩ : ∃ q, ps.getD j pg0 = q := ⟨_, rfl⟩
      rw [hq] at c0 c1 hcall
      have HQ := Lib.hid hq
      clear hq
      cases hv : p (q0, q1) with
      | true =>
        rw [hv] at hcall
        have HV := Lib.hid hv
        clear hv
        go_wp2_with (go_at_fn fn; refine hcall.mono ?_; rintro e w2 ⟨rfl, hb2⟩)
        go_ret
        refine ⟨?_, HBL.out.trans (hb2.mono HBL.out.size)⟩
        rcases HS.out with ⟨_, h2⟩ | ⟨k, hk, h1, h2, h3⟩
        · have := h2 j hjn
          rw [HQ.out, HV.out] at this
          cases this
        · rw [h1]
          have : k = j := by
            rcases Nat.lt_trichotomy k j with h | h | h
            · have h5 := HF.out k h
              rw [h2] at h5
              cases h5
            · exact h
            · have h5 := h3 j h
              rw [HQ.out, HV.out] at h5
              cases h5
          rw [this]
          rfl
      | false =>
        rw [hv] at hcall
        have HV := Lib.hid hv
        clear hv
        go_wp2_with (go_at_fn fn; refine hcall.mono ?_; rintro e w2 ⟨rfl, hb2⟩)
        go_roundw
        case rel =>
          refine ⟨j + 1, by simp, by omega, HBL.out.trans (hb2.mono HBL.out.size), fun t ht => ?_⟩
          by_cases e : t = j
          · rw [e, HQ.out, HV.out]
          · exact HF.out t (by omega)
        case measure => show n - (Int.toNat ((j : Int) + 1)) < n - (Int.toNat (j : Int)); omega
    · obtain rfl : j = n := by omega
      go_wp2
      go_ret
      refine ⟨?_, HBL.out⟩
      rcases HS.out with ⟨h1, _⟩ | ⟨k, hk, h1, h2, h3⟩
      · rw [h1]
        rfl
      · have := HF.out k hk
        rw [h2] at this
        cases this
end Go.Proofs.YtgipkdkfecegkaaDoor
