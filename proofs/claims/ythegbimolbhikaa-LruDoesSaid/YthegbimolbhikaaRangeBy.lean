/- A range over a function whose elements are told by their places, and whose memory the body may turn under the iterator's hands: what the iterator still has to read (M) is part of what holds between two rounds. Nothing of the program is spoken of here. -/
import Derived.RangeFuncNested
import Derived.RangeFuncLeaves
import Derived.RangeFuncFrom
import Derived.RangeFuncBound
namespace Go.Proofs.Ythegbimolbhikaa
open Go.RowKit
set_option linter.unusedVariables false
set_option linter.unusedSimpArgs false

/-- An iterator that tells N things, the i-th by 'encs i', if before the i-th (and at the end) the world is one of M i. -/
def SeqM (F : Fence) (n : Nat) (P : Program) (g : Nat) (lb : Array Value) (encs : Nat → Array Value) (N : Nat) (M : Nat → World → Prop) : Prop :=
  ∀ (l : Nat) (J Jx : Nat → World → Prop) (W : World), AbidesFrom W.heap.size J → AbidesFrom W.heap.size Jx → (∀ i V, J i V → M i V) →
    (∀ i V, i < N → J i V → YieldAt F (n - 1) P l (encs i) V fun e V' => (e = .returned (.bool true) ∧ J (i + 1) V') ∨ (e = .returned (.bool false) ∧ Jx i V')) →
    J 0 W → CallsIn F n P g (#[.func (.yield l) #[] #[]] ++ lb) W fun e V' => (∃ v, e = .returned v) ∧ (J N V' ∨ ∃ i, i < N ∧ Jx i V')

/-- How a round's body may be left. -/
def bodyBy (B : Nat) (I : Nat → World → Prop) (Ix : Code → Nat → World → Prop) (i : Nat) (W : World) : Exit → Act → World → Prop
  | .normal, _, V => KeepsFrom B W V ∧ I (i + 1) V
  | .ret, _, V => KeepsFrom B W V ∧ Ix .ret i V
  | .exit id, _, V => KeepsFrom B W V ∧ Ix (.exit id) i V
  | .goto t, _, V => KeepsFrom B W V ∧ Ix (.goto t) i V
  | .panic _, _, _ => False
  | .outgrown, _, _ => False

section
variable {F : Fence} {n : Nat} {P : Program} {w : World}

theorem range_by {g : Operand} {ps : Array Tmp} {assign body : Code} {Q : Exit → Act → World → Prop} {a : Act} (hro : F.round = none) (h1 : 1 ≤ n) {gf : Nat} {lb : Array Value} (hg : a.eval g = .func (.func gf) #[] lb) (hFg : F.fn gf)
    (eg : ∀ args W, (callFunc gf args).run P W = .ok (.enter gf args) W) {encs : Nat → Array Value} {N : Nat} {M : Nat → World → Prop} (hseq : SeqM F (n - 1) P gf lb encs N M) (hps : ∀ i, (encs i).size = ps.size)
    (I : Nat → World → Prop) (Ix : Code → Nat → World → Prop) (hI : OwnFrom w.heap.size I) (hIx : ∀ c, OwnFrom w.heap.size (Ix c)) (h0 : I 0 w) (hM : ∀ i V, I i V → M i V) (Ax : Nat → Act → World → Prop) (hAx : ∀ i a', OwnFrom w.heap.size (fun (_ : Unit) W => Ax i a' W))
    (hassign : ∀ (l i : Nat) (W : World) (K : Act → World → Prop), i < N → I i W → (∀ a' V, KeepsFrom w.heap.size W V → I i V → Ax i a' V → K a' V) →
      assign.wpIn (F.inRound l) (n - 1 - 1) P (Exit.then K (fun _ _ _ => False)) { tmps := (ps.zip (encs i)).foldl (fun t (p, v) => t.setIfInBounds p v) a.tmps, defers := [] } W)
    (hbody : ∀ (l i : Nat) (a' : Act) (W : World), i < N → w.heap.size ≤ l → (∃ r, W.heap[l]? = some (.loop r)) → I i W → Ax i a' W → body.wpIn (F.inRound l) (n - 1 - 1) P (bodyBy w.heap.size I Ix i W) a' W)
    (hdone : ∀ (D : Nat) (W : World), w.heap.size ≤ D → I N W → W.heap[D]? = some (.deferred (some [])) → Q .normal { a with defers := { target := .collected D, args := #[] } :: a.defers } W)
    (hstop : ∀ (D : Nat) (c : Code) (i : Nat) (W : World), w.heap.size ≤ D → i < N → Ix c i W → W.heap[D]? = some (.deferred (some [])) → c.wpIn F n P Q { a with defers := { target := .collected D, args := #[] } :: a.defers } W) :
    (Code.rangeFunc g ps assign body).wpIn F n P Q a w := by
  refine wpIn_rangeFunc fun fn hfn => ?_
  rw [hro]
  -- the loop's record, and the world behind 'enterLoop'
  let rec0 : LoopState → Option Code → Loop := fun st pe => { state := st, pending := pe, fn, tmps := a.tmps, params := ps, assign, body, defers := w.heap.size }
  obtain ⟨rc, hrc⟩ : ∃ rc, rc = rec0 := ⟨_, rfl⟩
  obtain ⟨V0, hV0⟩ : ∃ V0, V0 = (w.alloc (.deferred (some []))).alloc (.loop (rc .ready none)) := ⟨_, rfl⟩
  have sV0 : V0.heap.size = w.heap.size + 2 := by rw [hV0]; simp
  have lV0 : V0.heap[w.heap.size + 1]? = some (.loop (rc .ready none)) := by
    have h := World.alloc_heap_new (w.alloc (.deferred (some []))) (.loop (rc .ready none))
    rw [World.size_alloc] at h
    rw [hV0]; exact h
  have dV0 : V0.heap[w.heap.size]? = some (.deferred (some [])) := by
    rw [hV0]; exact (Below.heap_alloc _ _ _ (by simp)).trans (World.alloc_heap_new w _)
  -- what holds between two rounds, and behind the last one
  let Bk : LoopState → Option Code → World → Prop := fun st pe V => V.heap[w.heap.size + 1]? = some (.loop (rc st pe)) ∧ V.heap[w.heap.size]? = some (.deferred (some []))
  have own_bk : ∀ {st pe} {A B : World} {row : Option Nat}, Bk st pe A → A.grownBy B row → (∀ r, row = some r → ∃ o : Obj, A.heap[r]? = some o ∧ o.isWalk = true) → Bk st pe B :=
    fun hb hgr hr => ⟨(grownBy_keeps hgr hr hb.1 rfl).trans hb.1, (grownBy_keeps hgr hr hb.2 rfl).trans hb.2⟩
  have narrow : ∀ {A : World} {row : Option Nat}, (∀ r, row = some r → V0.heap.size ≤ r ∧ ∃ o : Obj, A.heap[r]? = some o ∧ o.isWalk = true) → ∀ r, row = some r → w.heap.size ≤ r ∧ ∃ o : Obj, A.heap[r]? = some o ∧ o.isCells = false :=
    fun hr r e => by
      obtain ⟨h2, o, h3, h4⟩ := hr r e
      exact ⟨by omega, o, h3, Obj.not_cells_of_walk h4⟩
  refine ⟨w.heap.size + 1, [{ target := .collected w.heap.size, args := #[] }], V0, { target := .fn (.func gf) lb, args := #[.func (.yield (w.heap.size + 1)) #[] #[]] }, V0, gf, #[.func (.yield (w.heap.size + 1)) #[] #[]] ++ lb, V0, ?_, ?_, ?_, ?_, fun _ => h1, ?_⟩
  · rw [hV0, hrc]; exact run_enterLoop_outer _ _ _ _ _
  · simp only [resolve, hg]; simp [go_sem]
  · intro f' hf'
    simp [Target.leads] at hf'
    subst hf'
    exact hFg
  · simp [invoke, go_sem, eg]
  have shut : ∀ (jump : Option Code) (V : World), V.heap[w.heap.size + 1]? = some (.loop { rc .ready none with state := .busy }) → V.heap[w.heap.size]? = some (.deferred (some [])) →
      ∃ V', (Instr.endRound (w.heap.size + 1) jump).run P V = .ok (.bool jump.isNone) V' ∧ V' = V.putObj (w.heap.size + 1) (.loop (rc (if jump.isNone then .ready else .done) jump)) ∧ Bk (if jump.isNone then .ready else .done) jump V' := fun jump V hl hd => by
    have h := run_endRound (P := P) jump hl
    refine ⟨V.putObj (w.heap.size + 1) (.loop (rc (if jump.isNone then .ready else .done) jump)), ?_, rfl, World.putObj_heap_same (Array.getElem?_eq_some_iff.1 hl).1, (World.putObj_heap_other (by omega)).trans hd⟩
    rw [hrc] at h ⊢
    exact h
  refine (hseq (w.heap.size + 1) (fun i V => I i V ∧ Bk .ready none V) (fun i V => ∃ c, Ix c i V ∧ Bk .done (some c) V) V0
    (fun i A B row hs hgr hr => ⟨hI i A B row hs.1 hgr (narrow hr), own_bk hs.2 hgr fun r e => (hr r e).2⟩)
    (fun i A B row ⟨c, hc, hb⟩ hgr hr => ⟨c, hIx c i A B row hc hgr (narrow hr), own_bk hb hgr fun r e => (hr r e).2⟩)
    (fun i V h => hM i V h.1) ?_ ⟨by rw [hV0]; exact hI.alloc _ (hI.alloc _ h0), lV0, dV0⟩).mono ?_
  · -- a round
    rintro i V hi ⟨hiI, hl, hd⟩
    have hy := run_yield (P := P) (args := encs i) hl (by rw [hrc]; exact hps i)
    rw [hrc] at hy
    refine ⟨fn, _, assign, body, hy, roundIn_of_wpIn hfn (hassign _ i V _ hi hiI ?_)⟩
    intro a' Va hk hIa hA
    have hla := hk.same _ _ (by omega) hl rfl
    have hda := hk.same _ _ (Nat.le_refl _) hd rfl
    have hlt := (Array.getElem?_eq_some_iff.1 hla).1
    refine ⟨_, run_beginRound hla (by rw [hrc]), ?_⟩
    have hlb : (Va.putObj (w.heap.size + 1) (.loop { rc .ready none with state := .busy })).heap[w.heap.size + 1]? = some (.loop { rc .ready none with state := .busy }) := World.putObj_heap_same hlt
    have hdb : (Va.putObj (w.heap.size + 1) (.loop { rc .ready none with state := .busy })).heap[w.heap.size]? = some (.deferred (some [])) := (World.putObj_heap_other (by omega)).trans hda
    refine wpIn_mono (hbody _ i a' _ hi (by omega) ⟨_, hlb⟩ (hI.putObj _ hIa (by omega) hla rfl) ((hAx i a').putObj (s := ()) _ hA (by omega) hla rfl)) ?_
    rintro e a3 V3 hp
    cases e with
    | normal =>
      have hl3 := hp.1.same _ _ (by omega) hlb rfl
      obtain ⟨V4, hr, e4, hb⟩ := shut none V3 hl3 (hp.1.same _ _ (Nat.le_refl _) hdb rfl)
      exact ⟨_, V4, hr, .inl ⟨rfl, by rw [e4]; exact hI.putObj _ hp.2 (by omega) hl3 rfl, hb⟩⟩
    | ret =>
      have hl3 := hp.1.same _ _ (by omega) hlb rfl
      obtain ⟨V4, hr, e4, hb⟩ := shut (some .ret) V3 hl3 (hp.1.same _ _ (Nat.le_refl _) hdb rfl)
      exact ⟨_, V4, hr, .inr ⟨rfl, .ret, by rw [e4]; exact (hIx _).putObj _ hp.2 (by omega) hl3 rfl, hb⟩⟩
    | exit id =>
      have hl3 := hp.1.same _ _ (by omega) hlb rfl
      obtain ⟨V4, hr, e4, hb⟩ := shut (some (.exit id)) V3 hl3 (hp.1.same _ _ (Nat.le_refl _) hdb rfl)
      exact ⟨_, V4, hr, .inr ⟨rfl, .exit id, by rw [e4]; exact (hIx _).putObj _ hp.2 (by omega) hl3 rfl, hb⟩⟩
    | goto t =>
      have hl3 := hp.1.same _ _ (by omega) hlb rfl
      obtain ⟨V4, hr, e4, hb⟩ := shut (some (.goto t)) V3 hl3 (hp.1.same _ _ (Nat.le_refl _) hdb rfl)
      exact ⟨_, V4, hr, .inr ⟨rfl, .goto t, by rw [e4]; exact (hIx _).putObj _ hp.2 (by omega) hl3 rfl, hb⟩⟩
    | panic ch => exact hp.elim
    | outgrown => exact hp.elim
  · -- behind the iterator
    rintro e V2 ⟨⟨v, rfl⟩, (⟨hiI, hl, hd⟩ | ⟨i, hi, c, hc, hl, hd⟩)⟩
    · have h := run_endLoop (P := P) hl (by rw [hrc]; simp [rec0])
      rw [hrc] at h
      exact ⟨none, _, h, hdone _ _ (Nat.le_refl _) (hI.putObj _ hiI (by omega) hl rfl) ((World.putObj_heap_other (by omega)).trans hd)⟩
    · have h := run_endLoop (P := P) hl (by rw [hrc]; simp [rec0])
      rw [hrc] at h
      exact ⟨some c, _, h, hstop _ c i _ (Nat.le_refl _) hi ((hIx c).putObj _ hc (by omega) hl rfl) ((World.putObj_heap_other (by omega)).trans hd)⟩
end
end Go.Proofs.Ythegbimolbhikaa
