/- A region that draws its order, and whose last operation, for which all others wait, may turn what they have read: what is held of the world is asked behind all the others alone. Nothing of the program is spoken of here. -/
import Derived.Test.YthegbimolbhikaaWalk
import Derived.OrdersHeld
import Derived.Deep.RegionHeld3
namespace Go.Proofs.Ythegbimolbhikaa
set_option linter.unusedVariables false

section
variable {P : Program} {ops : Array Oper} {Q : Exit → Act → World → Prop} {md : Region.Mode} {S : World → Prop} {st : List Nat}

/-- Whatever order is picked; S is asked behind every operation but those of st. -/
def Tillst (P : Program) (md : Region.Mode) (ops : Array Oper) (Q : Exit → Act → World → Prop) (S : World → Prop) (st : List Nat) : Nat → Array Bool → Act → World → Prop
  | 0, l, a, w => Region.ready md ops l = [] ∧ Q .normal a w
  | k + 1, l, a, w => (Region.ready md ops l = [] → Q .normal a w) ∧ ∀ i ∈ Region.ready md ops l, wpOp P ops Q i (fun b v => (st.contains i = false → S v) ∧ Tillst P md ops Q S st k (l.setIfInBounds i true) b v) a w

theorem Tillst.any : ∀ (k : Nat) (l : Array Bool) (a : Act) (w : World), Tillst P md ops Q S st k l a w → wpAny P md ops Q k l a w
  | 0, _, _, _, h => h
  | k + 1, _, _, _, h => ⟨h.1, fun i hi => wpOp_mono (fun b v g => Tillst.any k _ b v g.2) (h.2 i hi)⟩

/-- All of st wait for number i. -/
def waitsFor (md : Region.Mode) (ops : Array Oper) (st : List Nat) (i : Nat) : Bool := st.all fun s => match ops[s]? with | some o => o.after.any fun e => Region.binds md e && e.on == i | none => false

theorem not_last {l : Array Bool} {i s : Nat} (hw : waitsFor md ops st i = true) (hun : l.getD i false = false) (hs : s ∈ st) : s ∉ Region.ready md ops l := by
  intro h
  obtain ⟨_, o, ho, hall⟩ := mem_ready.1 h
  unfold waitsFor at hw
  have hw := List.all_eq_true.1 hw s hs
  simp only [ho] at hw
  obtain ⟨e, he, hb⟩ := Array.any_eq_true'.1 hw
  rw [Bool.and_eq_true, beq_iff_eq] at hb
  have := hall e he hb.1
  rw [hb.2, hun] at this
  cases this

theorem un_of_ready {l : Array Bool} {i : Nat} (h : i ∈ Region.ready md ops l) : l.getD i false = false := by
  have h0 := (mem_ready.1 h).1
  rcases Nat.lt_or_ge i l.size with h' | h'
  · simpa [h'] using h0
  · simp [Array.getElem?_eq_none h'] at h0

theorem Tillst.first {i : Nat} {oi : Oper} {v : Value} (hi : ops[i]? = some oi) (hsel : ∀ (j : Nat) (o : Oper) cs b, ops[j]? = some o → o.op ≠ .select cs b) (hQ : ∀ c a w, Q (.panic c) (a.put oi.dst v) w → Q (.panic c) a w)
    (hw : waitsFor md ops st i = true) : ∀ (k : Nat) (l : Array Bool) (a : Act) (w : World),
      (∀ j oj, ops[j]? = some oj → j ≠ i → l.getD j true = false → (∀ e ∈ oj.after, Region.binds md e = true → e.on ≠ i) → oi.apart ops oj = true) →
      i ∈ Region.ready md ops l → YieldsIf P ops S oi v a → S w → Tillst P md ops Q S st k (l.setIfInBounds i true) (a.put oi.dst v) w → Tillst P md ops Q S st (k + 1) l a w := by
  intro k
  induction k with
  | zero =>
    intro l a w _ hr hy hS H
    refine ⟨fun h => (by rw [h] at hr; cases hr), fun j hj => ?_⟩
    by_cases e : j = i
    · rw [e]
      exact hy.wpOp hi hS ⟨fun _ => hS, H⟩
    · have := ready_mono hj e
      rw [H.1] at this
      cases this
  | succ k ih =>
    intro l a w hfree hr hy hS H
    have hun := un_of_ready hr
    refine ⟨fun h => (by rw [h] at hr; cases hr), fun j hj => ?_⟩
    by_cases e : j = i
    · rw [e]
      exact hy.wpOp hi hS ⟨fun _ => hS, H⟩
    have hjst : st.contains j = false := by
      rcases h : st.contains j with _ | _
      · rfl
      · exact absurd hj (not_last hw hun (by simpa using h))
    obtain ⟨hjun, oj, hoj, hall⟩ := mem_ready.1 hj
    have hno : ∀ e ∈ oj.after, Region.binds md e = true → e.on ≠ i := fun e he hb heq => by
      have := hall e he hb
      rw [heq, hun] at this
      cases this
    have hput := wpOp_putIf hoj (hfree j oj hoj e hjun hno) (fun cs b => hsel i oi cs b hi) (fun cs b => hsel j oj cs b hoj) hQ hy (H.2 j (ready_mono hj e))
    refine wpOp_mono (fun b u g => ?_) hput
    have hSu := g.2.1 hjst
    refine ⟨fun _ => hSu, ih (l.setIfInBounds j true) b u (fun m om hm hmi hmun hmno => ?_) (ready_mono hr (Ne.symm e)) g.1 hSu ?_⟩
    · refine hfree m om hm hmi ?_ hmno
      by_cases hjm : j = m
      · rw [← hjm]; exact hjun
      · rw [getD_set_ne true hjm] at hmun; exact hmun
    · rw [Array.setIfInBounds_comm _ _ e]
      exact g.2.2

/-! The moves. -/
theorem Tillst.take {i : Nat} {oi : Oper} {v : Value} {k : Nat} {l : Array Bool} {a : Act} {w : World} (hi : ops[i]? = some oi) (hs : Region.noSelect ops = true) (hf : Region.free md ops l i = true) (hr : (Region.ready md ops l).contains i = true)
    (hw : waitsFor md ops st i = true) (hQ : ∀ c a w, Q (.panic c) (a.put oi.dst v) w → Q (.panic c) a w) (hg : Region.wanted oi (yielded ops a.tmps) = true) (hy : ∀ w, S w → (execOp a.eval oi).run P w = .ok (.value v) w) (hS : S w)
    (h : Tillst P md ops Q S st k (l.setIfInBounds i true) (a.put oi.dst v) w) : Tillst P md ops Q S st (k + 1) l a w :=
  Tillst.first hi (Region.noSelect_spec hs) hQ hw k l a w (Region.free_spec hi hf) (by simpa using hr) (.inl ⟨hg, hy⟩) hS h

theorem Tillst.done {l : Array Bool} {a : Act} {w : World} (hr : Region.ready md ops l = []) (h : Q .normal a w) : ∀ k, Tillst P md ops Q S st k l a w
  | 0 => ⟨hr, h⟩
  | _ + 1 => ⟨fun _ => h, by rw [hr]; simp⟩

theorem Tillst.step {i : Nat} {o : Oper} {k : Nat} {l : Array Bool} {a : Act} {w : World} (ho : ops[i]? = some o) {K0 : Act → World → Prop}
    (h : ∀ K : Act → World → Prop, (∀ b v, K0 b v → K b v) → if Region.wanted o (yielded ops a.tmps) = true then Oper.wp P o a w K Q else K (a.put o.dst undef) w) : wpOp P ops Q i K0 a w := by
  have := h K0 (fun _ _ g => g)
  unfold wpOp
  simp only [ho]
  split
  · rename_i hw
    rw [if_pos hw] at this
    exact .inl this
  · rename_i hw
    rw [if_neg hw] at this
    exact this

/-- One operation that may come up. -/
theorem Tillst.one {i : Nat} {o : Oper} {k : Nat} {l : Array Bool} {a : Act} {w : World} (hr : Region.ready md ops l = [i]) (ho : ops[i]? = some o)
    (h : ∀ K : Act → World → Prop, Shut (∀ b v, (st.contains i = false → S v) → ((st.contains i = false → S v) → Tillst P md ops Q S st k (l.setIfInBounds i true) b v) → K b v) → if Region.wanted o (yielded ops a.tmps) = true then Oper.wp P o a w K Q else K (a.put o.dst undef) w) :
    Tillst P md ops Q S st (k + 1) l a w := by
  refine ⟨fun e => (by rw [hr] at e; cases e), fun j hj => ?_⟩
  rw [hr] at hj
  obtain rfl : j = i := by simpa using hj
  exact Tillst.step (k := k) (l := l) ho fun K hK => h K fun b v h1 h2 => hK b v ⟨h1, h2 h1⟩

/-- Two of them. -/
theorem Tillst.two {i j : Nat} {o o' : Oper} {k : Nat} {l : Array Bool} {a : Act} {w : World} (hr : Region.ready md ops l = [i, j]) (ho : ops[i]? = some o) (ho' : ops[j]? = some o')
    (h : ∀ K : Act → World → Prop, Shut (∀ b v, (st.contains i = false → S v) → ((st.contains i = false → S v) → Tillst P md ops Q S st k (l.setIfInBounds i true) b v) → K b v) → if Region.wanted o (yielded ops a.tmps) = true then Oper.wp P o a w K Q else K (a.put o.dst undef) w)
    (h' : ∀ K : Act → World → Prop, Shut (∀ b v, (st.contains j = false → S v) → ((st.contains j = false → S v) → Tillst P md ops Q S st k (l.setIfInBounds j true) b v) → K b v) → if Region.wanted o' (yielded ops a.tmps) = true then Oper.wp P o' a w K Q else K (a.put o'.dst undef) w) :
    Tillst P md ops Q S st (k + 1) l a w := by
  refine ⟨fun e => (by rw [hr] at e; cases e), fun m hm => ?_⟩
  rw [hr] at hm
  rcases List.mem_cons.1 hm with e | hm
  · rw [e]
    exact Tillst.step (k := k) (l := l) ho fun K hK => h K fun b v h1 h2 => hK b v ⟨h1, h2 h1⟩
  · obtain rfl : m = j := by simpa using hm
    exact Tillst.step (k := k) (l := l) ho' fun K hK => h' K fun b v h1 h2 => hK b v ⟨h1, h2 h1⟩

/-- The beginning. -/
theorem Tillst.region {id : Nat} {a : Act} {w : World} (S : World → Prop) (st : List Nat) (hm : P.follows .mixedOrders = true) (hS : S w.drew) (h : S w.drew → Tillst P .any ops Q S st ops.size (Array.replicate ops.size false) a w.drew) : (Code.region id ops true).wp P Q a w :=
  wp_region_any hm (Tillst.any _ _ _ _ (h hS))
end

end Go.Proofs.Ythegbimolbhikaa
