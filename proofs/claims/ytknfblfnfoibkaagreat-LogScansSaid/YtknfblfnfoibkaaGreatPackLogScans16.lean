/- Texts of LogScans, packed. -/
import Derived.Test.YtknfblfnfoibkaaGreatPackLogScans15
set_option linter.unusedVariables false
set_option linter.unusedSimpArgs false
set_option maxRecDepth 100000
set_option maxHeartbeats 16000000
namespace Go.Proofs.YtknfblfnfoibkaaGreat
section
section
variable {P : Program} {ops : Array Oper} {Q : Exit → Act → World → Prop} {md : Region.Mode} {S : World → Prop} {st : List Nat}
def GoodL (md : Region.Mode) (ops : Array Oper) (l : Array Bool) : Prop := ∀ s o, ops[s]? = some o → l.getD s false = true → ∀ e ∈ o.after, Region.binds md e = true → l.getD e.on false = true
def goodB (md : Region.Mode) (ops : Array Oper) (l : Array Bool) : Bool := (List.range ops.size).all fun s => match ops[s]? with
 | none => true
 | some o => !(l.getD s false) || o.after.all fun e => !(Region.binds md e) || l.getD e.on false
theorem goodB_spec {l : Array Bool} (h : goodB md ops l = true) : GoodL md ops l := by
 intro s o ho hs e he hb
 have hlt : s < ops.size := (Array.getElem?_eq_some_iff.1 ho).1
 have h1 := List.all_eq_true.1 h s (List.mem_range.2 hlt)
 simp only [ho, hs, Bool.not_true, Bool.false_or] at h1
 have h2 := Array.all_eq_true'.1 h1 e he
 simpa [hb] using h2
theorem GoodL.set {l : Array Bool} {i : Nat} (h : GoodL md ops l) (hi : i ∈ Region.ready md ops l) : GoodL md ops (l.setIfInBounds i true) := by
 intro s o ho hs e he hb
 have key : l.getD e.on false = true := by
  obtain ⟨hun, oi, hoi, hall⟩ := mem_ready.1 hi
  by_cases hsi : i = s
  ·subst hsi
   rw [hoi] at ho
   injection ho with ho
   subst ho
   exact hall e he hb
  ·rw [getD_set_ne false hsi] at hs
   exact h s o ho hs e he hb
 by_cases hie : i = e.on
 ·rw [hie]
  have h1 := un_of_ready hi
  have hlt : e.on < l.size := by
   rcases Nat.lt_or_ge e.on l.size with h' | h'
   ·exact h'
   ·simp [Array.getElem?_eq_none h'] at key
  simp [hlt]
 ·rw [getD_set_ne false hie]
  exact key
def reaches (md : Region.Mode) (ops : Array Oper) : Nat → Nat → Nat → Bool
 | 0, _, _ => false
 | n + 1, s, i => match ops[s]? with
  | none => false
  | some o => o.after.any fun e => Region.binds md e && (e.on == i || reaches md ops n e.on i)
theorem reaches_listed {l : Array Bool} (hg : GoodL md ops l) {i : Nat} : ∀ (n s : Nat), (∀ o, ops[s]? = some o → ∀ e ∈ o.after, Region.binds md e = true → l.getD e.on false = true) → reaches md ops n s i = true → l.getD i false = true
 | 0, _, _, h => by cases h
 | n + 1, s, hs, h => by
  unfold reaches at h
  cases ho : ops[s]? with
  | none => simp only [ho] at h; cases h
  | some o =>
   simp only [ho] at h
   obtain ⟨e, he, hb⟩ := Array.any_eq_true'.1 h
   rw [Bool.and_eq_true] at hb
   have h1 := hs o ho e he hb.1
   rcases Bool.or_eq_true_iff.1 hb.2 with h2 | h2
   ·rw [beq_iff_eq] at h2
    rwa [h2] at h1
   ·exact reaches_listed hg n e.on (fun o' ho' e' he' hb' => hg e.on o' ho' h1 e' he' hb') h2
def waitsBy (md : Region.Mode) (ops : Array Oper) (st : List Nat) (l : Array Bool) (i : Nat) : Bool := st.all fun s => l.getD s false || reaches md ops ops.size s i
theorem waits_set {l : Array Bool} {i j : Nat} (hw : waitsBy md ops st l i = true) (hj : j < l.size) : waitsBy md ops st (l.setIfInBounds j true) i = true := by
 unfold waitsBy at *
 refine List.all_eq_true.2 fun s hs => ?_
 rcases Bool.or_eq_true_iff.1 (List.all_eq_true.1 hw s hs) with h | h
 ·refine Bool.or_eq_true_iff.2 (.inl ?_)
  by_cases e : j = s
  ·rw [e] at hj ⊢
   simp [hj]
  ·rw [getD_set_ne false e]
   exact h
 ·exact Bool.or_eq_true_iff.2 (.inr h)
theorem ready_lt {l : Array Bool} {j : Nat} (h : j ∈ Region.ready md ops l) : j < l.size := by
 have h0 := (mem_ready.1 h).1
 rcases Nat.lt_or_ge j l.size with h' | h'
 ·exact h'
 ·simp [Array.getElem?_eq_none h'] at h0
theorem not_lastG {l : Array Bool} {i s : Nat} (hg : GoodL md ops l) (hw : waitsBy md ops st l i = true) (hun : l.getD i false = false) (hs : s ∈ st) : s ∉ Region.ready md ops l := by
 intro h
 have hsun := un_of_ready h
 obtain ⟨_, o, ho, hall⟩ := mem_ready.1 h
 have h1 := List.all_eq_true.1 hw s hs
 rw [hsun, Bool.false_or] at h1
 have h2 := reaches_listed hg ops.size s (fun o' ho' e he hb => by rw [ho] at ho'; injection ho' with ho'; subst ho'; exact hall e he hb) h1
 rw [hun] at h2
 cases h2
theorem Tillst.firstG {i : Nat} {oi : Oper} {v : Value} (hi : ops[i]? = some oi) (hsel : ∀ (j : Nat) (o : Oper) cs b, ops[j]? = some o → o.op ≠ .select cs b) (hQ : ∀ c a w, Q (.panic c) (a.put oi.dst v) w → Q (.panic c) a w)
 : ∀ (k : Nat) (l : Array Bool) (a : Act) (w : World), GoodL md ops l → waitsBy md ops st l i = true →
  (∀ j oj, ops[j]? = some oj → j ≠ i → l.getD j true = false → (∀ e ∈ oj.after, Region.binds md e = true → e.on ≠ i) → oi.apart ops oj = true) →
  i ∈ Region.ready md ops l → YieldsIf P ops S oi v a → S w → Tillst P md ops Q S st k (l.setIfInBounds i true) (a.put oi.dst v) w → Tillst P md ops Q S st (k + 1) l a w := by
 intro k
 induction k with
 | zero =>
  intro l a w _ _ _ hr hy hS H
  refine ⟨fun h => (by rw [h] at hr; cases hr), fun j hj => ?_⟩
  by_cases e : j = i
  ·rw [e]
   exact hy.wpOp hi hS ⟨fun _ => hS, H⟩
  ·have := ready_mono hj e
   rw [H.1] at this
   cases this
 | succ k ih =>
  intro l a w hgd hw hfree hr hy hS H
  have hun := un_of_ready hr
  refine ⟨fun h => (by rw [h] at hr; cases hr), fun j hj => ?_⟩
  by_cases e : j = i
  ·rw [e]
   exact hy.wpOp hi hS ⟨fun _ => hS, H⟩
  have hjst : st.contains j = false := by
   rcases h : st.contains j with _ | _
   ·rfl
   ·exact absurd hj (not_lastG hgd hw hun (by simpa using h))
  obtain ⟨hjun, oj, hoj, hall⟩ := mem_ready.1 hj
  have hno : ∀ e ∈ oj.after, Region.binds md e = true → e.on ≠ i := fun e he hb heq => by
   have := hall e he hb
   rw [heq, hun] at this
   cases this
  have hput := wpOp_putIf hoj (hfree j oj hoj e hjun hno) (fun cs b => hsel i oi cs b hi) (fun cs b => hsel j oj cs b hoj) hQ hy (H.2 j (ready_mono hj e))
  refine wpOp_mono (fun b u g => ?_) hput
  have hSu := g.2.1 hjst
  refine ⟨fun _ => hSu, ih (l.setIfInBounds j true) b u (hgd.set hj) (waits_set hw (ready_lt hj)) (fun m om hm hmi hmun hmno => ?_) (ready_mono hr (Ne.symm e)) g.1 hSu ?_⟩
  ·refine hfree m om hm hmi ?_ hmno
   by_cases hjm : j = m
   ·rw [← hjm]; exact hjun
   ·rw [getD_set_ne true hjm] at hmun; exact hmun
  ·rw [Array.setIfInBounds_comm _ _ e]
   exact g.2.2
theorem Tillst.firstF {i : Nat} {oi : Oper} {v : Value} (hi : ops[i]? = some oi) (hsel : ∀ (j : Nat) (o : Oper) cs b, ops[j]? = some o → o.op ≠ .select cs b) (hQ : ∀ c a w, Q (.panic c) (a.put oi.dst v) w → Q (.panic c) a w)
 (hst : st.contains i = true) : ∀ (k : Nat) (l : Array Bool) (a : Act) (w : World),
  (∀ j oj, ops[j]? = some oj → j ≠ i → l.getD j true = false → (∀ e ∈ oj.after, Region.binds md e = true → e.on ≠ i) → oi.apart ops oj = true) →
  i ∈ Region.ready md ops l → YieldsIf P ops (fun _ => True) oi v a → Tillst P md ops Q S st k (l.setIfInBounds i true) (a.put oi.dst v) w → Tillst P md ops Q S st (k + 1) l a w := by
 intro k
 induction k with
 | zero =>
  intro l a w _ hr hy H
  refine ⟨fun h => (by rw [h] at hr; cases hr), fun j hj => ?_⟩
  by_cases e : j = i
  ·rw [e]
   exact hy.wpOp hi trivial ⟨fun h => (by rw [hst] at h; cases h), H⟩
  ·have := ready_mono hj e
   rw [H.1] at this
   cases this
 | succ k ih =>
  intro l a w hfree hr hy H
  have hun := un_of_ready hr
  refine ⟨fun h => (by rw [h] at hr; cases hr), fun j hj => ?_⟩
  by_cases e : j = i
  ·rw [e]
   exact hy.wpOp hi trivial ⟨fun h => (by rw [hst] at h; cases h), H⟩
  obtain ⟨hjun, oj, hoj, hall⟩ := mem_ready.1 hj
  have hno : ∀ e ∈ oj.after, Region.binds md e = true → e.on ≠ i := fun e he hb heq => by
   have := hall e he hb
   rw [heq, hun] at this
   cases this
  have hput := wpOp_putIf hoj (hfree j oj hoj e hjun hno) (fun cs b => hsel i oi cs b hi) (fun cs b => hsel j oj cs b hoj) hQ hy (H.2 j (ready_mono hj e))
  refine wpOp_mono (fun b u g => ?_) hput
  refine ⟨g.2.1, ih (l.setIfInBounds j true) b u (fun m om hm hmi hmun hmno => ?_) (ready_mono hr (Ne.symm e)) g.1 ?_⟩
  ·refine hfree m om hm hmi ?_ hmno
   by_cases hjm : j = m
   ·rw [← hjm]; exact hjun
   ·rw [getD_set_ne true hjm] at hmun; exact hmun
  ·rw [Array.setIfInBounds_comm _ _ e]
   exact g.2.2
theorem Tillst.takeF {i : Nat} {oi : Oper} {v : Value} {k : Nat} {l : Array Bool} {a : Act} {w : World} (hi : ops[i]? = some oi) (hs : Region.noSelect ops = true) (hf : Region.free md ops l i = true) (hr : (Region.ready md ops l).contains i = true)
 (hst : st.contains i = true) (hQ : ∀ c a w, Q (.panic c) (a.put oi.dst v) w → Q (.panic c) a w) (hgd : Region.wanted oi (yielded ops a.tmps) = true) (hy : ∀ w, (execOp a.eval oi).run P w = .ok (.value v) w)
 (h : Tillst P md ops Q S st k (l.setIfInBounds i true) (a.put oi.dst v) w) : Tillst P md ops Q S st (k + 1) l a w :=
 Tillst.firstF hi (Region.noSelect_spec hs) hQ hst k l a w (Region.free_spec hi hf) (by simpa using hr) (.inl ⟨hgd, fun w _ => hy w⟩) h
theorem Tillst.takeG {i : Nat} {oi : Oper} {v : Value} {k : Nat} {l : Array Bool} {a : Act} {w : World} (hi : ops[i]? = some oi) (hs : Region.noSelect ops = true) (hf : Region.free md ops l i = true) (hr : (Region.ready md ops l).contains i = true)
 (hg : goodB md ops l = true) (hw : waitsBy md ops st l i = true) (hQ : ∀ c a w, Q (.panic c) (a.put oi.dst v) w → Q (.panic c) a w) (hgd : Region.wanted oi (yielded ops a.tmps) = true) (hy : ∀ w, S w → (execOp a.eval oi).run P w = .ok (.value v) w) (hS : S w)
 (h : Tillst P md ops Q S st k (l.setIfInBounds i true) (a.put oi.dst v) w) : Tillst P md ops Q S st (k + 1) l a w :=
 Tillst.firstG hi (Region.noSelect_spec hs) hQ k l a w (goodB_spec hg) hw (Region.free_spec hi hf) (by simpa using hr) (.inl ⟨hgd, hy⟩) hS h
end
end
end Go.Proofs.YtknfblfnfoibkaaGreat
