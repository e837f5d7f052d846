/- Set, told by one answer, on a disk that is whole and has nothing pending; and what may be read back behind it. -/
import Derived.Test.YtkmbbfdjdmkjpaaGood
import Derived.Test.YtkmbbfdjdmkjpaaArgsSups
namespace Go.Proofs.Ytkmbbfdjdmkjpaa
open Go.RowKit
set_option linter.unusedVariables false

def Sup.May (s : Sup) : Prop := MayS s.a s.b s.g s.r
def Sup.Back (o s : Sup) : Prop := BackS o.g o.r o.v o.f s.g s.r s.v s.f
def Sup.L (s : Sup) (t : Int) : List Int := supL s.a s.b s.g s.r s.v s.f t
instance (s : Sup) : Decidable s.May := by unfold Sup.May; infer_instance
instance (o s : Sup) : Decidable (o.Back s) := by unfold Sup.Back; infer_instance
/-- Set's answer, where s is known. -/
def setE (o s : Sup) : Int := if ¬ s.May ∨ s.a ≠ o.a ∨ s.b ≠ o.b then 2 else if o.Back s then 171 else 0

/-- What is known, at which turn, on which disk; the sector of that turn says it. -/
def Holds (s : Sup) (t : Int) (n : Nat) (k : Dk) : Prop :=
  Tidy k ∧ k.held.length = n ∧ k.held.getD (t % 2).toNat [] = s.L t

theorem Holds.read {s : Sup} {t : Int} {n : Nat} {k : Dk} (h : Holds s t n k) : Holds s t n k.rd := by
  have e := h.1.1.rd
  refine ⟨⟨h.1.1.read, ?_⟩, ?_, ?_⟩
  · rw [e]; exact h.1.2
  · rw [e]; exact h.2.1
  · rw [e]; exact h.2.2
theorem Holds.rdv {s : Sup} {t : Int} {n : Nat} {k : Dk} (h : Holds s t n k) : k.rdv (t % 2).toNat = s.L t := by
  rw [h.1.1.rdv, h.2.2]
theorem Holds.set {s x : Sup} {t : Int} {n : Nat} {k : Dk} (h : Holds s t n k) (hn : 2 ≤ n) : Holds x (nxt t) n ((k.wr (Dk.put (secOf t) (x.L (nxt t)))).wr Dk.sync) := by
  have hg := h.1.1.put (secOf t) (x.L (nxt t))
  have hl := secOf_lt t
  refine ⟨tidy_set h.1 _ _, ?_, ?_⟩
  · rw [hg.held_sync, h.1.1.held_put, List.length_set, h.2.1]
  · rw [hg.held_sync, h.1.1.held_put]
    show (k.held.set (secOf t) (x.L (nxt t))).getD (secOf t) [] = _
    simp [List.getD, List.getElem?_set, h.2.1, show secOf t < n by omega]

theorem set_no {w : World} {X : Nat → Prop} {p d n : Nat} {o : Sup} {t : Int} {k : Dk} (hs : StoreM w X p d n o.a o.b o.g o.r o.v o.f t k) (hX : ∀ c, X c → c < w.heap.size) (x : Sup) (hin : x.In) (h : setE o x ≠ 0) :
    Calls Try.prog 23 #[.pointer (some ⟨p, 0, none⟩), .agg x.c] w fun e w' => e = .returned (.int .i64 (setE o x)) ∧ StoreM w' X p d n o.a o.b o.g o.r o.v o.f t k ∧ Kept X w w' := by
  obtain ⟨a, b, g, r, v, f⟩ := o
  obtain ⟨a', b', g', r', v', f'⟩ := x
  by_cases hm : MayS a' b' g' r'
  · by_cases ha : a' = a
    · subst ha
      by_cases hb : b' = b
      · subst hb
        have h1 : ¬ (¬ (Sup.mk a' b' g' r' v' f').May ∨ a' ≠ a' ∨ b' ≠ b') := by
          rintro (c | c | c)
          · exact c hm
          · exact c rfl
          · exact c rfl
        by_cases hbk : (Sup.mk a' b' g r v f).Back ⟨a', b', g', r', v', f'⟩
        · have e : setE ⟨a', b', g, r, v, f⟩ ⟨a', b', g', r', v', f'⟩ = 171 := by
            unfold setE
            rw [if_neg h1, if_pos hbk]
          rw [e]
          exact set_back hs hX g' r' v' f' hm hin hbk
        · refine absurd ?_ h
          unfold setE
          rw [if_neg h1, if_neg hbk]
      · have e : setE ⟨a', b, g, r, v, f⟩ ⟨a', b', g', r', v', f'⟩ = 2 := by
          unfold setE
          rw [if_pos (.inr (.inr hb))]
        rw [e]
        exact set_b hs hX b' g' r' v' f' hm hin hb
    · have e : setE ⟨a, b, g, r, v, f⟩ ⟨a', b', g', r', v', f'⟩ = 2 := by
        unfold setE
        rw [if_pos (.inr (.inl ha))]
      rw [e]
      exact set_a hs hX a' b' g' r' v' f' hm hin ha
  · have e : setE ⟨a, b, g, r, v, f⟩ ⟨a', b', g', r', v', f'⟩ = 2 := by
      unfold setE
      rw [if_pos (.inl hm)]
    rw [e]
    exact set_arg hs hX a' b' g' r' v' f' hm
theorem setE_ok {o x : Sup} (h : setE o x = 0) : x.May ∧ x.a = o.a ∧ x.b = o.b ∧ ¬ o.Back x := by
  unfold setE at h
  split at h
  · cases h
  · rename_i h1
    split at h
    · cases h
    · rename_i h2
      exact ⟨Decidable.byContradiction fun c => h1 (.inl c), Decidable.byContradiction fun c => h1 (.inr (.inl c)), Decidable.byContradiction fun c => h1 (.inr (.inr c)), h2⟩
theorem set_yes {w : World} {X : Nat → Prop} {p d n : Nat} {o : Sup} {t : Int} {k : Dk} (hs : StoreM w X p d n o.a o.b o.g o.r o.v o.f t k) (hX : ∀ c, X c → c < w.heap.size) (x : Sup) (hin : x.In) (h : setE o x = 0) (hn : 2 ≤ n) (hk : Tidy k) :
    Calls Try.prog 23 #[.pointer (some ⟨p, 0, none⟩), .agg x.c] w fun e w' => e = .returned (.int .i64 0) ∧ StoreM w' X p d n x.a x.b x.g x.r x.v x.f (nxt t) ((k.wr (Dk.put (secOf t) (x.L (nxt t)))).wr Dk.sync) ∧ Kept X w w' := by
  obtain ⟨hm, ha, hb, hbk⟩ := setE_ok h
  obtain ⟨a, b, g, r, v, f⟩ := o
  obtain ⟨a', b', g', r', v', f'⟩ := x
  simp only [] at ha hb
  subst ha hb
  exact set_tidy hs hX g' r' v' f' hm hin hbk hn hk
/-- Set, told at once: what is known behind it, at which turn, on which disk. -/
theorem set_all {w : World} {X : Nat → Prop} {p d n : Nat} {o : Sup} {t : Int} {k : Dk} (hs : StoreM w X p d n o.a o.b o.g o.r o.v o.f t k) (hX : ∀ c, X c → c < w.heap.size) (x : Sup) (hin : x.In) (hn : 2 ≤ n) (hk : Holds o t n k) :
    Calls Try.prog 23 #[.pointer (some ⟨p, 0, none⟩), .agg x.c] w fun e w' => e = .returned (.int .i64 (setE o x)) ∧ Kept X w w' ∧
      ∃ k', StoreM w' X p d n (if setE o x = 0 then x else o).a (if setE o x = 0 then x else o).b (if setE o x = 0 then x else o).g (if setE o x = 0 then x else o).r (if setE o x = 0 then x else o).v (if setE o x = 0 then x else o).f (if setE o x = 0 then nxt t else t) k' ∧
        Holds (if setE o x = 0 then x else o) (if setE o x = 0 then nxt t else t) n k' := by
  by_cases h : setE o x = 0
  · simp only [if_pos h]
    refine (set_yes hs hX x hin h hn hk.1).mono ?_
    rintro e w' ⟨he, h1, h2⟩
    exact ⟨by rw [h]; exact he, h2, _, h1, hk.set hn⟩
  · simp only [if_neg h]
    refine (set_no hs hX x hin h).mono ?_
    rintro e w' ⟨he, h1, h2⟩
    exact ⟨he, h2, _, h1, hk⟩

theorem StoreM.kept {w w' : World} {X Y Z : Nat → Prop} {p d n : Nat} {a b g r v f t : Int} {k : Dk} (h : StoreM w X p d n a b g r v f t k) (hk : Kept Z w w') (hZ : ∀ b, b < w.heap.size → ¬ X b → Z b) (hY : ∀ b, b < w.heap.size → Y b → X b) : StoreM w' Y p d n a b g r v f t k :=
  ⟨h.1.kept hk (hZ p h.1.lt h.2.2), h.2.1.kept hk (fun b hb hx => hZ b hb (fun c => hx (.inl c))) (fun b hb hy => hy.elim (fun c => .inl (hY b hb c)) .inr), fun c => h.2.2 (hY p h.1.lt c)⟩
/-- A struct is loaded out of the midst of a block. -/
theorem wpList_load_part {ops : Array Oper} {rest : List Oper} {o : Oper} {a : Act} {Q : Exit → Act → World → Prop} {w : World} (x : Operand) (ty : TypeId) (ho : o.op = .load ty x) (hgd : Region.wanted o (yielded ops a.tmps) = true) (b off : Nat) (hx : a.eval x = .pointer (some ⟨b, off, none⟩))
    (cs : List Value) (d : TypeDesc) (hu : Try.prog.underlying ty = some d) (hd : d.isRow = true) (hi : (Try.prog.info? ty).map (·.size) = some cs.length) (hc : w.rangeAt b off cs)
    (h : wpList Try.prog ops Q rest (a.put o.dst (.agg cs.toArray)) w) : wpList Try.prog ops Q (o :: rest) a w := by
  refine wpList_step fun K hK => ?_
  rw [if_pos hgd]
  exact wp_load_mid ty x ho b off hx cs d hc hu hd hi (hK _ _ h)

theorem holds_format (n : Nat) (hn : 2 ≤ n) (a b : Int) : Holds ⟨a, b, 0, 0, 0, 0⟩ 0 n ((((Dk.fresh n).wr (Dk.put 0 (supL a b 0 0 0 0 0))).wr (Dk.put 1 (noughts 64))).wr Dk.sync) := by
  have g0 := Good.fresh n
  have g1 := g0.put 0 (supL a b 0 0 0 0 0)
  have g2 := g1.put 1 (noughts 64)
  have hl : (Dk.fresh n).held.length = n := by simp [Dk.fresh, Dk.held, over, sec0]
  refine ⟨tidy_format n _, ?_, ?_⟩
  · rw [g2.held_sync, g1.held_put, g0.held_put, List.length_set, List.length_set, hl]
  · rw [g2.held_sync, g1.held_put, g0.held_put]
    show ((((Dk.fresh n).held.set 0 _).set 1 _).getD 0 []) = _
    simp [List.getD, List.getElem?_set, hl, show 0 < n by omega, Sup.L]

end Go.Proofs.Ytkmbbfdjdmkjpaa
