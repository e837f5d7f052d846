/- The map of what is given, beside an arena. -/
import Derived.Test.YtgipkdkfecegkaaDoorApP
import Derived.Maps.OwnSet
import Derived.Maps.OwnOps
import Derived.Maps.RangeWalk
namespace Go.Proofs.YtgipkdkfecegkaaDoor
open Go.RowKit Go.Shelf PgM Go.Maps
set_option linter.unusedVariables false
set_option linter.unusedSimpArgs false
theorem keyed : Keyed Tryd.prog 3 := int_keyed Tryd.underlying3
noncomputable abbrev elemB : Value → Option (DataW Unit × List MemPlace) := plainElem Tryd.prog 4
theorem zero_bool (w : World) : (zeroValue 4).run Tryd.prog w = .ok (.bool false) w := by kernel_rfl
theorem plain_bool_inv {v : Value} {z : DataW Unit × List MemPlace} (h : elemB v = some z) : ∃ x, v = .bool x ∧ z = (.lit (.bool x), []) := by
  unfold elemB plainElem at h
  rw [Tryd.underlying4] at h
  cases v <;> simp at h
  exact ⟨_, rfl, h.symm⟩
theorem ArM.grown' {w w' : World} {x g : Nat} {ps : List Pg} {row : Option Nat} (h : ArM w x g ps) (hg : w.grownBy w' row) (hx : some x ≠ row) (hgg : some g ≠ row) (h0 : some 0 ≠ row) : ArM w' x g ps := by
  obtain ⟨⟨cap, X, h1, h2⟩, h3, h4, h5, h6, h7⟩ := h
  exact ⟨⟨cap, X, h1.grown hg hx, h2.grown hg hgg⟩, h3, h4, h5, h6.keep hg.size (fun p hp => World.cell?_of_block (hg.block p.block (by rw [hp]; exact h6.1) (by rw [hp]; exact h0))), h7⟩
/-- A map's block is no block of cells. -/
theorem map_ne {w : World} {b n g : Nat} {D : DataW Unit} {t : TypeId} {cs : Array Value} (h : w.ownsMap Tryd.prog 3 elemB b n D) (hb : Blk w g t cs) : g ≠ b := by
  rintro rfl
  obtain ⟨es, clock, hm, _⟩ := h
  rw [show w.heap[g]? = _ from hb] at hm
  cases hm
theorem iter_ne {w : World} {b r n g cnt : Nat} {D : DataW Unit} {left : Lit → Bool} {t : TypeId} {cs : Array Value} (h : w.ranges Tryd.prog 3 elemB b r n D left cnt) (hb : Blk w g t cs) : g ≠ r := by
  rintro rfl
  obtain ⟨es, clock, since, seen, c0, _, _, _, _, hm, _⟩ := h
  rw [show w.heap[g]? = _ from hb] at hm
  cases hm
theorem ArM.blks {w : World} {x g : Nat} {ps : List Pg} (h : ArM w x g ps) : (∃ cs, Blk w x 57 cs) ∧ ∃ cs, Blk w g 60 cs := by
  obtain ⟨⟨cap, X, h1, h2⟩, _⟩ := h
  exact ⟨⟨_, h1⟩, _, h2⟩
/-- The map holds just what is given. -/
structure ApI (D : DataW Unit) (ps : List Pg) : Prop where
  m : IsMap D
  key : ∀ kl, has D kl = true → ∃ c : Int, kl = .int .i64 c
  iff : ∀ c : Int, has D (.int .i64 c) = true ↔ findE ps c = 0
theorem find_none (n : Nat) (c : Int) : findE (List.replicate n pg0) c ≠ 0 := fun h => by
  obtain ⟨a, p, _, hp, ha, hb, _⟩ := find_ok h
  have : (List.replicate n pg0).getD a pg0 = pg0 := by
    have ha' : a < n := by simpa using ha
    simp [List.getD, List.getElem?_replicate, ha']
  rw [this] at hb
  simp at hb
theorem ApI.start (n : Nat) : ApI (.map []) (List.replicate n pg0) :=
  ⟨isMap_empty, fun kl h => by simp [Maps.has] at h, fun c => ⟨fun h => by simp [Maps.has] at h, fun h => absurd h (find_none n c)⟩⟩
theorem ApI.stay {D : DataW Unit} {ps : List Pg} {n : Int} (h : ApI D ps) (he : giveE ps n ≠ 0) : ApI D (giveX ps n) := by rw [giveX_no he]; exact h
theorem isKey_int {c : Int} (h : (Lit.int .i64 c).wf = true) : WideAt.IsKeyLit (.int .i64 c) := by unfold WideAt.IsKeyLit; trivial
theorem give_iff {ps : List Pg} (hi : InvP ps) {n : Int} {a : Nat} (h : Given ps n a) (c : Int) : findE (giveX ps n) c = 0 ↔ c = (giveN ps n : Nat) ∨ findE ps c = 0 := by
  constructor
  · intro hc
    by_cases e : c = (giveN ps n : Nat)
    · exact .inl e
    refine .inr ?_
    rw [h.x] at hc
    rw [h.num] at e
    obtain ⟨b, q, rfl, hq, hb, hb2, _⟩ := find_ok hc
    simp only [List.length_set] at hb
    rw [findE_at _ b q hq hb]
    by_cases e1 : a = b
    · subst e1
      rw [getD_set_self _ hb, or_tb] at hb2
      have : ¬ (fst0 (ps.getD a pg0).2 = q) := fun e2 => e (by rw [e2])
      simp only [this, decide_false, Bool.or_false] at hb2
      rw [hb2]
      rfl
    · rw [getD_set_ne _ e1] at hb2
      rw [hb2]
      rfl
  · rintro (rfl | hc)
    · exact h.new_.1
    · exact (h.keeps hc).1
theorem ApI.put {D : DataW Unit} {ps : List Pg} (hA : ApI D ps) (hi : InvP ps) {n : Int} {a : Nat} (h : Given ps n a) (d : DataW Unit) (hw : (Lit.int .i64 (giveN ps n : Nat)).wf = true) : ApI (D.put (.int .i64 (giveN ps n : Nat)) d) (giveX ps n) := by
  refine ⟨hA.m.put _ _, fun kl hk => ?_, fun c => ?_⟩
  · by_cases e : kl = .int .i64 (giveN ps n : Nat)
    · exact ⟨_, e⟩
    · rw [has_put_other e] at hk
      exact hA.key kl hk
  · rw [give_iff hi h]
    by_cases e : c = (giveN ps n : Nat)
    · subst e
      rw [has_put_same hA.m (isKey_int hw)]
      simp
    · rw [has_put_other (fun e2 => e (by injection e2)), hA.iff c]
      simp [e]
/-- 'm[k]' of a map of bools: what is not there is false. -/
theorem wpList_lookup_no (w : World) {ops : Array Oper} {rest : List Oper} {o : Oper} {a : Act} {Q : Exit → Act → World → Prop}
    (hgd : Region.wanted o (yielded ops a.tmps) = true) (m x : Operand) (hop : o.op = Op.lookup 50 m x false) (b n : Nat) (D : DataW Unit) (hm : a.eval m = .map (some b)) (hown : w.ownsMap Tryd.prog 3 elemB b n D) (c : Int) (hx : a.eval x = .int .i64 c)
    (hw : (Lit.int .i64 c).wf = true) (hno : has D (.int .i64 c) = false) (hK : wpList Tryd.prog ops Q rest (a.put o.dst (.bool false)) w) : wpList Tryd.prog ops Q (o :: rest) a w := by
  refine wpList_step fun K' hK' => ?_
  rw [if_pos hgd]
  obtain ⟨v, ps, hrun, hv⟩ := hown.lookup keyed Tryd.underlying50 (zero_bool w) (plainElem_bool Tryd.underlying4 false) (keyOf_int_mk Tryd.underlying3 hw)
  rw [atKey_of_not_has hno] at hv
  obtain ⟨y, rfl, hy⟩ := plain_bool_inv hv
  cases hy
  unfold Oper.wp
  simp [execOp, hop, hm, hx, hrun, Result.andThen]
  exact hK' _ _ hK
/-- The step of a range over such a map. -/
theorem wpList_next_map (w : World) {ops : Array Oper} {rest : List Oper} {o : Oper} {a : Act} {Q : Exit → Act → World → Prop}
    (hg : o.guard = none) (it : Operand) (hop : o.op = Op.next it false) (b r n : Nat) (D : DataW Unit) (left : Lit → Bool) (cnt : Nat)
    (hit : a.eval it = .pointer (some ⟨r, 0, none⟩)) (h : w.ranges Tryd.prog 3 elemB b r n D left cnt)
    (hDone : (∀ kl, left kl = false) → wpList Tryd.prog ops Q rest (a.put o.dst (.tuple #[.bool false])) w)
    (hMore : ∀ (x : Int) (u : Value) (w' : World) (cnt' : Nat), left (.int .i64 x) = true → w'.ranges Tryd.prog 3 elemB b r n D (fun z => left z && !z.sameKey (.int .i64 x)) cnt' → cnt' < cnt → w.grownBy w' (some r) →
      (Instr.entry (.pointer (some ⟨r, 0, none⟩))).run Tryd.prog w' = .ok (.tuple #[.int .i64 x, u]) w' → wpList Tryd.prog ops Q rest (a.put o.dst (.tuple #[.bool true, .int .i64 x, u])) w') :
    wpList Tryd.prog ops Q (o :: rest) a w :=
  wpList_next_ranges w hg it hop 3 keyed elemB (Value.int .i64) Value.bool (fun key kl hk => by obtain ⟨c, rfl, _⟩ := keyOf_int_inv Tryd.underlying3 hk; exact ⟨c, rfl⟩) (fun u y hu => by obtain ⟨c, rfl, _⟩ := plain_bool_inv hu; exact ⟨c, rfl⟩) b r n D left cnt hit h
    (fun _ hl => hDone hl) (fun x c kl y w' cnt' hkey hlk _ _ hrg hlt hgr _ hen => by
      obtain ⟨x', ex, rfl, _⟩ := keyOf_int_inv Tryd.underlying3 hkey
      cases ex
      exact hMore x (.bool c) w' cnt' hlk hrg hlt hgr hen)
end Go.Proofs.YtgipkdkfecegkaaDoor
