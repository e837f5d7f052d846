/- What a range by place leaves alone; marks. (From stage 8's Check and MarksR, which stand on the shelf's sort.) -/
import Derived.Test.YthegbimolbhikaaInRound
import Derived.RangeFuncKeeps
import Derived.RangeFuncOwn
namespace Go.Proofs.Ythegbimolbhikaa
open Go.RowKit
set_option linter.unusedVariables false
set_option linter.unusedSimpArgs false
theorem blk_own {β : Type} (g : Nat) (t : TypeId) (f : β → Array Value) : Own (fun s W => Blk W g t (f s)) := fun s X Y row hs hg hrow =>
  hs.grown hg (fun e => by obtain ⟨o, ho, hc⟩ := hrow g e.symm; rw [show X.heap[g]? = _ from hs] at ho; cases ho; cases hc)
theorem own_size {β : Type} {B : Nat} (m : Nat) : OwnFrom B (fun (_ : β) W => m ≤ W.heap.size) := fun _ _ _ _ hs hg _ => Nat.le_trans hs hg.size
theorem own_pure {β : Type} {B : Nat} (p : β → Prop) : OwnFrom B (fun (i : β) (_ : World) => p i) := fun _ _ _ _ hs _ _ => hs
theorem keeps_drewN (W : World) (n : Nat) : KeepsOthers W (W.drewN n) := ⟨Nat.le_refl _, fun _ _ h _ => h⟩
theorem kept_drewN (S : Nat → Prop) (W : World) (n : Nat) : Kept S W (W.drewN n) := ⟨rfl, rfl, rfl, Nat.le_refl _, fun _ _ => rfl⟩
theorem ownsRow_grown {w w' : World} {row : Option Nat} {base size n : Nat} {e : TypeId} {v : Value} {xs : List Value} (h : w.ownsRow base e size v n xs) (hg : w.grownBy w' row) (hr : ∀ g, v.ownBlock = some g → row ≠ some g) : w'.ownsRow base e size v n xs := by
  rcases h.2 with h0 | ⟨g, cap, cur, rfl, hb, hh, rest⟩
  · exact ⟨h.1, .inl h0⟩
  · refine ⟨h.1, .inr ⟨g, cap, cur, rfl, hb, ?_, rest⟩⟩
    rw [hg.block g (Array.getElem?_eq_some_iff.1 hh).1 (fun e => hr g rfl e.symm)]
    exact hh
theorem ownsRow_block {w : World} {base size n g : Nat} {e : TypeId} {v : Value} {xs : List Value} (h : w.ownsRow base e size v n xs) (hv : v.ownBlock = some g) : ∃ cur, w.heap[g]? = some (.cells cur e (0, 0)) ∧ base ≤ g := by
  rcases h.2 with ⟨rfl, _⟩ | ⟨g', cap, cur, rfl, hb, hh, rest⟩
  · simp [Value.ownBlock] at hv
  · have : g' = g := by simpa [Value.ownBlock] using hv
    subst this
    exact ⟨cur, hh, hb⟩
theorem ownsRow_slice {w : World} {base size n : Nat} {e : TypeId} {v : Value} {xs : List Value} (h : w.ownsRow base e size v n xs) : ∃ A cap, v = .slice A n cap := by
  rcases h.2 with ⟨rfl, rfl⟩ | ⟨g', cap, cur, rfl, _⟩
  · exact ⟨_, _, rfl⟩
  · exact ⟨_, _, rfl⟩
/-- A variable that holds a row of the call's own. -/
def VarO (g : Nat) (tv e : TypeId) (size base : Nat) (v : Value) (n : Nat) (xs : List Value) (W : World) : Prop := Blk W g tv #[v] ∧ W.ownsRow base e size v n xs
theorem own_varO {β : Type} (g : Nat) (tv e : TypeId) (size base : Nat) (f : β → Nat) (xs : β → List Value) : Own (fun s W => ∃ v, VarO g tv e size base v (f s) (xs s) W) := fun s X Y row ⟨v, hb, ho⟩ hg hrow =>
  ⟨v, blk_own g tv (fun _ : Unit => #[v]) () X Y row hb hg hrow, ownsRow_grown ho hg (fun k hk e => by
    obtain ⟨cur, hc, _⟩ := ownsRow_block ho hk
    obtain ⟨o, h1, h2⟩ := hrow k e
    rw [hc] at h1
    cases h1
    cases h2)⟩
/-- What is laid behind a row of one's own leaves a block of another type. -/
theorem blk_past {w w' : World} {base size n g : Nat} {e t : TypeId} {v : Value} {xs : List Value} {cs : Array Value} (hb : Blk w g t cs) (ho : w.ownsRow base e size v n xs) (hne : t ≠ e) (hg : w.grownBy w' v.ownBlock) : Blk w' g t cs :=
  hb.grown hg (fun h => by
    obtain ⟨cur, hc, _⟩ := ownsRow_block ho h.symm
    rw [show w.heap[g]? = _ from hb] at hc
    cases hc
    exact hne rfl)
theorem grown_drewalloc (w : World) (o : Obj) : w.grownBy (w.drew.alloc o) none :=
  ⟨rfl, rfl, rfl, by rw [World.size_alloc]; exact Nat.le_succ _, fun k hk _ => ((Below.refl w.heap.size w).drew.alloc (Nat.le_refl _) o).block k hk⟩
theorem own_past {w : World} {base size n g : Nat} {e t : TypeId} {v : Value} {xs : List Value} {cs : Array Value} (ho : w.ownsRow base e size v n xs) (hb : Blk w g t cs) (hne : t ≠ e) (i : Nat) (u : Value) : (w.setCell ⟨g, i, none⟩ u).ownsRow base e size v n xs := by
  rcases ho.2 with h0 | ⟨g', cap, cur, rfl, hbs, hh, rest⟩
  · exact ⟨ho.1, .inl h0⟩
  · refine ⟨ho.1, .inr ⟨g', cap, cur, rfl, hbs, ?_, rest⟩⟩
    have : g' ≠ g := by
      rintro rfl
      rw [show w.heap[g']? = _ from hb] at hh
      cases hh
      exact hne rfl
    rw [Below.heap_setCell _ _ _ g' this]
    exact hh
theorem keeps_append {w w' : World} {base size n : Nat} {e : TypeId} {v : Value} {xs : List Value} (ho : w.ownsRow base e size v n xs) (hg : w.grownBy w' v.ownBlock) : KeepsOthers w w' :=
  ⟨hg.size, fun k o hk hc => (hg.block k (Array.getElem?_eq_some_iff.1 hk).1 (fun h => by
    obtain ⟨cur, hh, _⟩ := ownsRow_block ho h.symm
    rw [hk] at hh
    cases hh
    cases hc)).trans hk⟩
theorem below_append {a w w' : World} {B base size n : Nat} {e : TypeId} {v : Value} {xs : List Value} (hb : Below B a w) (ho : w.ownsRow base e size v n xs) (hB : B ≤ base) (hBw : B ≤ w.heap.size) (hg : w.grownBy w' v.ownBlock) : Below B a w' :=
  hb.grown hg hBw (fun k hk => by obtain ⟨_, _, h⟩ := ownsRow_block ho hk; omega)
def markR (D : Nat) : Deferred := { target := .collected D, args := #[] }
def MarksR (m : Nat) (Ds : List Nat) (W : World) : Prop := Ds.Nodup ∧ ∀ D, D ∈ Ds → m ≤ D ∧ D < W.heap.size ∧ W.heap[D]? = some (.deferred (some []))
theorem MarksR.nil (m : Nat) (W : World) : MarksR m [] W := ⟨List.nodup_nil, fun D h => by cases h⟩
theorem MarksR.below {m : Nat} {Ds : List Nat} {W W' : World} (h : MarksR m Ds W) (hb : Below W.heap.size W W') : MarksR m Ds W' :=
  ⟨h.1, fun D hD => by obtain ⟨h1, h2, h3⟩ := h.2 D hD; exact ⟨h1, Nat.lt_of_lt_of_le h2 hb.size, by rw [hb.block D h2]; exact h3⟩⟩
theorem MarksR.cons {m D : Nat} {Ds : List Nat} {W W' : World} (h : MarksR m Ds W) (hb : Below W.heap.size W W') (hD : W.heap.size ≤ D) (hm : m ≤ D) (hk : W'.heap[D]? = some (.deferred (some []))) : MarksR m (D :: Ds) W' := by
  have h2 := h.below hb
  refine ⟨List.nodup_cons.2 ⟨fun hin => ?_, h.1⟩, fun D' hD' => ?_⟩
  · have := (h.2 D hin).2.1
    omega
  · rcases List.mem_cons.1 hD' with rfl | h3
    · exact ⟨hm, (Array.getElem?_eq_some_iff.1 hk).1, hk⟩
    · exact h2.2 D' h3
theorem leaves_marks {F : Fence} {n : Nat} {P : Program} {fn : Func} {tmps : Array Value} {R : Ending → World → Prop} {w : World} : ∀ (Ds : List Nat) (W : World), MarksR w.heap.size Ds W →
    (∀ W', Below w.heap.size W W' → LeavesIn F n P fn tmps R [] .returning W') → LeavesInM F n P fn tmps R (Ds.map markR) .returning W
  | [], W, _, h => h W (Below.refl _ _)
  | D :: Ds, W, hm, h => by
    obtain ⟨h1, h2, h3⟩ := hm.2 D (List.mem_cons_self ..)
    have hb := belowK_b (w := w) (Nat.le_refl _) W D _ (.deferred none) h1 h3 rfl rfl
    refine ⟨by simp, .inl ⟨D, W.putObj D (.deferred none), rfl, run_takeDeferred h3, leaves_marks Ds _ ⟨(List.nodup_cons.1 hm.1).2, fun D' hD' => ?_⟩ (fun W' hW' => h W' (hb.trans hW'))⟩⟩
    obtain ⟨k1, k2, k3⟩ := hm.2 D' (List.mem_cons_of_mem _ hD')
    have hne : D' ≠ D := fun e => (List.nodup_cons.1 hm.1).1 (by rw [← e]; exact hD')
    exact ⟨k1, Nat.lt_of_lt_of_le k2 hb.size, by rw [World.putObj_heap_other hne]; exact k3⟩
end Go.Proofs.Ythegbimolbhikaa
