/- What stands while chunks are given and taken beside the document's arena. -/
import Derived.Test.YtgipkdkfecegkaaDoorRfG
import Derived.Test.YtgipkdkfecegkaaDoorCpy
import Derived.Test.YtgipkdkfecegkaaDoorApartW
import Derived.Test.YtgipkdkfecegkaaDoorArgs11
namespace Go.Proofs.YtgipkdkfecegkaaDoor
open Go.RowKit Go.Shelf PgM
set_option linter.unusedVariables false
set_option linter.unusedSimpArgs false
/-- The arena, and the document's in the block q. -/
structure GsJ (w : World) (x g q n : Nat) (ps qs : List Pg) (wr : World) : Prop where
  len : ps.length = n ∧ qs.length = n
  a : ArM wr x g ps
  inv : InvP qs
  bel : Below w.heap.size w wr
  gB : w.heap.size ≤ g ∧ w.heap.size ≤ x ∧ w.heap.size ≤ q ∧ 0 < w.heap.size
  m : ∃ A cap rows, Blk wr q 35 #[.slice A n cap] ∧ RefM wr (fun b => (b ≠ g ∧ b ≠ q) ∧ b < wr.heap.size) A n rows (cellF qs)
theorem GsJ.below {w : World} {x g q n : Nat} {ps qs : List Pg} {wr w' : World} (h : GsJ w x g q n ps qs wr) (hb : Below wr.heap.size wr w') : GsJ w x g q n ps qs w' := by
  obtain ⟨A, cap, rows, h1, h2⟩ := h.m
  exact ⟨h.len, h.a.belowAll hb, h.inv, h.bel.trans (hb.mono h.bel.size), h.gB, A, cap, rows, h1.below hb h1.lt, (h2.below hb (fun b hb => hb.2)).more (fun b hb2 => ⟨hb2.1, Nat.lt_of_lt_of_le hb2.2 hb.size⟩)⟩
theorem GsJ.ne {w : World} {x g q n : Nat} {ps qs : List Pg} {wr : World} (h : GsJ w x g q n ps qs wr) : q ≠ g ∧ q ≠ x ∧ q < wr.heap.size ∧ g < wr.heap.size ∧ x < wr.heap.size := by
  obtain ⟨A, cap, rows, h1, h2⟩ := h.m
  have hlt := h.a.lt
  obtain ⟨⟨cap', X, hx, hg⟩, _⟩ := h.a
  exact ⟨Blk.ne_ h1 hg (by decide), Blk.ne_ h1 hx (by decide), h1.lt, hlt.2, hlt.1⟩
/-- The arena is turned. -/
theorem GsJ.turn {w : World} {x g q n : Nat} {ps qs ps' : List Pg} {wr w' : World} (h : GsJ w x g q n ps qs wr) (hk : Kept (fun b => b < wr.heap.size ∧ b ≠ g) wr w') (ha : ArM w' x g ps') (hl : ps'.length = n) : GsJ w x g q n ps' qs w' := by
  obtain ⟨A, cap, rows, h1, h2⟩ := h.m
  have hne := h.ne
  have hgb := h.gB
  refine ⟨⟨hl, h.len.2⟩, ha, h.inv, h.bel.trans (hk.to_below (B := w.heap.size) (fun b hb => ⟨Nat.lt_of_lt_of_le hb h.bel.size, by omega⟩)), h.gB, A, cap, rows, h1.kept hk ⟨hne.2.2.1, hne.1⟩, ?_⟩
  exact (h2.kept hk (fun b hb => ⟨hb.2, hb.1.1⟩)).more (fun b hb => ⟨hb.1, Nat.lt_of_lt_of_le hb.2 hk.size⟩)
/-- The document's arena is laid anew. -/
theorem GsJ.store {w : World} {x g q n : Nat} {ps qs qs' : List Pg} {wr : World} {A' : Option Addr} {rows' : List Nat} (h : GsJ w x g q n ps qs wr) (hm : RefM wr (fun b => (b ≠ g ∧ b ≠ q) ∧ b < wr.heap.size) A' n rows' (cellF qs')) (cap' : Nat) (hl : qs'.length = n) (hi : InvP qs') : GsJ w x g q n ps qs' (wr.setCell ⟨q, 0, none⟩ (.slice A' n cap')) := by
  obtain ⟨A, cap, rows, h1, h2⟩ := h.m
  have hne := h.ne
  have hgb := h.gB
  have hk := (Kept.refl (· ≠ q) wr).setCell (p := ⟨q, 0, none⟩) (fun h => h rfl) (.slice A' n cap')
  refine ⟨⟨h.len.1, hl⟩, h.a.kept hk (Ne.symm hne.2.1) (Ne.symm hne.1) (by show (0 : Nat) ≠ q; omega), hi, h.bel.setCell (p := ⟨q, 0, none⟩) (by simp only []; omega) _, h.gB, A', cap', rows', h1.set_ 0 _, ?_⟩
  exact (hm.kept hk (fun b hb => hb.1.2)).more (fun b hb => ⟨hb.1, by simpa using hb.2⟩)
/-- A new one, where it lies. -/
theorem GsJ.fresh {w : World} {x g q n : Nat} {ps qs qs' : List Pg} {wr w' : World} {A' : Option Addr} {rows' : List Nat} (h : GsJ w x g q n ps qs wr) (hs : wr.heap.size ≤ w'.heap.size) (hm : RefM w' (fun b => ((b ≠ g ∧ b ≠ q) ∧ b < wr.heap.size) ∨ (wr.heap.size ≤ b ∧ b < w'.heap.size)) A' n rows' (cellF qs')) : RefM w' (fun b => (b ≠ g ∧ b ≠ q) ∧ b < w'.heap.size) A' n rows' (cellF qs') := by
  have hne := h.ne
  refine hm.more (fun b hb => ?_)
  rcases hb with hb | hb
  · exact ⟨hb.1, by omega⟩
  · exact ⟨⟨by omega, by omega⟩, hb.2⟩
theorem take_inv {ps : List Pg} (hi : InvP ps) (c : Int) : InvP (takeX ps c) ∧ (takeX ps c).length = ps.length := by
  by_cases h : findE ps c = 0
  · obtain ⟨a, p, hc, hp, ha, hb, e1, e2, e3⟩ := find_ok h
    have e4 : takeX ps c = ps.set a (clrP (ps.getD a pg0) p) := by unfold takeX; rw [if_pos h, e1, e2]
    rw [e4]
    exact ⟨hi.set ((hi.get a).clr hp hb), by simp⟩
  · rw [take_no h]; exact ⟨hi, rfl⟩
theorem used_neg (ps : List Pg) : ((ps.filter (hasZ (-1))).map (fun p => pop p.2)).sum = 0 ∧ (ps.filter (hasZ (-1))).length = 0 := by
  have e : ps.filter (hasZ (-1)) = [] := by
    rw [List.filter_eq_nil_iff]
    intro p hp
    unfold hasZ
    simp
    try omega
  rw [e]
  exact ⟨rfl, rfl⟩
theorem free_new (n : Nat) : freeP (List.replicate n pg0) = n := by
  unfold freeP
  rw [List.filter_eq_self.2 (fun p hp => by rw [List.eq_of_mem_replicate hp]; rfl), List.length_replicate]
theorem cell_new (n i k : Nat) : cellF (List.replicate n pg0) i k = 0 := by
  unfold cellF cellP
  have : (List.replicate n pg0).getD i pg0 = pg0 := by
    simp only [List.getD, List.getElem?_replicate]
    by_cases h : i < n <;> simp [h]
  rw [this]
  simp
end Go.Proofs.YtgipkdkfecegkaaDoor
