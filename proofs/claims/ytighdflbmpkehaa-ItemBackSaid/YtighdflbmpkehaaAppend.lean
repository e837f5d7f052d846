/- append as a law of the walk and of a region that draws its order: the destination a row of the call's own, the source any slice that reads as a list (nil, empty or not). Nothing of the program is spoken of here. -/
import Derived.Test.YtighdflbmpkehaaMem
namespace Go.Proofs.Ytighdflbmpkehaa
open Go.RowKit

theorem Arr.owns {α : Type} {mk : α → Value} {w : World} {g base n c : Nat} {t : TypeId} {xs : List α} (h : Arr mk w g t xs) (hb : base ≤ g) (hn : xs.length = n) (hc : c = n) (hm : n ≤ maxLen) :
    w.ownsRow base t 1 (.slice (some ⟨g, 0, none⟩) n c) n (xs.map mk) := by
  subst hc
  exact ⟨by simp [hn], .inr ⟨g, c, _, rfl, hb, h, Nat.le_refl _, hm, by simp [hn], by simp; rw [List.take_of_length_le (by simp [hn])]⟩⟩

/-- append(own, src...): the source a slice that is nil, empty or not. -/
theorem run_append_rowG {α : Type} {mk : α → Value} {d : α} {P : Program} (w : World) (ty t : TypeId)
    (base : Nat) (e : TypeId) (i : TypeInfo) (z : Value) (bytes : Nat) (ht : P.underlying t = some (.slice e)) (hi : P.info? e = some i) (hz : i.zero = some z)
    (hsize : i.size = 1) (hby : i.bytes = bytes) (hzs : z.cells.size = 1) (hone : ∀ x, (mk x).oneCell' = true)
    (v : Value) (n : Nat) (xs : List Value) (hown : w.ownsRow base e 1 v n xs)
    (S : Nat → Prop) (A : Option Addr) (m c : Nat) (news : List α) (hr : RowG mk d w S A m news) (hnil : A = none → c = 0)
    (h63 : n + m ≤ maxLen) (hbytes : (n + m) * bytes ≤ 140737488355328) (hbase : base ≤ w.heap.size) :
    ∃ v' w', (Builtin.append_ #[t, t] ty #[v, .slice A m c]).run P w = .ok v' w' ∧ w'.ownsRow base e 1 v' (n + m) (xs ++ news.map mk) ∧ w.grownBy w' v.ownBlock ∧
      (v'.ownBlock = v.ownBlock ∨ v'.ownBlock = some w.heap.size) := by
  have hl := hr.1
  rcases A with _ | ad
  · have hm : m = 0 := by
      rcases Nat.eq_zero_or_pos m with h0 | h0
      · exact h0
      · obtain ⟨_, _, h1, _⟩ := hr.2 h0
        cases h1
    subst hm
    have hn : news = [] := List.eq_nil_of_length_eq_zero hl
    subst hn
    rw [hnil rfl]
    exact ⟨v, w, run_append_owned_none (P := P) (w := w) base t ty e i 1 ht hi v n xs hown, by simpa using hown, World.grownBy.refl w _, .inl rfl⟩
  · obtain ⟨v', w', h1, h2, h3, _, h4⟩ := run_append_own_at (P := P) w base t ty e i z 1 bytes ht hi hz hsize hby hzs (by omega) v n xs hown ad m c (news.map mk) (by simp; omega)
      (fun j u hu => by
        have hj : j < m := by
          rcases Nat.lt_or_ge j m with h0 | h0
          · exact h0
          · rw [List.getElem?_eq_none (by simp; omega)] at hu
            cases hu
        obtain ⟨b, off, h1, _, h3⟩ := hr.2 (by omega)
        injection h1 with h1
        subst h1
        rw [add_plain, h3 j hj]
        simp only [List.getElem?_map, List.getElem?_eq_getElem (show j < news.length by omega), Option.map_some] at hu
        simpa [List.getD, List.getElem?_eq_getElem (show j < news.length by omega)] using hu)
      (fun u hu => by
        obtain ⟨q, _, rfl⟩ := List.mem_map.1 hu
        exact hone q) h63 hbytes hbase
    exact ⟨v', w', h1, h2, h3, h4⟩

section
variable {α : Type} {mk : α → Value} {d : α} {P : Program} {w : World} {ops : Array Oper} {rest : List Oper} {o : Oper} {a : Act} {Q : Exit → Act → World → Prop}
theorem wpList_append_rowG (hgd : Region.wanted o (yielded ops a.tmps) = true) (s x : Operand) (t : TypeId)
    (ho : o.op = .call { callee := .builtin .append, args := #[s, x], argTypes := #[t, t] })
    (base : Nat) (e : TypeId) (i : TypeInfo) (z : Value) (bytes : Nat) (ht : P.underlying t = some (.slice e)) (hi : P.info? e = some i) (hz : i.zero = some z)
    (hsize : i.size = 1) (hby : i.bytes = bytes) (hzs : z.cells.size = 1) (hone : ∀ x, (mk x).oneCell' = true)
    (v : Value) (n : Nat) (xs : List Value) (hs : a.eval s = v) (hown : w.ownsRow base e 1 v n xs)
    (S : Nat → Prop) (A : Option Addr) (m c : Nat) (news : List α) (hx : a.eval x = .slice A m c) (hr : RowG mk d w S A m news) (hnil : A = none → c = 0)
    (h63 : n + m ≤ maxLen) (hbytes : (n + m) * bytes ≤ 140737488355328) (hbase : base ≤ w.heap.size)
    (h : ∀ v' w', w'.ownsRow base e 1 v' (n + m) (xs ++ news.map mk) → w.grownBy w' v.ownBlock → (v'.ownBlock = v.ownBlock ∨ v'.ownBlock = some w.heap.size) → wpList P ops Q rest (a.put o.dst v') w') :
    wpList P ops Q (o :: rest) a w := by
  obtain ⟨v', w', hrun, h2, h3, h4⟩ := run_append_rowG (P := P) w o.type t base e i z bytes ht hi hz hsize hby hzs hone v n xs hown S A m c news hr hnil h63 hbytes hbase
  refine wpList_step fun K hK => ?_
  rw [if_pos hgd]
  unfold Oper.wp execOp
  simp only [ho, resolve, invoke, builtin, Sem.run_bind, Sem.run_pure, Result.andThen_ok, List.map_toArray, List.map_cons, List.map_nil, hs, hx, hrun]
  exact hK _ _ (h v' w' h2 h3 h4)

theorem step_append_rowG {K : Act → World → Prop} {E : Prop} (hgd : Region.wanted o (yielded ops a.tmps) = true) (s x : Operand) (t : TypeId)
    (ho : o.op = .call { callee := .builtin .append, args := #[s, x], argTypes := #[t, t] })
    (base : Nat) (e : TypeId) (i : TypeInfo) (z : Value) (bytes : Nat) (ht : P.underlying t = some (.slice e)) (hi : P.info? e = some i) (hz : i.zero = some z)
    (hsize : i.size = 1) (hby : i.bytes = bytes) (hzs : z.cells.size = 1) (hone : ∀ x, (mk x).oneCell' = true)
    (v : Value) (n : Nat) (xs : List Value) (hs : a.eval s = v) (hown : w.ownsRow base e 1 v n xs)
    (S : Nat → Prop) (A : Option Addr) (m c : Nat) (news : List α) (hx : a.eval x = .slice A m c) (hr : RowG mk d w S A m news) (hnil : A = none → c = 0)
    (h63 : n + m ≤ maxLen) (hbytes : (n + m) * bytes ≤ 140737488355328) (hbase : base ≤ w.heap.size)
    (h : ∀ v' w', w'.ownsRow base e 1 v' (n + m) (xs ++ news.map mk) → w.grownBy w' v.ownBlock → (v'.ownBlock = v.ownBlock ∨ v'.ownBlock = some w.heap.size) → K (a.put o.dst v') w') :
    if Region.wanted o (yielded ops a.tmps) = true then Oper.wp P o a w K Q else E := by
  obtain ⟨v', w', hrun, h2, h3, h4⟩ := run_append_rowG (P := P) w o.type t base e i z bytes ht hi hz hsize hby hzs hone v n xs hown S A m c news hr hnil h63 hbytes hbase
  rw [if_pos hgd]
  unfold Oper.wp execOp
  simp only [ho, resolve, invoke, builtin, Sem.run_bind, Sem.run_pure, Result.andThen_ok, List.map_toArray, List.map_cons, List.map_nil, hs, hx, hrun]
  exact h v' w' h2 h3 h4
end

/-- One element that has just been laid. -/
theorem row_new1 {α : Type} (mk : α → Value) (d : α) (w : World) (t : TypeId) (v : α) : RowG mk d (w.alloc (.cells #[mk v] t)) (· = w.heap.size) (some ⟨w.heap.size, 0, none⟩) 1 [v] :=
  ⟨rfl, fun _ => ⟨_, 0, rfl, rfl, fun j hj => by
    obtain rfl : j = 0 := by omega
    exact (Blk.new w t #[mk v]).cell 0⟩⟩

end Go.Proofs.Ytighdflbmpkehaa
