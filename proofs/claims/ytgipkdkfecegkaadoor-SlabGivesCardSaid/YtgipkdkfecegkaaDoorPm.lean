/- Slices of pages: rows of 2 cells; made, laid, loaded, stored, appended. (Turned out of stage 10's PgMem by names and numbers.) -/
import Derived.Test.YtgipkdkfecegkaaDoorS8Segs
import Derived.Test.YtgipkdkfecegkaaDoorPg
import Derived.Great.BuildSlice
import Derived.Laws.CopyRow
import Derived.Laws.CopyOwn
import Derived.OwnWalk
import Derived.Lib.Hide
namespace Go.Proofs.YtgipkdkfecegkaaDoor.PgM
open Go.Proofs.YtgipkdkfecegkaaDoor
open Go.RowKit
set_option linter.unusedVariables false
set_option linter.unusedSimpArgs false

abbrev pgC (e : Pg) : List Value := [.int .i64 (e.1 : Nat), .int .u32 (e.2 : Nat)]
theorem ones_ent (s : Pg) : ∀ v ∈ pgC s, v.oneCell' = true := by
  intro v hv
  simp [pgC] at hv
  rcases hv with rfl | rfl <;> rfl
abbrev RowP := RowQ pgC 2 pg0
def flatG (L : List Pg) : List Value := L.flatMap pgC
theorem flatG_append (L M : List Pg) : flatG (L ++ M) = flatG L ++ flatG M := by simp [flatG]
theorem flatG_one (s : Pg) : flatG [s] = pgC s := by simp [flatG]
theorem flatG_length (L : List Pg) : (flatG L).length = L.length * 2 := by
  induction L with
  | nil => rfl
  | cons x r ih =>
    simp only [flatG, List.flatMap_cons, List.length_append, List.length_cons] at *
    rw [ih]
    simp only [pgC, List.length_cons, List.length_nil]
    omega
theorem flatG_get : ∀ (L : List Pg) (t : Nat), t < L.length * 2 → (flatG L)[t]? = (pgC (L.getD (t / 2) pg0))[t % 2]?
  | [], t, h => by simp at h
  | y :: L, t, h => by
    unfold flatG
    rw [List.flatMap_cons]
    by_cases h4 : t < 2
    · rw [List.getElem?_append_left (by simpa using h4)]
      rw [show t / 2 = 0 by omega, show t % 2 = t by omega]
      rfl
    · have e : t - (pgC y).length = t - 2 := by simp
      rw [List.getElem?_append_right (by simp; omega), e]
      have ih := flatG_get L (t - 2) (by simp at h; omega)
      unfold flatG at ih
      rw [ih, show t / 2 = (t - 2) / 2 + 1 by omega, show t % 2 = (t - 2) % 2 by omega]
      rfl
theorem flatG_ones (L : List Pg) : ∀ v ∈ flatG L, v.oneCell' = true := by
  intro v hv
  obtain ⟨s, _, h⟩ := List.mem_flatMap.1 hv
  exact ones_ent s v h
theorem flatG_set (L : List Pg) (i : Nat) (s : Pg) (h : i < L.length) : flatG (L.set i s) = (flatG L).take (i * 2) ++ pgC s ++ (flatG L).drop (i * 2 + 2) := by
  have e : L.set i s = L.take i ++ [s] ++ L.drop (i + 1) := by
    rw [List.set_eq_take_append_cons_drop, if_pos h]; simp
  have e2 : L = L.take i ++ [L.getD i pg0] ++ L.drop (i + 1) := by
    simp only [List.getD, List.getElem?_eq_getElem h, Option.getD_some]
    rw [List.append_assoc, List.singleton_append, ← List.drop_eq_getElem_cons h, List.take_append_drop]
  have hl : (flatG (L.take i)).length = i * 2 := by rw [flatG_length, List.length_take]; omega
  have h1 : (flatG L).take (i * 2) = flatG (L.take i) := by
    conv => lhs; rw [e2]
    rw [flatG_append, flatG_append, List.append_assoc, List.take_append_of_le_length (by omega), ← hl, List.take_length]
  have h2 : (flatG L).drop (i * 2 + 2) = flatG (L.drop (i + 1)) := by
    conv => lhs; rw [e2]
    rw [flatG_append, List.drop_append_of_le_length (by rw [flatG_append, List.length_append, hl, flatG_one]; simp)]
    rw [List.drop_eq_nil_of_le (by rw [flatG_append, List.length_append, hl, flatG_one]; simp)]
    simp
  rw [h1, h2, e, flatG_append, flatG_append, flatG_one]

/-- A block that is just a list of segments. -/
def ArrS (w : World) (g : Nat) (L : List Pg) : Prop := Blk w g 60 (flatG L).toArray
theorem row_of_flat {w : World} {g : Nat} {t : TypeId} {L : List Pg} {X : List Value} (h : Blk w g t (flatG L ++ X).toArray) {S : Nat → Prop} (hS : S g) {n : Nat} (hn : L.length = n) : RowP w S (some ⟨g, 0, none⟩) n L :=
  ⟨hn, fun _ => ⟨g, 0, rfl, hS, fun i hi j v hv => by
    have hj : j < 2 := by have := (List.getElem?_eq_some_iff.1 hv).1; simpa using this
    show w.cell? ⟨g, 0 + i * 2 + j, none⟩ = some v
    rw [h.cell, Nat.zero_add]
    have hlt : i * 2 + j < (flatG L).length := by rw [flatG_length]; omega
    rw [List.getElem?_toArray, List.getElem?_append_left hlt, flatG_get L _ (by rw [flatG_length] at hlt; exact hlt), show (i * 2 + j) / 2 = i by omega, show (i * 2 + j) % 2 = j by omega]
    exact hv⟩⟩
theorem ArrS.row {w : World} {g : Nat} {L : List Pg} (h : ArrS w g L) {S : Nat → Prop} (hS : S g) {n : Nat} (hn : L.length = n) : RowP w S (some ⟨g, 0, none⟩) n L :=
  row_of_flat (X := []) (by simpa [ArrS] using h) hS hn
/-- A row reads as its cells. -/
theorem RowP_src {w : World} {S : Nat → Prop} {A : Option Addr} {n : Nat} {xs : List Pg} (h : RowP w S A n xs) (hn : 0 < n) :
    ∃ ad, A = some ad ∧ ∀ j v, (flatG xs)[j]? = some v → w.cell? (ad.add j) = some v := by
  obtain ⟨b, off, e, _, hc⟩ := h.2 hn
  refine ⟨_, e, fun j v hv => ?_⟩
  have hj : j < xs.length * 2 := by have := (List.getElem?_eq_some_iff.1 hv).1; rwa [flatG_length] at this
  rw [flatG_get xs j hj] at hv
  have h1 := hc (j / 2) (by have := h.1; omega) (j % 2) v hv
  rw [add_plain, show off + j = off + j / 2 * 2 + j % 2 by omega]
  exact h1
theorem RowP_take {w : World} {S : Nat → Prop} {A : Option Addr} {n : Nat} {xs : List Pg} (h : RowP w S A n xs) (k : Nat) (hk : k ≤ n) : RowP w S A k (xs.take k) := by
  have hl := h.1
  refine ⟨by simp; omega, fun h0 => ?_⟩
  obtain ⟨b, off, e, hb, hc⟩ := h.2 (by omega)
  refine ⟨b, off, e, hb, fun i hi => ?_⟩
  have e1 : (xs.take k).getD i pg0 = xs.getD i pg0 := by simp [List.getD, List.getElem?_take, hi]
  rw [e1]
  exact hc i (by omega)
theorem info_seg : (Tryd.prog.info? 60).map (fun i => (i.zero, i.size, i.bytes)) = some (some (.agg (pgC pg0).toArray), 2, 16) := by kernel_rfl
theorem made_segs (k : Nat) : madeCells (pgC pg0).toArray (k * 2) = (flatG (List.replicate k pg0)).toArray := by
  apply Array.ext
  · simp [size_madeCells, flatG_length]
  · intro i h1 h2
    have hi : i < k * 2 := by simpa [size_madeCells] using h1
    have hq : i / 2 < k := by omega
    have e2 := flatG_get (List.replicate k pg0) i (by simpa using hi)
    have e3 : (List.replicate k pg0).getD (i / 2) pg0 = pg0 := by simp [List.getD, List.getElem?_replicate, hq]
    rw [e3, ← List.getElem?_toArray, Array.getElem?_eq_getElem h2] at e2
    have hm : i % 2 < 2 := Nat.mod_lt _ (by omega)
    have e4 : (pgC pg0).toArray[i % 2]! = (pgC pg0)[i % 2]'(by simpa using hm) := by
      rw [getElem!_def, List.getElem?_toArray, List.getElem?_eq_getElem (by simpa using hm)]
    rw [List.getElem?_eq_getElem (by simpa using hm)] at e2
    injection e2 with e2
    rw [e2]
    simp only [madeCells, Array.getElem_map, Array.getElem_range]
    exact e4
theorem run_make_segs (l c : Nat) (hlc : l ≤ c) (hc : c ≤ 1000000) (w : World) : (Instr.makeSlice 55 (.int .i64 l) (.int .i64 c)).run Tryd.prog w = .ok (.slice (some ⟨w.heap.size, 0, none⟩) l c) (w.alloc (.cells (flatG (List.replicate c pg0)).toArray 60)) := by
  obtain ⟨i0, hi, hz0, hz1, hz2⟩ := info_parts info_seg
  have hr := run_make (P := Tryd.prog) w 55 60 i0 (.agg (pgC pg0).toArray) Tryd.underlying55 hi hz0 .i64 .i64 l c (by omega) (by omega) (by rw [hz2]; omega) (by omega)
  simp only [Int.toNat_natCast, hz1, Value.cells] at hr
  rw [made_segs] at hr
  exact hr
theorem run_copy_segs (w : World) (ty : TypeId) (g dCap : Nat) (a : Addr) (n sCap : Nat) (cur : List Value) (cs : List Value)
    (hg : Blk w g 60 cur.toArray) (hn : cs.length = n * 2) (hsrc : ∀ j v, cs[j]? = some v → w.cell? (a.add j) = some v) (hfit : cs.length = cur.length) (h1 : ∀ v ∈ cs, v.oneCell' = true) :
    (Builtin.copy_ #[55, 55] ty #[.slice (some ⟨g, 0, none⟩) n dCap, .slice (some a) n sCap]).run Tryd.prog w = .ok (goInt n) (w.setRow g cs.toArray) := by
  have hl := run_loadCells_list (P := Tryd.prog) w a cs hsrc
  have hst := run_storeCells_at Tryd.prog g 0 60 cs 0 cur.toArray w hg (by simp [hfit]) h1
  have e : (List.take (0 + 0) cur.toArray.toList ++ cs ++ List.drop (0 + 0 + cs.length) cur.toArray.toList).toArray = cs.toArray := by simp [hfit]
  rw [e] at hst
  obtain ⟨i0, hi, hz0, hz1, hz2⟩ := info_parts info_seg
  simp [Builtin.copy_, run_underlying (Tryd.underlying55), Builtin.lenOf, Builtin.firstCells, sizeOf, typeInfo, hi, hz1, ← hn, hl, hst]

section
variable {w : World} {ops : Array Oper} {rest : List Oper} {o : Oper} {a : Act} {Q : Exit → Act → World → Prop}
theorem wpList_make_segs (l c : Operand) (ho : o.op = .makeSlice 55 l c) (hgd : o.guard = none) (L C : Int) (l0 k : Nat) (hl : a.eval l = .int .i64 L) (hc : a.eval c = .int .i64 C) (hL : L = l0) (hC : C = k) (hlk : l0 ≤ k) (hk : k ≤ 1000000)
    (h : wpList Tryd.prog ops Q rest (a.put o.dst (.slice (some ⟨w.heap.size, 0, none⟩) l0 k)) (w.alloc (.cells (flatG (List.replicate k pg0)).toArray 60))) : wpList Tryd.prog ops Q (o :: rest) a w := by
  refine wpList_plain hgd fun K hK => ?_
  subst hL hC
  have hr := run_make_segs l0 k hlk hk w
  unfold Oper.wp
  simp [execOp, ho, hl, hc, hr, Result.andThen]
  exact hK _ _ h
/-- 'copy(d, s)', d as long as s and whole. -/
theorem wpList_copy_segs (d s : Operand) (ho : o.op = .call { callee := .builtin .copy, args := #[d, s], argTypes := #[55, 55] }) (hgd : o.guard = none) (g dCap n sCap : Nat) (A : Option Addr) (hd : a.eval d = .slice (some ⟨g, 0, none⟩) n dCap) (hs : a.eval s = .slice A n sCap)
    (S : Nat → Prop) (xs ys : List Pg) (hr : RowP w S A n xs) (hg : ArrS w g ys) (hl : ys.length = n) (hpos : 0 < n)
    (h : wpList Tryd.prog ops Q rest (a.put o.dst (goInt n)) (w.setRow g (flatG xs).toArray)) : wpList Tryd.prog ops Q (o :: rest) a w := by
  refine wpList_plain hgd fun K hK => ?_
  obtain ⟨ad, rfl, hsrc⟩ := RowP_src hr hpos
  have hrun := run_copy_segs w o.type g dCap ad n sCap (flatG ys) (flatG xs) hg (by rw [flatG_length, hr.1]) hsrc (by rw [flatG_length, flatG_length, hl, hr.1]) (flatG_ones xs)
  unfold Oper.wp
  simp [execOp, ho, resolve, invoke, builtin, hd, hs, hrun, Result.andThen]
  exact hK _ _ h
/-- 's[i] = x' in a block that is a list of segments. -/
theorem wpList_store_seg (x y : Operand) (ho : o.op = .store 60 x y) (hgd : o.guard = none) (g i : Nat) (s : Pg) (hx : a.eval x = .pointer (some ⟨g, i * 2, none⟩)) (hy : a.eval y = .agg (pgC s).toArray)
    (L : List Pg) (hg : ArrS w g L) (hi : i < L.length) (h : wpList Tryd.prog ops Q rest (a.put o.dst undef) (w.setRow g (flatG (L.set i s)).toArray)) : wpList Tryd.prog ops Q (o :: rest) a w := by
  refine wpList_plain hgd fun K hK => ?_
  have hs := run_storeCells_at Tryd.prog g (i * 2) 60 (pgC s) 0 (flatG L).toArray w hg (by simp [flatG_length]; omega) (ones_ent s)
  have he : (List.take (i * 2 + 0) (flatG L).toArray.toList ++ pgC s ++ List.drop (i * 2 + 0 + (pgC s).length) (flatG L).toArray.toList).toArray = (flatG (L.set i s)).toArray := by
    rw [flatG_set L i s hi]; rfl
  rw [he] at hs
  have hsz : ∀ w, (sizeOf 60).run Tryd.prog w = .ok 2 w := Tryd.sizeOf60
  have hrun : (Instr.storeAt 60 (.pointer (some ⟨g, i * 2, none⟩)) (.agg (pgC s).toArray)).run Tryd.prog w = .ok () (w.setRow g (flatG (L.set i s)).toArray) := by
    simp only [Instr.storeAt, Instr.sureAddr, Sem.run_bind, Sem.run_pure, Result.andThen_ok, storeVar, hsz, Value.cells]
    simpa using hs
  unfold Oper.wp execOp
  simp only [ho, hx, hy, hrun, Sem.run_bind, Result.andThen_ok]
  exact hK _ _ h
end
theorem ArrS.setRow {w : World} {g : Nat} {L : List Pg} (h : ArrS w g L) (M : List Pg) : ArrS (w.setRow g (flatG M).toArray) g M := setRow_heap w g _ _ _ _ h
theorem ArrS.alloc {w : World} {g : Nat} {L : List Pg} (h : ArrS w g L) (o : Obj) : ArrS (w.alloc o) g L := Blk.alloc h o
theorem ArrS.below {w w' : World} {g B : Nat} {L : List Pg} (h : ArrS w g L) (hb : Below B w w') (hg : g < B) : ArrS w' g L := Blk.below h hb hg

set_option maxRecDepth 100000 in
/-- append of segments to a row of the call's own. -/
theorem run_append_rowZ (w : World) (ty : TypeId) (base : Nat) (v : Value) (n : Nat) (P : List Value) (hown : w.ownsRow base 60 2 v n P)
    (S : Nat → Prop) (A : Option Addr) (m c : Nat) (ys : List Pg) (hr : RowP w S A m ys) (hnil : A = none → c = 0) (h63 : n + m ≤ 1000000) (hbase : base ≤ w.heap.size) :
    ∃ v' w', (Builtin.append_ #[55, 55] ty #[v, .slice A m c]).run Tryd.prog w = .ok v' w' ∧ w'.ownsRow base 60 2 v' (n + m) (P ++ flatG ys) ∧ w.grownBy w' v.ownBlock ∧ (v'.ownBlock = v.ownBlock ∨ v'.ownBlock = some w.heap.size) := by
  obtain ⟨i0, hi, hz0, hz1, hz2⟩ := info_parts info_seg
  have hl := hr.1
  rcases A with _ | ad
  · have hm : m = 0 := by
      rcases Nat.eq_zero_or_pos m with h0 | h0
      · exact h0
      · obtain ⟨_, _, h1, _⟩ := hr.2 h0
        cases h1
    subst hm
    have hn : ys = [] := List.eq_nil_of_length_eq_zero hl
    subst hn
    rw [hnil rfl]
    exact ⟨v, w, run_append_owned_none (P := Tryd.prog) (w := w) base 55 ty 60 i0 2 Tryd.underlying55 hi v n P hown, by simpa [flatG] using hown, World.grownBy.refl w _, .inl rfl⟩
  · obtain ⟨v', w', h1, h2, h3, _, h4⟩ := run_append_own_at (P := Tryd.prog) w base 55 ty 60 i0 (.agg (pgC pg0).toArray) 2 16 Tryd.underlying55 hi hz0 hz1 hz2 (by simp [Value.cells]) (by omega) v n P hown ad m c (flatG ys) (by rw [flatG_length, hl])
      (fun j u hu => by
        have hm : 0 < m := by
          rcases Nat.eq_zero_or_pos m with h0 | h0
          · have : ys = [] := List.eq_nil_of_length_eq_zero (by omega)
            subst this
            simp [flatG] at hu
          · exact h0
        obtain ⟨ad', e, hc⟩ := RowP_src hr hm
        injection e with e
        subst e
        exact hc j u hu)
      (flatG_ones ys) (by unfold maxLen; omega) (by omega) hbase
    exact ⟨v', w', h1, h2, h3, h4⟩
theorem rowZ_own {w : World} {base : Nat} {v : Value} {n : Nat} {xs : List Pg} {P : List Value} (ho : w.ownsRow base 60 2 v n P) (hP : P = flatG xs) (hn : xs.length = n) :
    ∃ A cap, v = .slice A n cap ∧ n ≤ cap ∧ (A = none → cap = 0) ∧ RowP w (fun b => base ≤ b ∧ b < w.heap.size) A n xs := by
  subst hP
  have hlt := ho.lt
  rcases ho.2 with ⟨rfl, rfl⟩ | ⟨g, cap, cur, rfl, hg, hh, hnc, hc⟩
  · exact ⟨none, 0, rfl, by omega, fun _ => rfl, hn, fun h => absurd h (by omega)⟩
  · refine ⟨_, cap, rfl, hnc, (fun h => by cases h), hn, fun _ => ⟨g, 0, rfl, ⟨hg, (hlt g rfl).2⟩, fun i hi j v hv => ?_⟩⟩
    have hj : j < 2 := by have := (List.getElem?_eq_some_iff.1 hv).1; simpa using this
    have h1 := ho.cells (g := g) rfl (i * 2 + j) v (by rw [flatG_get xs _ (by omega), show (i * 2 + j) / 2 = i by omega, show (i * 2 + j) % 2 = j by omega]; exact hv)
    rw [add_plain] at h1
    rw [Nat.add_assoc]
    exact h1
section
variable {w : World} {ops : Array Oper} {rest : List Oper} {o : Oper} {a : Act} {Q : Exit → Act → World → Prop}
theorem wpList_append_rowZ (s x : Operand) (ho : o.op = .call { callee := .builtin .append, args := #[s, x], argTypes := #[55, 55] }) (hgd : o.guard = none)
    (base : Nat) (v : Value) (n : Nat) (P : List Value) (hs : a.eval s = v) (hown : w.ownsRow base 60 2 v n P)
    (S : Nat → Prop) (A : Option Addr) (m c : Nat) (ys : List Pg) (hx : a.eval x = .slice A m c) (hr : RowP w S A m ys) (hnil : A = none → c = 0) (h63 : n + m ≤ 1000000) (hbase : base ≤ w.heap.size)
    (h : ∀ v' w', w'.ownsRow base 60 2 v' (n + m) (P ++ flatG ys) → w.grownBy w' v.ownBlock → (v'.ownBlock = v.ownBlock ∨ v'.ownBlock = some w.heap.size) → wpList Tryd.prog ops Q rest (a.put o.dst v') w') :
    wpList Tryd.prog ops Q (o :: rest) a w := by
  obtain ⟨v', w', hrun, h2, h3, h4⟩ := run_append_rowZ w o.type base v n P hown S A m c ys hr hnil h63 hbase
  refine wpList_plain hgd fun K hK => ?_
  unfold Oper.wp execOp
  simp only [ho, resolve, invoke, builtin, Sem.run_bind, Sem.run_pure, Result.andThen_ok, List.map_toArray, List.map_cons, List.map_nil, hs, hx, hrun]
  exact hK _ _ (h v' w' h2 h3 h4)
theorem step_append_rowZ {K : Act → World → Prop} {E : Prop} (s x : Operand) (ho : o.op = .call { callee := .builtin .append, args := #[s, x], argTypes := #[55, 55] }) (hgd : o.guard = none)
    (base : Nat) (v : Value) (n : Nat) (P : List Value) (hs : a.eval s = v) (hown : w.ownsRow base 60 2 v n P)
    (S : Nat → Prop) (A : Option Addr) (m c : Nat) (ys : List Pg) (hx : a.eval x = .slice A m c) (hr : RowP w S A m ys) (hnil : A = none → c = 0) (h63 : n + m ≤ 1000000) (hbase : base ≤ w.heap.size)
    (h : ∀ v' w', w'.ownsRow base 60 2 v' (n + m) (P ++ flatG ys) → w.grownBy w' v.ownBlock → (v'.ownBlock = v.ownBlock ∨ v'.ownBlock = some w.heap.size) → K (a.put o.dst v') w') :
    if Region.wanted o (yielded ops a.tmps) = true then Oper.wp Tryd.prog o a w K Q else E := by
  obtain ⟨v', w', hrun, h2, h3, h4⟩ := run_append_rowZ w o.type base v n P hown S A m c ys hr hnil h63 hbase
  have hw : Region.wanted o (yielded ops a.tmps) = true := by simp [Region.wanted, hgd]
  rw [if_pos hw]
  unfold Oper.wp execOp
  simp only [ho, resolve, invoke, builtin, Sem.run_bind, Sem.run_pure, Result.andThen_ok, List.map_toArray, List.map_cons, List.map_nil, hs, hx, hrun]
  exact h v' w' h2 h3 h4
end

end Go.Proofs.YtgipkdkfecegkaaDoor.PgM
