/- Slices of sectors: rows of 64 cells; made, laid, loaded, stored, appended, cut. -/
import Derived.Test.YtkmbbfdjdmkjpaaBlk
import Derived.Great.BuildSlice
import Derived.Laws.CopyRow
import Derived.OwnWalk
namespace Go.Proofs.Ytkmbbfdjdmkjpaa
open Go.RowKit
set_option linter.unusedVariables false

/-- All of these are 64 bytes long. -/
def Secs (xss : List (List Int)) : Prop := ∀ xs ∈ xss, xs.length = 64
theorem Secs.get {xss : List (List Int)} (h : Secs xss) (i : Nat) (hi : i < xss.length) : (xss.getD i []).length = 64 := by
  simp only [List.getD, List.getElem?_eq_getElem hi, Option.getD_some]
  exact h _ (List.getElem_mem hi)
theorem Secs.take {xss : List (List Int)} (h : Secs xss) (k : Nat) : Secs (xss.take k) := fun xs hx => h xs (List.mem_of_mem_take hx)
theorem Secs.drop {xss : List (List Int)} (h : Secs xss) (k : Nat) : Secs (xss.drop k) := fun xs hx => h xs (List.mem_of_mem_drop hx)
theorem Secs.append {xss yss : List (List Int)} (h : Secs xss) (k : Secs yss) : Secs (xss ++ yss) := fun xs hx => by
  rcases List.mem_append.1 hx with h1 | h1
  · exact h xs h1
  · exact k xs h1

theorem map_get {xs : List Int} {j : Nat} {v : Value} (hv : (xs.map (Value.int .u8))[j]? = some v) : j < xs.length ∧ v = .int .u8 (xs.getD j 0) := by
  have hj : j < xs.length := by
    rcases Nat.lt_or_ge j xs.length with h | h
    · exact h
    · rw [List.getElem?_eq_none (by simpa using h)] at hv; cases hv
  refine ⟨hj, ?_⟩
  rw [List.getElem?_map, List.getElem?_eq_getElem hj] at hv
  simp only [Option.map_some, Option.some.injEq] at hv
  rw [← hv]
  simp [List.getD, List.getElem?_eq_getElem hj]
theorem get_map (xs : List Int) (j : Nat) (h : j < xs.length) : (xs.map (Value.int .u8))[j]? = some (.int .u8 (xs.getD j 0)) := by
  rw [List.getElem?_map, List.getElem?_eq_getElem h]
  simp [List.getD, List.getElem?_eq_getElem h]

def flat (xss : List (List Int)) : List Int := xss.flatten
theorem flat_append (xss yss : List (List Int)) : flat (xss ++ yss) = flat xss ++ flat yss := by simp [flat]
theorem flat_one (xs : List Int) : flat [xs] = xs := by simp [flat]
theorem flat_length {xss : List (List Int)} (h : Secs xss) : (flat xss).length = xss.length * 64 := by
  induction xss with
  | nil => rfl
  | cons x r ih =>
    have h1 := h x (List.mem_cons_self ..)
    have h2 := ih (fun y hy => h y (List.mem_cons_of_mem _ hy))
    simp only [flat, List.flatten_cons, List.length_append, List.length_cons] at *
    omega
theorem list_cut {xss : List (List Int)} (i : Nat) (hi : i < xss.length) : xss = xss.take i ++ [xss.getD i []] ++ xss.drop (i + 1) := by
  simp only [List.getD, List.getElem?_eq_getElem hi, Option.getD_some]
  rw [List.append_assoc, List.singleton_append, ← List.drop_eq_getElem_cons hi, List.take_append_drop]
theorem flat_part {xss : List (List Int)} (h : Secs xss) (i : Nat) (hi : i < xss.length) (j : Nat) (hj : j < 64) : (flat xss).getD (i * 64 + j) 0 = (xss.getD i []).getD j 0 := by
  have hc := list_cut i hi
  have hl := flat_length (h.take i)
  have hg := h.get i hi
  rw [List.length_take, Nat.min_eq_left (by omega)] at hl
  conv => lhs; rw [hc]
  rw [flat_append, flat_append, flat_one, List.append_assoc]
  generalize xss.getD i [] = ys at *
  generalize flat (xss.take i) = zs at *
  simp only [List.getD]
  rw [List.getElem?_append_right (by omega), List.getElem?_append_left (by omega), hl, show i * 64 + j - i * 64 = j by omega]

/-- A slice of sectors reads as the list; where there is any, its cells lie in a block of S. -/
def RowK (w : World) (S : Nat → Prop) (A : Option Addr) (n : Nat) (xss : List (List Int)) : Prop :=
  xss.length = n ∧ (0 < n → ∃ b off, A = some ⟨b, off, none⟩ ∧ S b ∧ ∀ i, i < n → w.rangeAt b (off + i * 64) ((xss.getD i []).map (Value.int .u8)))

section
variable {w w' : World} {S T : Nat → Prop} {A : Option Addr} {n : Nat} {xss : List (List Int)}
theorem RowK.nil (w : World) (S : Nat → Prop) (A : Option Addr) : RowK w S A 0 [] := ⟨rfl, fun h => absurd h (by omega)⟩
theorem RowK.keep (h : RowK w S A n xss) (hk : ∀ p : Addr, S p.block → w'.cell? p = w.cell? p) : RowK w' S A n xss :=
  ⟨h.1, fun hn => by
    obtain ⟨b, off, e, hb, hc⟩ := h.2 hn
    exact ⟨b, off, e, hb, fun i hi j v hv => (hk _ hb).trans (hc i hi j v hv)⟩⟩
theorem RowK.more (h : RowK w S A n xss) (hs : ∀ b, S b → T b) : RowK w T A n xss :=
  ⟨h.1, fun hn => by
    obtain ⟨b, off, e, hb, hc⟩ := h.2 hn
    exact ⟨b, off, e, hs b hb, hc⟩⟩
theorem RowK.below {B : Nat} (h : RowK w S A n xss) (hb : Below B w w') (hs : ∀ b, S b → b < B) : RowK w' S A n xss := h.keep fun _ hp => hb.cell (hs _ hp)
theorem RowK.kept (h : RowK w S A n xss) (hb : Kept T w w') (hs : ∀ b, S b → T b) : RowK w' S A n xss := h.keep fun _ hp => hb.cell (hs _ hp)
end

theorem Arr.rowK {w : World} {g : Nat} {t : TypeId} {xss : List (List Int)} (h : Arr (Value.int .u8) w g t (flat xss)) (hs : Secs xss) {n : Nat} (hn : xss.length = n) {S : Nat → Prop} (hS : S g) : RowK w S (some ⟨g, 0, none⟩) n xss :=
  ⟨hn, fun _ => ⟨g, 0, rfl, hS, fun i hi j v hv => by
    obtain ⟨hj, rfl⟩ := map_get hv
    rw [hs.get i (by omega)] at hj
    rw [Nat.zero_add, h.cell (i := i * 64 + j) (by rw [flat_length hs]; omega) 0, flat_part hs i (by omega) j hj]⟩⟩

theorem rowK_own {w : World} {base : Nat} {v : Value} {n : Nat} {xss : List (List Int)} (ho : w.ownsRow base 26 64 v n ((flat xss).map (Value.int .u8))) (hs : Secs xss) :
    ∃ A cap, v = .slice A n cap ∧ n ≤ cap ∧ (A = none → cap = 0) ∧ RowK w (fun b => base ≤ b ∧ b < w.heap.size ∧ v.ownBlock = some b) A n xss := by
  have hl : xss.length = n := by
    have h := ho.1
    rw [List.length_map, flat_length hs] at h
    omega
  have hlt := ho.lt
  rcases ho.2 with ⟨rfl, rfl⟩ | ⟨g, cap, cur, rfl, hg, hh, hnc, hc⟩
  · exact ⟨none, 0, rfl, by omega, fun _ => rfl, hl, fun h => absurd h (by omega)⟩
  · refine ⟨_, cap, rfl, hnc, (fun h => by cases h), hl, fun _ => ⟨g, 0, rfl, ⟨hg, (hlt g rfl).2, by simp [Value.ownBlock]⟩, fun i hi j v hv => ?_⟩⟩
    obtain ⟨hj, rfl⟩ := map_get hv
    rw [hs.get i (by omega)] at hj
    have hf := flat_length hs
    have h1 := ho.cells (g := g) rfl (i * 64 + j) _ (get_map (flat xss) (i * 64 + j) (by omega))
    rw [add_plain, flat_part hs i (by omega) j hj] at h1
    rw [Nat.add_assoc]
    exact h1

/-- The cells of the first m. -/
theorem RowK.src {w : World} {S : Nat → Prop} {A : Option Addr} {n : Nat} {xss : List (List Int)} (h : RowK w S A n xss) (hs : Secs xss) (hn : 0 < n) :
    ∃ ad, A = some ad ∧ ∀ j v, ((flat xss).map (Value.int .u8))[j]? = some v → w.cell? (ad.add j) = some v := by
  obtain ⟨b, off, e, _, hc⟩ := h.2 hn
  have hl := h.1
  have hf := flat_length hs
  refine ⟨_, e, fun j v hv => ?_⟩
  obtain ⟨hj, rfl⟩ := map_get hv
  have hi : j / 64 < n := by omega
  have hg := hs.get (j / 64) (by omega)
  have h1 := hc (j / 64) hi (j % 64) _ (get_map (xss.getD (j / 64) []) (j % 64) (by omega))
  have h2 := flat_part hs (j / 64) (by omega) (j % 64) (by omega)
  rw [show j / 64 * 64 + j % 64 = j by omega] at h2
  rw [add_plain, show off + j = off + j / 64 * 64 + j % 64 by omega, h1, h2]

theorem own_set3 {w : World} {base size n : Nat} {e : TypeId} {v : Value} {xs : List Value} (h : w.ownsRow base e size v n xs) {g : Nat} (hg : v.ownBlock ≠ some g) (u0 u1 u2 : Value) :
    (((w.setCell ⟨g, 0, none⟩ u0).setCell ⟨g, 1, none⟩ u1).setCell ⟨g, 2, none⟩ u2).ownsRow base e size v n xs := by
  have key : ∀ (w : World) (i : Nat) (u : Value), w.ownsRow base e size v n xs → (w.setCell ⟨g, i, none⟩ u).ownsRow base e size v n xs := fun w i u h =>
    h.kept (row := some g) ⟨rfl, rfl, rfl, by simp [World.setCell], fun k _ hne => Below.heap_setCell _ _ _ _ (fun e => hne (by rw [e]))⟩ (.inr hg)
  exact key _ 2 u2 (key _ 1 u1 (key _ 0 u0 h))

section
variable {w : World} {ops : Array Oper} {rest : List Oper} {o : Oper} {a : Act} {Q : Exit → Act → World → Prop}

/-- 'out[i] = x': a sector laid into a row. -/
theorem wpList_store_sec (x y : Operand) (ho : o.op = .store 26 x y) (hgd : o.guard = none) (g off : Nat) (ys : List Int)
    (hx : a.eval x = .pointer (some ⟨g, off, none⟩)) (hy : a.eval y = .agg (cells8 ys)) (t : TypeId) (F : List Int) (hg : Arr (Value.int .u8) w g t F) (hl' : ys.length = 64) (hfit : off + 64 ≤ F.length)
    (h : wpList Try.prog ops Q rest (a.put o.dst undef) (w.setRow g ((F.take off ++ ys ++ F.drop (off + 64)).map (Value.int .u8)).toArray)) : wpList Try.prog ops Q (o :: rest) a w := by
  refine wpList_plain hgd fun K hK => ?_
  have hs := run_storeCells_at Try.prog g off t (ys.map (Value.int .u8)) 0 (F.map (Value.int .u8)).toArray w hg (by simp [hl']; omega) (by intro v hv; obtain ⟨z, _, rfl⟩ := List.mem_map.1 hv; rfl)
  have he : (List.take (off + 0) (F.map (Value.int .u8)).toArray.toList ++ ys.map (Value.int .u8) ++ List.drop (off + 0 + (ys.map (Value.int .u8)).length) (F.map (Value.int .u8)).toArray.toList).toArray = ((F.take off ++ ys ++ F.drop (off + 64)).map (Value.int .u8)).toArray := by
    simp [hl', List.map_take, List.map_drop]
  rw [he] at hs
  have hsz : ∀ w, (sizeOf 26).run Try.prog w = .ok 64 w := Try.sizeOf26
  have hrun : (Instr.storeAt 26 (.pointer (some ⟨g, off, none⟩)) (.agg (cells8 ys))).run Try.prog w = .ok () (w.setRow g ((F.take off ++ ys ++ F.drop (off + 64)).map (Value.int .u8)).toArray) := by
    simp only [Instr.storeAt, Instr.sureAddr, Sem.run_bind, Sem.run_pure, Result.andThen_ok, storeVar, hsz, Value.cells]
    simp only [cells8_size, hl', cells8_list]
    simpa using hs
  unfold Oper.wp execOp
  simp only [ho, hx, hy, hrun, Sem.run_bind, Result.andThen_ok]
  exact hK _ _ h

/-- '[]T{x}' of a sector. -/
theorem wpList_lit_sec (x : Operand) (ho : o.op = .buildSlice 102 1 #[(0, x)]) (hgd : o.guard = none) (ys : List Int) (hx : a.eval x = .agg (cells8 ys)) (hl : ys.length = 64)
    (h : wpList Try.prog ops Q rest (a.put o.dst (.slice (some ⟨w.heap.size, 0, none⟩) 1 1)) (w.alloc (.cells (cells8 ys) 26))) : wpList Try.prog ops Q (o :: rest) a w := by
  obtain ⟨i0, hi, hz0, hz1, hz2⟩ := info_parts info_blk
  refine wpList_buildSlice hgd 102 26 1 #[(0, x)] ho (cells8 ys) i0 (.agg (cells8 (noughts 64))) Try.underlying102 hi hz0 (by rw [hz1]; decide) (by rw [hz1]; decide) ?_ h
  rw [hz1]
  have := Great.fill_whole (s := 64) (by omega) [.agg (cells8 ys)] ((Array.range (1 * 64)).map ((Value.agg (cells8 (noughts 64))).cells[· % (Value.agg (cells8 (noughts 64))).cells.size]!)) (by intro v hv; simp at hv; subst hv; simp [Value.cells, cells8_size, hl]) (by simp)
  have e : (([Value.agg (cells8 ys)] : List Value).zipIdx 0).map (fun x => (x.2, x.1)) = (Array.map (fun (p : Nat × Operand) => (p.1, a.eval p.2)) #[(0, x)]).toList := by simp [hx]
  rw [e] at this
  refine this.trans ?_
  simp [Value.cells]

theorem made_secs (k : Nat) : madeCells (cells8 (noughts 64)) (k * 64) = cells8 (noughts (k * 64)) := by
  apply Array.ext
  · simp [size_madeCells, cells8_size, noughts_length]
  · intro i h1 h2
    have hi : i < k * 64 := by simpa [size_madeCells] using h1
    have e1 := cells8_get (noughts 64) (i % 64) (by rw [noughts_length]; omega)
    have e2 := cells8_get (noughts (k * 64)) i (by rw [noughts_length]; exact hi)
    rw [noughts_get] at e1 e2
    rw [Array.getElem?_eq_getElem h2] at e2
    injection e2 with e2
    rw [e2]
    simp only [madeCells, Array.getElem_map, Array.getElem_range, cells8_size, noughts_length, getElem!_def, e1]

/-- 'make([]T, n)' of sectors. -/
theorem wpList_make_secs (l c : Operand) (ho : o.op = .makeSlice 102 l c) (hgd : o.guard = none) (L C : Int) (k : Nat) (hl : a.eval l = .int .i64 L) (hc : a.eval c = .int .i64 C) (hL : L = k) (hC : C = k) (hk : k ≤ 2199023255552)
    (h : wpList Try.prog ops Q rest (a.put o.dst (.slice (some ⟨w.heap.size, 0, none⟩) k k)) (w.alloc (.cells (cells8 (noughts (k * 64))) 26))) : wpList Try.prog ops Q (o :: rest) a w := by
  obtain ⟨i0, hi, hz0, hz1, hz2⟩ := info_parts info_blk
  refine wpList_plain hgd fun K hK => ?_
  subst hL hC
  have hr := run_make (P := Try.prog) w 102 26 i0 (.agg (cells8 (noughts 64))) Try.underlying102 hi hz0 .i64 .i64 k k (by omega) (by omega) (by rw [hz2]; omega) (by omega)
  simp only [Int.toNat_natCast, hz1, Value.cells, made_secs] at hr
  unfold Oper.wp
  simp [execOp, ho, hl, hc, hr, Result.andThen]
  exact hK _ _ h

set_option maxRecDepth 4000 in
/-- append of sectors to a row of the call's own. -/
theorem run_append_rowK (w : World) (ty : TypeId) (base : Nat) (v : Value) (n : Nat) (xs : List Value) (hown : w.ownsRow base 26 64 v n xs)
    (S : Nat → Prop) (A : Option Addr) (m c : Nat) (yss : List (List Int)) (hr : RowK w S A m yss) (hsec : Secs yss) (hnil : A = none → c = 0)
    (h63 : n + m ≤ maxLen) (hbytes : (n + m) * 64 ≤ 140737488355328) (hbase : base ≤ w.heap.size) :
    ∃ v' w', (Builtin.append_ #[102, 102] ty #[v, .slice A m c]).run Try.prog w = .ok v' w' ∧ w'.ownsRow base 26 64 v' (n + m) (xs ++ (flat yss).map (Value.int .u8)) ∧ w.grownBy w' v.ownBlock ∧
      (v'.ownBlock = v.ownBlock ∨ v'.ownBlock = some w.heap.size) := by
  obtain ⟨i0, hi, hz0, hz1, hz2⟩ := info_parts info_blk
  have hl := hr.1
  rcases A with _ | ad
  · have hm : m = 0 := by
      rcases Nat.eq_zero_or_pos m with h0 | h0
      · exact h0
      · obtain ⟨_, _, h1, _⟩ := hr.2 h0
        cases h1
    subst hm
    have hn : yss = [] := List.eq_nil_of_length_eq_zero hl
    subst hn
    rw [hnil rfl]
    exact ⟨v, w, run_append_owned_none (P := Try.prog) (w := w) base 102 ty 26 i0 64 Try.underlying102 hi v n xs hown, by simpa [flat] using hown, World.grownBy.refl w _, .inl rfl⟩
  · obtain ⟨v', w', h1, h2, h3, _, h4⟩ := run_append_own_at (P := Try.prog) w base 102 ty 26 i0 (.agg (cells8 (noughts 64))) 64 64 Try.underlying102 hi hz0 hz1 hz2 (by simp [Value.cells, cells8_size, noughts_length]) (by omega) v n xs hown ad m c ((flat yss).map (Value.int .u8)) (by rw [List.length_map, flat_length hsec, hl])
      (fun j u hu => by
        have hm : 0 < m := by
          rcases Nat.eq_zero_or_pos m with h0 | h0
          · have : yss = [] := List.eq_nil_of_length_eq_zero (by omega)
            subst this
            simp [flat] at hu
          · exact h0
        obtain ⟨ad', e, hc⟩ := hr.src hsec hm
        injection e with e
        subst e
        exact hc j u hu)
      (fun u hu => by
        obtain ⟨q, _, rfl⟩ := List.mem_map.1 hu
        rfl) h63 hbytes hbase
    exact ⟨v', w', h1, h2, h3, h4⟩

theorem wpList_append_rowK (s x : Operand) (ho : o.op = .call { callee := .builtin .append, args := #[s, x], argTypes := #[102, 102] }) (hgd : o.guard = none)
    (base : Nat) (v : Value) (n : Nat) (xs : List Value) (hs : a.eval s = v) (hown : w.ownsRow base 26 64 v n xs)
    (S : Nat → Prop) (A : Option Addr) (m c : Nat) (yss : List (List Int)) (hx : a.eval x = .slice A m c) (hr : RowK w S A m yss) (hsec : Secs yss) (hnil : A = none → c = 0)
    (h63 : n + m ≤ maxLen) (hbytes : (n + m) * 64 ≤ 140737488355328) (hbase : base ≤ w.heap.size)
    (h : ∀ v' w', w'.ownsRow base 26 64 v' (n + m) (xs ++ (flat yss).map (Value.int .u8)) → w.grownBy w' v.ownBlock → (v'.ownBlock = v.ownBlock ∨ v'.ownBlock = some w.heap.size) → wpList Try.prog ops Q rest (a.put o.dst v') w') :
    wpList Try.prog ops Q (o :: rest) a w := by
  obtain ⟨v', w', hrun, h2, h3, h4⟩ := run_append_rowK w o.type base v n xs hown S A m c yss hr hsec hnil h63 hbytes hbase
  refine wpList_plain hgd fun K hK => ?_
  unfold Oper.wp execOp
  simp only [ho, resolve, invoke, builtin, Sem.run_bind, Sem.run_pure, Result.andThen_ok, List.map_toArray, List.map_cons, List.map_nil, hs, hx, hrun]
  exact hK _ _ (h v' w' h2 h3 h4)

theorem step_append_rowK {K : Act → World → Prop} {E : Prop} (s x : Operand) (ho : o.op = .call { callee := .builtin .append, args := #[s, x], argTypes := #[102, 102] }) (hgd : o.guard = none)
    (base : Nat) (v : Value) (n : Nat) (xs : List Value) (hs : a.eval s = v) (hown : w.ownsRow base 26 64 v n xs)
    (S : Nat → Prop) (A : Option Addr) (m c : Nat) (yss : List (List Int)) (hx : a.eval x = .slice A m c) (hr : RowK w S A m yss) (hsec : Secs yss) (hnil : A = none → c = 0)
    (h63 : n + m ≤ maxLen) (hbytes : (n + m) * 64 ≤ 140737488355328) (hbase : base ≤ w.heap.size)
    (h : ∀ v' w', w'.ownsRow base 26 64 v' (n + m) (xs ++ (flat yss).map (Value.int .u8)) → w.grownBy w' v.ownBlock → (v'.ownBlock = v.ownBlock ∨ v'.ownBlock = some w.heap.size) → K (a.put o.dst v') w') :
    if Region.wanted o (yielded ops a.tmps) = true then Oper.wp Try.prog o a w K Q else E := by
  obtain ⟨v', w', hrun, h2, h3, h4⟩ := run_append_rowK w o.type base v n xs hown S A m c yss hr hsec hnil h63 hbytes hbase
  have hw : Region.wanted o (yielded ops a.tmps) = true := by simp [Region.wanted, hgd]
  rw [if_pos hw]
  unfold Oper.wp execOp
  simp only [ho, resolve, invoke, builtin, Sem.run_bind, Sem.run_pure, Result.andThen_ok, List.map_toArray, List.map_cons, List.map_nil, hs, hx, hrun]
  exact h v' w' h2 h3 h4

/-- A sector laid into a row of the call's own. -/
theorem run_store_own {base n cap g off : Nat} {L ys : List Int} (hown : w.ownsRow base 26 64 (.slice (some ⟨g, 0, none⟩) n cap) n (L.map (Value.int .u8))) (hl : ys.length = 64) (hfit : off + 64 ≤ L.length) :
    ∃ w', (Instr.storeAt 26 (.pointer (some ⟨g, off, none⟩)) (.agg (cells8 ys))).run Try.prog w = .ok () w' ∧
      w'.ownsRow base 26 64 (.slice (some ⟨g, 0, none⟩) n cap) n ((L.take off ++ ys ++ L.drop (off + 64)).map (Value.int .u8)) ∧ Kept (fun b => b ≠ g) w w' := by
  have hlen : L.length = n * 64 := by simpa using hown.1
  rcases hown.2 with ⟨h, _⟩ | ⟨g', cap', cur, h, hb, hg, hnc, hcm, hcs, htake⟩
  · cases h
  · injection h with h1 _ h2
    injection h1 with h1
    injection h1 with h1 _ _
    subst h1 h2
    have hsz : ∀ w, (sizeOf 26).run Try.prog w = .ok 64 w := Try.sizeOf26
    have hcur : n * 64 ≤ cur.size := by rw [hcs]; exact Nat.mul_le_mul_right _ hnc
    have hs := run_storeCells_at Try.prog g off 26 (ys.map (Value.int .u8)) 0 cur w hg (by simp [hl]; omega) (by intro v hv; obtain ⟨z, _, rfl⟩ := List.mem_map.1 hv; rfl)
    obtain ⟨C, hC⟩ : ∃ C : Array Value, C = (cur.toList.take off ++ ys.map (Value.int .u8) ++ cur.toList.drop (off + 64)).toArray := ⟨_, rfl⟩
    have hs' : (storeCells ⟨g, off, none⟩ (ys.map (Value.int .u8)) 0).run Try.prog w = .ok () (w.setRow g C) := by
      rw [hC, hs]
      simp [hl]
    have hCs : C.size = cur.size := by rw [hC]; simp [hl]; omega
    refine ⟨w.setRow g C, ?_, ⟨by simp [hl]; omega, .inr ⟨g, cap, C, rfl, hb, setRow_heap w g cur C 26 _ hg, hnc, hcm, by rw [hCs, hcs], ?_⟩⟩, (Kept.refl _ w).setRow (fun h => h rfl) C⟩
    · simp only [Instr.storeAt, Instr.sureAddr, Sem.run_bind, Sem.run_pure, Result.andThen_ok, storeVar, hsz, Value.cells]
      simp only [cells8_size, hl, cells8_list]
      simpa using hs'
    · have h1 : List.take off cur.toList = (L.take off).map (Value.int .u8) := by
        rw [List.map_take, ← htake, List.take_take, Nat.min_eq_left (by omega)]
      have h2 : (List.drop (off + 64) cur.toList).take (n * 64 - (off + 64)) = (L.drop (off + 64)).map (Value.int .u8) := by
        rw [List.map_drop, ← htake, List.drop_take]
      rw [hC, h1, List.map_append, List.map_append, ← h2]
      simp only [List.append_assoc]
      rw [List.take_append, List.take_of_length_le (by simp; omega)]
      congr 1
      rw [List.take_append, List.take_of_length_le (by simp [hl]; omega)]
      congr 2
      simp [hl]
      omega

theorem wpList_store_own (x y : Operand) (ho : o.op = .store 26 x y) (hgd : o.guard = none) (g off : Nat) (ys : List Int) (hx : a.eval x = .pointer (some ⟨g, off, none⟩)) (hy : a.eval y = .agg (cells8 ys))
    (base n cap : Nat) (L : List Int) (hown : w.ownsRow base 26 64 (.slice (some ⟨g, 0, none⟩) n cap) n (L.map (Value.int .u8))) (hl : ys.length = 64) (hfit : off + 64 ≤ L.length)
    (h : ∀ w', w'.ownsRow base 26 64 (.slice (some ⟨g, 0, none⟩) n cap) n ((L.take off ++ ys ++ L.drop (off + 64)).map (Value.int .u8)) → Kept (fun b => b ≠ g) w w' → wpList Try.prog ops Q rest (a.put o.dst undef) w') :
    wpList Try.prog ops Q (o :: rest) a w := by
  obtain ⟨w', hrun, h1, h2⟩ := run_store_own hown hl hfit
  refine wpList_plain hgd fun K hK => ?_
  unfold Oper.wp execOp
  simp only [ho, hx, hy, hrun, Sem.run_bind, Result.andThen_ok]
  exact hK _ _ (h w' h1 h2)

theorem wp_store_own {K : Act → World → Prop} (x y : Operand) (ho : o.op = .store 26 x y) (g off : Nat) (ys : List Int) (hx : a.eval x = .pointer (some ⟨g, off, none⟩)) (hy : a.eval y = .agg (cells8 ys))
    (base n cap : Nat) (L : List Int) (hown : w.ownsRow base 26 64 (.slice (some ⟨g, 0, none⟩) n cap) n (L.map (Value.int .u8))) (hl : ys.length = 64) (hfit : off + 64 ≤ L.length)
    (h : ∀ w', w'.ownsRow base 26 64 (.slice (some ⟨g, 0, none⟩) n cap) n ((L.take off ++ ys ++ L.drop (off + 64)).map (Value.int .u8)) → Kept (fun b => b ≠ g) w w' → K (a.put o.dst undef) w') :
    o.wp Try.prog a w K Q := by
  obtain ⟨w', hrun, h1, h2⟩ := run_store_own hown hl hfit
  unfold Oper.wp execOp
  simp only [ho, hx, hy, hrun, Sem.run_bind, Result.andThen_ok]
  exact h w' h1 h2
end

end Go.Proofs.Ytkmbbfdjdmkjpaa
