/- Texts of LogScans, packed. -/
import Derived.Test.YtknfblfnfoibkaaGreatPackLogScans2
import Derived.Deep.QuietTactic
import Derived.BigQuiet
import Derived.Lib.SlBytesConst
import Derived.OrdersHeld
import Derived.Deep.RegionHeld3
import Derived.OwnWalk
import Derived.Sort.QuietIn
import Derived.OwnWalkIn
import Derived.Deep.Slices
import Derived.ChangeSame
import Derived.IntWalk
import Derived.Deep.DeepCutAuto
set_option linter.unusedVariables false
set_option linter.unusedSimpArgs false
set_option maxRecDepth 100000
set_option maxHeartbeats 16000000
namespace Go.Proofs.YtknfblfnfoibkaaGreat
section
open Go.RowKit
section
variable {P : Program} {ops : Array Oper} {C : World → Prop} {rest : List Oper} {o : Oper} {a : Act} {Q : Act → Prop}
theorem calm_region {id : Nat} {l : List Oper} {Q : Exit → Act → World → Prop} {a : Act} {w : World} (C : World → Prop) (hm : P.follows .mixedOrders = true) (hB : Region.lexB .any l.toArray = true) (hC : C w.drew)
 (h : wpQuiet P l.toArray C (fun a' => ∀ w', C w' → Q .normal a' w') l a) : (Code.region id l.toArray true).wp P Q a w :=
 wp_region_quiet (C := C) hm hB hC (by simpa using h)
theorem calm_by (v : Value) (hgd : Region.wanted o (yielded ops a.tmps) = true) (h : ∀ W, C W → (execOp a.eval o).run P W = .ok (.value v) W) (hk : wpQuiet P ops C Q rest (a.put o.dst v)) : wpQuiet P ops C Q (o :: rest) a :=
 BigFrame.wpQuiet_want hgd fun K hK => ⟨v, fun W hW => by unfold Oper.quietAt; rw [h W hW]; exact ⟨rfl, rfl⟩, hK _ hk⟩
theorem calm_load_row (x : Operand) (ty : TypeId) (ho : o.op = .load ty x) (hgd : Region.wanted o (yielded ops a.tmps) = true) (b : Nat) (hx : a.eval x = .pointer (some ⟨b, 0, none⟩))
 (t : TypeId) (cs : List Value) (d : TypeDesc) (hu : P.underlying ty = some d) (hd : d.isRow = true) (hi : (P.info? ty).map (·.size) = some cs.length) (hc : ∀ W, C W → Blk W b t cs.toArray)
 (h : wpQuiet P ops C Q rest (a.put o.dst (.agg cs.toArray))) : wpQuiet P ops C Q (o :: rest) a :=
 calm_by (.agg cs.toArray) hgd (fun W hW => by
  have hr := run_loadAt_mid (P := P) W b 0 ty cs d (hc W hW).rangeL hu hd hi
  unfold execOp
  simp only [ho, hx, Sem.run_bind, hr, Result.andThen_ok, Sem.run_pure]) h
theorem calm_load_cell (x : Operand) (ty : TypeId) (ho : o.op = .load ty x) (hgd : Region.wanted o (yielded ops a.tmps) = true) (p : Addr) (hx : a.eval x = .pointer (some p)) (v : Value)
 (hr : ∀ W, W.cell? p = some v → (Instr.loadAt ty (.pointer (some p))).run P W = .ok v W) (hc : ∀ W, C W → W.cell? p = some v)
 (h : wpQuiet P ops C Q rest (a.put o.dst v)) : wpQuiet P ops C Q (o :: rest) a :=
 calm_by v hgd (fun W hW => by
  have hr := hr W (hc W hW)
  unfold execOp
  simp only [ho, hx, Sem.run_bind, hr, Result.andThen_ok, Sem.run_pure]) h
theorem run_callFunc_body {P : Program} {f : FuncId} {fn : Func} (hf : P.funcs[f]? = some fn) (hn : (fn.name == "runtime.NumGoroutine") = false) (hb : fn.body.isNone = false) (args : Array Value) (W : World) :
 (callFunc f args).run P W = .ok (.enter f args) W := by
 have hn' : fn.name ≠ "runtime.NumGoroutine" := by simpa using hn
 have hb' : fn.body ≠ none := by intro h; rw [h] at hb; cases hb
 unfold callFunc
 simp [Sem.run_bind, run_program, hf, hn', hb']
theorem calm_call (f : FuncId) (xs : Array Operand) (ts : Array TypeId) (ho : o.op = .call { callee := .value (.func f), args := xs, argTypes := ts }) (hgd : Region.wanted o (yielded ops a.tmps) = true)
 {fn : Func} (hf : P.funcs[f]? = some fn) (hn : (fn.name == "runtime.NumGoroutine") = false) (hb : fn.body.isNone = false)
 (v : Value) (vs : List Value) (hxs : xs.toList.map a.eval = vs) (h : ∀ W, C W → Calls P f vs.toArray W fun e W' => e = .returned v ∧ C W')
 (hk : wpQuiet P ops C Q rest (a.put o.dst v)) : wpQuiet P ops C Q (o :: rest) a :=
 BigFrame.wpQuiet_want hgd fun K hK => ⟨v, fun W hW => by
  have := h W hW
  have e : (xs.map a.eval) = (xs.toList.map a.eval).toArray := by cases xs; simp
  have hc := run_callFunc_body (P := P) hf hn hb vs.toArray W
  unfold Oper.quietAt execOp
  simp only [ho, resolve, e, hxs]
  simp [go_sem, invoke, Act.eval, Oper.quietUpon, hc]
  simpa using this, hK _ hk⟩
end
end
section
open Go.RowKit
theorem cell_far6 (w : World) (g : Nat) (u0 u1 u2 u3 u4 u5 : Value) {p : Addr} (h : p.block ≠ g) : ((((((w.setCell ⟨g, 0, none⟩ u0).setCell ⟨g, 1, none⟩ u1).setCell ⟨g, 2, none⟩ u2).setCell ⟨g, 3, none⟩ u3).setCell ⟨g, 4, none⟩ u4).setCell ⟨g, 5, none⟩ u5).cell? p = w.cell? p := by
 have key : ∀ (w : World) (i : Nat) (u : Value), (w.setCell ⟨g, i, none⟩ u).cell? p = w.cell? p := fun w i u => World.cell?_setCell_other _ _ _ _ (by rintro rfl; exact h rfl)
 rw [key, key, key, key, key, key]
theorem Blk.set6 {w : World} {g : Nat} {t : TypeId} {a0 a1 a2 a3 a4 a5 : Value} (h : Blk w g t #[a0, a1, a2, a3, a4, a5]) (u0 u1 u2 u3 u4 u5 : Value) :
 Blk ((((((w.setCell ⟨g, 0, none⟩ u0).setCell ⟨g, 1, none⟩ u1).setCell ⟨g, 2, none⟩ u2).setCell ⟨g, 3, none⟩ u3).setCell ⟨g, 4, none⟩ u4).setCell ⟨g, 5, none⟩ u5) g t #[u0, u1, u2, u3, u4, u5] := (((((h.set_ 0 u0).set_ 1 u1).set_ 2 u2).set_ 3 u3).set_ 4 u4).set_ 5 u5
theorem Blk.far6 {w : World} {g g' : Nat} {t : TypeId} {cs : Array Value} (h : Blk w g' t cs) (hne : g' ≠ g) (u0 u1 u2 u3 u4 u5 : Value) :
 Blk ((((((w.setCell ⟨g, 0, none⟩ u0).setCell ⟨g, 1, none⟩ u1).setCell ⟨g, 2, none⟩ u2).setCell ⟨g, 3, none⟩ u3).setCell ⟨g, 4, none⟩ u4).setCell ⟨g, 5, none⟩ u5) g' t cs := (((((h.far hne u0).far hne u1).far hne u2).far hne u3).far hne u4).far hne u5
theorem below_set6 {B : Nat} {a w : World} (h : Below B a w) {g : Nat} (hg : B ≤ g) (u0 u1 u2 u3 u4 u5 : Value) :
 Below B a ((((((w.setCell ⟨g, 0, none⟩ u0).setCell ⟨g, 1, none⟩ u1).setCell ⟨g, 2, none⟩ u2).setCell ⟨g, 3, none⟩ u3).setCell ⟨g, 4, none⟩ u4).setCell ⟨g, 5, none⟩ u5) := (((((h.setCell hg u0).setCell hg u1).setCell hg u2).setCell hg u3).setCell hg u4).setCell hg u5
end
section
open Go.RowKit
def fnvStep (h c : Int) : Int := IntKind.u64.wrap (bits .xor .u64 h c * 1099511628211)
def fnv (h : Int) (l : List Int) : Int := l.foldl fnvStep h
theorem fnv_snoc (h : Int) (l : List Int) (c : Int) : fnv h (l ++ [c]) = fnvStep (fnv h l) c := by simp [fnv]
theorem fnv_step (h : Int) (xs : List Int) (k : Nat) (hk : k < xs.length) :
 fnv h (xs.take (k + 1)) = IntKind.u64.wrap (bits .xor .u64 (fnv h (xs.take k)) (xs[k]?.getD 0) * 1099511628211) := by
 rw [take_snoc xs k hk, fnv_snoc]; rfl
theorem turn_bytes (h : Int) (A : Option Addr) (n cap : Nat) (xs : List Int) (B : Nat) (w : World) (hx : Row .u8 w B A n xs) (hb : Bytes xs) (hn : n ≤ 9223372036854775807) :
 Calls Tryz.prog 142 #[.int .u64 h, .slice A n cap] w fun e w' => e = .returned (.int .u64 (fnv h xs)) ∧ w = w' := by
 have hlen := hx.1
 go_enter Tryz.func142, Tryz.ntmps142
 go_wp2
 go_loop [0, 8] (fun v i => ∃ k : Nat, k ≤ n ∧ i = .int .i64 k ∧ v = .int .u64 (fnv h (xs.take k))) (fun _ i => n - (intOf i).toNat)
 case atStart => exact ⟨0, by omega, rfl, rfl⟩
 case round =>
  obtain ⟨k, hk, rfl, rfl⟩ := hrel
  by_cases hlt : k < n
  ·obtain ⟨b, off, rfl, _, hc⟩ := hx.2 (by omega)
   have hcell := hc k hlt
   have hr : 0 ≤ xs[k]?.getD 0 ∧ xs[k]?.getD 0 ≤ 255 := by simpa [List.getD] using hb k
   have hs := hI (fnv_step h xs k (by omega))
   clear hc hb hx hlen
   go_wp2
   go_round
   case rel => exact ⟨k + 1, by omega, by go_num, by rw [hs.out]⟩
   case measure => simp [intOf]; omega
  ·clear hx hb
   go_wp2
   go_ret
   exact ⟨ret_int (by rw [List.take_of_length_le (by omega)]), rfl⟩
def start : Int := 14695981039346656037
theorem hash_any (A : Option Addr) (n cap : Nat) (xs : List Int) (B : Nat) (w : World) (hx : Row .u8 w B A n xs) (hb : Bytes xs) (hn : n ≤ 9223372036854775807) :
 Calls Tryz.prog 79 #[.slice A n cap] w fun e w' => e = .returned (.int .u64 (fnv start xs)) ∧ w = w' := by
 go_enter Tryz.func79, Tryz.ntmps79
 go_wp2_with (go_at_call 142; refine (turn_bytes _ A n cap xs B _ hx hb hn).mono ?_; rintro e w' ⟨rfl, rfl⟩)
 go_ret
 exact ⟨rfl, rfl⟩
theorem fnv_bounds (h : Int) (l : List Int) (h0 : 0 ≤ h ∧ h < 18446744073709551616) : 0 ≤ fnv h l ∧ fnv h l < 18446744073709551616 := by
 induction l generalizing h with
 | nil => exact h0
 | cons c l ih =>
  show 0 ≤ fnv (fnvStep h c) l ∧ fnv (fnvStep h c) l < 18446744073709551616
  refine ih _ ?_
  unfold fnvStep
  rw [IntKind.wrap_u64]
  omega
end
section
open Go.RowKit
theorem row_marked (w : World) (xs : List Int) (m : Nat × Nat) (n : Nat) (hn : xs.length = n) {S : Nat → Prop} (hs : S w.heap.size) : RowI .u8 (w.alloc (.cells (xs.map (Value.int .u8)).toArray 5 m)) S (some ⟨w.heap.size, 0, none⟩) n xs := by
 subst hn
 refine ⟨rfl, fun _ => ⟨w.heap.size, 0, rfl, hs, fun j hj => ?_⟩⟩
 rw [World.cell?_alloc_mark]
 simp [List.getD, List.getElem?_eq_getElem hj]
end
section
section
variable {P : Program} {ops : Array Oper} {Q : Exit → Act → World → Prop} {md : Region.Mode} {S : World → Prop} {st : List Nat}
def Tillst (P : Program) (md : Region.Mode) (ops : Array Oper) (Q : Exit → Act → World → Prop) (S : World → Prop) (st : List Nat) : Nat → Array Bool → Act → World → Prop
 | 0, l, a, w => Region.ready md ops l = [] ∧ Q .normal a w
 | k + 1, l, a, w => (Region.ready md ops l = [] → Q .normal a w) ∧ ∀ i ∈ Region.ready md ops l, wpOp P ops Q i (fun b v => (st.contains i = false → S v) ∧ Tillst P md ops Q S st k (l.setIfInBounds i true) b v) a w
theorem Tillst.any : ∀ (k : Nat) (l : Array Bool) (a : Act) (w : World), Tillst P md ops Q S st k l a w → wpAny P md ops Q k l a w
 | 0, _, _, _, h => h
 | k + 1, _, _, _, h => ⟨h.1, fun i hi => wpOp_mono (fun b v g => Tillst.any k _ b v g.2) (h.2 i hi)⟩
def waitsFor (md : Region.Mode) (ops : Array Oper) (st : List Nat) (i : Nat) : Bool := st.all fun s => match ops[s]? with | some o => o.after.any fun e => Region.binds md e && e.on == i | none => false
theorem not_last {l : Array Bool} {i s : Nat} (hw : waitsFor md ops st i = true) (hun : l.getD i false = false) (hs : s ∈ st) : s ∉ Region.ready md ops l := by
 intro h
 obtain ⟨_, o, ho, hall⟩ := mem_ready.1 h
 unfold waitsFor at hw
 have hw := List.all_eq_true.1 hw s hs
 simp only [ho] at hw
 obtain ⟨e, he, hb⟩ := Array.any_eq_true'.1 hw
 rw [Bool.and_eq_true, beq_iff_eq] at hb
 have := hall e he hb.1
 rw [hb.2, hun] at this
 cases this
theorem un_of_ready {l : Array Bool} {i : Nat} (h : i ∈ Region.ready md ops l) : l.getD i false = false := by
 have h0 := (mem_ready.1 h).1
 rcases Nat.lt_or_ge i l.size with h' | h'
 ·simpa [h'] using h0
 ·simp [Array.getElem?_eq_none h'] at h0
theorem Tillst.first {i : Nat} {oi : Oper} {v : Value} (hi : ops[i]? = some oi) (hsel : ∀ (j : Nat) (o : Oper) cs b, ops[j]? = some o → o.op ≠ .select cs b) (hQ : ∀ c a w, Q (.panic c) (a.put oi.dst v) w → Q (.panic c) a w)
 (hw : waitsFor md ops st i = true) : ∀ (k : Nat) (l : Array Bool) (a : Act) (w : World),
  (∀ j oj, ops[j]? = some oj → j ≠ i → l.getD j true = false → (∀ e ∈ oj.after, Region.binds md e = true → e.on ≠ i) → oi.apart ops oj = true) →
  i ∈ Region.ready md ops l → YieldsIf P ops S oi v a → S w → Tillst P md ops Q S st k (l.setIfInBounds i true) (a.put oi.dst v) w → Tillst P md ops Q S st (k + 1) l a w := by
 intro k
 induction k with
 | zero =>
  intro l a w _ hr hy hS H
  refine ⟨fun h => (by rw [h] at hr; cases hr), fun j hj => ?_⟩
  by_cases e : j = i
  ·rw [e]
   exact hy.wpOp hi hS ⟨fun _ => hS, H⟩
  ·have := ready_mono hj e
   rw [H.1] at this
   cases this
 | succ k ih =>
  intro l a w hfree hr hy hS H
  have hun := un_of_ready hr
  refine ⟨fun h => (by rw [h] at hr; cases hr), fun j hj => ?_⟩
  by_cases e : j = i
  ·rw [e]
   exact hy.wpOp hi hS ⟨fun _ => hS, H⟩
  have hjst : st.contains j = false := by
   rcases h : st.contains j with _ | _
   ·rfl
   ·exact absurd hj (not_last hw hun (by simpa using h))
  obtain ⟨hjun, oj, hoj, hall⟩ := mem_ready.1 hj
  have hno : ∀ e ∈ oj.after, Region.binds md e = true → e.on ≠ i := fun e he hb heq => by
   have := hall e he hb
   rw [heq, hun] at this
   cases this
  have hput := wpOp_putIf hoj (hfree j oj hoj e hjun hno) (fun cs b => hsel i oi cs b hi) (fun cs b => hsel j oj cs b hoj) hQ hy (H.2 j (ready_mono hj e))
  refine wpOp_mono (fun b u g => ?_) hput
  have hSu := g.2.1 hjst
  refine ⟨fun _ => hSu, ih (l.setIfInBounds j true) b u (fun m om hm hmi hmun hmno => ?_) (ready_mono hr (Ne.symm e)) g.1 hSu ?_⟩
  ·refine hfree m om hm hmi ?_ hmno
   by_cases hjm : j = m
   ·rw [← hjm]; exact hjun
   ·rw [getD_set_ne true hjm] at hmun; exact hmun
  ·rw [Array.setIfInBounds_comm _ _ e]
   exact g.2.2
theorem Tillst.take {i : Nat} {oi : Oper} {v : Value} {k : Nat} {l : Array Bool} {a : Act} {w : World} (hi : ops[i]? = some oi) (hs : Region.noSelect ops = true) (hf : Region.free md ops l i = true) (hr : (Region.ready md ops l).contains i = true)
 (hw : waitsFor md ops st i = true) (hQ : ∀ c a w, Q (.panic c) (a.put oi.dst v) w → Q (.panic c) a w) (hg : Region.wanted oi (yielded ops a.tmps) = true) (hy : ∀ w, S w → (execOp a.eval oi).run P w = .ok (.value v) w) (hS : S w)
 (h : Tillst P md ops Q S st k (l.setIfInBounds i true) (a.put oi.dst v) w) : Tillst P md ops Q S st (k + 1) l a w :=
 Tillst.first hi (Region.noSelect_spec hs) hQ hw k l a w (Region.free_spec hi hf) (by simpa using hr) (.inl ⟨hg, hy⟩) hS h
theorem Tillst.done {l : Array Bool} {a : Act} {w : World} (hr : Region.ready md ops l = []) (h : Q .normal a w) : ∀ k, Tillst P md ops Q S st k l a w
 | 0 => ⟨hr, h⟩
 | _ + 1 => ⟨fun _ => h, by rw [hr]; simp⟩
theorem Tillst.step {i : Nat} {o : Oper} {k : Nat} {l : Array Bool} {a : Act} {w : World} (ho : ops[i]? = some o) {K0 : Act → World → Prop}
 (h : ∀ K : Act → World → Prop, (∀ b v, K0 b v → K b v) → if Region.wanted o (yielded ops a.tmps) = true then Oper.wp P o a w K Q else K (a.put o.dst undef) w) : wpOp P ops Q i K0 a w := by
 have := h K0 (fun _ _ g => g)
 unfold wpOp
 simp only [ho]
 split
 ·rename_i hw
  rw [if_pos hw] at this
  exact .inl this
 ·rename_i hw
  rw [if_neg hw] at this
  exact this
theorem Tillst.one {i : Nat} {o : Oper} {k : Nat} {l : Array Bool} {a : Act} {w : World} (hr : Region.ready md ops l = [i]) (ho : ops[i]? = some o)
 (h : ∀ K : Act → World → Prop, Shut (∀ b v, (st.contains i = false → S v) → ((st.contains i = false → S v) → Tillst P md ops Q S st k (l.setIfInBounds i true) b v) → K b v) → if Region.wanted o (yielded ops a.tmps) = true then Oper.wp P o a w K Q else K (a.put o.dst undef) w) :
 Tillst P md ops Q S st (k + 1) l a w := by
 refine ⟨fun e => (by rw [hr] at e; cases e), fun j hj => ?_⟩
 rw [hr] at hj
 obtain rfl : j = i := by simpa using hj
 exact Tillst.step (k := k) (l := l) ho fun K hK => h K fun b v h1 h2 => hK b v ⟨h1, h2 h1⟩
theorem Tillst.two {i j : Nat} {o o' : Oper} {k : Nat} {l : Array Bool} {a : Act} {w : World} (hr : Region.ready md ops l = [i, j]) (ho : ops[i]? = some o) (ho' : ops[j]? = some o')
 (h : ∀ K : Act → World → Prop, Shut (∀ b v, (st.contains i = false → S v) → ((st.contains i = false → S v) → Tillst P md ops Q S st k (l.setIfInBounds i true) b v) → K b v) → if Region.wanted o (yielded ops a.tmps) = true then Oper.wp P o a w K Q else K (a.put o.dst undef) w)
 (h' : ∀ K : Act → World → Prop, Shut (∀ b v, (st.contains j = false → S v) → ((st.contains j = false → S v) → Tillst P md ops Q S st k (l.setIfInBounds j true) b v) → K b v) → if Region.wanted o' (yielded ops a.tmps) = true then Oper.wp P o' a w K Q else K (a.put o'.dst undef) w) :
 Tillst P md ops Q S st (k + 1) l a w := by
 refine ⟨fun e => (by rw [hr] at e; cases e), fun m hm => ?_⟩
 rw [hr] at hm
 rcases List.mem_cons.1 hm with e | hm
 ·rw [e]
  exact Tillst.step (k := k) (l := l) ho fun K hK => h K fun b v h1 h2 => hK b v ⟨h1, h2 h1⟩
 ·obtain rfl : m = j := by simpa using hm
  exact Tillst.step (k := k) (l := l) ho' fun K hK => h' K fun b v h1 h2 => hK b v ⟨h1, h2 h1⟩
theorem Tillst.region {id : Nat} {a : Act} {w : World} (S : World → Prop) (st : List Nat) (hm : P.follows .mixedOrders = true) (hS : S w.drew) (h : S w.drew → Tillst P .any ops Q S st ops.size (Array.replicate ops.size false) a w.drew) : (Code.region id ops true).wp P Q a w :=
 wp_region_any hm (Tillst.any _ _ _ _ (h hS))
end
section
variable {P : Program} {ops : Array Oper} {Q : Exit → Act → World → Prop} {md : Region.Mode} {S : World → Prop} {st : List Nat}
theorem Tillst.tk (i : Nat) (oi : Oper) {v : Value} {k : Nat} {l : Array Bool} {a : Act} {w : World} (hi : ops[i]? = some oi) (hb : (Region.noSelect ops && Region.free md ops l i && (Region.ready md ops l).contains i && waitsFor md ops st i) = true)
 (hg : Region.wanted oi (yielded ops a.tmps) = true) (hy : ∀ w, S w → (execOp a.eval oi).run P w = .ok (.value v) w) (hS : S w)
 (h : Tillst P md ops Q S st k (l.setIfInBounds i true) (a.put oi.dst v) w) (hQ : ∀ c a w, Q (.panic c) (a.put oi.dst v) w → Q (.panic c) a w := by exact fun _ _ _ h => h) : Tillst P md ops Q S st (k + 1) l a w := by
 simp only [Bool.and_eq_true] at hb
 exact Tillst.take hi hb.1.1.1 hb.1.1.2 hb.1.2 hb.2 hQ hg hy hS h
end
end
section
open Go.RowKit
section
variable {P : Program} {w : World} {o : Oper} {a : Act} {Q : Exit → Act → World → Prop} {K : Act → World → Prop} {E : Prop} {ops : Array Oper}
theorem exec_load_row (x : Operand) (ty : TypeId) (ho : o.op = .load ty x) (b off : Nat) (hx : a.eval x = .pointer (some ⟨b, off, none⟩)) (cs : List Value) (d : TypeDesc) (hu : P.underlying ty = some d) (hd : d.isRow = true)
 (hi : (P.info? ty).map (·.size) = some cs.length) (hc : w.rangeAt b off cs) : (execOp a.eval o).run P w = .ok (.value (.agg cs.toArray)) w := by
 have hr := run_loadAt_mid (P := P) w b off ty cs d hc hu hd hi
 unfold execOp
 simp only [ho, hx, Sem.run_bind, hr, Result.andThen_ok, Sem.run_pure]
theorem exec_build (ty : TypeId) (parts : Array (Nat × Operand)) (ho : o.op = .build ty parts) (vs : List (Nat × Value)) (hv : (parts.map fun (i, x) => (i, a.eval x)).toList = vs) (cells : Array Value) (hb : P.built ty vs = some cells) :
 (execOp a.eval o).run P w = .ok (.value (.agg cells)) w := by
 have := run_build (P := P) w ty (parts.map fun (i, x) => (i, a.eval x)) cells (by rw [hv]; exact hb)
 unfold execOp
 simp only [ho, Sem.run_bind, this, Result.andThen_ok, Sem.run_pure]
theorem step_store_cell (x y : Operand) (ty : TypeId) (ho : o.op = .store ty x y) (hgd : Region.wanted o (yielded ops a.tmps) = true) (p : Addr) (v : Value) (hx : a.eval x = .pointer (some p)) (hy : a.eval y = v)
 (hr : (Instr.storeAt ty (.pointer (some p)) v).run P w = .ok () (w.setCell p v)) (h : K (a.put o.dst undef) (w.setCell p v)) : if Region.wanted o (yielded ops a.tmps) = true then Oper.wp P o a w K Q else E := by
 rw [if_pos hgd]
 unfold Oper.wp execOp
 simp only [ho, hx, hy, hr, Sem.run_bind, Result.andThen_ok]
 exact h
theorem step_call (f : FuncId) (xs : Array Operand) (ts : Array TypeId) (ho : o.op = .call { callee := .value (.func f), args := xs, argTypes := ts }) (hgd : Region.wanted o (yielded ops a.tmps) = true)
 {fn : Func} (hf : P.funcs[f]? = some fn) (hn : (fn.name == "runtime.NumGoroutine") = false) (hb : fn.body.isNone = false)
 (vs : List Value) (hxs : xs.toList.map a.eval = vs) (h : Calls P f vs.toArray w fun e w' => ∃ v, e = .returned v ∧ K (a.put o.dst v) w') :
 if Region.wanted o (yielded ops a.tmps) = true then Oper.wp P o a w K Q else E := by
 have e : (xs.map a.eval) = (xs.toList.map a.eval).toArray := by cases xs; simp
 have hc := run_callFunc_body (P := P) hf hn hb vs.toArray w
 rw [if_pos hgd]
 unfold Oper.wp execOp
 simp only [ho, resolve, e, hxs]
 simp [go_sem, invoke, Act.eval, hc]
 refine Calls.mono (by simpa using h) fun e w' hh => ?_
 obtain ⟨v, rfl, hk⟩ := hh
 exact hk
theorem step_value (v : Value) (hgd : Region.wanted o (yielded ops a.tmps) = true) (hr : (execOp a.eval o).run P w = .ok (.value v) w) (h : K (a.put o.dst v) w) : if Region.wanted o (yielded ops a.tmps) = true then Oper.wp P o a w K Q else E := by
 rw [if_pos hgd]
 unfold Oper.wp
 rw [hr]
 exact h
end
theorem range_below {w w' : World} {b off B : Nat} {cs : List Value} (h : w.rangeAt b off cs) (hb : Below B w w') (hB : b < B) : w'.rangeAt b off cs :=
 fun j v hv => (hb.cell (p := ⟨b, off + j, none⟩) hB).trans (h j v hv)
end
section
open Go.RowKit
theorem nums_inj {s t : ByteArray} (h : nums s = nums t) : s = t := by
 have hl : s.size = t.size := by rw [← nums_length s, h, nums_length]
 apply ByteArray.ext
 apply Array.ext hl
 intro i h1 h2
 have g1 := nums_get s i h1
 have g2 := nums_get t i h2
 rw [h, g2] at g1
 have : t[i].toNat = s[i].toNat := by omega
 exact (UInt8.toNat_inj.1 this).symm
end
section
open Go.RowKit
theorem num_any (A : Option Addr) (n c : Nat) (xs : List Int) (S : Nat → Prop) (w : World) (hx : RowI .u8 w S A n xs) (hb : Bytes xs) (h8 : n ≤ 8) :
 Calls Tryz.prog 168 #[.slice A n c] w fun e w' => e = .returned (.int .u64 (numOf xs)) ∧ w = w' := by
 have HX := hI hx
 have HL := hI hx.1
 have HB := hI hb
 clear hx hb
 go_enter Tryz.func168, Tryz.ntmps168
 go_wp2
 go_loop [3, 4] (fun x i => ∃ k : Nat, k ≤ n ∧ i = .int .i64 k ∧ x = .int .u64 (numOf (xs.take k))) (fun _ i => n - (intOf i).toNat)
 case atStart => exact ⟨0, by omega, rfl, rfl⟩
 case round =>
  obtain ⟨k, hk, rfl, rfl⟩ := hrel
  by_cases hlt : k < n
  ·obtain ⟨_, off, rfl, _, hc⟩ := HX.out.2 (by omega)
   have hcell := hc k hlt
   have hr : 0 ≤ xs.getD k 0 ∧ xs.getD k 0 ≤ 255 := HB.out k
   have hv := numOf_take xs HB.out k (by have := HL.out; omega) (by omega)
   have hs : numOf (xs.take (k + 1)) = numOf (xs.take k) * 256 + xs.getD k 0 := by rw [take_snoc xs k (by have := HL.out; omega), numOf_snoc]
   generalize numOf (xs.take k) = x at *
   generalize xs.getD k 0 = y at *
   have HS := hI hs
   clear hs hc
   go_wp2
   go_round
   case rel => exact ⟨k + 1, by omega, by go_num, by rw [HS.out]⟩
   case measure => (simp [intOf] <;> omega)
  ·obtain rfl : k = n := by omega
   have ht := hI (List.take_of_length_le (l := xs) (i := k) (by have := HL.out; omega))
   go_wp2
   go_ret
   exact ⟨ret_int (by rw [ht.out]), rfl⟩
end
section
open Go.RowKit
def OwnBytes (ys : List Int) (w : World) (e : Ending) (w' : World) : Prop :=
 ∃ A c, e = .returned (.slice A ys.length c) ∧ (A = none → c = 0) ∧ ys.length ≤ c ∧ RowI .u8 w' (fun b => w.heap.size ≤ b ∧ b < w'.heap.size) A ys.length ys ∧ Below w.heap.size w w'
theorem snoc_map (xs : List Int) (k : Nat) (h : k < xs.length) : (xs.take k).map (Value.int .u8) ++ [Value.int .u8 (xs.getD k 0)] = (xs.take (k + 1)).map (Value.int .u8) := by
 rw [take_snoc xs k h, List.map_append]; rfl
theorem both_any (A A' : Option Addr) (n c n' c' : Nat) (xs ys : List Int) (S : Nat → Prop) (w : World) (hx : RowI .u8 w S A n xs) (hy : RowI .u8 w S A' n' ys) (hS : ∀ b, S b → b < w.heap.size) (hn : n + n' ≤ 140737488351232) :
 Calls Tryz.prog 169 #[.slice A n c, .slice A' n' c'] w (OwnBytes (xs ++ ys) w) := by
 obtain ⟨i0, hi, hz0, hz1, hz2⟩ := info_parts info_u8
 have HX := hI hx
 have HY := hI hy
 have HLX := hI hx.1
 have HLY := hI hy.1
 clear hx hy
 go_enter Tryz.func169, Tryz.ntmps169
 go_wp2_with (refine wpList_make_own w rfl _ _ 40 rfl w.heap.size 5 i0 (.int .u8 0) 1 Tryz.underlying40 hi hz0 hz1 _ _ _ (n + n') rfl rfl (by omega) (by rw [hz2]; omega) (by unfold maxLen; omega) (nR _) ?_; intro w1 hown hgr; have HO1 := hI hown; have HB1 := hI ((Below.refl w.heap.size w).grown hgr (nR _) (fun k h => by cases h)); clear hown hgr)
 go_loopw [5, 6] (fun o i wr => ∃ k : Nat, k ≤ n ∧ i = .int .i64 k ∧ wr.ownsRow w.heap.size 5 1 o k ((xs.take k).map (Value.int .u8)) ∧ Below w.heap.size w wr) (fun _ i _ => n - (intOf i).toNat)
 case atStart => exact ⟨0, by omega, rfl, HO1.out, HB1.out⟩
 case round =>
  obtain ⟨k, hk, rfl, hown, hbel⟩ := hrel
  by_cases hlt : k < n
  ·obtain ⟨b, off, rfl, hb, hc⟩ := (HX.out.below hbel hS).2 (by omega)
   have hcell := hc k hlt
   have hsn := snoc_map xs k (by have := HLX.out; omega)
   generalize xs.getD k 0 = v at *
   have HSN := hI hsn
   have HO := hI (hown.alloc (.cells #[.int .u8 v] 5))
   have HB := hI (hbel.alloc hbel.size (.cells #[.int .u8 v] 5))
   have HS := hI hbel.size
   have HL := hI hown.lt
   clear hc hown hbel hsn
   go_wp2_with (at_builtin; refine wpList_append_rowG rfl (.tmp 20) (.tmp 25) 40 rfl w.heap.size 5 i0 (.int .u8 0) 1 Tryz.underlying40 hi hz0 hz1 hz2 rfl (fun _ => rfl) _ k _ rfl HO.out (· = wr.heap.size) (some ⟨wr.heap.size, 0, none⟩) 1 1 [v] rfl (row_new1 (Value.int .u8) 0 wr 5 v) (fun h => by cases h) (by unfold maxLen; omega) (by omega) (by simp; have := HS.out; omega) ?_; intro v' w' hown' hgrow' _; have HO' := hI hown'; have HB' := hI (HB.out.grown hgrow' HB.out.size (fun g hg => (HL.out g hg).1)); clear hown' hgrow')
   go_roundw
   case rel =>
    refine ⟨k + 1, by omega, by go_num, ?_, HB'.out⟩
    rw [← HSN.out]
    exact HO'.out
   case measure => (simp [intOf] <;> omega)
  ·obtain rfl : k = n := by omega
   rw [List.take_of_length_le (by have := HLX.out; omega)] at hown
   have HO := hI hown
   have HB := hI hbel
   clear hown hbel
   go_wp2
   go_loopw [5, 7] (fun o i wr => ∃ j : Nat, j ≤ n' ∧ i = .int .i64 j ∧ wr.ownsRow w.heap.size 5 1 o (k + j) ((xs ++ ys.take j).map (Value.int .u8)) ∧ Below w.heap.size w wr) (fun _ i _ => n' - (intOf i).toNat)
   case atStart => exact ⟨0, by omega, rfl, by simpa using HO.out, HB.out⟩
   case round =>
    obtain ⟨j, hj, rfl, hown, hbel⟩ := hrel
    by_cases hlt : j < n'
    ·obtain ⟨b, off, rfl, hb, hc⟩ := (HY.out.below hbel hS).2 (by omega)
     have hcell := hc j hlt
     have hsn := snoc_map ys j (by have := HLY.out; omega)
     generalize ys.getD j 0 = v at *
     have HSN := hI hsn
     rename_i wr2 _ _ _
     have HO2 := hI (hown.alloc (.cells #[.int .u8 v] 5))
     have HB2 := hI (hbel.alloc hbel.size (.cells #[.int .u8 v] 5))
     have HS2 := hI hbel.size
     have HL2 := hI hown.lt
     clear hc hown hbel hsn
     go_wp2_with (at_builtin; refine wpList_append_rowG rfl (.tmp 33) (.tmp 38) 40 rfl w.heap.size 5 i0 (.int .u8 0) 1 Tryz.underlying40 hi hz0 hz1 hz2 rfl (fun _ => rfl) _ (k + j) _ rfl HO2.out (· = wr.heap.size) (some ⟨wr.heap.size, 0, none⟩) 1 1 [v] rfl (row_new1 (Value.int .u8) 0 wr 5 v) (fun h => by cases h) (by unfold maxLen; omega) (by omega) (by simp; have := HS2.out; omega) ?_; intro v' w' hown' hgrow' _; have HO' := hI hown'; have HB' := hI (HB2.out.grown hgrow' HB2.out.size (fun g hg => (HL2.out g hg).1)); clear hown' hgrow')
     go_roundw
     case rel =>
      refine ⟨j + 1, by omega, by go_num, ?_, HB'.out⟩
      have := HO'.out
      rw [List.map_append, List.append_assoc, show List.map (Value.int .u8) [v] = [Value.int .u8 v] from rfl, HSN.out, ← List.map_append] at this
      exact this
     case measure => (simp [intOf] <;> omega)
    ·obtain rfl : j = n' := by omega
     rw [List.take_of_length_le (l := ys) (by have := HLY.out; omega)] at hown
     have hlen : (xs ++ ys).length = k + j := by rw [List.length_append, HLX.out, HLY.out]
     rw [← hlen] at hown
     obtain ⟨B, cap, rfl, hc1, hc2, hc3⟩ := rowG_own 0 hown
     have HR := hI hc3
     have HC1 := hI hc1
     have HC2 := hI hc2
     have HB2 := hI hbel
     clear hown hbel hc1 hc2 hc3 hlen
     go_wp2
     go_ret
     exact ⟨_, _, rfl, HC2.out, HC1.out, HR.out.more (fun b h => ⟨h.1, h.2.1⟩), HB2.out⟩
end
section
open Go.RowKit
theorem high_any (x : Int) (c : Nat) (w : World) (x0 : 0 ≤ x) (x1 : x ≤ 18446744073709551615) (hc : c ≤ 8) :
 Calls Tryz.prog 171 #[.int .u64 x, .int .i64 c] w fun e w' => e = .returned (.slice (some ⟨w.heap.size, 0, none⟩) c c) ∧ ArrU w' w.heap.size (beBytes x c) ∧ Below w.heap.size w w' := by
 have hmk := fun u : World => run_make_row' (P := Tryz.prog) 40 5 (.int .u8 0) 1 Tryz.underlying40 info_u8 rfl .i64 .i64 c (by omega) (by omega) u
 go_enter Tryz.func171, Tryz.ntmps171
 go_wp2
 go_loopw [0, 6] (fun v i wr => ∃ (k : Nat) (p y : Int), k ≤ c ∧ p = (c : Int) - 1 - k ∧ i = .int .i64 p ∧ y = x / ((256 ^ k : Nat) : Int) ∧ v = .int .u64 y ∧ ArrU wr w.heap.size (laid x c k) ∧ Below w.heap.size w wr) (fun _ i _ => (intOf i + 1).toNat)
 case atStart =>
  refine ⟨0, _, x, by omega, by simp, rfl, by simp, rfl, ?_, (Below.refl _ _).alloc (nR _) _⟩
  rw [laid_none]
  exact Arr.made w 0 c _
 case round =>
  obtain ⟨k, p, y, hk, hp, rfl, hy, rfl, harr, hbel⟩ := hrel
  by_cases hlt : k < c
  ·obtain ⟨q, rfl⟩ : ∃ q : Nat, p = (q : Int) := ⟨p.toNat, by omega⟩
   have hq : q = c - 1 - k := by omega
   have hcell := harr.cell (i := q) (by rw [laid_length]; omega) 0
   have hfr := harr.frozen q
   have hy0 : 0 ≤ y := by rw [hy]; exact Int.ediv_nonneg x0 (Int.natCast_nonneg _)
   have hy1 : y ≤ 18446744073709551615 := by rw [hy]; exact Int.le_trans (Int.ediv_le_self _ x0) x1
   have HA := hI harr
   have HB2 := hI hbel
   have HY := hI hy
   have HP := hI hp
   have HQ := hI hq
   have hqc : (q : Int) < c := by omega
   clear harr hbel hy hp hq
   go_wp2
   go_roundw
   case rel =>
    refine ⟨k + 1, (q : Int) - 1, y / 256, by omega, by have := HP.out; omega, rfl, by rw [HY.out]; exact pow_step x k, rfl, ?_, HB2.out.setCell (nR _) _⟩
    have hs := HA.out.set q (y % 256)
    rw [HQ.out] at hs
    rw [HQ.out]
    rw [show (laid x c k).set (c - 1 - k) (y % 256) = laid x c (k + 1) by rw [HY.out]; exact laid_set x c k hlt] at hs
    exact hs
   case measure => (simp [intOf] <;> omega)
  ·obtain rfl : k = c := by omega
   have hpn2 : p < 0 := by omega
   have HA := hI harr
   have HB2 := hI hbel
   clear harr hbel hy hp
   go_wp2
   go_ret
   rw [laid_all] at HA
   exact ⟨rfl, HA.out, HB2.out⟩
end
section
open Go.RowKit
section
variable {F : Fence} {n : Nat} {P : Program} {md : Region.Mode} {ops : Array Oper} {C : World → Prop}
def noDefer (o : Oper) : Bool := match o.op with
 | .defer _ => false
 | _ => true
theorem noDefer_all {l : List Oper} (h : l.all noDefer = true) (i : Nat) (o : Oper) (ho : l.toArray[i]? = some o) (c : Call) : o.op ≠ .defer c := fun e => by
 have h1 : o ∈ l := by
  have := Array.mem_of_getElem? ho
  simpa using this
 have h2 := List.all_eq_true.1 h o h1
 unfold noDefer at h2
 rw [e] at h2
 cases h2
end
end
section
open Go.RowKit Go.ChangeShapes Go.WideShapes Go.Deep
section
variable {H : Type} {enc : TypeId × Value → H} {P : Program} {w : World} {base : Nat} {spare : Nat → Bool} {held : Bool}
theorem cells_ints {cs : List Value} {n : Nat} (hl : cs.length = n) (h : ∀ i, i < n → ∃ x : Int, cs[i]? = some (.int .u8 x) ∧ (Lit.int .u8 x).wf = true) :
 ∃ xs : List Int, cs = xs.map (Value.int .u8) ∧ xs.length = n ∧ Bytes xs := by
 subst hl
 induction cs with
 | nil => exact ⟨[], rfl, rfl, fun j => by simp⟩
 | cons c cs ih =>
  obtain ⟨x, hx, hw⟩ := h 0 (by simp)
  simp at hx
  obtain ⟨xs, e, hl, hb⟩ := ih (fun i hi => by simpa using h (i + 1) (by simpa using hi))
  have hw' : 0 ≤ x ∧ x ≤ 255 := by simpa [Lit.wf, IntKind.min, IntKind.max, IntKind.signed, IntKind.bits] using hw
  refine ⟨x :: xs, by rw [hx, e]; rfl, by simp [hl], fun j => ?_⟩
  cases j with
  | zero => simpa using hw'
  | succ j => simpa using hb j
theorem trod_arr8 {t e : TypeId} {n fuel : Nat} {cs : List Value} {x : DataW H × List MemPlace} (ht : P.underlying t = some (.array n e)) (he : P.underlying e = some (.int .u8)) (hc : P.cellsOf e = 1) (hct : P.cellsOf t = n)
 (h : DataW.trod enc P w base spare held fuel t cs = some x) : ∃ xs : List Int, cs = xs.map (Value.int .u8) ∧ xs.length = n ∧ Bytes xs := by
 obtain ⟨ys, m, _, _, hl, hyl, hi⟩ := DataW.trod_array ht h
 rw [hct] at hl
 refine cells_ints hl fun i hin => ?_
 have h1 := hi i hin
 rw [hc, Nat.mul_one] at h1
 have hd : (cs.drop i).take 1 = [cs[i]'(by omega)] := by rw [List.drop_eq_getElem_cons (by omega)]; rfl
 rw [hd, List.getElem?_eq_getElem (by omega)] at h1
 obtain ⟨z, hz, _, hw⟩ := DataW.trod_int he h1
 injection hz with hz _
 exact ⟨z, by rw [List.getElem?_eq_getElem (by omega), hz], hw⟩
def IsBlocks (w : World) (a : Option Addr) (len cap : Nat) (zss : List (List Int)) : Prop :=
 (a = none ∧ len = 0 ∧ cap = 0 ∧ zss = []) ∨
 ∃ x : Addr, a = some x ∧ len ≤ cap ∧ cap ≤ maxLen ∧ zss.length = cap ∧ ∀ i, i < cap → (zss.getD i []).length = 64 ∧ Bytes (zss.getD i []) ∧ ∀ j, j < 64 → w.cell? (x.add (i * 64 + j)) = some (.int .u8 ((zss.getD i []).getD j 0))
theorem open_blocks {t e u : TypeId} {fuel : Nat} {cs : List Value} {x : DataW H × List MemPlace} (ht : P.underlying t = some (.slice e)) (he : P.underlying e = some (.array 64 u)) (hu : P.underlying u = some (.int .u8)) (hcu : P.cellsOf u = 1) (hce : P.cellsOf e = 64)
 (h : DataW.trod enc P w base (fun _ => true) held fuel t cs = some x) :
 ∃ a len cap zss, cs = [.slice a len cap] ∧ IsBlocks w a len cap zss ∧ (cap = 0 ∨ ∃ el sp : List (DataW H), x.1 = .slice el sp ∧ el.length + sp.length = cap) := by
 rcases open_slice ht h with ⟨rfl, _⟩ | ⟨a, len, cap, m, n, D, Pl, rfl, hb, hl, hm, hmm, rfl, hi⟩
 ·exact ⟨none, 0, 0, [], rfl, .inl ⟨rfl, rfl, rfl, rfl⟩, .inl rfl⟩
 ·simp only [if_true] at hmm
  subst hmm
  have key : ∀ i, i < m → ∃ zs : List Int, zs.length = 64 ∧ Bytes zs ∧ ∀ j, j < 64 → w.cell? (a.add (i * 64 + j)) = some (.int .u8 (zs.getD j 0)) := by
   intro i him
   obtain ⟨cs', hc, ht'⟩ := hi i him
   rw [hce] at hc
   obtain ⟨_, hcl, hat⟩ := World.cells?_some hc
   obtain ⟨zs, e, hzl, hzb⟩ := trod_arr8 he hu hcu hce ht'
   refine ⟨zs, hzl, hzb, fun j hj => ?_⟩
   have h1 := hat j hj
   rw [Go.Deep.add_add] at h1
   rw [h1, e]
   simp [List.getD, List.getElem?_eq_getElem (show j < zs.length by omega)]
  have : ∃ zss : List (List Int), zss.length = m ∧ ∀ i, i < m → (zss.getD i []).length = 64 ∧ Bytes (zss.getD i []) ∧ ∀ j, j < 64 → w.cell? (a.add (i * 64 + j)) = some (.int .u8 ((zss.getD i []).getD j 0)) := by
   clear hi hl hm h
   have : ∀ k, k ≤ m → ∃ zss : List (List Int), zss.length = k ∧ ∀ i, i < k → (zss.getD i []).length = 64 ∧ Bytes (zss.getD i []) ∧ ∀ j, j < 64 → w.cell? (a.add (i * 64 + j)) = some (.int .u8 ((zss.getD i []).getD j 0)) := by
    intro k
    induction k with
    | zero => intro _; exact ⟨[], rfl, fun i hi => by omega⟩
    | succ k ih =>
     intro hk
     obtain ⟨zss, hzl, hz⟩ := ih (by omega)
     obtain ⟨zs, h1, h2, h3⟩ := key k (by omega)
     refine ⟨zss ++ [zs], by simp [hzl], fun i hi => ?_⟩
     by_cases e : i < k
     ·have e2 : (zss ++ [zs]).getD i [] = zss.getD i [] := by simp [List.getD, List.getElem?_append_left (show i < zss.length by omega)]
      rw [e2]
      exact hz i e
     ·obtain rfl : i = k := by omega
      have e2 : (zss ++ [zs]).getD i [] = zs := by simp [List.getD, List.getElem?_append_right (show zss.length ≤ i by omega), hzl]
      rw [e2]
      exact ⟨h1, h2, h3⟩
   exact this m (nR _)
  obtain ⟨zss, hzl, hz⟩ := this
  exact ⟨some a, len, m, zss, rfl, .inr ⟨a, rfl, hl, hm, hzl, hz⟩, .inr ⟨_, _, rfl, by simp; omega⟩⟩
end
end
section
open Go.RowKit
def folB (g p f g' p' : Int) : Bool := decide (0 < p' ∧ g = g' ∧ p = p' - 1 ∧ f = 48)
theorem follows_any (g p f g' p' f' : Int) (w : World) (hp : 0 ≤ p') (hp2 : p' ≤ 4294967295) (hf : 0 ≤ f) (hf2 : f ≤ 65535) :
 Calls Tryz.prog 209 #[.agg #[.int .u64 g, .int .u32 p, .int .i64 f], .agg #[.int .u64 g', .int .u32 p', .int .i64 f']] w fun e w' => e = .returned (.bool (folB g p f g' p')) ∧ Below w.heap.size w w' := by
 by_cases h : 0 < p'
 ·have h1 : 1 ≤ p' := by omega
  go_enter Tryz.func209, Tryz.ntmps209
  go_wp2
  all_goals
   go_ret
   refine ⟨ret_bool ?_, (((Below.refl _ _).alloc (nR _) _).alloc (by simp) _).alloc (by simp; omega) _⟩
   simp [folB, *]
 ·have h1 : p' = 0 := by omega
  subst h1
  go_enter Tryz.func209, Tryz.ntmps209
  go_wp2
  go_ret
  refine ⟨ret_bool ?_, (((Below.refl _ _).alloc (nR _) _).alloc (by simp) _).alloc (by simp; omega) _⟩
  simp [folB]
end
section
open Go.RowKit
def linkB (xs ys : List Int) : Bool := folB (genOf xs) (posOf xs) (fillOf xs) (genOf ys) (posOf ys)
def ChainAt (xss : List (List Int)) (i : Nat) : Prop := stamped (xss.getD i []) = true ∧ (0 < i → linkB (xss.getD (i - 1) []) (xss.getD i []) = true)
def Chain (xss : List (List Int)) : Prop := ∀ i, i < xss.length → ChainAt xss i
def meants (xss : List (List Int)) : List Int := (xss.map meantOf).flatten
theorem meants_snoc (xss : List (List Int)) (k : Nat) (h : k < xss.length) : meants (xss.take (k + 1)) = meants (xss.take k) ++ meantOf (xss.getD k []) := by
 unfold meants
 rw [List.take_succ_eq_append_getElem h, List.map_append, List.flatten_append]
 simp [List.getD, List.getElem?_eq_getElem h]
theorem meants_length (xss : List (List Int)) (k : Nat) (h : k ≤ xss.length) : (meants (xss.take k)).length ≤ 48 * k := by
 induction k with
 | zero => simp [meants]
 | succ k ih =>
  rw [meants_snoc xss k (by omega), List.length_append]
  have := ih (by omega)
  have := meant_le (xss.getD k [])
  omega
def JoinBad (w : World) (e : Ending) (w' : World) : Prop := e = .returned (.tuple #[.slice none 0 0, .int .i64 150]) ∧ Below w.heap.size w w'
def aheadOf (xss : List (List Int)) (k : Nat) : Array Value := if k = 0 then #[.int .u64 0, .int .u32 0, .int .i64 0] else #[.int .u64 (genOf (xss.getD (k - 1) [])), .int .u32 (posOf (xss.getD (k - 1) [])), .int .i64 (fillOf (xss.getD (k - 1) []))]
structure Joining (xss : List (List Int)) (w wr : World) (o : Value) (k : Nat) : Prop where
 own : wr.ownsRow (w.heap.size + 1) 5 1 o (meants (xss.take k)).length ((meants (xss.take k)).map (Value.int .u8))
 st : Blk wr w.heap.size 189 (aheadOf xss k)
 bel : Below w.heap.size w wr
 chain : ∀ i, i < k → ChainAt xss i
theorem not_chain {xss : List (List Int)} {k : Nat} (hk : k < xss.length) (h : ¬ ChainAt xss k) : ¬ (1 ≤ xss.length ∧ Chain xss) := fun hc => h (hc.2 k hk)
theorem Joining.next {xss : List (List Int)} {w wr w4 w5 : World} {o v' : Value} {k : Nat} {xs : List Int} (h : Joining xss w wr o k) (hk : k < xss.length) (hxs : xs = xss.getD k []) (hc : ChainAt xss k)
 (hb4 : Below wr.heap.size wr w4) (hown : w5.ownsRow (w.heap.size + 1) 5 1 v' ((meants (xss.take k)).length + (meantOf xs).length) ((meants (xss.take k)).map (Value.int .u8) ++ (meantOf xs).map (Value.int .u8))) (hg : w4.grownBy w5 o.ownBlock) :
 Joining xss w (((w5.setCell ⟨w.heap.size, 0, none⟩ (.int .u64 (genOf xs))).setCell ⟨w.heap.size, 1, none⟩ (.int .u32 (posOf xs))).setCell ⟨w.heap.size, 2, none⟩ (.int .i64 (fillOf xs))) v' (k + 1) := by
 have hst : Blk w5 w.heap.size 189 (aheadOf xss k) := (h.st.below hb4 h.st.lt).grown hg (fun e => by have := h.own.lt _ e.symm; omega)
 have hst' : ∃ a0 a1 a2 : Value, aheadOf xss k = #[a0, a1, a2] := by unfold aheadOf; split <;> exact ⟨_, _, _, rfl⟩
 obtain ⟨a0, a1, a2, ha⟩ := hst'
 rw [ha] at hst
 refine ⟨?_, ?_, ?_, ?_⟩
 ·have e := meants_snoc xss k hk
  rw [← hxs] at e
  rw [e, List.length_append, List.map_append]
  exact own_set3 hown (fun e => by have := hown.lt _ e; omega) _ _ _
 ·have e : aheadOf xss (k + 1) = #[.int .u64 (genOf xs), .int .u32 (posOf xs), .int .i64 (fillOf xs)] := by
   unfold aheadOf
   rw [if_neg (by omega), show k + 1 - 1 = k by omega, ← hxs]
  rw [e]
  exact hst.set3 _ _ _
 ·refine below_set3 (((h.bel.trans (hb4.mono h.bel.size))).grown hg (nT h.bel.size hb4.size) (fun g hg => by have := h.own.lt g hg; omega)) (nR _) _ _ _
 ·intro i hi
  by_cases e : i = k
  ·subst e; exact hc
  ·exact h.chain i (by omega)
end
section
open Go.RowKit
theorem part_bytes {xs : List Int} (h : Bytes xs) (k : Nat) : Bytes (partOf xs k) := bytes_part h (48 * k) 48
theorem split_bytes {gen pos : Int} {xs : List Int} (hb : Bytes xs) (i : Nat) : Bytes ((splitL gen pos xs).getD i []) := by
 by_cases h : i < cntOf xs.length
 ·rw [split_get gen pos xs i h]
  exact pack_bytes _ _ _ (part_bytes hb i)
 ·have : (splitL gen pos xs).getD i [] = [] := by simp [List.getD, List.getElem?_eq_none (show (splitL gen pos xs).length ≤ i by rw [split_length]; omega)]
  rw [this]
  intro j
  simp
end
section
open Go.RowKit
section
variable {gen : Int} {xs : List Int}
end
end
section
open Go.RowKit
theorem flat_set_s5 {L : List (List Int)} (h : Secs L) (k : Nat) (hk : k < L.length) (ys : List Int) (hy : ys.length = 64) : (flat L).take (k * 64) ++ ys ++ (flat L).drop (k * 64 + 64) = flat (L.set k ys) := by
 have hc := list_cut k hk
 have hl := flat_length (h.take k)
 have hg := h.get k hk
 rw [List.length_take, Nat.min_eq_left (by omega)] at hl
 have e : L.set k ys = L.take k ++ [ys] ++ L.drop (k + 1) := by
  rw [List.set_eq_take_append_cons_drop, if_pos hk, List.append_assoc, List.singleton_append]
 rw [e]
 conv => lhs; rw [hc]
 rw [flat_append, flat_append, flat_one, flat_append, flat_append, flat_one]
 generalize L.getD k [] = zs at *
 generalize flat (L.take k) = us at *
 generalize flat (L.drop (k + 1)) = vs at *
 rw [List.append_assoc us zs vs, List.take_append, List.take_of_length_le (by omega), List.drop_append, hl]
 simp [show k * 64 + 64 - k * 64 = 64 by omega, hl, hg, List.drop_append]
section
variable {w : World} {ops : Array Oper} {o : Oper} {a : Act} {Q : Exit → Act → World → Prop} {K : Act → World → Prop} {E : Prop}
end
end
section
open Go.RowKit
def RReadTold (xs : List Int) (w : World) (e : Ending) (w' : World) : Prop :=
 ∃ A c, e = .returned (.tuple #[.agg #[.int .u64 (genOf xs), .int .u32 (posOf xs), .int .i64 (fillOf xs)], .slice A (meantOf xs).length c, .bool true]) ∧
  RowI .u8 w' (fun b => w.heap.size ≤ b ∧ b < w'.heap.size) A (meantOf xs).length (meantOf xs) ∧ Below w.heap.size w w'
structure Half0 (xs : List Int) (w W : World) : Prop where
 len : xs.length = 64
 arr : ArrB W w.heap.size xs
 zero : Blk W (w.heap.size + 1) 189 #[.int .u64 0, .int .u32 0, .int .i64 0]
 bel : Below w.heap.size w W
theorem Half0.drew {xs : List Int} {w W : World} (h : Half0 xs w W) : Half0 xs w W.drew := ⟨h.len, h.arr, h.zero, h.bel.drew⟩
theorem Half0.alloc {xs : List Int} {w W : World} (h : Half0 xs w W) (o : Obj) : Half0 xs w (W.alloc o) := ⟨h.len, h.arr.alloc o, h.zero.alloc o, h.bel.alloc h.bel.size o⟩
theorem Half0.r8 {xs : List Int} {w W : World} (h : Half0 xs w W) : RowI .u8 W (fun _ => True) (some ⟨w.heap.size, 0, none⟩) 8 ((xs.drop 0).take 8) := h.arr.part 0 8 (by have := h.len; omega) trivial
theorem Half0.r4 {xs : List Int} {w W : World} (h : Half0 xs w W) : RowI .u8 W (fun _ => True) (some ⟨w.heap.size, 8, none⟩) 4 ((xs.drop 8).take 4) := h.arr.part 8 4 (by have := h.len; omega) trivial
theorem Half0.r2 {xs : List Int} {w W : World} (h : Half0 xs w W) : RowI .u8 W (fun _ => True) (some ⟨w.heap.size, 12, none⟩) 2 ((xs.drop 12).take 2) := h.arr.part 12 2 (by have := h.len; omega) trivial
theorem Half0.new (xs : List Int) (w : World) (hl : xs.length = 64) : Half0 xs w ((w.alloc (.cells (cells8 xs) 92)).alloc (.cells #[.int .u64 0, .int .u32 0, .int .i64 0] 189)) :=
 ⟨hl, (Blk.new w _ _).alloc _, by have := Blk.new (w.alloc (.cells (cells8 xs) 92)) 189 #[.int .u64 0, .int .u32 0, .int .i64 0]; simpa using this, ((Below.refl _ _).alloc (nR _) _).alloc (by simp) _⟩
def Half1 (xs : List Int) (w W : World) (s : Value) : Prop :=
 ∃ g, s = .pointer (some ⟨g, 0, none⟩) ∧ w.heap.size + 1 < g ∧ Blk W g 189 #[.int .u64 (genOf xs), .int .u32 (posOf xs), .int .i64 (fillOf xs)] ∧ Half0 xs w W
def RReadAny (xs : List Int) (w : World) (e : Ending) (w' : World) : Prop :=
 (stamped xs = true → RReadTold xs w e w') ∧ (stamped xs = false → e = .returned (.tuple #[.agg #[.int .u64 0, .int .u32 0, .int .i64 0], .slice none 0 0, .bool false]) ∧ Below w.heap.size w w')
theorem rread_no {xs : List Int} (hl : xs.length = 64) (hb : Bytes xs) (h : ¬ Right xs) {w w' : World} (hbel : Below w.heap.size w w') : RReadAny xs w (.returned (.tuple #[.agg #[.int .u64 0, .int .u32 0, .int .i64 0], .slice none 0 0, .bool false])) w' :=
 ⟨fun hs => absurd ((stamped_iff xs hl hb).1 hs) h, fun _ => ⟨rfl, hbel⟩⟩
theorem half_cells {xs : List Int} {w W W' : World} (h : Half0 xs w W) (hk : Below W.heap.size W W') : Half0 xs w W' := ⟨h.len, h.arr.below hk h.arr.lt, h.zero.below hk h.zero.lt, h.bel.trans (hk.mono h.bel.size)⟩
theorem run_cut_blk (g : Nat) (l h : Nat) (hlo : l ≤ h) (hh : h ≤ 64) (h0 : l < 64) (W : World) :
 (Instr.sliceAt 92 (.pointer (some ⟨g, 0, none⟩)) (some (.int .i64 l)) (some (.int .i64 h)) none).run Tryz.prog W = .ok (.slice (some ⟨g, l, none⟩) (h - l) (64 - l)) W := by
 have hu : Tryz.prog.underlying 92 = some (.array (Tryz.prog.arrayLen 92) (Tryz.prog.elem 92)) := by kernel_rfl
 have hn : Tryz.prog.arrayLen 92 = 64 := by kernel_rfl
 have he : Tryz.prog.elem 92 = 5 := by kernel_rfl
 have := run_sliceAt_array_lh (P := Tryz.prog) W 92 ⟨g, 0, none⟩ hu .i64 .i64 l h (by omega) (by omega) (by rw [hn]; omega)
 rw [this, he, Tryz.sizeOf5, hn]
 have hne : ¬ 64 = l := by omega
 simp [slicedAt, hne, add_plain, Result.andThen]
theorem meant_right {xs : List Int} (hl : xs.length = 64) (hf : fillOf xs ≤ 48) : meantOf xs = (xs.drop 16).take (fillOf xs) ∧ (meantOf xs).length = fillOf xs := by
 have hm : meantOf xs = (xs.drop 16).take (fillOf xs) := if_pos hf
 exact ⟨hm, by rw [hm]; simp; omega⟩
theorem rread_any_s5 (xs : List Int) (w : World) (hl : xs.length = 64) (hb : Bytes xs) :
 Calls Tryz.prog 111 #[.agg (cells8 xs)] w (RReadAny xs w) := by
 have hgb := gen_bounds hb hl
 have hpb := pos_bounds hb hl
 have hfe := fill_eq hb
 have hfl := fill_lt hb
 have HBY := hI hb
 have HL := hI hl
 have HFE := hI hfe
 have HH := hI (Half0.new xs w hl)
 have hpu : IntKind.u32.wrap (posOf xs) = posOf xs := by rw [IntKind.wrap_u32]; omega
 have hfu : IntKind.i64.wrap (fillOf xs : Int) = (fillOf xs : Int) := by rw [IntKind.wrap_i64]; omega
 have HPU := hI hpu
 have HFU := hI hfu
 have hp4 : numOf ((xs.drop 8).take 4) = posOf xs := rfl
 have HP4 := hI hp4
 clear hb hl hpb hfe hpu hfu hp4
 go_enter Tryz.func111, Tryz.ntmps111
 go_upto_region 1 with fail
 generalize hw1 : (w.alloc _).alloc _ = w1 at *
 clear hw1
 go_cut [5] (fun s wx => Half1 xs w wx s)
 case first =>
  go_region_held3 (fun W => Half0 xs w W) (first | exact HH.out | exact HH.out.drew | exact (HH.out.alloc _).drew | exact HH.out.drew.alloc _)
   ((go_at_call 168; refine (num_any _ _ _ _ (fun _ => True) _ (by first | with_reducible exact Half0.r8 (by assumption) | with_reducible exact Half0.r4 (by assumption) | with_reducible exact Half0.r2 (by assumption)) (by first | exact bytes_part HBY.out 0 8 | exact bytes_part HBY.out 8 4 | exact bytes_part HBY.out 12 2) (by omega)).mono ?_; (first | rw [HFE.out] | rw [HP4.out] | skip); rintro e w' ⟨rfl, rfl⟩))
  all_goals
   rw [HPU.out, HFU.out]
   go_wp2_with fail
   go_meet
   exact ⟨w1.heap.size, rfl, HH.out.zero.lt, Blk.new w1 _ _, (HH.out.alloc _).drew⟩
 case rest =>
  obtain ⟨g, rfl, hgl, hst, hh⟩ := hcut
  have c0 := hst.cell 0
  have c2 := hst.cell 2
  have c14 := hh.arr.cell (i := 14) (by rw [HL.out]; omega) 0
  have c15 := hh.arr.cell (i := 15) (by rw [HL.out]; omega) 0
  have z0 := hh.zero.cell 0
  have z1 := hh.zero.cell 1
  have z2 := hh.zero.cell 2
  have y0 := hh.zero.frozen 0
  have y1 := hh.zero.frozen 1
  have y2 := hh.zero.frozen 2
  simp only [List.getElem?_toArray, List.getElem?_cons_zero, List.getElem?_cons_succ] at c0 c2 z0 z1 z2
  have HST := hI hst
  have HC := hI hh
  have HGL := hI hgl
  generalize h14 : xs.getD 14 0 = v14 at *
  generalize h15 : xs.getD 15 0 = v15 at *
  have H14 := hI h14
  have H15 := hI h15
  clear hst hh hgl h14 h15
  by_cases d0 : genOf xs = 0
  ·have hno := hI (show ¬ Right xs from fun h => by have := h.1; omega)
   have e0 : (genOf xs == 0) = true := by simpa using d0
   have HD := hI d0
   clear d0
   go_wp2_with (with_reducible refine halt_end ?_)
   exact Halt.ret (results_row3 (p := 2) (u := 3) (v := 4) rfl _ _ (w.heap.size + 1) 189 _ _ rfl (HC.out.zero.set3 _ _ _) Tryz.underlying189 rfl size_stamp) rfl (rread_no HL.out HBY.out hno.out (below_set3 (g := w.heap.size + 1) HC.out.bel (by omega) _ _ _))
  by_cases d1 : 48 < fillOf xs
  ·have hno := hI (show ¬ Right xs from fun h => by have := h.2.1; omega)
   have e0 : (genOf xs == 0) = false := by simpa using d0
   have e1 : decide ((48 : Int) < (fillOf xs : Int)) = true := by simp; omega
   have HD := hI d0
   clear d0
   go_wp2_with (with_reducible refine halt_end ?_)
   exact Halt.ret (results_row3 (p := 2) (u := 3) (v := 4) rfl _ _ (w.heap.size + 1) 189 _ _ rfl (HC.out.zero.set3 _ _ _) Tryz.underlying189 rfl size_stamp) rfl (rread_no HL.out HBY.out hno.out (below_set3 (g := w.heap.size + 1) HC.out.bel (by omega) _ _ _))
  by_cases d2 : v14 = 0
  case neg =>
   have hno := hI (show ¬ Right xs from fun h => d2 (by rw [← H14.out]; exact h.2.2.1))
   have e0 : (genOf xs == 0) = false := by simpa using d0
   have e1 : decide ((48 : Int) < (fillOf xs : Int)) = false := by simp; omega
   have e2 : (v14 != 0) = true := by simpa using d2
   have HD := hI d0
   clear d0 d2
   go_wp2_with (with_reducible refine halt_end ?_)
   exact Halt.ret (results_row3 (p := 2) (u := 3) (v := 4) rfl _ _ (w.heap.size + 1) 189 _ _ rfl (HC.out.zero.set3 _ _ _) Tryz.underlying189 rfl size_stamp) rfl (rread_no HL.out HBY.out hno.out (below_set3 (g := w.heap.size + 1) HC.out.bel (by omega) _ _ _))
  by_cases d3 : v15 = 0
  case neg =>
   have hno := hI (show ¬ Right xs from fun h => d3 (by rw [← H15.out]; exact h.2.2.2.1))
   have e0 : (genOf xs == 0) = false := by simpa using d0
   have e1 : decide ((48 : Int) < (fillOf xs : Int)) = false := by simp; omega
   have e3 : (v15 != 0) = true := by simpa using d3
   have e2 : (v14 != 0) = false := by simpa using d2
   have HD := hI d0
   clear d0 d3 d2
   go_wp2_with (with_reducible refine halt_end ?_)
   exact Halt.ret (results_row3 (p := 2) (u := 3) (v := 4) rfl _ _ (w.heap.size + 1) 189 _ _ rfl (HC.out.zero.set3 _ _ _) Tryz.underlying189 rfl size_stamp) rfl (rread_no HL.out HBY.out hno.out (below_set3 (g := w.heap.size + 1) HC.out.bel (by omega) _ _ _))
  have e0 : (genOf xs == 0) = false := by simpa using d0
  have e1 : decide ((48 : Int) < (fillOf xs : Int)) = false := by simp; omega
  have e2 : (v14 != 0) = false := by simpa using d2
  have e3 : (v15 != 0) = false := by simpa using d3
  have HD := hI d0
  have HD1 := hI d1
  have HD2 := hI d2
  have HD3 := hI d3
  have hf48 : fillOf xs ≤ 48 := by omega
  clear d0 d1 d2 d3
  go_wp2_with (with_reducible refine halt_end ?_)
  go_loop [6] (fun i => ∃ k : Nat, 16 + fillOf xs ≤ k ∧ k ≤ 64 ∧ i = .int .i64 k ∧ ∀ j, 16 + fillOf xs ≤ j → j < k → xs.getD j 0 = 0) (fun i => 64 - (intOf i).toNat)
  case atStart => exact ⟨16 + fillOf xs, by omega, by omega, by go_num, fun j h1 h2 => by omega⟩
  case round =>
   obtain ⟨k, hk1, hk2, rfl, hall⟩ := hrel
   by_cases hlt : k < 64
   ·have hcell := HC.out.arr.cell (i := k) (by rw [HL.out]; omega) 0
    generalize hv : xs.getD k 0 = v at *
    have HV := hI hv
    have HALL := hI hall
    clear hv hall
    by_cases dv : v = 0
    ·have ev : (v != 0) = false := by simpa using dv
     have HDV := hI dv
     clear dv
     go_wp2
     go_round
     case rel => exact ⟨k + 1, by omega, by omega, by go_num, fun j h1 h2 => by
      by_cases e : j = k
      ·subst e; rw [HV.out]; exact HDV.out
      ·exact HALL.out j h1 (by omega)⟩
     case measure => (simp [intOf] <;> omega)
    ·have ev : (v != 0) = true := by simpa using dv
     have hno := hI (show ¬ Right xs from fun h => dv (by rw [← HV.out]; exact h.2.2.2.2 k hk1 hlt))
     clear dv
     go_wp2_with (with_reducible refine halt_end ?_)
     exact Halt.ret (results_row3 (p := 2) (u := 3) (v := 4) rfl _ _ (w.heap.size + 1) 189 _ _ rfl (HC.out.zero.set3 _ _ _) Tryz.underlying189 rfl size_stamp) rfl (rread_no HL.out HBY.out hno.out (below_set3 (g := w.heap.size + 1) HC.out.bel (by omega) _ _ _))
   ·obtain rfl : k = 64 := by omega
    have hyes := hI (show Right xs from ⟨by have := HD.out; omega, hf48, by rw [H14.out]; exact HD2.out, by rw [H15.out]; exact HD3.out, hall⟩)
    clear hall
    obtain ⟨hm, hml⟩ := meant_right HL.out hf48
    have c1 := HST.out.cell 1
    simp only [List.getElem?_toArray, List.getElem?_cons_zero, List.getElem?_cons_succ] at c1
    have HM := hI (show RowI .u8 wc.drew (fun b => b < wc.drew.heap.size) (some ⟨w.heap.size, 16, none⟩) (fillOf xs) (meantOf xs) by
     rw [hm]
     exact HC.out.drew.arr.part 16 (fillOf xs) (by rw [HL.out]; omega) HC.out.arr.lt)
    have HML := hI hml
    have q1 : IntKind.i64.wrap (16 + (fillOf xs : Int)) = 16 + (fillOf xs : Int) := IntWalk.i64_in _ ⟨by omega, by omega⟩
    have q2 : 0 ≤ 16 + (fillOf xs : Int) := by omega
    have q3 : (16 + (fillOf xs : Int)).toNat = 16 + fillOf xs := by omega
    have hsl : ∀ W, (Instr.sliceAt 92 (.pointer (some ⟨w.heap.size, 0, none⟩)) (some (.int .i64 16)) (some (.int .i64 (16 + (fillOf xs : Int)))) none).run Tryz.prog W = .ok (.slice (some ⟨w.heap.size, 16, none⟩) (fillOf xs) 48) W := fun W => by
     have h := run_cut_blk w.heap.size 16 (16 + fillOf xs) (by omega) (by omega) (by omega) W
     rw [show 16 + fillOf xs - 16 = fillOf xs by omega, show ((16 + fillOf xs : Nat) : Int) = 16 + (fillOf xs : Int) by omega] at h
     exact h
    clear hm hml q3
    go_wp2_with fail
    go_region_held3 (fun W => W.cell? ⟨g, 0, none⟩ = some (.int .u64 (genOf xs)) ∧ W.cell? ⟨g, 1, none⟩ = some (.int .u32 (posOf xs)) ∧ W.cell? ⟨g, 2, none⟩ = some (.int .i64 (fillOf xs)))
     (first | exact ⟨c0, c1, c2⟩ | exact ⟨d0, d1, d2⟩ | exact ⟨f0, f1, f2⟩)
     ((go_at_call 169; refine (both_any (some ⟨w.heap.size, 16, none⟩) none (fillOf xs) 48 0 0 (meantOf xs) [] (fun b => b < wc.drew.heap.size) wc.drew HM.out (RowG.nil _ _ _ _ _) (fun b h => h) (by omega)).mono ?_; rintro e w7 ⟨A7, c7, rfl, _, _, hr7, hb7⟩; rw [List.append_nil] at *; have HR7 := hI hr7; have HB7 := hI hb7; have HC7 := hI (half_cells HC.out.drew hb7); have hs7 := (Blk.drew HST.out).below hb7 HST.out.lt; have d0 := hs7.cell 0; have d1 := hs7.cell 1; have d2 := hs7.cell 2; clear hr7 hb7 hs7; have x0 := HC7.out.zero.cell 0; have x1 := HC7.out.zero.cell 1; have x2 := HC7.out.zero.cell 2; have v0 := HC7.out.zero.frozen 0; have v1 := HC7.out.zero.frozen 1; have v2 := HC7.out.zero.frozen 2;
       have f0 := (cell_far3 w7 (w.heap.size + 1) (.int .u64 (genOf xs)) (.int .u32 (posOf xs)) (.int .i64 (fillOf xs)) (p := ⟨g, 0, none⟩) (show g ≠ w.heap.size + 1 by have := HGL.out; omega)).trans d0; have f1 := (cell_far3 w7 (w.heap.size + 1) (.int .u64 (genOf xs)) (.int .u32 (posOf xs)) (.int .i64 (fillOf xs)) (p := ⟨g, 1, none⟩) (show g ≠ w.heap.size + 1 by have := HGL.out; omega)).trans d1; have f2 := (cell_far3 w7 (w.heap.size + 1) (.int .u64 (genOf xs)) (.int .u32 (posOf xs)) (.int .i64 (fillOf xs)) (p := ⟨g, 2, none⟩) (show g ≠ w.heap.size + 1 by have := HGL.out; omega)).trans d2;
       simp only [List.getElem?_toArray, List.getElem?_cons_zero, List.getElem?_cons_succ] at d0 d1 d2 x0 x1 x2 f0 f1 f2))
    clear c0 c1 c2 c14 c15 z0 z1 z2 y0 y1 y2 d0 d1 d2 x0 x1 x2 v0 v1 v2 f0 f1 f2
    go_wp2_with (with_reducible refine halt_end ?_)
    have hz := HC7.out.zero.set3 (.int .u64 (genOf xs)) (.int .u32 (posOf xs)) (.int .i64 (fillOf xs))
    refine Halt.ret (results_row3 (p := 2) (u := 3) (v := 4) rfl _ _ (w.heap.size + 1) 189 _ _ rfl hz Tryz.underlying189 rfl size_stamp) rfl
     ⟨fun _ => ⟨_, _, rfl, ?_, below_set3 (g := w.heap.size + 1) HC7.out.bel (by omega) _ _ _⟩, fun h => absurd ((stamped_iff xs HL.out HBY.out).2 hyes.out) (by rw [h]; simp)⟩
    have hl1 := HC.out.zero.lt
    have h6 : wc.drew.heap.size = wc.heap.size := rfl
    refine (HR7.out.keep (fun p hp => cell_far3 w7 (w.heap.size + 1) _ _ _ ?_)).more (fun b hb => ⟨?_, ?_⟩)
    ·have := hp.1
     omega
    ·have := hb.1
     omega
    ·simpa using hb.2
end
section
open Go.RowKit
def RefAt (xss : List (List Int)) (i : Nat) : Prop :=
 stamped (xss.getD i []) = true ∧ genOf (xss.getD i []) = genOf (xss.getD 0 []) ∧ posOf (xss.getD i []) = posOf (xss.getD 0 []) + i ∧ (i + 1 < xss.length → 48 ≤ fillOf (xss.getD i []))
theorem chain_ref {xss : List (List Int)} (hs : Secs xss) (hb : ∀ i, Bytes (xss.getD i [])) : Chain xss ↔ ∀ i, i < xss.length → RefAt xss i := by
 have hfill : ∀ i, i < xss.length → stamped (xss.getD i []) = true → fillOf (xss.getD i []) ≤ 48 := fun i hi h => ((stamped_iff _ (hs.get i hi) (hb i)).1 h).2.1
 have hpos : ∀ i, i < xss.length → 0 ≤ posOf (xss.getD i []) := fun i hi => (pos_bounds (hb i) (hs.get i hi)).1
 constructor
 ·intro h
  have key : ∀ i, i < xss.length → genOf (xss.getD i []) = genOf (xss.getD 0 []) ∧ posOf (xss.getD i []) = posOf (xss.getD 0 []) + i := by
   intro i
   induction i with
   | zero => intro _; simp
   | succ i ih =>
    intro hi
    have ih := ih (by omega)
    have hl := (h (i + 1) hi).2 (by omega)
    simp only [linkB, folB, decide_eq_true_eq, Nat.add_sub_cancel] at hl
    exact ⟨hl.2.1.symm.trans ih.1, by have := hl.2.2.1; have := ih.2; omega⟩
  intro i hi
  refine ⟨(h i hi).1, (key i hi).1, (key i hi).2, fun h1 => ?_⟩
  have hl := (h (i + 1) h1).2 (by omega)
  simp only [linkB, folB, decide_eq_true_eq, Nat.add_sub_cancel] at hl
  omega
 ·intro h i hi
  refine ⟨(h i hi).1, fun h0 => ?_⟩
  obtain ⟨j, rfl⟩ : ∃ j, i = j + 1 := ⟨i - 1, by omega⟩
  have h1 := h j (by omega)
  have h2 := h (j + 1) hi
  have h3 := hfill j (by omega) h1.1
  have h4 := hpos 0 (by omega)
  have h5 := h1.2.2.2 hi
  simp only [linkB, folB, decide_eq_true_eq, Nat.add_sub_cancel]
  refine ⟨by have := h2.2.2.1; omega, h1.2.1.trans h2.2.1.symm, by have := h1.2.2.1; have := h2.2.2.1; omega, by omega⟩
def RJoinBad (w : World) (e : Ending) (w' : World) : Prop := (∃ A n c, e = .returned (.tuple #[.slice A n c, .bool false])) ∧ Below w.heap.size w w'
def firstOf (xss : List (List Int)) (k : Nat) : Array Value := if k = 0 then #[.int .u64 0, .int .u32 0, .int .i64 0] else #[.int .u64 (genOf (xss.getD 0 [])), .int .u32 (posOf (xss.getD 0 [])), .int .i64 (fillOf (xss.getD 0 []))]
structure RJoining (xss : List (List Int)) (w wr : World) (o : Value) (k : Nat) : Prop where
 own : ∃ A c, o = .slice A (meants (xss.take k)).length c ∧ RowI .u8 wr (fun b => w.heap.size + 1 ≤ b ∧ b < wr.heap.size) A (meants (xss.take k)).length (meants (xss.take k))
 st : Blk wr w.heap.size 189 (firstOf xss k)
 bel : Below w.heap.size w wr
 chain : ∀ i, i < k → RefAt xss i
theorem not_ref {xss : List (List Int)} (hs : Secs xss) (hb : ∀ i, Bytes (xss.getD i [])) {k : Nat} (hk : k < xss.length) (h : ¬ RefAt xss k) : ¬ (1 ≤ xss.length ∧ Chain xss) := fun hc => h ((chain_ref hs hb).1 hc.2 k hk)
end
section
open Go.RowKit
def filled (ys : List Int) (k : Nat) : List Int := ys.take k ++ noughts (64 - k)
theorem filled_length (ys : List Int) (k : Nat) (h : k ≤ ys.length) (h64 : k ≤ 64) : (filled ys k).length = 64 := by simp [filled, noughts_length]; omega
theorem filled_set (ys : List Int) (k : Nat) (h : k < ys.length) (h64 : k < 64) : (filled ys k).set k (ys.getD k 0) = filled ys (k + 1) := by
 apply getD_ext
 ·rw [List.length_set, filled_length _ _ (by omega) (by omega), filled_length _ _ (by omega) (by omega)]
 ·intro j hj
  rw [List.length_set, filled_length _ _ (by omega) (by omega)] at hj
  have hn : ∀ n i, (noughts n).getD i 0 = 0 := noughts_get
  by_cases e : j = k
  ·subst e
   have h1 : (filled ys j).length = 64 := filled_length _ _ (by omega) (by omega)
   simp only [List.getD, List.getElem?_set_self (show j < (filled ys j).length by omega), Option.getD_some]
   simp only [filled, List.getElem?_append, List.length_take]
   rw [if_pos (by omega), List.getElem?_take, if_pos (by omega)]
  ·have h2 : ((filled ys k).set k (ys.getD k 0)).getD j 0 = (filled ys k).getD j 0 := by
    simp only [List.getD, List.getElem?_set_ne (fun h => e h.symm)]
   rw [h2]
   simp only [filled, List.getD, List.getElem?_append, List.length_take]
   by_cases h3 : j < k
   ·rw [if_pos (by omega), if_pos (by omega), List.getElem?_take, List.getElem?_take, if_pos h3, if_pos (by omega)]
   ·rw [if_neg (by omega), if_neg (by omega)]
    have a := hn (64 - k) (j - min k ys.length)
    have b := hn (64 - (k + 1)) (j - min (k + 1) ys.length)
    simp only [List.getD] at a b
    rw [a, b]
theorem block_any (gen pos : Int) (A : Option Addr) (n cap : Nat) (xs : List Int) (S : Nat → Prop) (w : World) (hx : RowI .u8 w S A n xs) (hS : ∀ b, S b → b < w.heap.size)
 (hg : 0 ≤ gen) (hg2 : gen ≤ 18446744073709551615) (hp : 0 ≤ pos) (hp2 : pos ≤ 4294967295) (hn : n ≤ 48) :
 Calls Tryz.prog 170 #[.int .u64 gen, .int .u32 pos, .slice A n cap] w fun e w' => e = .returned (.agg (cells8 (packL gen pos xs))) ∧ Below w.heap.size w w' := by
 have HX := hI hx
 have HL := hI hx.1
 clear hx
 go_enter Tryz.func170, Tryz.ntmps170
 go_wp2_with (refine wpList_alloc_blk rfl rfl ?_)
 generalize hw1 : w.alloc (.cells (cells8 (noughts 64)) 92) = w1
 have HB1 := hI (show Below w.heap.size w w1 by rw [← hw1]; exact (Below.refl _ _).alloc (nR _) _)
 have HR1 := hI (show ArrB w1 w.heap.size (noughts 64) by rw [← hw1]; exact Blk.new w _ _)
 clear hw1
 refine (high_any gen 8 w1 hg hg2 (by omega)).mono ?_
 rintro e w2 ⟨rfl, ha, hb⟩
 have HA2 := hI ha
 have HB2 := hI hb
 clear ha hb
 go_wp2_with fail
 refine (high_any pos 4 w2 hp (by omega) (by omega)).mono ?_
 rintro e w3 ⟨rfl, ha, hb⟩
 have HA3 := hI ha
 have HA23 := hI (HA2.out.below hb HA2.out.lt)
 have HB3 := hI (HB2.out.trans (hb.mono HB2.out.size))
 clear ha hb
 go_wp2_with fail
 refine (both_any _ _ 8 8 4 4 (beBytes gen 8) (beBytes pos 4) (fun b => b < w3.heap.size) w3 (HA23.out.rowN 0 (beBytes_length _ _) HA23.out.lt) (HA3.out.rowN 0 (beBytes_length _ _) HA3.out.lt) (fun b h => h) (by omega)).mono ?_
 rintro e w4 ⟨A4, c4, rfl, hn4, hc4, hr4, hb⟩
 rw [show (beBytes gen 8 ++ beBytes pos 4).length = 12 by simp [beBytes_length]] at *
 have HR4 := hI hr4
 have HB4 := hI (HB3.out.trans (hb.mono HB3.out.size))
 clear hn4 hc4 hr4 hb
 go_wp2_with fail
 refine (high_any n 2 w4 (by omega) (by omega) (by omega)).mono ?_
 rintro e w5 ⟨rfl, ha, hb⟩
 have HA5 := hI ha
 have HR45 := hI (HR4.out.below hb (fun b h => h.2))
 have HS5 := hI hb.size
 have HB5 := hI (HB4.out.trans (hb.mono HB4.out.size))
 clear ha hb
 go_wp2_with fail
 refine (both_any _ _ 12 c4 2 2 (beBytes gen 8 ++ beBytes pos 4) (beBytes n 2) (fun b => b < w5.heap.size) w5 (HR45.out.more (fun b h => nL h.2 HS5.out)) (HA5.out.rowN 0 (beBytes_length _ _) HA5.out.lt) (fun b h => h) (by omega)).mono ?_
 rintro e w6 ⟨A6, c6, rfl, hn6, hc6, hr6, hb⟩
 rw [show (beBytes gen 8 ++ beBytes pos 4 ++ beBytes n 2).length = 14 by simp [beBytes_length]] at *
 have HR6 := hI hr6
 have HB6 := hI (HB5.out.trans (hb.mono HB5.out.size))
 clear hn6 hc6 hr6 hb
 go_wp2_with fail
 generalize hw7 : w6.alloc _ = w7
 have hb7 : Below w6.heap.size w6 w7 := by rw [← hw7]; exact (Below.refl _ _).alloc (nR _) _
 have HZ7 := hI (show ArrU w7 w6.heap.size (beBytes 0 2) by rw [← hw7]; exact Blk.new w6 5 #[.int .u8 0, .int .u8 0])
 have HR7 := hI (HR6.out.below hb7 (fun b h => h.2))
 have HS7 := hI hb7.size
 have HB7 := hI (HB6.out.trans (hb7.mono HB6.out.size))
 clear hw7 hb7
 refine (both_any _ _ 14 c6 2 2 (beBytes gen 8 ++ beBytes pos 4 ++ beBytes n 2) (beBytes 0 2) (fun b => b < w7.heap.size) w7 (HR7.out.more (fun b h => nL h.2 HS7.out)) (HZ7.out.rowN 0 (beBytes_length _ _) HZ7.out.lt) (fun b h => h) (by omega)).mono ?_
 rintro e w8 ⟨A8, c8, rfl, hn8, hc8, hr8, hb⟩
 rw [show beBytes gen 8 ++ beBytes pos 4 ++ beBytes n 2 ++ beBytes 0 2 = headL gen pos xs.length by rw [headL, HL.out]] at *
 rw [headL_length] at *
 have HR8 := hI hr8
 have HS8 := hI hb.size
 have HB8 := hI (HB7.out.trans (hb.mono HB7.out.size))
 have HX8 := hI ((HX.out.below HB1.out hS).below HB8.out (fun b h => nL (hS b h) HB1.out.size))
 clear hn8 hc8 hr8 hb
 go_wp2_with fail
 refine (both_any _ _ 16 c8 n cap (headL gen pos xs.length) xs (fun b => b < w8.heap.size) w8 (HR8.out.more (fun b h => h.2)) (HX8.out.more (fun b h => nL (hS b h) (nT HB1.out.size HB8.out.size))) (fun b h => h) (by omega)).mono ?_
 rintro e w9 ⟨A9, c9, rfl, hn9, hc9, hr9, hb⟩
 have hlen : (headL gen pos xs.length ++ xs).length = 16 + n := by rw [List.length_append, headL_length, HL.out]
 rw [hlen] at hr9 hc9
 rw [hlen]
 generalize hys : headL gen pos xs.length ++ xs = ys at *
 have HYS := hI hys
 have HLEN := hI hlen
 have HR9 := hI hr9
 have HB9 := hI (HB8.out.trans (hb.mono HB8.out.size))
 obtain ⟨w10, hw10⟩ : ∃ w10, w10 = w9.alloc (.cells (cells8 (noughts 64)) 92) := ⟨_, rfl⟩
 have hb10 : Below w9.heap.size w9 w10 := by rw [hw10]; exact (Below.refl _ _).alloc (nR _) _
 have HW10 := hI hw10
 have HA10 := hI (show ArrB w10 w9.heap.size (noughts 64) by rw [hw10]; exact Blk.new w9 _ _)
 have HB10 := hI (HB9.out.trans (hb10.mono HB9.out.size))
 have HR10 := hI (HR9.out.below hb10 (fun b h => h.2))
 have HS9 := hI HB9.out.size
 have HS10 := hI hb10.size
 clear hn9 hc9 hr9 hb hw10 hb10 hys hlen
 go_wp2_with (refine wpList_alloc_blk rfl rfl ?_; rw [← HW10.out])
 go_loopw [9] (fun i wr => ∃ k : Nat, k ≤ 16 + n ∧ i = .int .i64 k ∧ ArrB wr w9.heap.size (filled ys k) ∧ Kept (fun b => b < w10.heap.size ∧ b ≠ w9.heap.size) w10 wr) (fun i _ => 16 + n - (intOf i).toNat)
 case atStart => exact ⟨0, by omega, rfl, by simpa [filled] using HA10.out, Kept.refl _ _⟩
 case round =>
  obtain ⟨k, hk, rfl, harr, hkept⟩ := hrel
  by_cases hlt : k < 16 + n
  ·obtain ⟨b, off, rfl, hb, hc⟩ := (HR10.out.kept hkept (fun b h => ⟨nL h.2 HS10.out, by have := h.2; omega⟩)).2 (by omega)
   have hcell := hc k hlt
   have hl := filled_length ys k (by have := HLEN.out; omega) (by omega)
   have hold := harr.cell (i := k) (by omega) 0
   have hfr := harr.frozen k
   have hset := harr.set k (ys.getD k 0)
   rw [filled_set ys k (by have := HLEN.out; omega) (by omega)] at hset
   generalize ys.getD k 0 = v at *
   generalize (filled ys k).getD k 0 = v0 at *
   have HSET := hI hset
   have HK := hI hkept
   clear hc harr hkept hset hl
   go_wp2
   go_roundw
   case rel => exact ⟨k + 1, by omega, by go_num, HSET.out, HK.out.setCell (fun h => h.2 rfl) _⟩
   case measure => (simp [intOf] <;> omega)
  ·obtain rfl : k = 16 + n := by omega
   have hfin : filled ys (16 + n) = packL gen pos xs := by
    unfold filled packL
    rw [List.take_of_length_le (by have := HLEN.out; omega), HYS.out.symm, HL.out, show 64 - (16 + n) = 48 - n by omega]
   rw [hfin] at harr
   have HA := hI harr
   have HK := hI hkept
   have HPL := hI (packL_length gen pos xs (by have := HL.out; omega))
   have HRR := hI ((HR1.out.below HB10.out HR1.out.lt).kept hkept ⟨by have := HR1.out.lt; have := HB10.out.size; omega, by have := HR1.out.lt; have := HS9.out; omega⟩)
   clear harr hkept hfin
   go_wp2_with (first
    | (with_reducible refine halt_end ?_)
    | (refine wpList_load_blk (.tmp 8) rfl rfl w9.heap.size 0 rfl (packL gen pos xs) HPL.out HA.out.range ?_)
    | (refine wpList_store_blk (.tmp 6) (.tmp 40) rfl rfl w.heap.size (packL gen pos xs) rfl rfl 92 (noughts 64) HRR.out (noughts_length 64) HPL.out ?_))
   refine Halt.ret (results_blk1 rfl _ _ w.heap.size 92 (packL gen pos xs) rfl (HRR.out.setRow (packL gen pos xs)) HPL.out) rfl ⟨rfl, below_setRow ((HB1.out.trans (HB10.out.mono HB1.out.size)).trans (HK.out.to_below fun b hb => ⟨?_, ?_⟩)) (nR _) _⟩
   ·have := HB1.out.size; have := HB10.out.size; omega
   ·have := HB1.out.size; have := HS9.out; omega
end
section
open Go.RowKit
theorem rsectors_any_s5 (n : Nat) (w : World) (hn : n ≤ 16384) : Calls Tryz.prog 173 #[.int .i64 n] w fun e w' => e = .returned (.int .i64 (cntOf n)) ∧ w = w' := by
 have hc := cnt_bounds n hn
 have hce : cntOf n = (n - 1) / 48 + 1 := rfl
 generalize cntOf n = c at *
 have HC := hI hce
 clear hce
 go_enter Tryz.func173, Tryz.ntmps173
 go_wp2
 go_loop [3] (fun i => ∃ k : Nat, 1 ≤ k ∧ k ≤ c ∧ i = .int .i64 k) (fun i => c - (intOf i).toNat)
 case atStart => exact ⟨1, by omega, by omega, rfl⟩
 case round =>
  obtain ⟨k, h1, h2, rfl⟩ := hrel
  by_cases hlt : k < c
  ·have hl : (k : Int) * 48 < n := by have := HC.out; omega
   have hk : (k : Int) ≤ 342 := by omega
   go_wp2
   go_round
   case rel => exact ⟨k + 1, by omega, by omega, by go_num⟩
   case measure => (simp [intOf] <;> omega)
  ·obtain rfl : k = c := by omega
   have hl : ¬ (k : Int) * 48 < n := by omega
   have hk : (k : Int) ≤ 342 := by omega
   go_wp2
   go_ret
   exact ⟨rfl, rfl⟩
end
section
open Go.RowKit
theorem blocks_of {w : World} {a : Option Addr} {len cap : Nat} {zss : List (List Int)} (h : IsBlocks w a len cap zss) :
 RowK w (· < w.heap.size) a len (zss.take len) ∧ Secs (zss.take len) ∧ (∀ i, Bytes ((zss.take len).getD i [])) ∧ len ≤ cap ∧ (a = none → cap = 0) := by
 rcases h with ⟨rfl, rfl, rfl, rfl⟩ | ⟨x, rfl, hl, hm, hz, hc⟩
 ·exact ⟨RowK.nil _ _ _, fun xs hx => by simp at hx, fun i => by simp [Bytes], nR _, fun _ => rfl⟩
 ·have hget : ∀ i, i < len → (zss.take len).getD i [] = zss.getD i [] := fun i hi => by simp [List.getD, List.getElem?_take, hi]
  refine ⟨⟨by simp; omega, fun hn => ?_⟩, fun xs hx => ?_, fun i => ?_, hl, fun h => by cases h⟩
  ·obtain ⟨b, off, spot⟩ := x
   have h0 := (hc 0 (by omega)).2.2 0 (by omega)
   have hspot : spot = none := by simpa [Addr.add] using World.cell?_spot h0
   subst hspot
   have hb : b < w.heap.size := by
    have h0' : w.cell? ⟨b, off, none⟩ = some (.int .u8 ((zss.getD 0 []).getD 0 0)) := by simpa [Addr.add] using h0
    exact block_lt_of_cell h0'
   refine ⟨b, off, rfl, hb, fun i hi j v hv => ?_⟩
   rw [hget i hi] at hv
   obtain ⟨hj, rfl⟩ := map_get hv
   have h1 := hc i (by omega)
   have h2 := h1.2.2 j (by rw [h1.1] at hj; exact hj)
   rw [add_plain] at h2
   rw [Nat.add_assoc]
   exact h2
  ·obtain ⟨i, hi, rfl⟩ := List.getElem_of_mem hx
   have hi' : i < len := by simp at hi; omega
   have := (hc i (by omega)).1
   rw [← hget i hi'] at this
   simpa [List.getD, List.getElem?_eq_getElem hi] using this
  ·by_cases hi : i < len
   ·rw [hget i hi]
    exact (hc i (by omega)).2.1
   ·have : (zss.take len).getD i [] = [] := by simp [List.getD, List.getElem?_take, hi]
    rw [this]
    intro j
    simp
end
section
open Go.RowKit
theorem size_head : (Tryz.prog.info? 216).map (·.size) = some 6 := by kernel_rfl
theorem size_rec : (Tryz.prog.info? 69).map (·.size) = some 6 := by kernel_rfl
abbrev headC (k f x s n m : Int) : Array Value := #[.int .i64 k, .int .u32 f, .int .u32 x, .int .u64 s, .int .i64 n, .int .i64 m]
abbrev recC (k f x s : Int) (A : Option Addr) (n c : Nat) (A' : Option Addr) (n' c' : Nat) : Array Value := #[.int .i64 k, .int .u32 f, .int .u32 x, .int .u64 s, .slice A n c, .slice A' n' c']
theorem one_head (k f x s n m : Int) : (headC k f x s n m).all (·.oneCell') = true := by simp [headC, Value.oneCell']
theorem one_rec (k f x s : Int) (A : Option Addr) (n c : Nat) (A' : Option Addr) (n' c' : Nat) : (recC k f x s A n c A' n' c').all (·.oneCell') = true := by simp [recC, Value.oneCell']
theorem headOf_any (k f x s : Int) (A A' : Option Addr) (n c n' c' : Nat) (w : World) :
 Calls Tryz.prog 128 #[.agg #[.int .i64 k, .int .u32 f, .int .u32 x, .int .u64 s, .slice A n c, .slice A' n' c']] w fun e w' =>
  e = .returned (.agg #[.int .i64 k, .int .u32 f, .int .u32 x, .int .u64 s, .int .i64 n, .int .i64 n']) ∧ Below w.heap.size w w' := by
 go_enter Tryz.func128, Tryz.ntmps128
 go_wp2_with (with_reducible refine halt_end ?_)
 have hg : Blk ((w.alloc (.cells (recC k f x s A n c A' n' c') 69)).alloc (.cells (headC k f x s n n') 216)) (w.heap.size + 1) 216 (headC k f x s n n') := by
  exact blk_new2 w _ _ _
 exact Halt.ret (results_row1 rfl _ _ (w.heap.size + 1) 216 (headC k f x s n n') _ rfl hg Tryz.underlying216 rfl size_head) rfl
  ⟨rfl, ((Below.refl _ _).alloc (nR _) _).alloc (by simp) _⟩
def May (k f x s : Int) (n m : Nat) : Prop := s ≠ 0 ∧ 1 ≤ n ∧ n ≤ 250 ∧ m ≤ 512 ∧ (k = 1 ∨ k = 2 ∧ f = 0 ∧ x = 0 ∧ m = 0)
instance aI6Head0 (k f x s : Int) (n m : Nat) : Decidable (May k f x s n m) := by unfold May; infer_instance
theorem may_yes (k f x s : Int) (n m : Nat) (w : World) (h : May k f x s n m) :
 Calls Tryz.prog 129 #[.agg #[.int .i64 k, .int .u32 f, .int .u32 x, .int .u64 s, .int .i64 n, .int .i64 m]] w fun e w' => e = .returned (.bool true) ∧ Below w.heap.size w w' := by
 obtain ⟨h1, h2, h3, h4, h5⟩ := h
 have d1 : (s == 0) = false := by simpa using h1
 have d2 : decide ((n : Int) < 1) = false := by simp; omega
 have d3 : decide ((250 : Int) < n) = false := by simp; omega
 have d4 : decide ((512 : Int) < m) = false := by simp; omega
 rcases h5 with rfl | ⟨rfl, rfl, rfl, rfl⟩
 ·go_enter Tryz.func129, Tryz.ntmps129
  go_wp2
  go_ret
  exact ⟨rfl, (Below.refl _ _).alloc (nR _) _⟩
 ·go_enter Tryz.func129, Tryz.ntmps129
  go_wp2
  go_ret
  exact ⟨rfl, (Below.refl _ _).alloc (nR _) _⟩
theorem may_no (k f x s : Int) (n m : Nat) (w : World) (h : ¬ May k f x s n m) :
 Calls Tryz.prog 129 #[.agg #[.int .i64 k, .int .u32 f, .int .u32 x, .int .u64 s, .int .i64 n, .int .i64 m]] w fun e w' => e = .returned (.bool false) ∧ Below w.heap.size w w' := by
 unfold May at h
 by_cases h1 : s = 0
 ·subst h1
  clear h
  go_enter Tryz.func129, Tryz.ntmps129
  go_wp2
  go_ret
  exact ⟨rfl, (Below.refl _ _).alloc (nR _) _⟩
 have d1 : (s == 0) = false := by simpa using h1
 by_cases h2 : 1 ≤ n
 case neg =>
  have d2 : decide ((n : Int) < 1) = true := by simp; omega
  clear h h2
  go_enter Tryz.func129, Tryz.ntmps129
  go_wp2
  go_ret
  exact ⟨rfl, (Below.refl _ _).alloc (nR _) _⟩
 have d2 : decide ((n : Int) < 1) = false := by simp; omega
 by_cases h3 : n ≤ 250
 case neg =>
  have d3 : decide ((250 : Int) < n) = true := by simp; omega
  clear h h3
  go_enter Tryz.func129, Tryz.ntmps129
  go_wp2
  go_ret
  exact ⟨rfl, (Below.refl _ _).alloc (nR _) _⟩
 have d3 : decide ((250 : Int) < n) = false := by simp; omega
 by_cases h4 : m ≤ 512
 case neg =>
  have d4 : decide ((512 : Int) < m) = true := by simp; omega
  clear h h4
  go_enter Tryz.func129, Tryz.ntmps129
  go_wp2
  go_ret
  exact ⟨rfl, (Below.refl _ _).alloc (nR _) _⟩
 have d4 : decide ((512 : Int) < m) = false := by simp; omega
 have h5 : k ≠ 1 := fun e => h ⟨h1, h2, h3, h4, .inl e⟩
 have d5 : (k == 1) = false := by simpa using h5
 by_cases h6 : k = 2
 case neg =>
  have d6 : (k == 2) = false := by simpa using h6
  clear h h6 h5 h1
  go_enter Tryz.func129, Tryz.ntmps129
  go_wp2
  go_ret
  exact ⟨rfl, (Below.refl _ _).alloc (nR _) _⟩
 subst h6
 clear d5 h5
 by_cases h7 : f = 0
 case neg =>
  have d7 : (f == 0) = false := by simpa using h7
  clear h h7 h1
  go_enter Tryz.func129, Tryz.ntmps129
  go_wp2
  go_ret
  exact ⟨rfl, (Below.refl _ _).alloc (nR _) _⟩
 subst h7
 by_cases h8 : x = 0
 case neg =>
  have d8 : (x == 0) = false := by simpa using h8
  clear h h8 h1
  go_enter Tryz.func129, Tryz.ntmps129
  go_wp2
  go_ret
  exact ⟨rfl, (Below.refl _ _).alloc (nR _) _⟩
 subst h8
 have h9 : m ≠ 0 := fun e => h ⟨h1, h2, h3, h4, .inr ⟨rfl, rfl, rfl, e⟩⟩
 have d9 : ((m : Int) == 0) = false := by simp; omega
 clear h h9 h1
 go_enter Tryz.func129, Tryz.ntmps129
 go_wp2
 go_ret
 exact ⟨rfl, (Below.refl _ _).alloc (nR _) _⟩
theorem size_any (k f x s : Int) (n m : Nat) (w : World) (hn : n ≤ 250) (hm : m ≤ 512) :
 Calls Tryz.prog 231 #[.agg #[.int .i64 k, .int .u32 f, .int .u32 x, .int .u64 s, .int .i64 n, .int .i64 m]] w fun e w' => e = .returned (.int .i64 ((21 + n + m : Nat) : Int)) ∧ Below w.heap.size w w' := by
 go_enter Tryz.func231, Tryz.ntmps231
 go_wp2
 go_ret
 exact ⟨ret_int (by omega), (Below.refl _ _).alloc (nR _) _⟩
end
section
open Go.RowKit
theorem u8_ok (w : World) (r g : Nat) (xs : List Int) (pos : Nat) (h : Rd w r g xs pos 0) (hn : 1 ≤ xs.length - pos) (hb : Bytes xs) :
 Calls Tryz.prog 241 #[.pointer (some ⟨r, 0, none⟩)] w fun e w' =>
  e = .returned (.int .u8 (numOf ((xs.drop pos).take 1))) ∧ Rd w' r g xs (pos + 1) 0 ∧ Kept (fun b => b < w.heap.size ∧ b ≠ r) w w' := by
 have H := hI h
 have HB := hI hb
 have hl : ((xs.drop pos).take 1).length = 1 := by simp; omega
 have hbt : Bytes ((xs.drop pos).take 1) := by
  have : Bytes (xs.drop pos) := fun j => by have := hb (pos + j); simpa [List.getD, List.getElem?_drop] using this
  exact this.take 1
 have hv := numOf_bounds _ hbt
 rw [hl] at hv
 have hv1 : numOf ((xs.drop pos).take 1) < 256 := hv.2
 have hv0 := hv.1
 clear h hb hbt hv hl
 go_enter Tryz.func241, Tryz.ntmps241
 go_wp2_with (go_at_call 250; refine (number_ok _ r g xs pos 1 H.out hn (by omega) HB.out).mono ?_; rintro e w1 ⟨rfl, hrd, hk⟩; have HD := hI hrd; have HK := hI hk; clear hrd hk)
 go_ret
 exact ⟨ret_int (by omega), HD.out, HK.out⟩
theorem part_bounds {xs : List Int} (hb : Bytes xs) (i n : Nat) : 0 ≤ numOf ((xs.drop i).take n) ∧ numOf ((xs.drop i).take n) < ((256 ^ n : Nat) : Int) := by
 have hd : Bytes ((xs.drop i).take n) := by
  have : Bytes (xs.drop i) := fun j => by have := hb (i + j); simpa [List.getD, List.getElem?_drop] using this
  exact this.take n
 have h := numOf_bounds _ hd
 have h2 : ((xs.drop i).take n).length ≤ n := by simp; omega
 have h3 : (256 ^ ((xs.drop i).take n).length : Nat) ≤ 256 ^ n := Nat.pow_le_pow_right (by omega) h2
 exact ⟨h.1, by omega⟩
def kindOf (xs : List Int) : Int := numOf (xs.take 1)
def flagsOf (xs : List Int) : Int := numOf ((xs.drop 1).take 4)
def expOf (xs : List Int) : Int := numOf ((xs.drop 5).take 4)
def seqOf (xs : List Int) : Int := numOf ((xs.drop 9).take 8)
def klenOf (xs : List Int) : Nat := (numOf ((xs.drop 17).take 2)).toNat
def vlenOf (xs : List Int) : Nat := (numOf ((xs.drop 19).take 2)).toNat
theorem klen_eq {xs : List Int} (hb : Bytes xs) : numOf ((xs.drop 17).take 2) = (klenOf xs : Int) := by have := (part_bounds hb 17 2).1; unfold klenOf; omega
theorem vlen_eq {xs : List Int} (hb : Bytes xs) : numOf ((xs.drop 19).take 2) = (vlenOf xs : Int) := by have := (part_bounds hb 19 2).1; unfold vlenOf; omega
theorem klen_lt {xs : List Int} (hb : Bytes xs) : klenOf xs < 65536 := by have := (part_bounds hb 17 2).2; unfold klenOf; omega
theorem vlen_lt {xs : List Int} (hb : Bytes xs) : vlenOf xs < 65536 := by have := (part_bounds hb 19 2).2; unfold vlenOf; omega
structure Heading (w wi : World) (r g : Nat) (xs : List Int) (pos : Nat) (cs : Array Value) : Prop where
 rd : Rd wi r g xs pos 0
 lo : r < w.heap.size
 lo' : g < w.heap.size
 res : Blk wi w.heap.size 216 #[.int .i64 0, .int .u32 0, .int .u32 0, .int .u64 0, .int .i64 0, .int .i64 0]
 st : Blk wi (w.heap.size + 1) 216 cs
 kept : Kept (fun b => b < w.heap.size ∧ b ≠ r) w wi
theorem Heading.read {w wi w' : World} {r g : Nat} {xs : List Int} {pos pos' : Nat} {cs : Array Value} (h : Heading w wi r g xs pos cs) (hr : Rd w' r g xs pos' 0) (hk : Kept (fun b => b < wi.heap.size ∧ b ≠ r) wi w') : Heading w w' r g xs pos' cs :=
 ⟨hr, h.lo, h.lo', h.res.kept hk ⟨h.res.lt, by have := h.lo; omega⟩, h.st.kept hk ⟨h.st.lt, by have := h.lo; omega⟩, h.kept.trans hk fun b hb => ⟨nL hb.1 h.kept.size, hb.2⟩⟩
theorem Heading.set {w wi : World} {r g : Nat} {xs : List Int} {pos : Nat} {cs cs' : Array Value} (h : Heading w wi r g xs pos cs) (i : Nat) (u : Value) (hu : cs.setIfInBounds i u = cs') :
 Heading w (wi.setCell ⟨w.heap.size + 1, i, none⟩ u) r g xs pos cs' :=
 ⟨h.rd.far (by have := h.lo; show w.heap.size + 1 ≠ r; omega) (by have := h.lo'; show w.heap.size + 1 ≠ g; omega) u, h.lo, h.lo', h.res.far (by show w.heap.size ≠ w.heap.size + 1; omega) u, hu ▸ h.st.set_ i u, h.kept.setCell (by show ¬ (w.heap.size + 1 < w.heap.size ∧ w.heap.size + 1 ≠ r); omega) u⟩
def HeadTold (xs : List Int) (r g : Nat) (w : World) (e : Ending) (w' : World) : Prop :=
 e = .returned (.agg #[.int .i64 (kindOf xs), .int .u32 (flagsOf xs), .int .u32 (expOf xs), .int .u64 (seqOf xs), .int .i64 (klenOf xs), .int .i64 (vlenOf xs)]) ∧
  Rd w' r g xs 21 0 ∧ Kept (fun b => b < w.heap.size ∧ b ≠ r) w w'
theorem readHead_ok (xs : List Int) (w : World) (r g : Nat) (h : Rd w r g xs 0 0) (hl : 21 ≤ xs.length) (hb : Bytes xs) (hr : r < w.heap.size) (hg : g < w.heap.size) :
 Calls Tryz.prog 211 #[.pointer (some ⟨r, 0, none⟩)] w (HeadTold xs r g w) := by
 have HBY := hI hb
 have HRD := hI h
 have hk8 := part_bounds hb 0 1
 rw [List.drop_zero] at hk8
 have hk0 : 0 ≤ kindOf xs := hk8.1
 have hk1 : kindOf xs < 256 := hk8.2
 have hkl := klen_lt hb
 have hvl := vlen_lt hb
 clear hb h hk8
 go_enter Tryz.func211, Tryz.ntmps211
 go_wp2_with fail
 generalize hw1 : (w.alloc _).alloc _ = w1
 have HY0 := hI (show Heading w w1 r g xs 0 #[.int .i64 0, .int .u32 0, .int .u32 0, .int .u64 0, .int .i64 0, .int .i64 0] by
  rw [← hw1]
  have hk : Kept (fun b => b < w.heap.size) w ((w.alloc (.cells #[.int .i64 0, .int .u32 0, .int .u32 0, .int .u64 0, .int .i64 0, .int .i64 0] 216)).alloc (.cells #[.int .i64 0, .int .u32 0, .int .u32 0, .int .u64 0, .int .i64 0, .int .i64 0] 216)) :=
   ((Kept.refl _ w).alloc (fun b h => h) _).alloc (fun b h => by simp; omega) _
  exact ⟨HRD.out.kept hk hr hg, hr, hg, (Blk.new w _ _).alloc _, blk_new2 w _ _ _, hk.mono fun b h => h.1⟩)
 clear hw1
 refine (u8_ok _ r g xs 0 HY0.out.rd (by omega) HBY.out).mono ?_
 rintro e w2 ⟨rfl, hrd, hk⟩
 rw [List.drop_zero, show numOf (xs.take 1) = kindOf xs from rfl]
 have HY1 := hI ((HY0.out.read hrd hk).set 0 (.int .i64 (kindOf xs)) rfl)
 have hc := (HY0.out.read hrd hk).st.cell 0
 have hf := (HY0.out.read hrd hk).st.frozen 0
 clear hrd hk
 go_wp2_with fail
 clear hc hf
 refine (u32_ok _ r g xs 1 HY1.out.rd (by omega) HBY.out).mono ?_
 rintro e w3 ⟨rfl, hrd, hk⟩
 rw [show numOf ((xs.drop 1).take 4) = flagsOf xs from rfl]
 have HY2 := hI ((HY1.out.read hrd hk).set 1 (.int .u32 (flagsOf xs)) rfl)
 have hc := (HY1.out.read hrd hk).st.cell 1
 have hf := (HY1.out.read hrd hk).st.frozen 1
 clear hrd hk
 go_wp2_with fail
 clear hc hf
 refine (u32_ok _ r g xs 5 HY2.out.rd (by omega) HBY.out).mono ?_
 rintro e w4 ⟨rfl, hrd, hk⟩
 rw [show numOf ((xs.drop 5).take 4) = expOf xs from rfl]
 have HY3 := hI ((HY2.out.read hrd hk).set 2 (.int .u32 (expOf xs)) rfl)
 have hc := (HY2.out.read hrd hk).st.cell 2
 have hf := (HY2.out.read hrd hk).st.frozen 2
 clear hrd hk
 go_wp2_with fail
 clear hc hf
 refine (u64_ok _ r g xs 9 HY3.out.rd (by omega) HBY.out).mono ?_
 rintro e w5 ⟨rfl, hrd, hk⟩
 rw [show numOf ((xs.drop 9).take 8) = seqOf xs from rfl]
 have HY4 := hI ((HY3.out.read hrd hk).set 3 (.int .u64 (seqOf xs)) rfl)
 have hc := (HY3.out.read hrd hk).st.cell 3
 have hf := (HY3.out.read hrd hk).st.frozen 3
 clear hrd hk
 go_wp2_with fail
 clear hc hf
 refine (u16_ok _ r g xs 17 HY4.out.rd (by omega) HBY.out).mono ?_
 rintro e w6 ⟨rfl, hrd, hk⟩
 rw [klen_eq HBY.out]
 have HY5 := hI ((HY4.out.read hrd hk).set 4 (.int .i64 (klenOf xs)) rfl)
 have hc := (HY4.out.read hrd hk).st.cell 4
 have hf := (HY4.out.read hrd hk).st.frozen 4
 clear hrd hk
 go_wp2_with fail
 clear hc hf
 refine (u16_ok _ r g xs 19 HY5.out.rd (by omega) HBY.out).mono ?_
 rintro e w7 ⟨rfl, hrd, hk⟩
 rw [vlen_eq HBY.out]
 have HY6 := hI ((HY5.out.read hrd hk).set 5 (.int .i64 (vlenOf xs)) rfl)
 have hc := (HY5.out.read hrd hk).st.cell 5
 have hf := (HY5.out.read hrd hk).st.frozen 5
 clear hrd hk
 go_wp2_with (first
  | (refine wpList_load_rowB (.tmp 3) 216 rfl rfl (w.heap.size + 1) rfl 216 [.int .i64 (kindOf xs), .int .u32 (flagsOf xs), .int .u32 (expOf xs), .int .u64 (seqOf xs), .int .i64 (klenOf xs), .int .i64 (vlenOf xs)] _ Tryz.underlying216 rfl size_head HY6.out.st ?_)
  | (refine wpList_store_rowB (.tmp 2) (.tmp 25) 216 rfl rfl w.heap.size #[.int .i64 (kindOf xs), .int .u32 (flagsOf xs), .int .u32 (expOf xs), .int .u64 (seqOf xs), .int .i64 (klenOf xs), .int .i64 (vlenOf xs)] rfl rfl 216 _ HY6.out.res size_head rfl (one_head _ _ _ _ _ _) ?_)
  | (with_reducible refine halt_end ?_))
 have hst := setRow_heap _ _ _ (headC (kindOf xs) (flagsOf xs) (expOf xs) (seqOf xs) (klenOf xs) (vlenOf xs)) _ _ HY6.out.res
 refine Halt.ret (results_row1 rfl _ _ w.heap.size 216 (headC (kindOf xs) (flagsOf xs) (expOf xs) (seqOf xs) (klenOf xs) (vlenOf xs)) _ rfl hst Tryz.underlying216 rfl size_head) rfl ⟨rfl, ?_, ?_⟩
 ·exact HY6.out.rd.kept ((Kept.refl (fun b => b < w.heap.size) _).setRow (by show ¬ w.heap.size < w.heap.size; omega) _) HY6.out.lo HY6.out.lo'
 ·exact HY6.out.kept.setRow (by show ¬ (w.heap.size < w.heap.size ∧ w.heap.size ≠ r); omega) _
end
section
open Go.RowKit
theorem take_part {α : Type} (xs : List α) (m i n : Nat) (h : i + n ≤ m) : ((xs.take m).drop i).take n = (xs.drop i).take n := by
 rw [List.drop_take, List.take_take, Nat.min_eq_left (by omega)]
theorem kind_take (xs : List Int) (m : Nat) (h : 21 ≤ m) : kindOf (xs.take m) = kindOf xs := by unfold kindOf; rw [List.take_take, Nat.min_eq_left (by omega)]
theorem flags_take (xs : List Int) (m : Nat) (h : 21 ≤ m) : flagsOf (xs.take m) = flagsOf xs := by unfold flagsOf; rw [take_part _ _ _ _ (by omega)]
theorem exp_take (xs : List Int) (m : Nat) (h : 21 ≤ m) : expOf (xs.take m) = expOf xs := by unfold expOf; rw [take_part _ _ _ _ (by omega)]
theorem seq_take (xs : List Int) (m : Nat) (h : 21 ≤ m) : seqOf (xs.take m) = seqOf xs := by unfold seqOf; rw [take_part _ _ _ _ (by omega)]
theorem klen_take (xs : List Int) (m : Nat) (h : 21 ≤ m) : klenOf (xs.take m) = klenOf xs := by unfold klenOf; rw [take_part _ _ _ _ (by omega)]
theorem vlen_take (xs : List Int) (m : Nat) (h : 21 ≤ m) : vlenOf (xs.take m) = vlenOf xs := by unfold vlenOf; rw [take_part _ _ _ _ (by omega)]
def MayB (xs : List Int) : Prop := May (kindOf xs) (flagsOf xs) (expOf xs) (seqOf xs) (klenOf xs) (vlenOf xs)
instance aI6Need0 (xs : List Int) : Decidable (MayB xs) := by unfold MayB; infer_instance
def needOf (xs : List Int) : Nat := 21 + klenOf xs + vlenOf xs
theorem flags_bounds {xs : List Int} (hb : Bytes xs) : 0 ≤ flagsOf xs ∧ flagsOf xs ≤ 4294967295 := by have := part_bounds hb 1 4; unfold flagsOf; omega
theorem exp_bounds {xs : List Int} (hb : Bytes xs) : 0 ≤ expOf xs ∧ expOf xs ≤ 4294967295 := by have := part_bounds hb 5 4; unfold expOf; omega
theorem need_short (A : Option Addr) (n c : Nat) (w : World) (hn : n < 21) :
 Calls Tryz.prog 207 #[.slice A n c] w fun e w' => e = .returned (.tuple #[.int .i64 0, .int .i64 9]) ∧ Below w.heap.size w w' := by
 go_enter Tryz.func207, Tryz.ntmps207
 go_wp2_with fail
 go_ret2
 exact ⟨rfl, Below.refl _ _⟩
theorem need_bad (A : Option Addr) (n c : Nat) (xs : List Int) (S : Nat → Prop) (w : World) (hx : RowI .u8 w S A n xs) (hS : ∀ b, S b → b < w.heap.size) (hb : Bytes xs) (hn : 21 ≤ n) (hc : n ≤ c) (hm : ¬ MayB xs) :
 Calls Tryz.prog 207 #[.slice A n c] w fun e w' => e = .returned (.tuple #[.int .i64 0, .int .i64 160]) ∧ Below w.heap.size w w' := by
 obtain ⟨b0, o0, rfl, hb0, hc0⟩ := hx.2 (by omega)
 have hl := hx.1
 have HX := hI (hx.take 21 hn)
 have HBY := hI (hb.take 21)
 have HM := hI hm
 have h1 : ¬ ((n : Int) < 21) := by omega
 have h2 : (21 : Int) ≤ c := by omega
 clear hx hb hm hb0 hc0
 go_enter Tryz.func207, Tryz.ntmps207
 go_wp2_with fail
 refine (read_any _ 21 c (xs.take 21) S w HX.out hS (by omega)).mono ?_
 rintro e w2 ⟨r, rfl, hr, hrd, hb⟩
 have HB2 := hI hb
 have HD2 := hI hrd
 clear hb hrd
 go_wp2_with fail
 refine (readHead_ok (xs.take 21) w2 r w.heap.size HD2.out (by simp; omega) HBY.out HD2.out.blk.lt HD2.out.arr.lt).mono ?_
 rintro e w3 ⟨rfl, hrd, hk⟩
 rw [kind_take _ _ (by omega), flags_take _ _ (by omega), exp_take _ _ (by omega), seq_take _ _ (by omega), klen_take _ _ (by omega), vlen_take _ _ (by omega)]
 have HB3 := hI (HB2.out.trans (hk.to_below (B := w.heap.size) fun b hb => ⟨by have := HB2.out.size; omega, by omega⟩))
 clear hrd hk
 go_wp2_with fail
 refine (may_no _ _ _ _ _ _ _ HM.out).mono ?_
 rintro e w4 ⟨rfl, hb⟩
 have HB4 := hI ((HB3.out.alloc HB3.out.size _).trans (hb.mono (by have := HB3.out.size; simp; omega)))
 clear hb
 go_wp2_with fail
 go_ret2
 exact ⟨rfl, HB4.out⟩
theorem need_ok (A : Option Addr) (n c : Nat) (xs : List Int) (S : Nat → Prop) (w : World) (hx : RowI .u8 w S A n xs) (hS : ∀ b, S b → b < w.heap.size) (hb : Bytes xs) (hn : 21 ≤ n) (hc : n ≤ c) (hm : MayB xs) :
 Calls Tryz.prog 207 #[.slice A n c] w fun e w' => e = .returned (.tuple #[.int .i64 ((needOf xs : Nat) : Int), .int .i64 0]) ∧ Below w.heap.size w w' := by
 obtain ⟨b0, o0, rfl, hb0, hc0⟩ := hx.2 (by omega)
 have hl := hx.1
 have HX := hI (hx.take 21 hn)
 have HBY := hI (hb.take 21)
 have HM := hI hm
 have h1 : ¬ ((n : Int) < 21) := by omega
 have h2 : (21 : Int) ≤ c := by omega
 clear hx hb hm hb0 hc0
 go_enter Tryz.func207, Tryz.ntmps207
 go_wp2_with fail
 refine (read_any _ 21 c (xs.take 21) S w HX.out hS (by omega)).mono ?_
 rintro e w2 ⟨r, rfl, hr, hrd, hb⟩
 have HB2 := hI hb
 have HD2 := hI hrd
 clear hb hrd
 go_wp2_with fail
 refine (readHead_ok (xs.take 21) w2 r w.heap.size HD2.out (by simp; omega) HBY.out HD2.out.blk.lt HD2.out.arr.lt).mono ?_
 rintro e w3 ⟨rfl, hrd, hk⟩
 rw [kind_take _ _ (by omega), flags_take _ _ (by omega), exp_take _ _ (by omega), seq_take _ _ (by omega), klen_take _ _ (by omega), vlen_take _ _ (by omega)]
 have HB3 := hI (HB2.out.trans (hk.to_below (B := w.heap.size) fun b hb => ⟨by have := HB2.out.size; omega, by omega⟩))
 clear hrd hk
 go_wp2_with fail
 refine (may_yes _ _ _ _ _ _ _ HM.out).mono ?_
 rintro e w4 ⟨rfl, hb⟩
 have hg : Blk w4 w3.heap.size 216 (headC (kindOf xs) (flagsOf xs) (expOf xs) (seqOf xs) (klenOf xs) (vlenOf xs)) := (Blk.new w3 _ _).below hb (by simp)
 have HB4 := hI ((HB3.out.alloc HB3.out.size _).trans (hb.mono (by have := HB3.out.size; simp; omega)))
 have c0 := hg.cell 0
 have c1 := hg.cell 1
 have c2 := hg.cell 2
 have c3 := hg.cell 3
 have c4 := hg.cell 4
 have c5 := hg.cell 5
 simp only [List.getElem?_toArray, List.getElem?_cons_zero, List.getElem?_cons_succ] at c0 c1 c2 c3 c4 c5
 clear hb hg
 go_wp2_with fail
 refine (size_any _ _ _ _ _ _ _ HM.out.2.2.1 HM.out.2.2.2.1).mono ?_
 rintro e w5 ⟨rfl, hb⟩
 have HB5 := hI (HB4.out.trans (hb.mono HB4.out.size))
 clear hb c0 c1 c2 c3 c4 c5
 go_wp2_with fail
 go_ret2
 exact ⟨rfl, HB5.out⟩
end
section
open Go.RowKit
abbrev zeroC : Array Value := #[.int .i64 0, .int .u32 0, .int .u32 0, .int .u64 0, .slice none 0 0, .slice none 0 0]
theorem one_zero : zeroC.all (·.oneCell') = true := by simp [zeroC, Value.oneCell']
theorem dec_short (A : Option Addr) (n c : Nat) (w : World) (hn : n < 21) :
 Calls Tryz.prog 155 #[.slice A n c] w fun e w' => e = .returned (.tuple #[.agg #[.int .i64 0, .int .u32 0, .int .u32 0, .int .u64 0, .slice none 0 0, .slice none 0 0], .int .i64 0, .int .i64 9]) ∧ Below w.heap.size w w' := by
 go_enter Tryz.func155, Tryz.ntmps155
 go_wp2_with fail
 refine (need_short A n c _ hn).mono ?_
 rintro e w1 ⟨rfl, hb⟩
 have HB1 := hI (((Below.refl w.heap.size w).alloc (nR _) _).trans (hb.mono (by simp)))
 have hres := (Blk.new w 69 zeroC).below hb (by simp)
 have HRES := hI hres
 clear hb hres
 go_wp2_with (first
  | (refine wpList_store_rowB (.tmp 2) (.tmp 17) 69 rfl rfl w.heap.size zeroC rfl rfl 69 _ HRES.out size_rec rfl one_zero ?_)
  | (with_reducible refine halt_end ?_))
 exact Halt.ret (results_row3 (p := 2) (u := 3) (v := 4) rfl _ _ w.heap.size 69 zeroC _ rfl (setRow_heap _ _ _ zeroC _ _ HRES.out) Tryz.underlying69 rfl size_rec) rfl ⟨rfl, below_setRow HB1.out (nR _) _⟩
theorem dec_bad (A : Option Addr) (n c : Nat) (xs : List Int) (S : Nat → Prop) (w : World) (hx : RowI .u8 w S A n xs) (hS : ∀ b, S b → b < w.heap.size) (hb : Bytes xs) (hn : 21 ≤ n) (hc : n ≤ c) (hm : ¬ MayB xs) :
 Calls Tryz.prog 155 #[.slice A n c] w fun e w' => e = .returned (.tuple #[.agg #[.int .i64 0, .int .u32 0, .int .u32 0, .int .u64 0, .slice none 0 0, .slice none 0 0], .int .i64 0, .int .i64 160]) ∧ Below w.heap.size w w' := by
 have HX := hI (hx.keep (w' := w.alloc (.cells zeroC 69)) fun p hp => World.cell?_alloc_lt w _ p (hS _ hp))
 clear hx
 go_enter Tryz.func155, Tryz.ntmps155
 go_wp2_with fail
 refine (need_bad A n c xs S _ HX.out (fun b h => by have := hS b h; simp; omega) hb hn hc hm).mono ?_
 rintro e w1 ⟨rfl, hb⟩
 have HB1 := hI (((Below.refl w.heap.size w).alloc (nR _) _).trans (hb.mono (by simp)))
 have hres := (Blk.new w 69 zeroC).below hb (by simp)
 have HRES := hI hres
 clear hb hres
 go_wp2_with (first
  | (refine wpList_store_rowB (.tmp 2) (.tmp 17) 69 rfl rfl w.heap.size zeroC rfl rfl 69 _ HRES.out size_rec rfl one_zero ?_)
  | (with_reducible refine halt_end ?_))
 exact Halt.ret (results_row3 (p := 2) (u := 3) (v := 4) rfl _ _ w.heap.size 69 zeroC _ rfl (setRow_heap _ _ _ zeroC _ _ HRES.out) Tryz.underlying69 rfl size_rec) rfl ⟨rfl, below_setRow HB1.out (nR _) _⟩
theorem dec_cut (A : Option Addr) (n c : Nat) (xs : List Int) (S : Nat → Prop) (w : World) (hx : RowI .u8 w S A n xs) (hS : ∀ b, S b → b < w.heap.size) (hb : Bytes xs) (hn : 21 ≤ n) (hc : n ≤ c) (hm : MayB xs) (hlt : n < needOf xs) :
 Calls Tryz.prog 155 #[.slice A n c] w fun e w' => e = .returned (.tuple #[.agg #[.int .i64 0, .int .u32 0, .int .u32 0, .int .u64 0, .slice none 0 0, .slice none 0 0], .int .i64 0, .int .i64 9]) ∧ Below w.heap.size w w' := by
 have HX := hI (hx.keep (w' := w.alloc (.cells zeroC 69)) fun p hp => World.cell?_alloc_lt w _ p (hS _ hp))
 clear hx
 go_enter Tryz.func155, Tryz.ntmps155
 go_wp2_with fail
 refine (need_ok A n c xs S _ HX.out (fun b h => by have := hS b h; simp; omega) hb hn hc hm).mono ?_
 rintro e w1 ⟨rfl, hb⟩
 have HB1 := hI (((Below.refl w.heap.size w).alloc (nR _) _).trans (hb.mono (by simp)))
 have hres := (Blk.new w 69 zeroC).below hb (by simp)
 have HRES := hI hres
 have hlt' : decide ((n : Int) < (needOf xs : Int)) = true := by simp; omega
 generalize needOf xs = nd at *
 clear hb hres
 go_wp2_with (first
  | (refine wpList_store_rowB (.tmp 2) (.tmp 24) 69 rfl rfl w.heap.size zeroC rfl rfl 69 _ HRES.out size_rec rfl one_zero ?_)
  | (with_reducible refine halt_end ?_))
 exact Halt.ret (results_row3 (p := 2) (u := 3) (v := 4) rfl _ _ w.heap.size 69 zeroC _ rfl (setRow_heap _ _ _ zeroC _ _ HRES.out) Tryz.underlying69 rfl size_rec) rfl ⟨rfl, below_setRow HB1.out (nR _) _⟩
theorem raw_rd (w : World) (r g : Nat) (xs : List Int) (pos n : Nat) (h : Rd w r g xs pos 0) (hn : n ≤ xs.length - pos) :
 Calls Tryz.prog 212 #[.pointer (some ⟨r, 0, none⟩), .int .i64 n] w fun e w' => ∃ b, e = .returned (.slice (some ⟨b, 0, none⟩) n n) ∧ w.heap.size ≤ b ∧
  ArrU w' b ((xs.drop pos).take n) ∧ Rd w' r g xs (pos + n) 0 ∧ Kept (fun b => b < w.heap.size ∧ b ≠ r) w w' := by
 have H := hI h
 have hx := h.2.2.2.2
 clear h
 go_enter Tryz.func212, Tryz.ntmps212
 go_wp2_with (first
  | (go_at_call 242; refine (take_ok _ r g xs pos n H.out hn).mono ?_; rintro e w1 ⟨A, c, rfl, hr, hrd, hk⟩; have HR := hI hr; have HD := hI hrd; have HK := hI hk; clear hr hrd hk)
  | (go_at_call 240; refine (clone_any A n c _ (· = g) _ HR.out (fun b e => by rw [e]; exact HD.out.arr.lt) (by omega)).mono ?_; rintro e w2 ⟨rfl, ha, hb⟩; have HA := hI ha; have HB := hI hb; clear ha hb))
 go_ret
 exact ⟨_, rfl, HK.out.size, HA.out, HD.out.kept (Kept.of_below (S := fun b => b < w1.heap.size) HB.out (fun b h => h)) HD.out.blk.lt HD.out.arr.lt, HK.out.below HB.out (fun b h => nL h.1 HK.out.size)⟩
def keyOf (xs : List Int) : List Int := (xs.drop 21).take (klenOf xs)
def valOf (xs : List Int) : List Int := (xs.drop (21 + klenOf xs)).take (vlenOf xs)
structure Dec (w wi : World) (r g q : Nat) (zs : List Int) (pos : Nat) (cs : Array Value) : Prop where
 rd : Rd wi r g zs pos 0
 lo : w.heap.size < r
 res : Blk wi w.heap.size 69 zeroC
 hd : Blk wi q 216 cs
 far : q ≠ r ∧ q ≠ w.heap.size
 bel : Below w.heap.size w wi
theorem Dec.drew {w wi : World} {r g q : Nat} {zs : List Int} {pos : Nat} {cs : Array Value} (h : Dec w wi r g q zs pos cs) : Dec w wi.drew r g q zs pos cs := ⟨h.rd.drewN 1, h.lo, h.res, h.hd, h.far, h.bel.drew⟩
theorem Dec.read {w wi w' : World} {r g q : Nat} {zs : List Int} {pos pos' : Nat} {cs : Array Value} (h : Dec w wi r g q zs pos cs) (hr : Rd w' r g zs pos' 0) (hk : Kept (fun b => b < wi.heap.size ∧ b ≠ r) wi w') : Dec w w' r g q zs pos' cs :=
 ⟨hr, h.lo, h.res.kept hk ⟨h.res.lt, by have := h.lo; omega⟩, h.hd.kept hk ⟨h.hd.lt, h.far.1⟩, h.far, h.bel.trans (hk.to_below fun b hb => ⟨nL hb h.bel.size, by have := h.lo; omega⟩)⟩
def DecTold (xs : List Int) (w : World) (e : Ending) (w' : World) : Prop :=
 ∃ b1 b2, e = .returned (.tuple #[.agg #[.int .i64 (kindOf xs), .int .u32 (flagsOf xs), .int .u32 (expOf xs), .int .u64 (seqOf xs), .slice (some ⟨b1, 0, none⟩) (klenOf xs) (klenOf xs), .slice (some ⟨b2, 0, none⟩) (vlenOf xs) (vlenOf xs)], .int .i64 ((needOf xs : Nat) : Int), .int .i64 0]) ∧
  w.heap.size ≤ b1 ∧ w.heap.size ≤ b2 ∧ b1 ≠ b2 ∧ ArrU w' b1 (keyOf xs) ∧ ArrU w' b2 (valOf xs) ∧ Below w.heap.size w w'
theorem dec_ok (A : Option Addr) (n c : Nat) (xs : List Int) (S : Nat → Prop) (w : World) (hx : RowI .u8 w S A n xs) (hS : ∀ b, S b → b < w.heap.size) (hb : Bytes xs) (hn : 21 ≤ n) (hc : n ≤ c) (hm : MayB xs) (hle : needOf xs ≤ n) :
 Calls Tryz.prog 155 #[.slice A n c] w (DecTold xs w) := by
 obtain ⟨b0, o0, rfl, hb0, hc0⟩ := hx.2 (by omega)
 have hl := hx.1
 have HX := hI (hx.keep (w' := w.alloc (.cells zeroC 69)) fun p hp => World.cell?_alloc_lt w _ p (hS _ hp))
 have HBY := hI hb
 have hn1 := hm.2.2.1
 have hn2 := hm.2.2.2.1
 have hneed : needOf xs = 21 + klenOf xs + vlenOf xs := rfl
 clear hx hb hb0 hc0
 go_enter Tryz.func155, Tryz.ntmps155
 go_wp2_with fail
 refine (need_ok _ n c xs S _ HX.out (fun b h => by have := hS b h; simp; omega) HBY.out hn hc hm).mono ?_
 rintro e w1 ⟨rfl, hb⟩
 have HB1 := hI (((Below.refl w.heap.size w).alloc (nR _) _).trans (hb.mono (by simp)))
 have HX1 := hI (HX.out.below hb (fun b h => by have := hS b h; simp; omega))
 have HRES := hI ((Blk.new w 69 zeroC).below hb (by simp))
 have hlt1 : w.heap.size < w1.heap.size := HRES.out.lt
 have HLT1 := hI hlt1
 clear hb
 have hlt' : decide ((n : Int) < (needOf xs : Int)) = false := by simp; omega
 have hle0 : (0 : Int) ≤ (needOf xs : Int) := by omega
 have hlec : (needOf xs : Int) ≤ c := by omega
 have HND := hI hneed
 clear hneed
 generalize hnd : needOf xs = nd at *
 have HNN := hI hnd
 clear hnd
 go_wp2_with fail
 refine (read_any _ nd c (xs.take nd) S w1 (HX1.out.take nd hle) (fun b h => by have := hS b h; omega) (by have := HND.out; omega)).mono ?_
 rintro e w2 ⟨r, rfl, hr, hrd, hb⟩
 have HB2 := hI (HB1.out.trans (hb.mono HB1.out.size))
 have HRES2 := hI (HRES.out.below hb HLT1.out)
 have HD2 := hI hrd
 have HLR := hI (show w.heap.size < r by omega)
 clear hb hrd
 go_wp2_with fail
 refine (readHead_ok (xs.take nd) w2 r w1.heap.size HD2.out (by have := HND.out; simp; omega) (HBY.out.take nd) HD2.out.blk.lt HD2.out.arr.lt).mono ?_
 rintro e w3 ⟨rfl, hrd, hk⟩
 rw [kind_take _ _ (by have := HND.out; omega), flags_take _ _ (by have := HND.out; omega), exp_take _ _ (by have := HND.out; omega), seq_take _ _ (by have := HND.out; omega), klen_take _ _ (by have := HND.out; omega), vlen_take _ _ (by have := HND.out; omega)]
 have HB3 := hI (HB2.out.trans (hk.to_below (B := w.heap.size) fun b hb => ⟨by have := HB2.out.size; omega, by have := HLR.out; omega⟩))
 have HRES3 := hI (HRES2.out.kept hk ⟨HRES2.out.lt, by have := HLR.out; omega⟩)
 have HD3 := hI hrd
 clear hrd hk
 obtain ⟨w4, hw4⟩ : ∃ w4, w4 = w3.alloc (.cells #[.int .i64 (kindOf xs), .int .u32 (flagsOf xs), .int .u32 (expOf xs), .int .u64 (seqOf xs), .int .i64 (klenOf xs), .int .i64 (vlenOf xs)] 216) := ⟨_, rfl⟩
 have HY := hI (show Dec w w4 r w1.heap.size w3.heap.size (xs.take nd) 21 #[.int .i64 (kindOf xs), .int .u32 (flagsOf xs), .int .u32 (expOf xs), .int .u64 (seqOf xs), .int .i64 (klenOf xs), .int .i64 (vlenOf xs)] by
  rw [hw4]
  have hk : Kept (fun b => b < w3.heap.size) w3 (w3.alloc (.cells #[.int .i64 (kindOf xs), .int .u32 (flagsOf xs), .int .u32 (expOf xs), .int .u64 (seqOf xs), .int .i64 (klenOf xs), .int .i64 (vlenOf xs)] 216)) := (Kept.refl _ w3).alloc (fun b h => h) _
  exact ⟨HD3.out.kept hk HD3.out.blk.lt HD3.out.arr.lt, HLR.out, HRES3.out.alloc _, Blk.new w3 _ _, ⟨by have := HD3.out.blk.lt; omega, by have := HB3.out.size; have := HRES3.out.lt; omega⟩, HB3.out.alloc HB3.out.size _⟩)
 have HW4 := hI hw4
 clear hw4
 have hcap1 : klenOf xs ≤ (xs.take nd).length - 21 := by have := HND.out; simp; omega
 have hcap2 : vlenOf xs ≤ (xs.take nd).length - (21 + klenOf xs) := by have := HND.out; simp; omega
 have HCP1 := hI hcap1
 have HCP2 := hI hcap2
 have HK1 := hI (show ((xs.take nd).drop 21).take (klenOf xs) = keyOf xs from take_part _ _ _ _ (by have := HND.out; omega))
 have HK2 := hI (show ((xs.take nd).drop (21 + klenOf xs)).take (vlenOf xs) = valOf xs from take_part _ _ _ _ (by have := HND.out; omega))
 clear hcap1 hcap2
 go_wp2_with fail
 rw [← HW4.out]
 have HY := hI HY.out.drew
 have HYD := HY
 have c0 := HY.out.hd.cell 0
 have c1 := HY.out.hd.cell 1
 have c2 := HY.out.hd.cell 2
 have c3 := HY.out.hd.cell 3
 have c4 := HY.out.hd.cell 4
 have c5 := HY.out.hd.cell 5
 simp only [List.getElem?_toArray, List.getElem?_cons_zero, List.getElem?_cons_succ] at c0 c1 c2 c3 c4 c5
 go_region_held3 (fun W => W.cell? ⟨w3.heap.size, 0, none⟩ = some (.int .i64 (kindOf xs)) ∧ W.cell? ⟨w3.heap.size, 1, none⟩ = some (.int .u32 (flagsOf xs)) ∧ W.cell? ⟨w3.heap.size, 2, none⟩ = some (.int .u32 (expOf xs)) ∧ W.cell? ⟨w3.heap.size, 3, none⟩ = some (.int .u64 (seqOf xs)) ∧ W.cell? ⟨w3.heap.size, 4, none⟩ = some (.int .i64 (klenOf xs)) ∧ W.cell? ⟨w3.heap.size, 5, none⟩ = some (.int .i64 (vlenOf xs)))
  (first | with_reducible exact ⟨c0, c1, c2, c3, c4, c5⟩ | with_reducible exact ⟨e0, e1, e2, e3, e4, e5⟩)
  (first
    | (go_at_call 212; with_reducible refine (raw_rd _ r w1.heap.size (xs.take nd) 21 (klenOf xs) ?_ ?_).mono ?_; exact HY.out.rd; exact HCP1.out; rintro e w5 ⟨b5, rfl, hb5, ha5, hrd, hk⟩; rw [HK1.out] at ha5; have HA5 := hI ha5; have HB5 := hI (nT HY.out.bel.size hb5); have HY := hI (HY.out.read hrd hk); have HN5 := hI (show b5 ≠ r ∧ b5 ≠ w.heap.size from ⟨by have h := HYD.out.rd.blk.lt; omega, by have h := HYD.out.res.lt; omega⟩); clear ha5 hb5 hrd hk; have c0 := HY.out.hd.cell 0; have c1 := HY.out.hd.cell 1; have c2 := HY.out.hd.cell 2; have c3 := HY.out.hd.cell 3; have c4 := HY.out.hd.cell 4; have c5 := HY.out.hd.cell 5; simp only [List.getElem?_toArray, List.getElem?_cons_zero, List.getElem?_cons_succ] at c0 c1 c2 c3 c4 c5)
    | (go_at_call 212; with_reducible refine (raw_rd _ r w1.heap.size (xs.take nd) (21 + klenOf xs) (vlenOf xs) ?_ ?_).mono ?_; exact HY.out.rd; exact HCP2.out; rintro e w6 ⟨b6, rfl, hb6, ha6, hrd, hk⟩; rw [HK2.out] at ha6; have HA6 := hI ha6; have HB6 := hI (nT HY.out.bel.size hb6); have HN6 := hI (show b6 ≠ b5 ∧ b6 ≠ w.heap.size from ⟨by have h := HA5.out.lt; omega, by have h := HY.out.res.lt; omega⟩); have HA5' := hI (HA5.out.kept hk ⟨HA5.out.lt, HN5.out.1⟩); have HY := hI (HY.out.read hrd hk); clear ha6 hb6 hrd hk; have c0 := HY.out.hd.cell 0; have c1 := HY.out.hd.cell 1; have c2 := HY.out.hd.cell 2; have c3 := HY.out.hd.cell 3; have c4 := HY.out.hd.cell 4; have c5 := HY.out.hd.cell 5; simp only [List.getElem?_toArray, List.getElem?_cons_zero, List.getElem?_cons_succ] at c0 c1 c2 c3 c4 c5; have z0 := HY.out.res.cell 0; have y0 := HY.out.res.frozen 0; have z1 := HY.out.res.cell 1; have y1 := HY.out.res.frozen 1; have z2 := HY.out.res.cell 2; have y2 := HY.out.res.frozen 2; have z3 := HY.out.res.cell 3; have y3 := HY.out.res.frozen 3; have z4 := HY.out.res.cell 4; have y4 := HY.out.res.frozen 4; have z5 := HY.out.res.cell 5; have y5 := HY.out.res.frozen 5; simp only [List.getElem?_toArray, List.getElem?_cons_zero, List.getElem?_cons_succ] at z0 z1 z2 z3 z4 z5; have e0 := (cell_far6 w6 w.heap.size (.int .i64 (kindOf xs)) (.int .u32 (flagsOf xs)) (.int .u32 (expOf xs)) (.int .u64 (seqOf xs)) (.slice (some ⟨b5, 0, none⟩) (klenOf xs) (klenOf xs)) (.slice (some ⟨b6, 0, none⟩) (vlenOf xs) (vlenOf xs)) (p := ⟨w3.heap.size, 0, none⟩) HY.out.far.2).trans c0; have e1 := (cell_far6 w6 w.heap.size (.int .i64 (kindOf xs)) (.int .u32 (flagsOf xs)) (.int .u32 (expOf xs)) (.int .u64 (seqOf xs)) (.slice (some ⟨b5, 0, none⟩) (klenOf xs) (klenOf xs)) (.slice (some ⟨b6, 0, none⟩) (vlenOf xs) (vlenOf xs)) (p := ⟨w3.heap.size, 1, none⟩) HY.out.far.2).trans c1; have e2 := (cell_far6 w6 w.heap.size (.int .i64 (kindOf xs)) (.int .u32 (flagsOf xs)) (.int .u32 (expOf xs)) (.int .u64 (seqOf xs)) (.slice (some ⟨b5, 0, none⟩) (klenOf xs) (klenOf xs)) (.slice (some ⟨b6, 0, none⟩) (vlenOf xs) (vlenOf xs)) (p := ⟨w3.heap.size, 2, none⟩) HY.out.far.2).trans c2; have e3 := (cell_far6 w6 w.heap.size (.int .i64 (kindOf xs)) (.int .u32 (flagsOf xs)) (.int .u32 (expOf xs)) (.int .u64 (seqOf xs)) (.slice (some ⟨b5, 0, none⟩) (klenOf xs) (klenOf xs)) (.slice (some ⟨b6, 0, none⟩) (vlenOf xs) (vlenOf xs)) (p := ⟨w3.heap.size, 3, none⟩) HY.out.far.2).trans c3; have e4 := (cell_far6 w6 w.heap.size (.int .i64 (kindOf xs)) (.int .u32 (flagsOf xs)) (.int .u32 (expOf xs)) (.int .u64 (seqOf xs)) (.slice (some ⟨b5, 0, none⟩) (klenOf xs) (klenOf xs)) (.slice (some ⟨b6, 0, none⟩) (vlenOf xs) (vlenOf xs)) (p := ⟨w3.heap.size, 4, none⟩) HY.out.far.2).trans c4; have e5 := (cell_far6 w6 w.heap.size (.int .i64 (kindOf xs)) (.int .u32 (flagsOf xs)) (.int .u32 (expOf xs)) (.int .u64 (seqOf xs)) (.slice (some ⟨b5, 0, none⟩) (klenOf xs) (klenOf xs)) (.slice (some ⟨b6, 0, none⟩) (vlenOf xs) (vlenOf xs)) (p := ⟨w3.heap.size, 5, none⟩) HY.out.far.2).trans c5))
 clear c0 c1 c2 c3 c4 c5 e0 e1 e2 e3 e4 e5 z0 z1 z2 z3 z4 z5 y0 y1 y2 y3 y4 y5
 go_wp2_with (with_reducible refine halt_end ?_)
 have hz := HY.out.res.set6 (.int .i64 (kindOf xs)) (.int .u32 (flagsOf xs)) (.int .u32 (expOf xs)) (.int .u64 (seqOf xs)) (.slice (some ⟨b5, 0, none⟩) (klenOf xs) (klenOf xs)) (.slice (some ⟨b6, 0, none⟩) (vlenOf xs) (vlenOf xs))
 refine Halt.ret (results_row3 (p := 2) (u := 3) (v := 4) rfl _ _ w.heap.size 69 _ _ rfl hz Tryz.underlying69 rfl size_rec) rfl ⟨b5, b6, ?_, HB5.out, HB6.out, HN6.out.1.symm, Blk.far6 HA5'.out HN5.out.2 _ _ _ _ _ _, Blk.far6 HA6.out HN6.out.2 _ _ _ _ _ _, below_set6 HY.out.bel (nR _) _ _ _ _ _ _⟩
 rw [HNN.out]
 rfl
end
section
open Go.RowKit
def DecOk (xs : List Int) (n : Nat) : Prop := 21 ≤ n ∧ MayB xs ∧ needOf xs ≤ n
instance aI6DecAll0 (xs : List Int) (n : Nat) : Decidable (DecOk xs n) := by unfold DecOk; infer_instance
def errOf (xs : List Int) (n : Nat) : Int := if 21 ≤ n ∧ ¬ MayB xs then 160 else 9
theorem errOf_cases (xs : List Int) (n : Nat) : errOf xs n = 9 ∨ errOf xs n = 160 := by unfold errOf; split <;> simp
theorem errOf_short {xs : List Int} {n : Nat} (h : n < 21) : errOf xs n = 9 := if_neg (by omega)
theorem errOf_bad {xs : List Int} {n : Nat} (h : 21 ≤ n) (hm : ¬ MayB xs) : errOf xs n = 160 := if_pos ⟨h, hm⟩
theorem errOf_cut {xs : List Int} {n : Nat} (hm : MayB xs) : errOf xs n = 9 := if_neg fun h => h.2 hm
theorem dec_no (A : Option Addr) (n c : Nat) (xs : List Int) (S : Nat → Prop) (w : World) (hx : RowI .u8 w S A n xs) (hS : ∀ b, S b → b < w.heap.size) (hb : Bytes xs) (hc : n ≤ c) (h : ¬ DecOk xs n) :
 Calls Tryz.prog 155 #[.slice A n c] w fun e w' => e = .returned (.tuple #[.agg #[.int .i64 0, .int .u32 0, .int .u32 0, .int .u64 0, .slice none 0 0, .slice none 0 0], .int .i64 0, .int .i64 (errOf xs n)]) ∧ Below w.heap.size w w' := by
 by_cases h1 : n < 21
 ·rw [errOf_short h1]
  exact dec_short A n c w h1
 by_cases h2 : MayB xs
 ·rw [errOf_cut h2]
  exact dec_cut A n c xs S w hx hS hb (by omega) hc h2 (by rcases Nat.lt_or_ge n (needOf xs) with h3 | h3; exact h3; exact absurd ⟨by omega, h2, h3⟩ h)
 ·rw [errOf_bad (by omega) h2]
  exact dec_bad A n c xs S w hx hS hb (by omega) hc h2
end
section
open Go.RowKit
theorem rnum_any (A : Option Addr) (n c : Nat) (xs : List Int) (S : Nat → Prop) (w : World) (hx : RowI .u8 w S A n xs) (hb : Bytes xs) (h8 : n ≤ 8) :
 Calls Tryz.prog 219 #[.slice A n c] w fun e w' => e = .returned (.int .u64 (numOf xs)) ∧ w = w' := by
 have HX := hI hx
 have HL := hI hx.1
 have HB := hI hb
 clear hx hb
 go_enter Tryz.func219, Tryz.ntmps219
 go_wp2
 go_loop [3, 5, 8] (fun x _ i => ∃ k : Nat, k ≤ n ∧ i = .int .i64 k ∧ x = .int .u64 (numOf (xs.take k))) (fun _ _ i => n - (intOf i).toNat)
 case atStart => exact ⟨0, by omega, rfl, rfl⟩
 case round =>
  obtain ⟨k, hk, rfl, rfl⟩ := hrel
  by_cases hlt : k < n
  ·obtain ⟨_, off, rfl, _, hc⟩ := HX.out.2 (by omega)
   have hcell := hc k hlt
   have hr : 0 ≤ xs.getD k 0 ∧ xs.getD k 0 ≤ 255 := HB.out k
   have hv := numOf_take xs HB.out k (by have := HL.out; omega) (by omega)
   have hs : numOf (xs.take (k + 1)) = numOf (xs.take k) * 256 + xs.getD k 0 := by rw [take_snoc xs k (by have := HL.out; omega), numOf_snoc]
   generalize numOf (xs.take k) = x at *
   generalize xs.getD k 0 = y at *
   have HS := hI hs
   clear hs hc
   go_wp2
   go_round
   case rel => exact ⟨k + 1, by omega, by go_num, by rw [HS.out]⟩
   case measure => (simp [intOf] <;> omega)
  ·obtain rfl : k = n := by omega
   have ht := hI (List.take_of_length_le (l := xs) (i := k) (by have := HL.out; omega))
   go_wp2
   go_ret
   exact ⟨ret_int (by rw [ht.out]), rfl⟩
end
section
open Go.RowKit
structure Src (xs : List Int) (b0 o0 n : Nat) (w W : World) : Prop where
 cell : ∀ j, j < n → W.cell? ⟨b0, o0 + j, none⟩ = some (.int .u8 (xs.getD j 0))
 len : xs.length = n
 lt : b0 < w.heap.size
 bel : Below w.heap.size w W
section
variable {xs : List Int} {b0 o0 n : Nat} {w W W' : World}
theorem Src.drew (h : Src xs b0 o0 n w W) : Src xs b0 o0 n w W.drew := ⟨h.cell, h.len, h.lt, h.bel.drew⟩
theorem Src.below (h : Src xs b0 o0 n w W) (hb : Below W.heap.size W W') : Src xs b0 o0 n w W' := ⟨fun j hj => (hb.cell (nL h.lt h.bel.size)).trans (h.cell j hj), h.len, h.lt, h.bel.trans (hb.mono h.bel.size)⟩
theorem Src.alloc (h : Src xs b0 o0 n w W) (o : Obj) : Src xs b0 o0 n w (W.alloc o) := h.below ((Below.refl _ _).alloc (nR _) _)
theorem Src.setCell (h : Src xs b0 o0 n w W) {p : Addr} (hp : w.heap.size ≤ p.block) (u : Value) : Src xs b0 o0 n w (W.setCell p u) :=
 ⟨fun j hj => (World.cell?_setCell_other _ _ _ _ (by rintro rfl; have := h.lt; simp at hp; omega)).trans (h.cell j hj), h.len, h.lt, h.bel.setCell hp u⟩
theorem Src.part (h : Src xs b0 o0 n w W) (i m : Nat) (hi : i + m ≤ n) : RowI .u8 W (fun _ => True) (some ⟨b0, o0 + i, none⟩) m ((xs.drop i).take m) := by
 have hl := h.len
 refine ⟨by simp; omega, fun _ => ⟨b0, o0 + i, rfl, trivial, fun j hj => ?_⟩⟩
 rw [Nat.add_assoc, h.cell (i + j) (by omega)]
 simp [List.getD, List.getElem?_take, List.getElem?_drop, hj]
theorem src_of {A : Option Addr} {S : Nat → Prop} (hx : RowI .u8 w S A n xs) (hS : ∀ b, S b → b < w.heap.size) (hn : 0 < n) : ∃ b0 o0, A = some ⟨b0, o0, none⟩ ∧ Src xs b0 o0 n w w := by
 obtain ⟨b0, o0, e, hb, hc⟩ := hx.2 hn
 exact ⟨b0, o0, e, hc, hx.1, hS _ hb, Below.refl _ _⟩
end
theorem kind_first {xs : List Int} (h : 0 < xs.length) : kindOf xs = xs.getD 0 0 := by
 match xs, h with
 | a :: r, _ => simp [kindOf, numOf]
theorem slice_lh (b0 o0 n c l h : Nat) (h1 : l ≤ h) (h2 : h ≤ c) (h3 : l < c) (W : World) :
 (Instr.sliceAt 40 (.slice (some ⟨b0, o0, none⟩) n c) (some (.int .i64 l)) (some (.int .i64 h)) none).run Tryz.prog W = .ok (.slice (some ⟨b0, o0 + l, none⟩) (h - l) (c - l)) W := by
 have hu : Tryz.prog.underlying 40 = some (.slice (Tryz.prog.elem 40)) := by kernel_rfl
 have hne : ¬ c = l := by omega
 rw [run_sliceAt_slice _ _ _ _ _ _ hu]
 simp [go_sem]
 simp [hne, h1, h2]
theorem slice_end (b0 o0 n c l : Nat) (h1 : l = c) (W : World) :
 (Instr.sliceAt 40 (.slice (some ⟨b0, o0, none⟩) n c) (some (.int .i64 l)) (some (.int .i64 l)) none).run Tryz.prog W = .ok (.slice (some ⟨b0, o0, none⟩) 0 0) W := by
 have hu : Tryz.prog.underlying 40 = some (.slice (Tryz.prog.elem 40)) := by kernel_rfl
 subst h1
 rw [run_sliceAt_slice _ _ _ _ _ _ hu]
 simp [go_sem]
end
end Go.Proofs.YtknfblfnfoibkaaGreat
