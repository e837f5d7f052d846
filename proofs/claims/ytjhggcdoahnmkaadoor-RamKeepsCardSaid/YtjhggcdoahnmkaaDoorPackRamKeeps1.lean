/- Texts of RamKeeps, packed. -/
import Derived.Test.YtjhggcdoahnmkaaDoorRows
import Derived.WalkKit
import Derived.ProofKit
import Derived.OpenShut
import Derived.WalkSpells
import Derived.WalkLawsBesides
import Derived.Handy
import Derived.Lib.Hide
import Derived.Deep.AppendLies
import Derived.Laws.IdiomStrings
import Derived.Laws.BytesArg
import Derived.Maps.AppendAt
import Derived.Laws.AppendOwnNone
import Derived.Deep.OwnRows
import Derived.Deep.Draws
import Derived.Laws.Rows
import Derived.Laws.CopyOwn
import Derived.OwnWalk
import Derived.Deep.MidRow
import Derived.Deep.WholeRow
import Derived.Lib.TrailingZeros
import Derived.Lib.SlBy
import Derived.Great.BuildSlice
import Derived.Laws.CopyRow
import Derived.OrdersHeld
import Derived.Deep.RegionHeld3
import Derived.Laws.StructEq
import Derived.Deep.QuietTactic
import Derived.BigQuiet
import Derived.Shelf.Abstract
import Derived.Shelf.RegionOpen
import Derived.Shelf.Spec.TrailingZeros
/- Words that the other texts of this seat use: what it is that a slice of integers reads as a list; nothing of the program is spoken of here. -/
namespace Go.Proofs.YtjhggcdoahnmkaaDoor
open Go.RowKit

theorem ret_int {k : IntKind} {a b : Int} (h : a = b) : Ending.returned (.int k a) = .returned (.int k b) := by rw [h]

/-- The slice value '.slice A n c' reads, in w, as the n integers xs of kind k; where there is any, its cells lie below block B. -/
def Row (k : IntKind) (w : World) (B : Nat) (A : Option Addr) (n : Nat) (xs : List Int) : Prop :=
  xs.length = n ∧ (0 < n → ∃ b off, A = some ⟨b, off, none⟩ ∧ b < B ∧ ∀ j, j < n → w.cell? ⟨b, off + j, none⟩ = some (.int k (xs.getD j 0)))

def Bytes (xs : List Int) : Prop := ∀ j, 0 ≤ xs.getD j 0 ∧ xs.getD j 0 ≤ 255

theorem Row.len {k : IntKind} {w : World} {B : Nat} {A : Option Addr} {n : Nat} {xs : List Int} (h : Row k w B A n xs) : xs.length = n := h.1

theorem Row.nil (k : IntKind) (w : World) (B : Nat) (A : Option Addr) : Row k w B A 0 [] := ⟨rfl, fun h => absurd h (by omega)⟩

theorem Row.keep {k : IntKind} {w w' : World} {B : Nat} {A : Option Addr} {n : Nat} {xs : List Int} (h : Row k w B A n xs)
    (hk : ∀ p : Addr, p.block < B → w'.cell? p = w.cell? p) : Row k w' B A n xs :=
  ⟨h.1, fun hn => by
    obtain ⟨b, off, e, hb, hc⟩ := h.2 hn
    exact ⟨b, off, e, hb, fun j hj => (hk _ hb).trans (hc j hj)⟩⟩

theorem Row.more {k : IntKind} {w : World} {B B' : Nat} {A : Option Addr} {n : Nat} {xs : List Int} (h : Row k w B A n xs) (hB : B ≤ B') : Row k w B' A n xs :=
  ⟨h.1, fun hn => by
    obtain ⟨b, off, e, hb, hc⟩ := h.2 hn
    exact ⟨b, off, e, by omega, hc⟩⟩

theorem Row.below {k : IntKind} {w w' : World} {B : Nat} {A : Option Addr} {n : Nat} {xs : List Int} (h : Row k w B A n xs) (hb : Below B w w') : Row k w' B A n xs :=
  h.keep fun _ hp => hb.cell hp

theorem Bytes.take {xs : List Int} (h : Bytes xs) (n : Nat) : Bytes (xs.take n) := by
  intro j
  by_cases hj : j < n
  · have := h j
    simpa [List.getD, List.getElem?_take, hj] using this
  · simp [List.getD, List.getElem?_take, hj]

theorem take_snoc (xs : List Int) (k : Nat) (h : k < xs.length) : xs.take (k + 1) = xs.take k ++ [xs.getD k 0] := by
  rw [List.take_succ_eq_append_getElem h]
  simp [List.getD, List.getElem?_eq_getElem h]

/-- What an argument's reading gives. -/
theorem row_of {k : IntKind} {w : World} {a : Option Addr} {len cap : Nat} {zs : List Int} {B : Nat}
    (h : (a = none ∧ len = 0 ∧ cap = 0 ∧ zs = []) ∨
      ∃ x : Addr, a = some x ∧ len ≤ cap ∧ cap ≤ maxLen ∧ zs.length = cap ∧ (∀ i, i < zs.length → w.cell? (x.add i) = some (.int k (zs.getD i 0))) ∧ ∀ n ∈ zs, (Lit.int k n).wf = true)
    (hB : w.heap.size ≤ B) : Row k w B a len (zs.take len) := by
  rcases h with ⟨rfl, rfl, rfl, rfl⟩ | ⟨x, rfl, hl, hm, hz, hc, hw⟩
  · exact Row.nil _ _ _ _
  · refine ⟨by simp; omega, fun hn => ?_⟩
    obtain ⟨b, off, spot⟩ := x
    have h0 := hc 0 (by omega)
    have hspot : spot = none := by simpa [Addr.add] using World.cell?_spot h0
    subst hspot
    refine ⟨b, off, rfl, ?_, fun j hj => ?_⟩
    · have h0' : w.cell? ⟨b, off, none⟩ = some (.int k (zs.getD 0 0)) := by simpa [Addr.add] using h0
      rcases Nat.lt_or_ge b w.heap.size with hlt | hge
      · omega
      · simp [World.cell?, Array.getElem?_eq_none hge] at h0'
    · have := hc j (by omega)
      have e : (Addr.add ⟨b, off, none⟩ j) = ⟨b, off + j, none⟩ := by
        unfold Addr.add
        by_cases hj0 : j = 0 <;> simp [hj0]
      rw [e] at this
      rw [this]
      simp [List.getD, hj]

theorem bytes_of {zs : List Int} (h : ∀ n ∈ zs, (Lit.int .u8 n).wf = true) : Bytes zs := by
  intro j
  by_cases hj : j < zs.length
  · have hm : zs.getD j 0 ∈ zs := by simp [List.getD, List.getElem?_eq_getElem hj]
    have := h _ hm
    simpa [Lit.wf, IntKind.min, IntKind.max, IntKind.signed, IntKind.bits] using this
  · simp [List.getD, List.getElem?_eq_none (Nat.le_of_not_lt hj)]

/-- A text's bytes as numbers. -/
def nums (s : ByteArray) : List Int := s.data.toList.map fun c => (c.toNat : Int)
theorem nums_length (s : ByteArray) : (nums s).length = s.size := by simp [nums]
theorem nums_get (s : ByteArray) (k : Nat) (h : k < s.size) : (nums s).getD k 0 = (s[k].toNat : Int) := by
  have h' : k < s.data.toList.length := by simpa using h
  simp only [nums, List.getD, List.getElem?_map, List.getElem?_eq_getElem h']
  simp [ByteArray.getElem_eq_getElem_data]
theorem nums_bytes (s : ByteArray) : Bytes (nums s) := by
  intro j
  by_cases hj : j < s.size
  · rw [nums_get s j hj]
    have := s[j].toNat_lt
    omega
  · have : (nums s).getD j 0 = 0 := by simp [List.getD, List.getElem?_eq_none (show (nums s).length ≤ j by rw [nums_length]; omega)]
    omega

/-- '[]byte(s)': a new row that reads as the text's bytes; nothing that was there has turned. -/
theorem conv_bytes {P : Program} (w : World) (src dst e : TypeId) (s : ByteArray) (hs : P.underlying src = some .string) (hd : P.underlying dst = some (.slice e)) (he : P.underlying e = some (.int .u8)) :
    ∃ cap w1, (convert src dst (.string s)).run P w = .ok (.slice (some ⟨w.heap.size, 0, none⟩) s.size cap) w1 ∧
      Row .u8 w1 w1.heap.size (some ⟨w.heap.size, 0, none⟩) s.size (nums s) ∧ Below w.heap.size w w1 := by
  refine ⟨_, _, run_bytes_of_string w src dst e s hs hd he, ⟨nums_length s, fun hn => ⟨_, _, rfl, by simp, fun j hj => ?_⟩⟩, ((Below.refl _ _).drew).alloc (by simp) _⟩
  rw [nums_get s j hj]
  have hj' : j < s.data.size := hj
  have hm := World.cell?_alloc_mark w.drew (bytesRow s (grownCap w s.size 0 e)) e ((bytesRow s (grownCap w s.size 0 e)).size, (bytesRow s (grownCap w s.size 0 e)).size + 1) j
  rw [Nat.zero_add]
  refine hm.trans ?_
  simp only [bytesRow, Array.getElem?_append, Array.size_map, if_pos hj', Array.getElem?_map, Array.getElem?_eq_getElem hj', Option.map_some, ByteArray.getElem_eq_getElem_data]

theorem add_plain (b off j : Nat) : (Addr.add ⟨b, off, none⟩ j) = ⟨b, off + j, none⟩ := by
  unfold Addr.add
  by_cases hj0 : j = 0 <;> simp [hj0]

/-- append(own, src...): the source a slice of integers that is nil, empty or not. -/
theorem run_append_row {P : Program} (w : World) (ty t : TypeId)
    (base : Nat) (e : TypeId) (i : TypeInfo) (z : Value) (bytes : Nat) (ht : P.underlying t = some (.slice e)) (hi : P.info? e = some i) (hz : i.zero = some z)
    (hsize : i.size = 1) (hby : i.bytes = bytes) (hzs : z.cells.size = 1)
    (v : Value) (n : Nat) (xs : List Value) (hown : w.ownsRow base e 1 v n xs)
    (k : IntKind) (B : Nat) (A : Option Addr) (m c : Nat) (news : List Int) (hr : Row k w B A m news) (hnil : A = none → c = 0)
    (h63 : n + m ≤ maxLen) (hbytes : (n + m) * bytes ≤ 140737488355328) (hbase : base ≤ w.heap.size) :
    ∃ v' w', (Builtin.append_ #[t, t] ty #[v, .slice A m c]).run P w = .ok v' w' ∧ w'.ownsRow base e 1 v' (n + m) (xs ++ news.map (Value.int k)) ∧ w.grownBy w' v.ownBlock ∧
      (v'.ownBlock = v.ownBlock ∨ v'.ownBlock = some w.heap.size) := by
  have hl := hr.1
  rcases A with _ | ad
  · have hm : m = 0 := by
      rcases Nat.eq_zero_or_pos m with h0 | h0
      · exact h0
      · obtain ⟨_, _, h1, _⟩ := hr.2 h0
        cases h1
    subst hm
    have hn : news = [] := List.eq_nil_of_length_eq_zero hl
    subst hn
    rw [hnil rfl]
    exact ⟨v, w, run_append_owned_none (P := P) (w := w) base t ty e i 1 ht hi v n xs hown, by simpa using hown, World.grownBy.refl w _, .inl rfl⟩
  · obtain ⟨v', w', h1, h2, h3, _, h4⟩ := run_append_own_at (P := P) w base t ty e i z 1 bytes ht hi hz hsize hby hzs (by omega) v n xs hown ad m c (news.map (Value.int k)) (by simp; omega)
      (fun j u hu => by
        have hj : j < m := by
          rcases Nat.lt_or_ge j m with h0 | h0
          · exact h0
          · rw [List.getElem?_eq_none (by simp; omega)] at hu
            cases hu
        obtain ⟨b, off, h1, _, h3⟩ := hr.2 (by omega)
        injection h1 with h1
        subst h1
        rw [add_plain, h3 j hj]
        simp only [List.getElem?_map, List.getElem?_eq_getElem (show j < news.length by omega), Option.map_some] at hu
        simpa [List.getD, List.getElem?_eq_getElem (show j < news.length by omega)] using hu)
      (fun u hu => by
        obtain ⟨q, _, rfl⟩ := List.mem_map.1 hu
        rfl) h63 hbytes hbase
    exact ⟨v', w', h1, h2, h3, h4⟩

theorem wpList_append_row {P : Program} {w : World} {ops : Array Oper} {rest : List Oper} {o : Oper} {a : Act} {Q : Exit → Act → World → Prop} (hgd : Region.wanted o (yielded ops a.tmps) = true) (s x : Operand) (t : TypeId)
    (ho : o.op = .call { callee := .builtin .append, args := #[s, x], argTypes := #[t, t] })
    (base : Nat) (e : TypeId) (i : TypeInfo) (z : Value) (bytes : Nat) (ht : P.underlying t = some (.slice e)) (hi : P.info? e = some i) (hz : i.zero = some z)
    (hsize : i.size = 1) (hby : i.bytes = bytes) (hzs : z.cells.size = 1)
    (v : Value) (n : Nat) (xs : List Value) (hs : a.eval s = v) (hown : w.ownsRow base e 1 v n xs)
    (k : IntKind) (B : Nat) (A : Option Addr) (m c : Nat) (news : List Int) (hx : a.eval x = .slice A m c) (hr : Row k w B A m news) (hnil : A = none → c = 0)
    (h63 : n + m ≤ maxLen) (hbytes : (n + m) * bytes ≤ 140737488355328) (hbase : base ≤ w.heap.size)
    (h : ∀ v' w', w'.ownsRow base e 1 v' (n + m) (xs ++ news.map (Value.int k)) → w.grownBy w' v.ownBlock → (v'.ownBlock = v.ownBlock ∨ v'.ownBlock = some w.heap.size) → wpList P ops Q rest (a.put o.dst v') w') :
    wpList P ops Q (o :: rest) a w := by
  obtain ⟨v', w', hrun, h2, h3, h4⟩ := run_append_row (P := P) w o.type t base e i z bytes ht hi hz hsize hby hzs v n xs hown k B A m c news hr hnil h63 hbytes hbase
  refine wpList_step fun K hK => ?_
  rw [if_pos hgd]
  unfold Oper.wp execOp
  simp only [ho, resolve, invoke, builtin, Sem.run_bind, Sem.run_pure, Result.andThen_ok, List.map_toArray, List.map_cons, List.map_nil, hs, hx, hrun]
  exact hK _ _ (h v' w' h2 h3 h4)

/-- A row of the call's own reads as a list. -/
theorem row_own {w : World} {base : Nat} {e : TypeId} {k : IntKind} {v : Value} {n : Nat} {xs : List Int} (ho : w.ownsRow base e 1 v n (xs.map (Value.int k))) :
    ∃ A cap, v = .slice A n cap ∧ n ≤ cap ∧ (A = none → cap = 0) ∧ Row k w w.heap.size A n xs := by
  have hl : xs.length = n := by simpa using ho.1
  have hlt := ho.lt
  rcases ho.2 with ⟨rfl, rfl⟩ | ⟨g, cap, cur, rfl, hg, hh, hnc, hc⟩
  · exact ⟨none, 0, rfl, by omega, fun _ => rfl, hl, fun h => absurd h (by omega)⟩
  · refine ⟨_, cap, rfl, hnc, (fun h => by cases h), hl, fun _ => ⟨g, 0, rfl, (hlt g rfl).2, fun j hj => ?_⟩⟩
    rw [Nat.zero_add, ho.cellAt j (by omega)]
    simp [List.getD, List.getElem?_eq_getElem (show j < xs.length by omega)]

/-- What '[]T{}' lays. -/
theorem own_empty (w : World) (e : TypeId) : (w.alloc (.cells #[] e)).ownsRow w.heap.size e 1 (.slice (some ⟨w.heap.size, 0, none⟩) 0 0) 0 [] :=
  World.ownsRow_made w #[] 0 (Nat.le_refl _) (by unfold maxLen; omega) (by simp)

/-- 'string(b)' of a slice that reads as bytes. -/
theorem conv_string {P : Program} (w : World) (src dst e : TypeId) (hs : P.underlying src = some (.slice e)) (he : P.underlying e = some (.int .u8)) (hd : P.underlying dst = some .string)
    {B : Nat} {A : Option Addr} {n : Nat} (c : Nat) {xs : List Int} (hr : Row .u8 w B A n xs) (hb : Bytes xs) :
    ∃ s : ByteArray, (convert src dst (.slice A n c)).run P w = .ok (.string s) w ∧ nums s = xs := by
  have hl := hr.1
  have hnum : ∀ l : List Int, (∀ x ∈ l, 0 ≤ x ∧ x ≤ 255) → (l.map fun x => UInt8.ofNat x.toNat).map (fun c => (c.toNat : Int)) = l := by
    intro l h
    induction l with
    | nil => rfl
    | cons x l ih =>
      have hx := h x (List.mem_cons_self ..)
      simp only [List.map_cons, ih (fun y hy => h y (List.mem_cons_of_mem _ hy))]
      congr 1
      simp only [UInt8.toNat_ofNat']
      omega
  have hmem : ∀ x ∈ xs, 0 ≤ x ∧ x ≤ 255 := by
    intro x hx
    obtain ⟨j, hj, rfl⟩ := List.getElem_of_mem hx
    have := hb j
    simpa [List.getD, List.getElem?_eq_getElem hj] using this
  rcases A with _ | ad
  · have hn : n = 0 := by
      rcases Nat.eq_zero_or_pos n with h0 | h0
      · exact h0
      · obtain ⟨_, _, h1, _⟩ := hr.2 h0
        cases h1
    subst hn
    have hx : xs = [] := List.eq_nil_of_length_eq_zero hl
    subst hx
    exact ⟨ByteArray.empty, run_convert_bytes_nil w src e hs he 0 c dst hd, rfl⟩
  · refine ⟨strOfNums xs, ?_, by show ((strOfNums xs).data.toList.map _ : List Int) = xs; rw [strOfNums_data]; exact hnum xs hmem⟩
    have h := run_convert_bytes_back (P := P) w src dst e ad c (xs.map fun x => UInt8.ofNat x.toNat) hs he hd (fun j hj => by
      have hj' : j < n := by simpa [hl] using hj
      obtain ⟨b, off, h1, _, h3⟩ := hr.2 (by omega)
      injection h1 with h1
      subst h1
      rw [add_plain, h3 j hj']
      have hjx : j < xs.length := by omega
      have hv := hmem _ (List.getElem_mem hjx)
      simp only [List.getElem_map, UInt8.toNat_ofNat', List.getD, List.getElem?_eq_getElem hjx, Option.getD_some]
      congr 2
      omega)
    rw [List.length_map, hl] at h
    exact h

end Go.Proofs.YtjhggcdoahnmkaaDoor

/- Words for memory: blocks that are known whole, slices that read as lists of whatever one-cell elements, and worlds in which certain blocks are as they were. Nothing of the program is spoken of here. -/
namespace Go.Proofs.YtjhggcdoahnmkaaDoor
open Go.RowKit

theorem ret_bool {a b : Bool} (h : a = b) : Ending.returned (.bool a) = .returned (.bool b) := by rw [h]

theorem below_drewN {B : Nat} {a w : World} (h : Below B a w) (n : Nat) : Below B a (w.drewN n) := ⟨h.os, h.tape, h.output, h.size, h.block⟩

/-! Worlds: the blocks in S are as they were. -/

structure Kept (S : Nat → Prop) (w w' : World) : Prop where
  os : w'.os = w.os
  tape : w'.tape = w.tape
  output : w'.output = w.output
  size : w.heap.size ≤ w'.heap.size
  block : ∀ k, S k → w'.heap[k]? = w.heap[k]?

section
variable {S T : Nat → Prop} {a w w' w'' : World}
theorem Kept.refl (S : Nat → Prop) (w : World) : Kept S w w := ⟨rfl, rfl, rfl, Nat.le_refl _, fun _ _ => rfl⟩
theorem Kept.trans (h : Kept S w w') (k : Kept T w' w'') (hs : ∀ b, S b → T b) : Kept S w w'' :=
  ⟨k.os.trans h.os, k.tape.trans h.tape, k.output.trans h.output, Nat.le_trans h.size k.size, fun i hi => (k.block i (hs i hi)).trans (h.block i hi)⟩
theorem Kept.mono (h : Kept T w w') (hs : ∀ b, S b → T b) : Kept S w w' := ⟨h.os, h.tape, h.output, h.size, fun i hi => h.block i (hs i hi)⟩
theorem Kept.drew (h : Kept S a w) : Kept S a w.drew := ⟨h.os, h.tape, h.output, h.size, h.block⟩
theorem Kept.drewN (h : Kept S a w) (n : Nat) : Kept S a (w.drewN n) := ⟨h.os, h.tape, h.output, h.size, h.block⟩
theorem Kept.alloc (h : Kept S a w) (hs : ∀ b, S b → b < w.heap.size) (o : Obj) : Kept S a (w.alloc o) :=
  h.trans (T := S) ⟨rfl, rfl, rfl, by simp, fun k hk => Below.heap_alloc _ _ _ (hs k hk)⟩ fun _ h => h
theorem Kept.setCell (h : Kept S a w) {p : Addr} (hp : ¬ S p.block) (u : Value) : Kept S a (w.setCell p u) :=
  h.trans (T := S) ⟨rfl, rfl, rfl, by simp [World.setCell], fun k hk => Below.heap_setCell _ _ _ _ (fun e => hp (e ▸ hk))⟩ fun _ h => h
theorem Kept.setRow (h : Kept S a w) {g : Nat} (hp : ¬ S g) (cs : Array Value) : Kept S a (w.setRow g cs) :=
  h.trans (T := S) ⟨rfl, rfl, rfl, by simp [World.setRow], fun k hk => setRow_other w g k cs (fun e => hp (e ▸ hk))⟩ fun _ h => h
theorem Kept.grown {row : Option Nat} (h : Kept S a w) (hg : w.grownBy w' row) (hs : ∀ b, S b → b < w.heap.size) (hr : ∀ g, row = some g → ¬ S g) : Kept S a w' :=
  h.trans (T := S) ⟨hg.os, hg.tape, hg.output, hg.size, fun k hk => hg.block k (hs k hk) (fun e => hr k e.symm hk)⟩ fun _ h => h
theorem Kept.below {B : Nat} (h : Kept S a w) (hb : Below B w w') (hs : ∀ b, S b → b < B) : Kept S a w' :=
  h.trans (T := S) ⟨hb.os, hb.tape, hb.output, hb.size, fun k hk => hb.block k (hs k hk)⟩ fun _ h => h
theorem Kept.of_below {B : Nat} (hb : Below B w w') (hs : ∀ b, S b → b < B) : Kept S w w' := (Kept.refl S w).below hb hs
theorem Kept.to_below {B : Nat} (h : Kept S w w') (hs : ∀ b, b < B → S b) : Below B w w' := ⟨h.os, h.tape, h.output, h.size, fun k hk => h.block k (hs k hk)⟩
theorem Kept.cell (h : Kept S w w') {p : Addr} (hp : S p.block) : w'.cell? p = w.cell? p := World.cell?_of_block (w := w) (h.block p.block hp)
theorem Kept.frozen (h : Kept S w w') {p : Addr} (hp : S p.block) : w'.frozen? p = w.frozen? p := World.frozen?_of_block (w := w) (h.block p.block hp)
end

/-! A block that is known whole. -/

def Blk (w : World) (g : Nat) (t : TypeId) (cs : Array Value) : Prop := w.heap[g]? = some (.cells cs t (0, 0))

section
variable {w w' : World} {g : Nat} {t : TypeId} {cs : Array Value}
theorem Blk.lt (h : Blk w g t cs) : g < w.heap.size := by
  rcases Nat.lt_or_ge g w.heap.size with hlt | hge
  · exact hlt
  · unfold Blk at h; rw [Array.getElem?_eq_none hge] at h; cases h
theorem Blk.cell (h : Blk w g t cs) (i : Nat) : w.cell? ⟨g, i, none⟩ = cs[i]? := cell_of_row w g i cs t (0, 0) h
theorem Blk.frozen (h : Blk w g t cs) (i : Nat) : w.frozen? ⟨g, i, none⟩ = false := by
  unfold Blk at h
  simp [World.frozen?, h]
theorem Blk.new (w : World) (t : TypeId) (cs : Array Value) : Blk (w.alloc (.cells cs t)) w.heap.size t cs := heap_alloc_new w _
theorem Blk.drewN (h : Blk w g t cs) (n : Nat) : Blk (w.drewN n) g t cs := h
theorem Blk.drew (h : Blk w g t cs) : Blk w.drew g t cs := h
theorem Blk.alloc (h : Blk w g t cs) (o : Obj) : Blk (w.alloc o) g t cs := (Below.heap_alloc w o g h.lt).trans h
theorem Blk.set_ (h : Blk w g t cs) (i : Nat) (u : Value) : Blk (w.setCell ⟨g, i, none⟩ u) g t (cs.setIfInBounds i u) := by
  unfold Blk at h ⊢
  simp [World.setCell, Array.getElem?_modify, h]
theorem Blk.far (h : Blk w g t cs) {p : Addr} (hp : g ≠ p.block) (u : Value) : Blk (w.setCell p u) g t cs := (Below.heap_setCell w p u g hp).trans h
theorem Blk.below {B : Nat} (h : Blk w g t cs) (hb : Below B w w') (hg : g < B) : Blk w' g t cs := (hb.block g hg).trans h
theorem Blk.kept {S : Nat → Prop} (h : Blk w g t cs) (hb : Kept S w w') (hg : S g) : Blk w' g t cs := (hb.block g hg).trans h
theorem Blk.grown {row : Option Nat} (h : Blk w g t cs) (hb : w.grownBy w' row) (hg : some g ≠ row) : Blk w' g t cs := (hb.block g h.lt hg).trans h
theorem Blk.ne_ {g' : Nat} {t' : TypeId} {cs' : Array Value} (h : Blk w g t cs) (h' : Blk w g' t' cs') (hne : t ≠ t') : g ≠ g' := by
  rintro rfl
  unfold Blk at h h'
  rw [h] at h'
  injection h' with h'
  injection h' with _ ht
  exact hne ht
theorem own_blk_ne {base : Nat} {e : TypeId} {size n : Nat} {v : Value} {xs : List Value} (h : w.ownsRow base e size v n xs) (hg : Blk w g t cs) (hne : e ≠ t) : v.ownBlock ≠ some g := by
  rcases h.2 with ⟨rfl, _⟩ | ⟨g', cap, cur, rfl, _, hh, _⟩
  · simp [Value.ownBlock]
  · intro he
    have : g' = g := by simpa [Value.ownBlock] using he
    subst this
    exact Blk.ne_ (t := e) hh hg hne rfl
end

/-! A slice of one-cell elements that reads as a list: 'mk' lays an element down; where there is any, its cells lie in a block of S. -/

def RowG {α : Type} (mk : α → Value) (d : α) (w : World) (S : Nat → Prop) (A : Option Addr) (n : Nat) (xs : List α) : Prop :=
  xs.length = n ∧ (0 < n → ∃ b off, A = some ⟨b, off, none⟩ ∧ S b ∧ ∀ j, j < n → w.cell? ⟨b, off + j, none⟩ = some (mk (xs.getD j d)))

abbrev RowI (k : IntKind) := RowG (Value.int k) 0
abbrev RowB := RowG Value.bool false

section
variable {α : Type} {mk : α → Value} {d : α} {w w' : World} {S T : Nat → Prop} {A : Option Addr} {n : Nat} {xs : List α}
theorem RowG.nil (mk : α → Value) (d : α) (w : World) (S : Nat → Prop) (A : Option Addr) : RowG mk d w S A 0 [] := ⟨rfl, fun h => absurd h (by omega)⟩
theorem RowG.keep (h : RowG mk d w S A n xs) (hk : ∀ p : Addr, S p.block → w'.cell? p = w.cell? p) : RowG mk d w' S A n xs :=
  ⟨h.1, fun hn => by
    obtain ⟨b, off, e, hb, hc⟩ := h.2 hn
    exact ⟨b, off, e, hb, fun j hj => (hk _ hb).trans (hc j hj)⟩⟩
theorem RowG.more (h : RowG mk d w S A n xs) (hs : ∀ b, S b → T b) : RowG mk d w T A n xs :=
  ⟨h.1, fun hn => by
    obtain ⟨b, off, e, hb, hc⟩ := h.2 hn
    exact ⟨b, off, e, hs b hb, hc⟩⟩
theorem RowG.kept (h : RowG mk d w S A n xs) (hb : Kept T w w') (hs : ∀ b, S b → T b) : RowG mk d w' S A n xs := h.keep fun _ hp => hb.cell (hs _ hp)
theorem RowG.below {B : Nat} (h : RowG mk d w S A n xs) (hb : Below B w w') (hs : ∀ b, S b → b < B) : RowG mk d w' S A n xs := h.keep fun _ hp => hb.cell (hs _ hp)
theorem RowG.take (h : RowG mk d w S A n xs) (k : Nat) (hk : k ≤ n) : RowG mk d w S A k (xs.take k) := by
  have hl := h.1
  refine ⟨by simp; omega, fun h0 => ?_⟩
  obtain ⟨b, off, e, hb, hc⟩ := h.2 (by omega)
  refine ⟨b, off, e, hb, fun j hj => ?_⟩
  rw [hc j (by omega)]
  simp [List.getD, List.getElem?_take, hj]
theorem RowG.drawn (h : RowG mk d w S A n xs) (k : Nat) : RowG mk d (w.drewN k) S A n xs := h
/-- Only what stands at the places below n is asked. -/
theorem RowG.congr {ys : List α} (h : RowG mk d w S A n xs) (hl : ys.length = n) (he : ∀ j, j < n → ys.getD j d = xs.getD j d) : RowG mk d w S A n ys :=
  ⟨hl, fun hn => by
    obtain ⟨b, off, e, hb, hc⟩ := h.2 hn
    exact ⟨b, off, e, hb, fun j hj => by rw [hc j hj, he j hj]⟩⟩
end

theorem Row.toG {k : IntKind} {w : World} {B : Nat} {A : Option Addr} {n : Nat} {xs : List Int} (h : Row k w B A n xs) : RowI k w (· < B) A n xs := h
theorem RowG.toRow {k : IntKind} {w : World} {B : Nat} {A : Option Addr} {n : Nat} {xs : List Int} (h : RowI k w (· < B) A n xs) : Row k w B A n xs := h

/-! A block that is just a list of one-cell elements. -/

def Arr {α : Type} (mk : α → Value) (w : World) (g : Nat) (t : TypeId) (xs : List α) : Prop := Blk w g t (xs.map mk).toArray

section
variable {α : Type} {mk : α → Value} {w w' : World} {g : Nat} {t : TypeId} {xs : List α}
theorem Arr.lt (h : Arr mk w g t xs) : g < w.heap.size := Blk.lt h
theorem Arr.cell (h : Arr mk w g t xs) {i : Nat} (hi : i < xs.length) (d : α) : w.cell? ⟨g, i, none⟩ = some (mk (xs.getD i d)) := by
  rw [Blk.cell h]
  simp [List.getD, List.getElem?_eq_getElem hi]
theorem Arr.frozen (h : Arr mk w g t xs) (i : Nat) : w.frozen? ⟨g, i, none⟩ = false := Blk.frozen h i
theorem Arr.set (h : Arr mk w g t xs) (i : Nat) (u : α) : Arr mk (w.setCell ⟨g, i, none⟩ (mk u)) g t (xs.set i u) := by
  have := Blk.set_ h i (mk u)
  unfold Arr
  rw [show ((xs.set i u).map mk).toArray = ((xs.map mk).toArray).setIfInBounds i (mk u) by simp [List.map_set]]
  exact this
theorem Arr.row (h : Arr mk w g t xs) (d : α) {S : Nat → Prop} (hs : S g) : RowG mk d w S (some ⟨g, 0, none⟩) xs.length xs :=
  ⟨rfl, fun _ => ⟨g, 0, rfl, hs, fun j hj => by rw [Nat.zero_add, h.cell hj d]⟩⟩
theorem Arr.made (w : World) (z : α) (n : Nat) (t : TypeId) : Arr mk (w.alloc (.cells (madeCells #[mk z] n) t)) w.heap.size t (List.replicate n z) := by
  unfold Arr
  rw [show ((List.replicate n z).map mk).toArray = madeCells #[mk z] n from ?_]
  · exact Blk.new w t _
  · apply Array.ext
    · simp [size_madeCells]
    · intro i h1 h2
      simp [madeCells, Nat.mod_one]
theorem Arr.kept {S : Nat → Prop} (h : Arr mk w g t xs) (hb : Kept S w w') (hg : S g) : Arr mk w' g t xs := Blk.kept h hb hg
theorem Arr.below {B : Nat} (h : Arr mk w g t xs) (hb : Below B w w') (hg : g < B) : Arr mk w' g t xs := Blk.below h hb hg
end

/-- A slice that lies at the head of a row of the call's own reads as a list; and it can be written. -/
theorem rowG_own {α : Type} {mk : α → Value} (d : α) {w : World} {base : Nat} {e : TypeId} {v : Value} {n : Nat} {xs : List α} (ho : w.ownsRow base e 1 v n (xs.map mk)) :
    ∃ A cap, v = .slice A n cap ∧ n ≤ cap ∧ (A = none → cap = 0) ∧ RowG mk d w (fun b => base ≤ b ∧ b < w.heap.size ∧ v.ownBlock = some b) A n xs := by
  have hl : xs.length = n := by simpa using ho.1
  have hlt := ho.lt
  rcases ho.2 with ⟨rfl, rfl⟩ | ⟨g, cap, cur, rfl, hg, hh, hnc, hc⟩
  · exact ⟨none, 0, rfl, by omega, fun _ => rfl, hl, fun h => absurd h (by omega)⟩
  · refine ⟨_, cap, rfl, hnc, (fun h => by cases h), hl, fun _ => ⟨g, 0, rfl, ⟨hg, (hlt g rfl).2, by simp [Value.ownBlock]⟩, fun j hj => ?_⟩⟩
    rw [Nat.zero_add, ho.cellAt j (by omega)]
    simp [List.getD, List.getElem?_eq_getElem (show j < xs.length by omega)]

/-- 'clear(s)' of a slice that is a whole block. -/
theorem run_clear_arr {α : Type} {mk : α → Value} {P : Program} {w : World} {g : Nat} {t : TypeId} {xs : List α} (h : Arr mk w g t xs) (z : α) (sT ty : TypeId)
    (hu : P.underlying sT = some (.slice t)) (hv : ∀ w, (zeroValue t).run P w = .ok (mk z) w) (hz1 : (mk z).cells = #[mk z]) (h1 : (mk z).oneCell' = true) (n c : Nat) (hn : xs.length = n) (hpos : 0 < n) :
    (Builtin.clear_ #[sT] ty #[.slice (some ⟨g, 0, none⟩) n c]).run P w = .ok (.tuple #[]) (w.setRow g ((List.replicate n z).map mk).toArray) := by
  have hlist : (Builtin.zeroCells (mk z).cells n).toList = List.replicate n (mk z) := by
    rw [hz1]
    simp [Builtin.zeroCells]
    apply List.ext_getElem
    · simp
    · intro j h1 h2
      simp [Nat.mod_one]
  have hst := run_storeCells_at P g 0 t (List.replicate n (mk z)) 0 (xs.map mk).toArray w h (by simp [hn]) (by intro v hv; rw [List.eq_of_mem_replicate hv]; exact h1)
  have he : (List.take (0 + 0) (xs.map mk).toArray.toList ++ List.replicate n (mk z) ++ List.drop (0 + 0 + (List.replicate n (mk z)).length) (xs.map mk).toArray.toList).toArray = ((List.replicate n z).map mk).toArray := by
    rw [show List.drop (0 + 0 + (List.replicate n (mk z)).length) (xs.map mk).toArray.toList = [] from List.drop_eq_nil_of_le (by simp [hn])]
    simp
  rw [he] at hst
  obtain ⟨k, rfl⟩ : ∃ k, n = k + 1 := ⟨n - 1, by omega⟩
  simp [Builtin.clear_, run_underlying hu, hv, hlist, hst]

theorem Arr.setRow {α : Type} {mk : α → Value} {w : World} {g : Nat} {t : TypeId} {xs : List α} (h : Arr mk w g t xs) (ys : List α) : Arr mk (w.setRow g (ys.map mk).toArray) g t ys :=
  setRow_heap w g _ _ t _ h

end Go.Proofs.YtjhggcdoahnmkaaDoor

/- append as a law of the walk and of a region that draws its order: the destination a row of the call's own, the source any slice that reads as a list (nil, empty or not). Nothing of the program is spoken of here. -/
namespace Go.Proofs.YtjhggcdoahnmkaaDoor
open Go.RowKit

theorem Arr.owns {α : Type} {mk : α → Value} {w : World} {g base n c : Nat} {t : TypeId} {xs : List α} (h : Arr mk w g t xs) (hb : base ≤ g) (hn : xs.length = n) (hc : c = n) (hm : n ≤ maxLen) :
    w.ownsRow base t 1 (.slice (some ⟨g, 0, none⟩) n c) n (xs.map mk) := by
  subst hc
  exact ⟨by simp [hn], .inr ⟨g, c, _, rfl, hb, h, Nat.le_refl _, hm, by simp [hn], by simp; rw [List.take_of_length_le (by simp [hn])]⟩⟩

/-- append(own, src...): the source a slice that is nil, empty or not. -/
theorem run_append_rowG {α : Type} {mk : α → Value} {d : α} {P : Program} (w : World) (ty t : TypeId)
    (base : Nat) (e : TypeId) (i : TypeInfo) (z : Value) (bytes : Nat) (ht : P.underlying t = some (.slice e)) (hi : P.info? e = some i) (hz : i.zero = some z)
    (hsize : i.size = 1) (hby : i.bytes = bytes) (hzs : z.cells.size = 1) (hone : ∀ x, (mk x).oneCell' = true)
    (v : Value) (n : Nat) (xs : List Value) (hown : w.ownsRow base e 1 v n xs)
    (S : Nat → Prop) (A : Option Addr) (m c : Nat) (news : List α) (hr : RowG mk d w S A m news) (hnil : A = none → c = 0)
    (h63 : n + m ≤ maxLen) (hbytes : (n + m) * bytes ≤ 140737488355328) (hbase : base ≤ w.heap.size) :
    ∃ v' w', (Builtin.append_ #[t, t] ty #[v, .slice A m c]).run P w = .ok v' w' ∧ w'.ownsRow base e 1 v' (n + m) (xs ++ news.map mk) ∧ w.grownBy w' v.ownBlock ∧
      (v'.ownBlock = v.ownBlock ∨ v'.ownBlock = some w.heap.size) := by
  have hl := hr.1
  rcases A with _ | ad
  · have hm : m = 0 := by
      rcases Nat.eq_zero_or_pos m with h0 | h0
      · exact h0
      · obtain ⟨_, _, h1, _⟩ := hr.2 h0
        cases h1
    subst hm
    have hn : news = [] := List.eq_nil_of_length_eq_zero hl
    subst hn
    rw [hnil rfl]
    exact ⟨v, w, run_append_owned_none (P := P) (w := w) base t ty e i 1 ht hi v n xs hown, by simpa using hown, World.grownBy.refl w _, .inl rfl⟩
  · obtain ⟨v', w', h1, h2, h3, _, h4⟩ := run_append_own_at (P := P) w base t ty e i z 1 bytes ht hi hz hsize hby hzs (by omega) v n xs hown ad m c (news.map mk) (by simp; omega)
      (fun j u hu => by
        have hj : j < m := by
          rcases Nat.lt_or_ge j m with h0 | h0
          · exact h0
          · rw [List.getElem?_eq_none (by simp; omega)] at hu
            cases hu
        obtain ⟨b, off, h1, _, h3⟩ := hr.2 (by omega)
        injection h1 with h1
        subst h1
        rw [add_plain, h3 j hj]
        simp only [List.getElem?_map, List.getElem?_eq_getElem (show j < news.length by omega), Option.map_some] at hu
        simpa [List.getD, List.getElem?_eq_getElem (show j < news.length by omega)] using hu)
      (fun u hu => by
        obtain ⟨q, _, rfl⟩ := List.mem_map.1 hu
        exact hone q) h63 hbytes hbase
    exact ⟨v', w', h1, h2, h3, h4⟩

section
variable {α : Type} {mk : α → Value} {d : α} {P : Program} {w : World} {ops : Array Oper} {rest : List Oper} {o : Oper} {a : Act} {Q : Exit → Act → World → Prop}
theorem wpList_append_rowG (hgd : Region.wanted o (yielded ops a.tmps) = true) (s x : Operand) (t : TypeId)
    (ho : o.op = .call { callee := .builtin .append, args := #[s, x], argTypes := #[t, t] })
    (base : Nat) (e : TypeId) (i : TypeInfo) (z : Value) (bytes : Nat) (ht : P.underlying t = some (.slice e)) (hi : P.info? e = some i) (hz : i.zero = some z)
    (hsize : i.size = 1) (hby : i.bytes = bytes) (hzs : z.cells.size = 1) (hone : ∀ x, (mk x).oneCell' = true)
    (v : Value) (n : Nat) (xs : List Value) (hs : a.eval s = v) (hown : w.ownsRow base e 1 v n xs)
    (S : Nat → Prop) (A : Option Addr) (m c : Nat) (news : List α) (hx : a.eval x = .slice A m c) (hr : RowG mk d w S A m news) (hnil : A = none → c = 0)
    (h63 : n + m ≤ maxLen) (hbytes : (n + m) * bytes ≤ 140737488355328) (hbase : base ≤ w.heap.size)
    (h : ∀ v' w', w'.ownsRow base e 1 v' (n + m) (xs ++ news.map mk) → w.grownBy w' v.ownBlock → (v'.ownBlock = v.ownBlock ∨ v'.ownBlock = some w.heap.size) → wpList P ops Q rest (a.put o.dst v') w') :
    wpList P ops Q (o :: rest) a w := by
  obtain ⟨v', w', hrun, h2, h3, h4⟩ := run_append_rowG (P := P) w o.type t base e i z bytes ht hi hz hsize hby hzs hone v n xs hown S A m c news hr hnil h63 hbytes hbase
  refine wpList_step fun K hK => ?_
  rw [if_pos hgd]
  unfold Oper.wp execOp
  simp only [ho, resolve, invoke, builtin, Sem.run_bind, Sem.run_pure, Result.andThen_ok, List.map_toArray, List.map_cons, List.map_nil, hs, hx, hrun]
  exact hK _ _ (h v' w' h2 h3 h4)

theorem step_append_rowG {K : Act → World → Prop} {E : Prop} (hgd : Region.wanted o (yielded ops a.tmps) = true) (s x : Operand) (t : TypeId)
    (ho : o.op = .call { callee := .builtin .append, args := #[s, x], argTypes := #[t, t] })
    (base : Nat) (e : TypeId) (i : TypeInfo) (z : Value) (bytes : Nat) (ht : P.underlying t = some (.slice e)) (hi : P.info? e = some i) (hz : i.zero = some z)
    (hsize : i.size = 1) (hby : i.bytes = bytes) (hzs : z.cells.size = 1) (hone : ∀ x, (mk x).oneCell' = true)
    (v : Value) (n : Nat) (xs : List Value) (hs : a.eval s = v) (hown : w.ownsRow base e 1 v n xs)
    (S : Nat → Prop) (A : Option Addr) (m c : Nat) (news : List α) (hx : a.eval x = .slice A m c) (hr : RowG mk d w S A m news) (hnil : A = none → c = 0)
    (h63 : n + m ≤ maxLen) (hbytes : (n + m) * bytes ≤ 140737488355328) (hbase : base ≤ w.heap.size)
    (h : ∀ v' w', w'.ownsRow base e 1 v' (n + m) (xs ++ news.map mk) → w.grownBy w' v.ownBlock → (v'.ownBlock = v.ownBlock ∨ v'.ownBlock = some w.heap.size) → K (a.put o.dst v') w') :
    if Region.wanted o (yielded ops a.tmps) = true then Oper.wp P o a w K Q else E := by
  obtain ⟨v', w', hrun, h2, h3, h4⟩ := run_append_rowG (P := P) w o.type t base e i z bytes ht hi hz hsize hby hzs hone v n xs hown S A m c news hr hnil h63 hbytes hbase
  rw [if_pos hgd]
  unfold Oper.wp execOp
  simp only [ho, resolve, invoke, builtin, Sem.run_bind, Sem.run_pure, Result.andThen_ok, List.map_toArray, List.map_cons, List.map_nil, hs, hx, hrun]
  exact h v' w' h2 h3 h4
end

/-- One element that has just been laid. -/
theorem row_new1 {α : Type} (mk : α → Value) (d : α) (w : World) (t : TypeId) (v : α) : RowG mk d (w.alloc (.cells #[mk v] t)) (· = w.heap.size) (some ⟨w.heap.size, 0, none⟩) 1 [v] :=
  ⟨rfl, fun _ => ⟨_, 0, rfl, rfl, fun j hj => by
    obtain rfl : j = 0 := by omega
    exact (Blk.new w t #[mk v]).cell 0⟩⟩

end Go.Proofs.YtjhggcdoahnmkaaDoor

/- A walk that halts at a return; a function's results of which one is a struct or an array in memory. Nothing of the program is spoken of here. -/
namespace Go.Proofs.YtjhggcdoahnmkaaDoor
open Go.RowKit
set_option linter.unusedVariables false

theorem Arr.rowN {α : Type} {mk : α → Value} {w : World} {g : Nat} {t : TypeId} {xs : List α} (h : Arr mk w g t xs) (d : α) {n : Nat} (hn : xs.length = n) {S : Nat → Prop} (hs : S g) : RowG mk d w S (some ⟨g, 0, none⟩) n xs := by
  subst hn
  exact h.row d hs

/-- The walk halts at a return, which it would else open cell by cell. -/
def Halt (p : Prop) : Prop := p
theorem halt_end {P : Program} {fn : Func} {R : Ending → World → Prop} {e : Exit} {a : Act} {w : World} (h : Halt (bodyPost P fn R e a w)) : bodyPost P fn R e a w := h
theorem halt_list {P : Program} {ops : Array Oper} {Q : Exit → Act → World → Prop} {l : List Oper} {a : Act} {w : World} (h : Halt (wpList P ops Q l a w)) : wpList P ops Q l a w := h
theorem Halt.on {p : Prop} (h : p) : Halt p := h
theorem Halt.ret {P : Program} {fn : Func} {R : Ending → World → Prop} {a : Act} {w : World} {v : Value} (hr : (results fn a.tmps).run P w = .ok v w) (hd : a.defers = []) (hR : R (.returned v) w) : Halt (bodyPost P fn R .ret a w) :=
  bodyPost_ret hr hd hR

theorem results_row2 {P : Program} {fn : Func} {p u : Tmp} {ty : TypeId} (h : fn.results = #[.cell p ty, .tmp u]) (tmps : Array Value) (w : World) (g : Nat) (t : TypeId) (cs : Array Value) (d : TypeDesc) (hp : tmps.getD p undef = .pointer (some ⟨g, 0, none⟩))
    (hg : Blk w g t cs) (hu : P.underlying ty = some d) (hd : (match d with | .struct _ | .array _ _ => true | _ => false) = true) (hi : (P.info? ty).map (·.size) = some cs.size) :
    (results fn tmps).run P w = .ok (.tuple #[.agg cs, tmps.getD u undef]) w := by
  have hp' : tmps[p]?.getD undef = .pointer (some ⟨g, 0, none⟩) := by simpa using hp
  have := run_loadVar_row (P := P) w g t ty cs (0, 0) d hg hu hd hi
  simp [results, h, hp', asAddr, this]

theorem results_row3 {P : Program} {fn : Func} {p u v : Tmp} {ty : TypeId} (h : fn.results = #[.cell p ty, .tmp u, .tmp v]) (tmps : Array Value) (w : World) (g : Nat) (t : TypeId) (cs : Array Value) (d : TypeDesc) (hp : tmps.getD p undef = .pointer (some ⟨g, 0, none⟩))
    (hg : Blk w g t cs) (hu : P.underlying ty = some d) (hd : (match d with | .struct _ | .array _ _ => true | _ => false) = true) (hi : (P.info? ty).map (·.size) = some cs.size) :
    (results fn tmps).run P w = .ok (.tuple #[.agg cs, tmps.getD u undef, tmps.getD v undef]) w := by
  have hp' : tmps[p]?.getD undef = .pointer (some ⟨g, 0, none⟩) := by simpa using hp
  have := run_loadVar_row (P := P) w g t ty cs (0, 0) d hg hu hd hi
  simp [results, h, hp', asAddr, this]

theorem results_row1 {P : Program} {fn : Func} {p : Tmp} {ty : TypeId} (h : fn.results = #[.cell p ty]) (tmps : Array Value) (w : World) (g : Nat) (t : TypeId) (cs : Array Value) (d : TypeDesc) (hp : tmps.getD p undef = .pointer (some ⟨g, 0, none⟩))
    (hg : Blk w g t cs) (hu : P.underlying ty = some d) (hd : (match d with | .struct _ | .array _ _ => true | _ => false) = true) (hi : (P.info? ty).map (·.size) = some cs.size) :
    (results fn tmps).run P w = .ok (.agg cs) w := by
  have hp' : tmps[p]?.getD undef = .pointer (some ⟨g, 0, none⟩) := by simpa using hp
  have := run_loadVar_row (P := P) w g t ty cs (0, 0) d hg hu hd hi
  simp [results, h, hp', asAddr, this]

theorem Arr.range {w : World} {g : Nat} {t : TypeId} {xs : List Int} (h : Arr (Value.int .u8) w g t xs) : w.rangeAt g 0 (xs.map (Value.int .u8)) := by
  intro j v hv
  have hj : j < xs.length := by
    rcases Nat.lt_or_ge j xs.length with h | h
    · exact h
    · rw [List.getElem?_eq_none (by simpa using h)] at hv; cases hv
  rw [Nat.zero_add, h.cell hj 0, ← hv]
  simp [List.getD, List.getElem?_eq_getElem hj]

theorem own_below {w w' : World} {base size n : Nat} {e : TypeId} {v : Value} {xs : List Value} (h : w.ownsRow base e size v n xs) (hb : Below w.heap.size w w') : w'.ownsRow base e size v n xs :=
  h.kept (row := none) ⟨hb.os, hb.tape, hb.output, hb.size, fun j hj _ => hb.block j hj⟩ (by cases v.ownBlock <;> simp)
theorem own_base {w : World} {base base' size n : Nat} {e : TypeId} {v : Value} {xs : List Value} (h : w.ownsRow base e size v n xs) (hb : base' ≤ base) : w.ownsRow base' e size v n xs := by
  refine ⟨h.1, ?_⟩
  rcases h.2 with h0 | ⟨g, cap, cur, h1, h2, h3⟩
  · exact .inl h0
  · exact .inr ⟨g, cap, cur, h1, Nat.le_trans hb h2, h3⟩

section
variable {P : Program} {w : World} {ops : Array Oper} {rest : List Oper} {o : Oper} {a : Act} {Q : Exit → Act → World → Prop}
/-- A variable of many cells is loaded, or stored, whole. -/
theorem Blk.rangeL {w : World} {g : Nat} {t : TypeId} {cs : List Value} (h : Blk w g t cs.toArray) : w.rangeAt g 0 cs := by
  intro j v hv
  rw [Nat.zero_add, h.cell j]
  simpa using hv
theorem wpList_load_rowB (x : Operand) (ty : TypeId) (ho : o.op = .load ty x) (hgd : Region.wanted o (yielded ops a.tmps) = true) (b : Nat) (hx : a.eval x = .pointer (some ⟨b, 0, none⟩))
    (t : TypeId) (cs : List Value) (d : TypeDesc) (hu : P.underlying ty = some d) (hd : d.isRow = true) (hi : (P.info? ty).map (·.size) = some cs.length) (hc : Blk w b t cs.toArray)
    (h : wpList P ops Q rest (a.put o.dst (.agg cs.toArray)) w) : wpList P ops Q (o :: rest) a w := by
  refine wpList_step fun K hK => ?_
  rw [if_pos hgd]
  exact wp_load_mid ty x ho b 0 hx cs d hc.rangeL hu hd hi (hK _ _ h)
theorem wpList_store_rowB (x y : Operand) (ty : TypeId) (ho : o.op = .store ty x y) (hgd : o.guard = none) (g : Nat) (cs : Array Value) (hx : a.eval x = .pointer (some ⟨g, 0, none⟩)) (hy : a.eval y = .agg cs)
    (t : TypeId) (cs0 : Array Value) (hg : Blk w g t cs0) (hi : (P.info? ty).map (·.size) = some cs.size) (hl : cs0.size = cs.size) (hone : cs.all (·.oneCell') = true)
    (h : wpList P ops Q rest (a.put o.dst undef) (w.setRow g cs)) : wpList P ops Q (o :: rest) a w :=
  wpList_store_row hgd ty x y ho g cs hx hy t cs0 hg hi hl hone h
end

/-- The second, the third block that a call makes. -/
theorem blk_new2 (w : World) (o : Obj) (t : TypeId) (cs : Array Value) : Blk ((w.alloc o).alloc (.cells cs t)) (w.heap.size + 1) t cs := by
  have h := Blk.new (w.alloc o) t cs
  rw [show (w.alloc o).heap.size = w.heap.size + 1 by simp] at h
  exact h
theorem blk_new3 (w : World) (o o' : Obj) (t : TypeId) (cs : Array Value) : Blk (((w.alloc o).alloc o').alloc (.cells cs t)) (w.heap.size + 1 + 1) t cs := by
  have h := blk_new2 (w.alloc o) o' t cs
  rw [show (w.alloc o).heap.size = w.heap.size + 1 by simp] at h
  exact h

end Go.Proofs.YtjhggcdoahnmkaaDoor

/- Rings as data: a segment is three numbers, its number a fourth; slices of whatever rows of cells; the segments that are not free, in order. -/
namespace Go.Proofs.YtjhggcdoahnmkaaDoor
set_option maxRecDepth 100000
open Go.RowKit
set_option linter.unusedVariables false

abbrev Seg := Int × Int × Int
abbrev Num := Nat × Seg
abbrev seg0 : Seg := (0, 0, 0)
abbrev num0 : Num := (0, seg0)
abbrev segC (s : Seg) : List Value := [.int .i64 s.1, .int .u64 s.2.1, .int .i64 s.2.2]
abbrev numC (x : Num) : List Value := [.int .i64 x.1, .int .i64 x.2.1, .int .u64 x.2.2.1, .int .i64 x.2.2.2]
theorem one_seg (s : Seg) : (segC s).toArray.all (·.oneCell') = true := by simp [segC, Value.oneCell']
theorem one_num (x : Num) : (numC x).toArray.all (·.oneCell') = true := by simp [numC, Value.oneCell']
theorem ones_seg (s : Seg) : ∀ v ∈ segC s, v.oneCell' = true := by
  intro v hv
  simp [segC] at hv
  rcases hv with rfl | rfl | rfl <;> rfl
theorem ones_num (x : Num) : ∀ v ∈ numC x, v.oneCell' = true := by
  intro v hv
  simp [numC] at hv
  rcases hv with rfl | rfl | rfl | rfl <;> rfl

/-- A slice of rows of k cells that reads as a list; its block is in S. -/
def RowQ {α : Type} (enc : α → List Value) (k : Nat) (d : α) (w : World) (S : Nat → Prop) (A : Option Addr) (n : Nat) (xs : List α) : Prop :=
  xs.length = n ∧ (0 < n → ∃ b off, A = some ⟨b, off, none⟩ ∧ S b ∧ ∀ i, i < n → w.rangeAt b (off + i * k) (enc (xs.getD i d)))
abbrev RowZ := RowQ segC 3 seg0
abbrev RowN := RowQ numC 4 num0
section
variable {α : Type} {enc : α → List Value} {k : Nat} {d : α} {w w' : World} {S T : Nat → Prop} {A : Option Addr} {n : Nat} {xs : List α}
theorem RowQ.keep (h : RowQ enc k d w S A n xs) (hk : ∀ p : Addr, S p.block → w'.cell? p = w.cell? p) : RowQ enc k d w' S A n xs :=
  ⟨h.1, fun hn => by
    obtain ⟨b, off, e, hb, hc⟩ := h.2 hn
    exact ⟨b, off, e, hb, fun i hi j v hv => by rw [hk _ hb]; exact hc i hi j v hv⟩⟩
theorem RowQ.more (h : RowQ enc k d w S A n xs) (hs : ∀ b, S b → T b) : RowQ enc k d w T A n xs :=
  ⟨h.1, fun hn => by
    obtain ⟨b, off, e, hb, hc⟩ := h.2 hn
    exact ⟨b, off, e, hs b hb, hc⟩⟩
theorem RowQ.below {B : Nat} (h : RowQ enc k d w S A n xs) (hb : Below B w w') (hs : ∀ b, S b → b < B) : RowQ enc k d w' S A n xs := h.keep fun _ hp => hb.cell (hs _ hp)
theorem RowQ.kept (h : RowQ enc k d w S A n xs) (hb : Kept T w w') (hs : ∀ b, S b → T b) : RowQ enc k d w' S A n xs := h.keep fun _ hp => hb.cell (hs _ hp)
theorem RowQ.nil (enc : α → List Value) (k : Nat) (d : α) (w : World) (S : Nat → Prop) (A : Option Addr) : RowQ enc k d w S A 0 [] := ⟨rfl, fun h => absurd h (by omega)⟩
end

/-- The first j segments that are not free, each with its number. -/
def liveTo (xs : List Seg) : Nat → List Num
  | 0 => []
  | j + 1 => liveTo xs j ++ (if (xs.getD j seg0).1 = 0 then [] else [(j, xs.getD j seg0)])
def live (xs : List Seg) : List Num := liveTo xs xs.length
theorem liveTo_length (xs : List Seg) : ∀ j, (liveTo xs j).length ≤ j
  | 0 => Nat.le_refl _
  | j + 1 => by
    have := liveTo_length xs j
    unfold liveTo
    split <;> simp <;> omega
theorem mem_liveTo (xs : List Seg) (x : Num) : ∀ j, x ∈ liveTo xs j ↔ x.1 < j ∧ x.2 = xs.getD x.1 seg0 ∧ x.2.1 ≠ 0
  | 0 => by simp [liveTo]
  | j + 1 => by
    unfold liveTo
    rw [List.mem_append, mem_liveTo xs x j]
    obtain ⟨i, s⟩ := x
    by_cases h : (xs.getD j seg0).1 = 0
    · rw [if_pos h]
      constructor
      · rintro (⟨h1, h2, h3⟩ | h1)
        · exact ⟨by simp only [] at *; omega, h2, h3⟩
        · cases h1
      · rintro ⟨h1, h2, h3⟩
        refine .inl ⟨?_, h2, h3⟩
        simp only [] at *
        rcases Nat.lt_or_ge i j with hlt | hge
        · exact hlt
        · obtain rfl : i = j := by omega
          rw [h2] at h3
          exact absurd h h3
    · rw [if_neg h]
      simp only [List.mem_singleton, Prod.mk.injEq]
      constructor
      · rintro (⟨h1, h2, h3⟩ | ⟨rfl, rfl⟩)
        · exact ⟨by omega, h2, h3⟩
        · exact ⟨by omega, rfl, h⟩
      · rintro ⟨h1, h2, h3⟩
        rcases Nat.lt_or_ge i j with hlt | hge
        · exact .inl ⟨hlt, h2, h3⟩
        · obtain rfl : i = j := by omega
          exact .inr ⟨rfl, h2⟩
theorem mem_live {xs : List Seg} {x : Num} : x ∈ live xs ↔ x.1 < xs.length ∧ x.2 = xs.getD x.1 seg0 ∧ x.2.1 ≠ 0 := mem_liveTo xs x _

section
variable {P : Program} {w : World} {ops : Array Oper} {rest : List Oper} {o : Oper} {a : Act} {Q : Exit → Act → World → Prop}
theorem wpList_alloc_row (ty : TypeId) (ho : o.op = .alloc ty) (hgd : o.guard = none) (zs : Array Value) (hz : ∀ w, (zeroValue ty).run P w = .ok (.agg zs) w)
    (h : wpList P ops Q rest (a.put o.dst (.pointer (some ⟨w.heap.size, 0, none⟩))) (w.alloc (.cells zs ty))) : wpList P ops Q (o :: rest) a w := by
  refine wpList_plain hgd fun K hK => ?_
  unfold Oper.wp execOp
  simp only [ho, Instr.alloc, Sem.run_bind, hz, Result.andThen_ok]
  exact hK _ _ h
theorem wpList_store_fresh (x y : Operand) (ty : TypeId) (ho : o.op = .store ty x y) (hgd : o.guard = none) (w0 : World) (zs cs : Array Value)
    (hx : a.eval x = .pointer (some ⟨w0.heap.size, 0, none⟩)) (hy : a.eval y = .agg cs) (t : TypeId) (hw : w = w0.alloc (.cells zs t)) (hi : (P.info? ty).map (·.size) = some cs.size) (hl : zs.size = cs.size) (hone : cs.all (·.oneCell') = true)
    (h : wpList P ops Q rest (a.put o.dst undef) (w0.alloc (.cells cs t))) : wpList P ops Q (o :: rest) a w := by
  subst hw
  refine wpList_store_row hgd ty x y ho w0.heap.size cs hx hy t zs (heap_alloc_last w0 _) hi hl hone ?_
  rw [World.setRow_alloc_new]
  exact h
/-- A struct is loaded out of the midst of a block. -/
theorem wpList_load_part (x : Operand) (ty : TypeId) (ho : o.op = .load ty x) (hgd : Region.wanted o (yielded ops a.tmps) = true) (b off : Nat) (hx : a.eval x = .pointer (some ⟨b, off, none⟩))
    (cs : List Value) (d : TypeDesc) (hu : P.underlying ty = some d) (hd : d.isRow = true) (hi : (P.info? ty).map (·.size) = some cs.length) (hc : w.rangeAt b off cs)
    (h : wpList P ops Q rest (a.put o.dst (.agg cs.toArray)) w) : wpList P ops Q (o :: rest) a w := by
  refine wpList_step fun K hK => ?_
  rw [if_pos hgd]
  exact wp_load_mid ty x ho b off hx cs d hc hu hd hi (hK _ _ h)
end

end Go.Proofs.YtjhggcdoahnmkaaDoor

/- Pages and arenas as data: classes, sizes, bits; what giving and taking make of them. Nothing of the program is spoken of here. -/
namespace Go.Proofs.YtjhggcdoahnmkaaDoor
set_option linter.unusedVariables false
set_option linter.unusedSimpArgs false

/-- A page: its class, and its given chunks as bits. -/
abbrev Pg := Nat × Nat
abbrev pg0 : Pg := (0, 0)
def szN (k : Nat) : Nat := [32, 64, 96, 144, 216, 324, 486, 1024].getD k 0
def chN (k : Nat) : Nat := [32, 16, 10, 7, 4, 3, 2, 1].getD k 0
def clsE (n : Int) : Nat := if n < 0 then 2 else if n ≤ 1024 then 0 else 3
def clsK (n : Int) : Nat := if n < 0 then 0 else if n ≤ 32 then 0 else if n ≤ 64 then 1 else if n ≤ 96 then 2 else if n ≤ 144 then 3 else if n ≤ 216 then 4 else if n ≤ 324 then 5 else if n ≤ 486 then 6 else if n ≤ 1024 then 7 else 0
theorem clsK_lt (n : Int) : clsK n < 8 := by
  unfold clsK
  repeat' split
  all_goals omega
theorem chN_pos {k : Nat} (h : k < 8) : 1 ≤ chN k ∧ chN k ≤ 32 := by
  have : ∀ k : Fin 8, 1 ≤ chN k ∧ chN k ≤ 32 := by decide
  exact this ⟨k, h⟩
theorem chN_div {k : Nat} (h : k < 8) : 1024 / szN k = chN k ∧ szN k ≠ 0 ∧ szN k * chN k ≤ 1024 := by
  have : ∀ k : Fin 8, 1024 / szN k = chN k ∧ szN k ≠ 0 ∧ szN k * chN k ≤ 1024 := by decide
  exact this ⟨k, h⟩

/-- How many chunks are given. -/
def pop (g : Nat) : Nat := ((List.range 32).filter (fun i => g.testBit i)).length
/-- The least place that is not given. -/
def fst0 (g : Nat) : Nat := Lib.ctz 32 (4294967295 - g)
def hasP (k : Nat) (p : Pg) : Bool := !(decide (p.2 = 0)) && decide (p.1 = k)
def roomB (k : Nat) (p : Pg) : Bool := hasP k p && !(decide (pop p.2 = chN p.1))
def freeB (p : Pg) : Bool := decide (p.2 = 0)
def roomyP (k : Nat) (ps : List Pg) : Int := if Lib.idxBy (fun _ p => roomB k p) ps pg0 < 0 then Lib.idxBy (fun _ p => freeB p) ps pg0 else Lib.idxBy (fun _ p => roomB k p) ps pg0
/-- What is told, and the pages behind it, when a chunk is asked for. -/
def giveE (ps : List Pg) (n : Int) : Nat := if clsE n = 0 then (if roomyP (clsK n) ps < 0 then 6 else 0) else clsE n
def giveAt (ps : List Pg) (n : Int) : Nat := (roomyP (clsK n) ps).toNat
def givePl (ps : List Pg) (n : Int) : Nat := fst0 (ps.getD (giveAt ps n) pg0).2
def giveN (ps : List Pg) (n : Int) : Nat := if giveE ps n = 0 then giveAt ps n * 32 + givePl ps n else 0
def giveX (ps : List Pg) (n : Int) : List Pg := if giveE ps n = 0 then ps.set (giveAt ps n) (clsK n, (ps.getD (giveAt ps n) pg0).2 ||| 2 ^ givePl ps n) else ps
/-- A chunk that is given, or why it is none. -/
def findE (ps : List Pg) (c : Int) : Nat := if c < 0 then 2 else if (ps.length : Int) ≤ c / 32 then 2 else if (ps.getD (c / 32).toNat pg0).2.testBit (c % 32).toNat then 0 else 4
def whereK (ps : List Pg) (c : Int) : Nat := if findE ps c = 0 then (ps.getD (c / 32).toNat pg0).1 else 0
def clrP (p : Pg) (i : Nat) : Pg := if p.2 ^^^ 2 ^ i = 0 then pg0 else (p.1, p.2 ^^^ 2 ^ i)
def takeX (ps : List Pg) (c : Int) : List Pg := if findE ps c = 0 then ps.set (c / 32).toNat (clrP (ps.getD (c / 32).toNat pg0) (c % 32).toNat) else ps
def usedP (k : Nat) (ps : List Pg) : Nat := ((ps.filter (hasP k)).map (fun p => pop p.2)).sum
def pagesP (k : Nat) (ps : List Pg) : Nat := (ps.filter (hasP k)).length
def freeP (ps : List Pg) : Nat := (ps.filter freeB).length
/-- What a page may be. -/
def OkP (p : Pg) : Prop := p.1 < 8 ∧ p.2 < 2 ^ chN p.1 ∧ (p.2 = 0 → p.1 = 0)
def InvP (ps : List Pg) : Prop := ∀ p, p ∈ ps → OkP p

theorem ok0 : OkP pg0 := ⟨by decide, by decide, fun _ => rfl⟩
theorem OkP.u32 {p : Pg} (h : OkP p) : p.2 < 4294967296 := by
  have h1 := (chN_pos h.1).2
  have h2 : 2 ^ chN p.1 ≤ 2 ^ 32 := Nat.pow_le_pow_right (by decide) h1
  have := h.2.1
  omega
theorem InvP.get {ps : List Pg} (h : InvP ps) (i : Nat) : OkP (ps.getD i pg0) := by
  by_cases hi : i < ps.length
  · simp only [List.getD, List.getElem?_eq_getElem hi, Option.getD_some]
    exact h _ (List.getElem_mem hi)
  · rw [List.getD, List.getElem?_eq_none (by omega)]
    exact ok0
theorem InvP.set {ps : List Pg} (h : InvP ps) {i : Nat} {p : Pg} (hp : OkP p) : InvP (ps.set i p) := fun q hq => by
  rcases List.mem_or_eq_of_mem_set hq with h1 | rfl
  · exact h q h1
  · exact hp
theorem InvP.rep (n : Nat) : InvP (List.replicate n pg0) := fun p hp => by rw [List.eq_of_mem_replicate hp]; exact ok0

/-! Bits. -/
theorem pop_le (g : Nat) : pop g ≤ 32 := by
  have := List.length_filter_le (fun i => g.testBit i) (List.range 32)
  simpa [pop] using this
theorem tb_high {g c i : Nat} (h : g < 2 ^ c) (hi : c ≤ i) : g.testBit i = false := Nat.testBit_lt_two_pow (Nat.lt_of_lt_of_le h (Nat.pow_le_pow_right (by decide) hi))
theorem pop_zero : pop 0 = 0 := by simp [pop]
theorem eq_zero_tb {g : Nat} (h : ∀ i, g.testBit i = false) : g = 0 := Nat.eq_of_testBit_eq fun i => by simp [h i]
/-- One bit turned. -/
theorem pop_turn {g g' p : Nat} (hp : p < 32) (h0 : g.testBit p = false) (h1 : g'.testBit p = true) (hs : ∀ i, i ≠ p → g'.testBit i = g.testBit i) : pop g' = pop g + 1 := by
  have key : ∀ n, ((List.range n).filter (fun i => g'.testBit i)).length = ((List.range n).filter (fun i => g.testBit i)).length + (if p < n then 1 else 0) := by
    intro n
    induction n with
    | zero => simp
    | succ n ih =>
      rw [List.range_succ, List.filter_append, List.filter_append, List.length_append, List.length_append, ih]
      by_cases e : n = p
      · subst e
        simp [h0, h1]
      · rw [show (List.filter (fun i => g'.testBit i) [n]) = List.filter (fun i => g.testBit i) [n] by simp [List.filter_cons, hs n e]]
        by_cases h2 : p < n
        · rw [if_pos h2, if_pos (by omega)]; omega
        · rw [if_neg h2, if_neg (by omega)]; omega
  have := key 32
  rw [if_pos hp] at this
  exact this
theorem or_tb (g p i : Nat) : (g ||| 2 ^ p).testBit i = (g.testBit i || decide (p = i)) := by rw [Nat.testBit_or, Nat.testBit_two_pow]
theorem xor_tb (g p i : Nat) : (g ^^^ 2 ^ p).testBit i = (g.testBit i != decide (p = i)) := by
  rw [Nat.testBit_xor, Nat.testBit_two_pow]
theorem pop_or {g p : Nat} (hp : p < 32) (h0 : g.testBit p = false) : pop (g ||| 2 ^ p) = pop g + 1 :=
  pop_turn hp h0 (by rw [or_tb]; simp) (fun i hi => by rw [or_tb]; simp [Ne.symm hi])
theorem pop_xor {g p : Nat} (hp : p < 32) (h1 : g.testBit p = true) : pop g = pop (g ^^^ 2 ^ p) + 1 :=
  pop_turn hp (by rw [xor_tb]; simp [h1]) h1 (fun i hi => by rw [xor_tb]; simp [Ne.symm hi])
theorem pop_pos {g p : Nat} (hp : p < 32) (h1 : g.testBit p = true) : 0 < pop g := by rw [pop_xor hp h1]; omega
theorem pop_full {c g : Nat} (hc : c ≤ 32) (h : g < 2 ^ c) (ha : ∀ i, i < c → g.testBit i = true) : pop g = c := by
  have key : ∀ n, ((List.range n).filter (fun i => g.testBit i)).length = min n c := by
    intro n
    induction n with
    | zero => simp
    | succ n ih =>
      rw [List.range_succ, List.filter_append, List.length_append, ih]
      by_cases e : n < c
      · simp [ha n e]; omega
      · simp [tb_high h (show c ≤ n by omega)]; omega
  have := key 32
  unfold pop
  omega
theorem lt_pow_tb {c x : Nat} (h : ∀ i, c ≤ i → x.testBit i = false) : x < 2 ^ c := by
  rcases Nat.lt_or_ge x (2 ^ c) with h1 | h1
  · exact h1
  · obtain ⟨i, hi, ht⟩ := Nat.exists_ge_and_testBit_of_ge_two_pow h1
    rw [h i hi] at ht
    cases ht
/-- The least place that is free. -/
theorem fst0_spec {g : Nat} (h : g < 4294967295) : (g.testBit (fst0 g) = false ∧ fst0 g < 32) ∧ ∀ j, j < fst0 g → g.testBit j = true := by
  have hx : 4294967295 - g ≠ 0 := by omega
  have hc : ∀ j, j < 32 → (4294967295 - g).testBit j = !g.testBit j := fun j hj => by
    have := Nat.testBit_two_pow_sub_succ (x := g) (n := 32) (by omega) j
    rw [show (2 : Nat) ^ 32 - (g + 1) = 4294967295 - g by omega] at this
    rw [this]
    simp [hj]
  unfold fst0 Lib.ctz
  rw [if_neg hx]
  obtain ⟨m, hm, hl⟩ := Lib.ctzFrom_spec 32 (4294967295 - g) (by omega) (by omega)
  obtain ⟨k, hk⟩ : ∃ k, Lib.ctzFrom 32 (4294967295 - g) = k := ⟨_, rfl⟩
  rw [hk] at hm hl ⊢
  have t : ∀ j, (4294967295 - g).testBit j = (decide (k ≤ j) && (2 * m + 1).testBit (j - k)) := fun j => by
    rw [hm, Nat.mul_comm, Nat.testBit_mul_two_pow]
  refine ⟨⟨?_, hl⟩, fun j hj => ?_⟩
  · have h1 := t k
    rw [hc k hl] at h1
    simp [Nat.testBit_zero] at h1
    exact h1
  · have h1 := t j
    rw [hc j (by omega)] at h1
    rw [show decide (k ≤ j) = false by simp; omega] at h1
    simpa using h1
theorem roomB_lt {k : Nat} {p : Pg} (h : OkP p) (hr : roomB k p = true) : p.1 = k ∧ p.2 ≠ 0 ∧ p.2 < 4294967295 ∧ fst0 p.2 < chN k ∧ p.2.testBit (fst0 p.2) = false := by
  simp only [roomB, hasP, Bool.and_eq_true, Bool.not_eq_true', decide_eq_false_iff_not, decide_eq_true_eq] at hr
  obtain ⟨⟨h1, h2⟩, h3⟩ := hr
  have hc := chN_pos h.1
  have hne : p.2 ≠ 4294967295 := fun e => by
    have h5 : chN p.1 = 32 := by
      have h6 := h.2.1
      rw [e] at h6
      rcases Nat.lt_or_ge (chN p.1) 32 with h7 | h7
      · have : 2 ^ chN p.1 ≤ 2 ^ 31 := Nat.pow_le_pow_right (by decide) (by omega)
        omega
      · omega
    refine h3 ?_
    rw [h5, e]
    decide +kernel
  have hlt : p.2 < 4294967295 := by have := h.u32; omega
  obtain ⟨⟨a1, a2⟩, a3⟩ := fst0_spec hlt
  refine ⟨h2, h1, hlt, ?_, a1⟩
  rw [← h2]
  rcases Nat.lt_or_ge (fst0 p.2) (chN p.1) with h4 | h4
  · exact h4
  · exact absurd (pop_full hc.2 h.2.1 (fun i hi => a3 i (by omega))) h3
theorem fst0_zero : fst0 0 = 0 := by decide +kernel
end Go.Proofs.YtjhggcdoahnmkaaDoor

/- Slices of pages: rows of 2 cells; made, laid, loaded, stored, appended. (Turned out of stage 10's PgMem by names and numbers.) -/
namespace Go.Proofs.YtjhggcdoahnmkaaDoor.PgM
open Go.Proofs.YtjhggcdoahnmkaaDoor
open Go.RowKit
set_option linter.unusedVariables false
set_option linter.unusedSimpArgs false

abbrev pgC (e : Pg) : List Value := [.int .i64 (e.1 : Nat), .int .u32 (e.2 : Nat)]
theorem ones_ent (s : Pg) : ∀ v ∈ pgC s, v.oneCell' = true := by
  intro v hv
  simp [pgC] at hv
  rcases hv with rfl | rfl <;> rfl
abbrev RowP := RowQ pgC 2 pg0
def flatG (L : List Pg) : List Value := L.flatMap pgC
theorem flatG_append (L M : List Pg) : flatG (L ++ M) = flatG L ++ flatG M := by simp [flatG]
theorem flatG_one (s : Pg) : flatG [s] = pgC s := by simp [flatG]
theorem flatG_length (L : List Pg) : (flatG L).length = L.length * 2 := by
  induction L with
  | nil => rfl
  | cons x r ih =>
    simp only [flatG, List.flatMap_cons, List.length_append, List.length_cons] at *
    rw [ih]
    simp only [pgC, List.length_cons, List.length_nil]
    omega
theorem flatG_get : ∀ (L : List Pg) (t : Nat), t < L.length * 2 → (flatG L)[t]? = (pgC (L.getD (t / 2) pg0))[t % 2]?
  | [], t, h => by simp at h
  | y :: L, t, h => by
    unfold flatG
    rw [List.flatMap_cons]
    by_cases h4 : t < 2
    · rw [List.getElem?_append_left (by simpa using h4)]
      rw [show t / 2 = 0 by omega, show t % 2 = t by omega]
      rfl
    · have e : t - (pgC y).length = t - 2 := by simp
      rw [List.getElem?_append_right (by simp; omega), e]
      have ih := flatG_get L (t - 2) (by simp at h; omega)
      unfold flatG at ih
      rw [ih, show t / 2 = (t - 2) / 2 + 1 by omega, show t % 2 = (t - 2) % 2 by omega]
      rfl
theorem flatG_ones (L : List Pg) : ∀ v ∈ flatG L, v.oneCell' = true := by
  intro v hv
  obtain ⟨s, _, h⟩ := List.mem_flatMap.1 hv
  exact ones_ent s v h
theorem flatG_set (L : List Pg) (i : Nat) (s : Pg) (h : i < L.length) : flatG (L.set i s) = (flatG L).take (i * 2) ++ pgC s ++ (flatG L).drop (i * 2 + 2) := by
  have e : L.set i s = L.take i ++ [s] ++ L.drop (i + 1) := by
    rw [List.set_eq_take_append_cons_drop, if_pos h]; simp
  have e2 : L = L.take i ++ [L.getD i pg0] ++ L.drop (i + 1) := by
    simp only [List.getD, List.getElem?_eq_getElem h, Option.getD_some]
    rw [List.append_assoc, List.singleton_append, ← List.drop_eq_getElem_cons h, List.take_append_drop]
  have hl : (flatG (L.take i)).length = i * 2 := by rw [flatG_length, List.length_take]; omega
  have h1 : (flatG L).take (i * 2) = flatG (L.take i) := by
    conv => lhs; rw [e2]
    rw [flatG_append, flatG_append, List.append_assoc, List.take_append_of_le_length (by omega), ← hl, List.take_length]
  have h2 : (flatG L).drop (i * 2 + 2) = flatG (L.drop (i + 1)) := by
    conv => lhs; rw [e2]
    rw [flatG_append, List.drop_append_of_le_length (by rw [flatG_append, List.length_append, hl, flatG_one]; simp)]
    rw [List.drop_eq_nil_of_le (by rw [flatG_append, List.length_append, hl, flatG_one]; simp)]
    simp
  rw [h1, h2, e, flatG_append, flatG_append, flatG_one]

/-- A block that is just a list of segments. -/
def ArrS (w : World) (g : Nat) (L : List Pg) : Prop := Blk w g 127 (flatG L).toArray
theorem row_of_flat {w : World} {g : Nat} {t : TypeId} {L : List Pg} {X : List Value} (h : Blk w g t (flatG L ++ X).toArray) {S : Nat → Prop} (hS : S g) {n : Nat} (hn : L.length = n) : RowP w S (some ⟨g, 0, none⟩) n L :=
  ⟨hn, fun _ => ⟨g, 0, rfl, hS, fun i hi j v hv => by
    have hj : j < 2 := by have := (List.getElem?_eq_some_iff.1 hv).1; simpa using this
    show w.cell? ⟨g, 0 + i * 2 + j, none⟩ = some v
    rw [h.cell, Nat.zero_add]
    have hlt : i * 2 + j < (flatG L).length := by rw [flatG_length]; omega
    rw [List.getElem?_toArray, List.getElem?_append_left hlt, flatG_get L _ (by rw [flatG_length] at hlt; exact hlt), show (i * 2 + j) / 2 = i by omega, show (i * 2 + j) % 2 = j by omega]
    exact hv⟩⟩
theorem ArrS.row {w : World} {g : Nat} {L : List Pg} (h : ArrS w g L) {S : Nat → Prop} (hS : S g) {n : Nat} (hn : L.length = n) : RowP w S (some ⟨g, 0, none⟩) n L :=
  row_of_flat (X := []) (by simpa [ArrS] using h) hS hn
/-- A row reads as its cells. -/
theorem RowP_src {w : World} {S : Nat → Prop} {A : Option Addr} {n : Nat} {xs : List Pg} (h : RowP w S A n xs) (hn : 0 < n) :
    ∃ ad, A = some ad ∧ ∀ j v, (flatG xs)[j]? = some v → w.cell? (ad.add j) = some v := by
  obtain ⟨b, off, e, _, hc⟩ := h.2 hn
  refine ⟨_, e, fun j v hv => ?_⟩
  have hj : j < xs.length * 2 := by have := (List.getElem?_eq_some_iff.1 hv).1; rwa [flatG_length] at this
  rw [flatG_get xs j hj] at hv
  have h1 := hc (j / 2) (by have := h.1; omega) (j % 2) v hv
  rw [add_plain, show off + j = off + j / 2 * 2 + j % 2 by omega]
  exact h1
theorem RowP_take {w : World} {S : Nat → Prop} {A : Option Addr} {n : Nat} {xs : List Pg} (h : RowP w S A n xs) (k : Nat) (hk : k ≤ n) : RowP w S A k (xs.take k) := by
  have hl := h.1
  refine ⟨by simp; omega, fun h0 => ?_⟩
  obtain ⟨b, off, e, hb, hc⟩ := h.2 (by omega)
  refine ⟨b, off, e, hb, fun i hi => ?_⟩
  have e1 : (xs.take k).getD i pg0 = xs.getD i pg0 := by simp [List.getD, List.getElem?_take, hi]
  rw [e1]
  exact hc i (by omega)
theorem info_seg : (Tryd.prog.info? 127).map (fun i => (i.zero, i.size, i.bytes)) = some (some (.agg (pgC pg0).toArray), 2, 16) := by kernel_rfl
theorem made_segs (k : Nat) : madeCells (pgC pg0).toArray (k * 2) = (flatG (List.replicate k pg0)).toArray := by
  apply Array.ext
  · simp [size_madeCells, flatG_length]
  · intro i h1 h2
    have hi : i < k * 2 := by simpa [size_madeCells] using h1
    have hq : i / 2 < k := by omega
    have e2 := flatG_get (List.replicate k pg0) i (by simpa using hi)
    have e3 : (List.replicate k pg0).getD (i / 2) pg0 = pg0 := by simp [List.getD, List.getElem?_replicate, hq]
    rw [e3, ← List.getElem?_toArray, Array.getElem?_eq_getElem h2] at e2
    have hm : i % 2 < 2 := Nat.mod_lt _ (by omega)
    have e4 : (pgC pg0).toArray[i % 2]! = (pgC pg0)[i % 2]'(by simpa using hm) := by
      rw [getElem!_def, List.getElem?_toArray, List.getElem?_eq_getElem (by simpa using hm)]
    rw [List.getElem?_eq_getElem (by simpa using hm)] at e2
    injection e2 with e2
    rw [e2]
    simp only [madeCells, Array.getElem_map, Array.getElem_range]
    exact e4
theorem run_make_segs (l c : Nat) (hlc : l ≤ c) (hc : c ≤ 1000000) (w : World) : (Instr.makeSlice 105 (.int .i64 l) (.int .i64 c)).run Tryd.prog w = .ok (.slice (some ⟨w.heap.size, 0, none⟩) l c) (w.alloc (.cells (flatG (List.replicate c pg0)).toArray 127)) := by
  obtain ⟨i0, hi, hz0, hz1, hz2⟩ := info_parts info_seg
  have hr := run_make (P := Tryd.prog) w 105 127 i0 (.agg (pgC pg0).toArray) Tryd.underlying105 hi hz0 .i64 .i64 l c (by omega) (by omega) (by rw [hz2]; omega) (by omega)
  simp only [Int.toNat_natCast, hz1, Value.cells] at hr
  rw [made_segs] at hr
  exact hr
theorem run_copy_segs (w : World) (ty : TypeId) (g dCap : Nat) (a : Addr) (n sCap : Nat) (cur : List Value) (cs : List Value)
    (hg : Blk w g 127 cur.toArray) (hn : cs.length = n * 2) (hsrc : ∀ j v, cs[j]? = some v → w.cell? (a.add j) = some v) (hfit : cs.length = cur.length) (h1 : ∀ v ∈ cs, v.oneCell' = true) :
    (Builtin.copy_ #[105, 105] ty #[.slice (some ⟨g, 0, none⟩) n dCap, .slice (some a) n sCap]).run Tryd.prog w = .ok (goInt n) (w.setRow g cs.toArray) := by
  have hl := run_loadCells_list (P := Tryd.prog) w a cs hsrc
  have hst := run_storeCells_at Tryd.prog g 0 127 cs 0 cur.toArray w hg (by simp [hfit]) h1
  have e : (List.take (0 + 0) cur.toArray.toList ++ cs ++ List.drop (0 + 0 + cs.length) cur.toArray.toList).toArray = cs.toArray := by simp [hfit]
  rw [e] at hst
  obtain ⟨i0, hi, hz0, hz1, hz2⟩ := info_parts info_seg
  simp [Builtin.copy_, run_underlying (Tryd.underlying105), Builtin.lenOf, Builtin.firstCells, sizeOf, typeInfo, hi, hz1, ← hn, hl, hst]

section
variable {w : World} {ops : Array Oper} {rest : List Oper} {o : Oper} {a : Act} {Q : Exit → Act → World → Prop}
theorem wpList_make_segs (l c : Operand) (ho : o.op = .makeSlice 105 l c) (hgd : o.guard = none) (L C : Int) (l0 k : Nat) (hl : a.eval l = .int .i64 L) (hc : a.eval c = .int .i64 C) (hL : L = l0) (hC : C = k) (hlk : l0 ≤ k) (hk : k ≤ 1000000)
    (h : wpList Tryd.prog ops Q rest (a.put o.dst (.slice (some ⟨w.heap.size, 0, none⟩) l0 k)) (w.alloc (.cells (flatG (List.replicate k pg0)).toArray 127))) : wpList Tryd.prog ops Q (o :: rest) a w := by
  refine wpList_plain hgd fun K hK => ?_
  subst hL hC
  have hr := run_make_segs l0 k hlk hk w
  unfold Oper.wp
  simp [execOp, ho, hl, hc, hr, Result.andThen]
  exact hK _ _ h
/-- 'copy(d, s)', d as long as s and whole. -/
theorem wpList_copy_segs (d s : Operand) (ho : o.op = .call { callee := .builtin .copy, args := #[d, s], argTypes := #[105, 105] }) (hgd : o.guard = none) (g dCap n sCap : Nat) (A : Option Addr) (hd : a.eval d = .slice (some ⟨g, 0, none⟩) n dCap) (hs : a.eval s = .slice A n sCap)
    (S : Nat → Prop) (xs ys : List Pg) (hr : RowP w S A n xs) (hg : ArrS w g ys) (hl : ys.length = n) (hpos : 0 < n)
    (h : wpList Tryd.prog ops Q rest (a.put o.dst (goInt n)) (w.setRow g (flatG xs).toArray)) : wpList Tryd.prog ops Q (o :: rest) a w := by
  refine wpList_plain hgd fun K hK => ?_
  obtain ⟨ad, rfl, hsrc⟩ := RowP_src hr hpos
  have hrun := run_copy_segs w o.type g dCap ad n sCap (flatG ys) (flatG xs) hg (by rw [flatG_length, hr.1]) hsrc (by rw [flatG_length, flatG_length, hl, hr.1]) (flatG_ones xs)
  unfold Oper.wp
  simp [execOp, ho, resolve, invoke, builtin, hd, hs, hrun, Result.andThen]
  exact hK _ _ h
/-- 's[i] = x' in a block that is a list of segments. -/
theorem wpList_store_seg (x y : Operand) (ho : o.op = .store 127 x y) (hgd : o.guard = none) (g i : Nat) (s : Pg) (hx : a.eval x = .pointer (some ⟨g, i * 2, none⟩)) (hy : a.eval y = .agg (pgC s).toArray)
    (L : List Pg) (hg : ArrS w g L) (hi : i < L.length) (h : wpList Tryd.prog ops Q rest (a.put o.dst undef) (w.setRow g (flatG (L.set i s)).toArray)) : wpList Tryd.prog ops Q (o :: rest) a w := by
  refine wpList_plain hgd fun K hK => ?_
  have hs := run_storeCells_at Tryd.prog g (i * 2) 127 (pgC s) 0 (flatG L).toArray w hg (by simp [flatG_length]; omega) (ones_ent s)
  have he : (List.take (i * 2 + 0) (flatG L).toArray.toList ++ pgC s ++ List.drop (i * 2 + 0 + (pgC s).length) (flatG L).toArray.toList).toArray = (flatG (L.set i s)).toArray := by
    rw [flatG_set L i s hi]; rfl
  rw [he] at hs
  have hsz : ∀ w, (sizeOf 127).run Tryd.prog w = .ok 2 w := Tryd.sizeOf127
  have hrun : (Instr.storeAt 127 (.pointer (some ⟨g, i * 2, none⟩)) (.agg (pgC s).toArray)).run Tryd.prog w = .ok () (w.setRow g (flatG (L.set i s)).toArray) := by
    simp only [Instr.storeAt, Instr.sureAddr, Sem.run_bind, Sem.run_pure, Result.andThen_ok, storeVar, hsz, Value.cells]
    simpa using hs
  unfold Oper.wp execOp
  simp only [ho, hx, hy, hrun, Sem.run_bind, Result.andThen_ok]
  exact hK _ _ h
end
theorem ArrS.setRow {w : World} {g : Nat} {L : List Pg} (h : ArrS w g L) (M : List Pg) : ArrS (w.setRow g (flatG M).toArray) g M := setRow_heap w g _ _ _ _ h
theorem ArrS.alloc {w : World} {g : Nat} {L : List Pg} (h : ArrS w g L) (o : Obj) : ArrS (w.alloc o) g L := Blk.alloc h o
theorem ArrS.below {w w' : World} {g B : Nat} {L : List Pg} (h : ArrS w g L) (hb : Below B w w') (hg : g < B) : ArrS w' g L := Blk.below h hb hg

set_option maxRecDepth 100000 in
/-- append of segments to a row of the call's own. -/
theorem run_append_rowZ (w : World) (ty : TypeId) (base : Nat) (v : Value) (n : Nat) (P : List Value) (hown : w.ownsRow base 127 2 v n P)
    (S : Nat → Prop) (A : Option Addr) (m c : Nat) (ys : List Pg) (hr : RowP w S A m ys) (hnil : A = none → c = 0) (h63 : n + m ≤ 1000000) (hbase : base ≤ w.heap.size) :
    ∃ v' w', (Builtin.append_ #[105, 105] ty #[v, .slice A m c]).run Tryd.prog w = .ok v' w' ∧ w'.ownsRow base 127 2 v' (n + m) (P ++ flatG ys) ∧ w.grownBy w' v.ownBlock ∧ (v'.ownBlock = v.ownBlock ∨ v'.ownBlock = some w.heap.size) := by
  obtain ⟨i0, hi, hz0, hz1, hz2⟩ := info_parts info_seg
  have hl := hr.1
  rcases A with _ | ad
  · have hm : m = 0 := by
      rcases Nat.eq_zero_or_pos m with h0 | h0
      · exact h0
      · obtain ⟨_, _, h1, _⟩ := hr.2 h0
        cases h1
    subst hm
    have hn : ys = [] := List.eq_nil_of_length_eq_zero hl
    subst hn
    rw [hnil rfl]
    exact ⟨v, w, run_append_owned_none (P := Tryd.prog) (w := w) base 105 ty 127 i0 2 Tryd.underlying105 hi v n P hown, by simpa [flatG] using hown, World.grownBy.refl w _, .inl rfl⟩
  · obtain ⟨v', w', h1, h2, h3, _, h4⟩ := run_append_own_at (P := Tryd.prog) w base 105 ty 127 i0 (.agg (pgC pg0).toArray) 2 16 Tryd.underlying105 hi hz0 hz1 hz2 (by simp [Value.cells]) (by omega) v n P hown ad m c (flatG ys) (by rw [flatG_length, hl])
      (fun j u hu => by
        have hm : 0 < m := by
          rcases Nat.eq_zero_or_pos m with h0 | h0
          · have : ys = [] := List.eq_nil_of_length_eq_zero (by omega)
            subst this
            simp [flatG] at hu
          · exact h0
        obtain ⟨ad', e, hc⟩ := RowP_src hr hm
        injection e with e
        subst e
        exact hc j u hu)
      (flatG_ones ys) (by unfold maxLen; omega) (by omega) hbase
    exact ⟨v', w', h1, h2, h3, h4⟩
theorem rowZ_own {w : World} {base : Nat} {v : Value} {n : Nat} {xs : List Pg} {P : List Value} (ho : w.ownsRow base 127 2 v n P) (hP : P = flatG xs) (hn : xs.length = n) :
    ∃ A cap, v = .slice A n cap ∧ n ≤ cap ∧ (A = none → cap = 0) ∧ RowP w (fun b => base ≤ b ∧ b < w.heap.size) A n xs := by
  subst hP
  have hlt := ho.lt
  rcases ho.2 with ⟨rfl, rfl⟩ | ⟨g, cap, cur, rfl, hg, hh, hnc, hc⟩
  · exact ⟨none, 0, rfl, by omega, fun _ => rfl, hn, fun h => absurd h (by omega)⟩
  · refine ⟨_, cap, rfl, hnc, (fun h => by cases h), hn, fun _ => ⟨g, 0, rfl, ⟨hg, (hlt g rfl).2⟩, fun i hi j v hv => ?_⟩⟩
    have hj : j < 2 := by have := (List.getElem?_eq_some_iff.1 hv).1; simpa using this
    have h1 := ho.cells (g := g) rfl (i * 2 + j) v (by rw [flatG_get xs _ (by omega), show (i * 2 + j) / 2 = i by omega, show (i * 2 + j) % 2 = j by omega]; exact hv)
    rw [add_plain] at h1
    rw [Nat.add_assoc]
    exact h1
section
variable {w : World} {ops : Array Oper} {rest : List Oper} {o : Oper} {a : Act} {Q : Exit → Act → World → Prop}
theorem wpList_append_rowZ (s x : Operand) (ho : o.op = .call { callee := .builtin .append, args := #[s, x], argTypes := #[105, 105] }) (hgd : o.guard = none)
    (base : Nat) (v : Value) (n : Nat) (P : List Value) (hs : a.eval s = v) (hown : w.ownsRow base 127 2 v n P)
    (S : Nat → Prop) (A : Option Addr) (m c : Nat) (ys : List Pg) (hx : a.eval x = .slice A m c) (hr : RowP w S A m ys) (hnil : A = none → c = 0) (h63 : n + m ≤ 1000000) (hbase : base ≤ w.heap.size)
    (h : ∀ v' w', w'.ownsRow base 127 2 v' (n + m) (P ++ flatG ys) → w.grownBy w' v.ownBlock → (v'.ownBlock = v.ownBlock ∨ v'.ownBlock = some w.heap.size) → wpList Tryd.prog ops Q rest (a.put o.dst v') w') :
    wpList Tryd.prog ops Q (o :: rest) a w := by
  obtain ⟨v', w', hrun, h2, h3, h4⟩ := run_append_rowZ w o.type base v n P hown S A m c ys hr hnil h63 hbase
  refine wpList_plain hgd fun K hK => ?_
  unfold Oper.wp execOp
  simp only [ho, resolve, invoke, builtin, Sem.run_bind, Sem.run_pure, Result.andThen_ok, List.map_toArray, List.map_cons, List.map_nil, hs, hx, hrun]
  exact hK _ _ (h v' w' h2 h3 h4)
theorem step_append_rowZ {K : Act → World → Prop} {E : Prop} (s x : Operand) (ho : o.op = .call { callee := .builtin .append, args := #[s, x], argTypes := #[105, 105] }) (hgd : o.guard = none)
    (base : Nat) (v : Value) (n : Nat) (P : List Value) (hs : a.eval s = v) (hown : w.ownsRow base 127 2 v n P)
    (S : Nat → Prop) (A : Option Addr) (m c : Nat) (ys : List Pg) (hx : a.eval x = .slice A m c) (hr : RowP w S A m ys) (hnil : A = none → c = 0) (h63 : n + m ≤ 1000000) (hbase : base ≤ w.heap.size)
    (h : ∀ v' w', w'.ownsRow base 127 2 v' (n + m) (P ++ flatG ys) → w.grownBy w' v.ownBlock → (v'.ownBlock = v.ownBlock ∨ v'.ownBlock = some w.heap.size) → K (a.put o.dst v') w') :
    if Region.wanted o (yielded ops a.tmps) = true then Oper.wp Tryd.prog o a w K Q else E := by
  obtain ⟨v', w', hrun, h2, h3, h4⟩ := run_append_rowZ w o.type base v n P hown S A m c ys hr hnil h63 hbase
  have hw : Region.wanted o (yielded ops a.tmps) = true := by simp [Region.wanted, hgd]
  rw [if_pos hw]
  unfold Oper.wp execOp
  simp only [ho, resolve, invoke, builtin, Sem.run_bind, Sem.run_pure, Result.andThen_ok, List.map_toArray, List.map_cons, List.map_nil, hs, hx, hrun]
  exact h v' w' h2 h3 h4
end

end Go.Proofs.YtjhggcdoahnmkaaDoor.PgM

/- A region that draws its order, and whose last operation, for which all others wait, may turn what they have read: what is held of the world is asked behind all the others alone. Nothing of the program is spoken of here. -/
namespace Go.Proofs.YtjhggcdoahnmkaaDoor
set_option linter.unusedVariables false

section
variable {P : Program} {ops : Array Oper} {Q : Exit → Act → World → Prop} {md : Region.Mode} {S : World → Prop} {st : List Nat}

/-- Whatever order is picked; S is asked behind every operation but those of st. -/
def Tillst (P : Program) (md : Region.Mode) (ops : Array Oper) (Q : Exit → Act → World → Prop) (S : World → Prop) (st : List Nat) : Nat → Array Bool → Act → World → Prop
  | 0, l, a, w => Region.ready md ops l = [] ∧ Q .normal a w
  | k + 1, l, a, w => (Region.ready md ops l = [] → Q .normal a w) ∧ ∀ i ∈ Region.ready md ops l, wpOp P ops Q i (fun b v => (st.contains i = false → S v) ∧ Tillst P md ops Q S st k (l.setIfInBounds i true) b v) a w

theorem Tillst.any : ∀ (k : Nat) (l : Array Bool) (a : Act) (w : World), Tillst P md ops Q S st k l a w → wpAny P md ops Q k l a w
  | 0, _, _, _, h => h
  | k + 1, _, _, _, h => ⟨h.1, fun i hi => wpOp_mono (fun b v g => Tillst.any k _ b v g.2) (h.2 i hi)⟩

/-- All of st wait for number i. -/
def waitsFor (md : Region.Mode) (ops : Array Oper) (st : List Nat) (i : Nat) : Bool := st.all fun s => match ops[s]? with | some o => o.after.any fun e => Region.binds md e && e.on == i | none => false

theorem not_last {l : Array Bool} {i s : Nat} (hw : waitsFor md ops st i = true) (hun : l.getD i false = false) (hs : s ∈ st) : s ∉ Region.ready md ops l := by
  intro h
  obtain ⟨_, o, ho, hall⟩ := mem_ready.1 h
  unfold waitsFor at hw
  have hw := List.all_eq_true.1 hw s hs
  simp only [ho] at hw
  obtain ⟨e, he, hb⟩ := Array.any_eq_true'.1 hw
  rw [Bool.and_eq_true, beq_iff_eq] at hb
  have := hall e he hb.1
  rw [hb.2, hun] at this
  cases this

theorem un_of_ready {l : Array Bool} {i : Nat} (h : i ∈ Region.ready md ops l) : l.getD i false = false := by
  have h0 := (mem_ready.1 h).1
  rcases Nat.lt_or_ge i l.size with h' | h'
  · simpa [h'] using h0
  · simp [Array.getElem?_eq_none h'] at h0

theorem Tillst.first {i : Nat} {oi : Oper} {v : Value} (hi : ops[i]? = some oi) (hsel : ∀ (j : Nat) (o : Oper) cs b, ops[j]? = some o → o.op ≠ .select cs b) (hQ : ∀ c a w, Q (.panic c) (a.put oi.dst v) w → Q (.panic c) a w)
    (hw : waitsFor md ops st i = true) : ∀ (k : Nat) (l : Array Bool) (a : Act) (w : World),
      (∀ j oj, ops[j]? = some oj → j ≠ i → l.getD j true = false → (∀ e ∈ oj.after, Region.binds md e = true → e.on ≠ i) → oi.apart ops oj = true) →
      i ∈ Region.ready md ops l → YieldsIf P ops S oi v a → S w → Tillst P md ops Q S st k (l.setIfInBounds i true) (a.put oi.dst v) w → Tillst P md ops Q S st (k + 1) l a w := by
  intro k
  induction k with
  | zero =>
    intro l a w _ hr hy hS H
    refine ⟨fun h => (by rw [h] at hr; cases hr), fun j hj => ?_⟩
    by_cases e : j = i
    · rw [e]
      exact hy.wpOp hi hS ⟨fun _ => hS, H⟩
    · have := ready_mono hj e
      rw [H.1] at this
      cases this
  | succ k ih =>
    intro l a w hfree hr hy hS H
    have hun := un_of_ready hr
    refine ⟨fun h => (by rw [h] at hr; cases hr), fun j hj => ?_⟩
    by_cases e : j = i
    · rw [e]
      exact hy.wpOp hi hS ⟨fun _ => hS, H⟩
    have hjst : st.contains j = false := by
      rcases h : st.contains j with _ | _
      · rfl
      · exact absurd hj (not_last hw hun (by simpa using h))
    obtain ⟨hjun, oj, hoj, hall⟩ := mem_ready.1 hj
    have hno : ∀ e ∈ oj.after, Region.binds md e = true → e.on ≠ i := fun e he hb heq => by
      have := hall e he hb
      rw [heq, hun] at this
      cases this
    have hput := wpOp_putIf hoj (hfree j oj hoj e hjun hno) (fun cs b => hsel i oi cs b hi) (fun cs b => hsel j oj cs b hoj) hQ hy (H.2 j (ready_mono hj e))
    refine wpOp_mono (fun b u g => ?_) hput
    have hSu := g.2.1 hjst
    refine ⟨fun _ => hSu, ih (l.setIfInBounds j true) b u (fun m om hm hmi hmun hmno => ?_) (ready_mono hr (Ne.symm e)) g.1 hSu ?_⟩
    · refine hfree m om hm hmi ?_ hmno
      by_cases hjm : j = m
      · rw [← hjm]; exact hjun
      · rw [getD_set_ne true hjm] at hmun; exact hmun
    · rw [Array.setIfInBounds_comm _ _ e]
      exact g.2.2

/-! The moves. -/
theorem Tillst.take {i : Nat} {oi : Oper} {v : Value} {k : Nat} {l : Array Bool} {a : Act} {w : World} (hi : ops[i]? = some oi) (hs : Region.noSelect ops = true) (hf : Region.free md ops l i = true) (hr : (Region.ready md ops l).contains i = true)
    (hw : waitsFor md ops st i = true) (hQ : ∀ c a w, Q (.panic c) (a.put oi.dst v) w → Q (.panic c) a w) (hg : Region.wanted oi (yielded ops a.tmps) = true) (hy : ∀ w, S w → (execOp a.eval oi).run P w = .ok (.value v) w) (hS : S w)
    (h : Tillst P md ops Q S st k (l.setIfInBounds i true) (a.put oi.dst v) w) : Tillst P md ops Q S st (k + 1) l a w :=
  Tillst.first hi (Region.noSelect_spec hs) hQ hw k l a w (Region.free_spec hi hf) (by simpa using hr) (.inl ⟨hg, hy⟩) hS h

theorem Tillst.done {l : Array Bool} {a : Act} {w : World} (hr : Region.ready md ops l = []) (h : Q .normal a w) : ∀ k, Tillst P md ops Q S st k l a w
  | 0 => ⟨hr, h⟩
  | _ + 1 => ⟨fun _ => h, by rw [hr]; simp⟩

theorem Tillst.step {i : Nat} {o : Oper} {k : Nat} {l : Array Bool} {a : Act} {w : World} (ho : ops[i]? = some o) {K0 : Act → World → Prop}
    (h : ∀ K : Act → World → Prop, (∀ b v, K0 b v → K b v) → if Region.wanted o (yielded ops a.tmps) = true then Oper.wp P o a w K Q else K (a.put o.dst undef) w) : wpOp P ops Q i K0 a w := by
  have := h K0 (fun _ _ g => g)
  unfold wpOp
  simp only [ho]
  split
  · rename_i hw
    rw [if_pos hw] at this
    exact .inl this
  · rename_i hw
    rw [if_neg hw] at this
    exact this

/-- One operation that may come up. -/
theorem Tillst.one {i : Nat} {o : Oper} {k : Nat} {l : Array Bool} {a : Act} {w : World} (hr : Region.ready md ops l = [i]) (ho : ops[i]? = some o)
    (h : ∀ K : Act → World → Prop, Shut (∀ b v, (st.contains i = false → S v) → ((st.contains i = false → S v) → Tillst P md ops Q S st k (l.setIfInBounds i true) b v) → K b v) → if Region.wanted o (yielded ops a.tmps) = true then Oper.wp P o a w K Q else K (a.put o.dst undef) w) :
    Tillst P md ops Q S st (k + 1) l a w := by
  refine ⟨fun e => (by rw [hr] at e; cases e), fun j hj => ?_⟩
  rw [hr] at hj
  obtain rfl : j = i := by simpa using hj
  exact Tillst.step (k := k) (l := l) ho fun K hK => h K fun b v h1 h2 => hK b v ⟨h1, h2 h1⟩

/-- Two of them. -/
theorem Tillst.two {i j : Nat} {o o' : Oper} {k : Nat} {l : Array Bool} {a : Act} {w : World} (hr : Region.ready md ops l = [i, j]) (ho : ops[i]? = some o) (ho' : ops[j]? = some o')
    (h : ∀ K : Act → World → Prop, Shut (∀ b v, (st.contains i = false → S v) → ((st.contains i = false → S v) → Tillst P md ops Q S st k (l.setIfInBounds i true) b v) → K b v) → if Region.wanted o (yielded ops a.tmps) = true then Oper.wp P o a w K Q else K (a.put o.dst undef) w)
    (h' : ∀ K : Act → World → Prop, Shut (∀ b v, (st.contains j = false → S v) → ((st.contains j = false → S v) → Tillst P md ops Q S st k (l.setIfInBounds j true) b v) → K b v) → if Region.wanted o' (yielded ops a.tmps) = true then Oper.wp P o' a w K Q else K (a.put o'.dst undef) w) :
    Tillst P md ops Q S st (k + 1) l a w := by
  refine ⟨fun e => (by rw [hr] at e; cases e), fun m hm => ?_⟩
  rw [hr] at hm
  rcases List.mem_cons.1 hm with e | hm
  · rw [e]
    exact Tillst.step (k := k) (l := l) ho fun K hK => h K fun b v h1 h2 => hK b v ⟨h1, h2 h1⟩
  · obtain rfl : m = j := by simpa using hm
    exact Tillst.step (k := k) (l := l) ho' fun K hK => h' K fun b v h1 h2 => hK b v ⟨h1, h2 h1⟩

/-- The beginning. -/
theorem Tillst.region {id : Nat} {a : Act} {w : World} (S : World → Prop) (st : List Nat) (hm : P.follows .mixedOrders = true) (hS : S w.drew) (h : S w.drew → Tillst P .any ops Q S st ops.size (Array.replicate ops.size false) a w.drew) : (Code.region id ops true).wp P Q a w :=
  wp_region_any hm (Tillst.any _ _ _ _ (h hS))
end

end Go.Proofs.YtjhggcdoahnmkaaDoor

/- Arrays of bytes that go by value: made, loaded, stored, compared, as laws of the walk. The cells are whatever list; nothing is unrolled. -/
namespace Go.Proofs.YtjhggcdoahnmkaaDoor
open Go.RowKit
set_option linter.unusedVariables false

/-- An array's cells. -/
def cells8 (xs : List Int) : Array Value := (xs.map (Value.int .u8)).toArray
theorem cells8_size (xs : List Int) : (cells8 xs).size = xs.length := by simp [cells8]
theorem cells8_list (xs : List Int) : (cells8 xs).toList = xs.map (Value.int .u8) := by simp [cells8]
theorem cells8_get (xs : List Int) (i : Nat) (h : i < xs.length) : (cells8 xs)[i]? = some (.int .u8 (xs.getD i 0)) := by
  simp [cells8, List.getD, List.getElem?_eq_getElem h]
theorem cells8_one (xs : List Int) : (cells8 xs).all (·.oneCell') = true := by
  refine Array.all_eq_true_iff_forall_mem.2 fun v hv => ?_
  simp only [cells8, List.mem_toArray, List.mem_map] at hv
  obtain ⟨x, _, rfl⟩ := hv
  rfl

/-- 64 noughts. -/
def noughts (n : Nat) : List Int := List.replicate n 0
theorem noughts_length (n : Nat) : (noughts n).length = n := by simp [noughts]
theorem noughts_get (n i : Nat) : (noughts n).getD i 0 = 0 := by
  unfold noughts
  by_cases h : i < n <;> simp [List.getD, h]
theorem noughts_bytes (n : Nat) : Bytes (noughts n) := fun j => by rw [noughts_get]; omega

section
variable {w : World} {ops : Array Oper} {rest : List Oper} {o : Oper} {a : Act} {Q : Exit → Act → World → Prop}

end

/-- Three cells of a block are laid; what lies elsewhere is as it was. -/
theorem cell_far3 (w : World) (g : Nat) (u0 u1 u2 : Value) {p : Addr} (h : p.block ≠ g) : (((w.setCell ⟨g, 0, none⟩ u0).setCell ⟨g, 1, none⟩ u1).setCell ⟨g, 2, none⟩ u2).cell? p = w.cell? p := by
  rw [World.cell?_setCell_other _ _ _ _ (by rintro rfl; exact h rfl), World.cell?_setCell_other _ _ _ _ (by rintro rfl; exact h rfl), World.cell?_setCell_other _ _ _ _ (by rintro rfl; exact h rfl)]
theorem Blk.set3 {w : World} {g : Nat} {t : TypeId} {a0 a1 a2 : Value} (h : Blk w g t #[a0, a1, a2]) (u0 u1 u2 : Value) : Blk (((w.setCell ⟨g, 0, none⟩ u0).setCell ⟨g, 1, none⟩ u1).setCell ⟨g, 2, none⟩ u2) g t #[u0, u1, u2] := ((h.set_ 0 u0).set_ 1 u1).set_ 2 u2
theorem Kept.set3 {S : Nat → Prop} {a w : World} (h : Kept S a w) {g : Nat} (hg : ¬ S g) (u0 u1 u2 : Value) : Kept S a (((w.setCell ⟨g, 0, none⟩ u0).setCell ⟨g, 1, none⟩ u1).setCell ⟨g, 2, none⟩ u2) := ((h.setCell hg u0).setCell hg u1).setCell hg u2
theorem below_set3 {B : Nat} {a w : World} (h : Below B a w) {g : Nat} (hg : B ≤ g) (u0 u1 u2 : Value) : Below B a (((w.setCell ⟨g, 0, none⟩ u0).setCell ⟨g, 1, none⟩ u1).setCell ⟨g, 2, none⟩ u2) := ((h.setCell hg u0).setCell hg u1).setCell hg u2

/-! '==' of arrays of bytes. -/

theorem all_range_ints : ∀ (xs ys : List Int), xs.length = ys.length → ((List.range xs.length).all fun i => xs.getD i 0 == ys.getD i 0) = (xs == ys)
  | [], [], _ => rfl
  | x :: xs, y :: ys, h => by
    have ih := all_range_ints xs ys (by simpa using h)
    rw [List.length_cons, List.range_succ_eq_map, List.all_cons, List.all_map]
    simp only [List.getD_cons_zero, Function.comp_def, List.getD_cons_succ, ih]
    simp [List.cons_beq_cons]
  | [], _ :: _, h => by simp at h
  | _ :: _, [], h => by simp at h

theorem run_equalIn_ints {P : Program} (w : World) (d : Nat) (t e : TypeId) (n : Nat) (ht : P.underlying t = some (.array n e)) (he : P.underlying e = some (.int .u8)) (hsz : ∀ w, (sizeOf e).run P w = .ok 1 w)
    (xs ys : List Int) (hx : xs.length = n) (hy : ys.length = n) :
    (Op.equalIn (d + 2) t (.agg (cells8 xs)) (.agg (cells8 ys))).run P w = .ok (xs == ys) w := by
  rw [← all_range_ints xs ys (hx.trans hy.symm), hx, List.range_eq_range', Op.equalIn]
  simp only [Sem.run_bind, run_underlying ht, Result.andThen_ok, hsz, Std.Legacy.Range.forIn_eq_forIn_range', Std.Legacy.Range.size, Nat.sub_zero, Nat.add_sub_cancel, Nat.div_one]
  have hl : ∀ i ∈ List.range' 0 n 1, i < n := fun i hi => by simpa using (List.mem_range'_1.1 hi).2
  generalize List.range' 0 n 1 = l at hl ⊢
  induction l with
  | nil => simp
  | cons i l ih =>
    have hi : i < n := hl i (by simp)
    have px : (part e (cells8 xs) (i * 1)).run P w = .ok (.int .u8 (xs.getD i 0)) w := by
      simp [part, isAgg, run_underlying he, cells8_get xs i (by omega)]
    have py : (part e (cells8 ys) (i * 1)).run P w = .ok (.int .u8 (ys.getD i 0)) w := by
      simp [part, isAgg, run_underlying he, cells8_get ys i (by omega)]
    have pe := run_equalIn_int (P := P) w d e .u8 .u8 (xs.getD i 0) (ys.getD i 0) he
    simp only [List.forIn_cons, Sem.run_bind, px, py, pe, Result.andThen_ok, List.all_cons]
    cases hb : (xs.getD i 0 == ys.getD i 0)
    · simp
    · simp only [Bool.not_true, Bool.false_eq_true, if_false, Sem.run_pure, Result.andThen_ok, Bool.true_and]
      exact ih fun j hj => hl j (by simp [hj])

section
variable {w : World} {ops : Array Oper} {rest : List Oper} {o : Oper} {a : Act} {Q : Exit → Act → World → Prop}

end

end Go.Proofs.YtjhggcdoahnmkaaDoor

/- A region that draws its order and whose operations each yield one value in every world of a class, which they keep (they may make memory of their own): laws for a walk of it in the order of the text. Nothing of the program is spoken of here. -/
namespace Go.Proofs.YtjhggcdoahnmkaaDoor
open Go.RowKit
set_option linter.unusedVariables false

section
variable {P : Program} {ops : Array Oper} {C : World → Prop} {rest : List Oper} {o : Oper} {a : Act} {Q : Act → Prop}

/-- The region's beginning, at whatever class. -/
theorem calm_region {id : Nat} {l : List Oper} {Q : Exit → Act → World → Prop} {a : Act} {w : World} (C : World → Prop) (hm : P.follows .mixedOrders = true) (hB : Region.lexB .any l.toArray = true) (hC : C w.drew)
    (h : wpQuiet P l.toArray C (fun a' => ∀ w', C w' → Q .normal a' w') l a) : (Code.region id l.toArray true).wp P Q a w :=
  wp_region_quiet (C := C) hm hB hC (by simpa using h)

/-- An operation that leaves the world alone. -/
theorem calm_by (v : Value) (hgd : Region.wanted o (yielded ops a.tmps) = true) (h : ∀ W, C W → (execOp a.eval o).run P W = .ok (.value v) W) (hk : wpQuiet P ops C Q rest (a.put o.dst v)) : wpQuiet P ops C Q (o :: rest) a :=
  BigFrame.wpQuiet_want hgd fun K hK => ⟨v, fun W hW => by unfold Oper.quietAt; rw [h W hW]; exact ⟨rfl, rfl⟩, hK _ hk⟩

/-- A variable of many cells is loaded. -/
theorem calm_load_row (x : Operand) (ty : TypeId) (ho : o.op = .load ty x) (hgd : Region.wanted o (yielded ops a.tmps) = true) (b : Nat) (hx : a.eval x = .pointer (some ⟨b, 0, none⟩))
    (t : TypeId) (cs : List Value) (d : TypeDesc) (hu : P.underlying ty = some d) (hd : d.isRow = true) (hi : (P.info? ty).map (·.size) = some cs.length) (hc : ∀ W, C W → Blk W b t cs.toArray)
    (h : wpQuiet P ops C Q rest (a.put o.dst (.agg cs.toArray))) : wpQuiet P ops C Q (o :: rest) a :=
  calm_by (.agg cs.toArray) hgd (fun W hW => by
    have hr := run_loadAt_mid (P := P) W b 0 ty cs d (hc W hW).rangeL hu hd hi
    unfold execOp
    simp only [ho, hx, Sem.run_bind, hr, Result.andThen_ok, Sem.run_pure]) h

/-- A cell is loaded. -/
theorem calm_load_cell (x : Operand) (ty : TypeId) (ho : o.op = .load ty x) (hgd : Region.wanted o (yielded ops a.tmps) = true) (p : Addr) (hx : a.eval x = .pointer (some p)) (v : Value)
    (hr : ∀ W, W.cell? p = some v → (Instr.loadAt ty (.pointer (some p))).run P W = .ok v W) (hc : ∀ W, C W → W.cell? p = some v)
    (h : wpQuiet P ops C Q rest (a.put o.dst v)) : wpQuiet P ops C Q (o :: rest) a :=
  calm_by v hgd (fun W hW => by
    have hr := hr W (hc W hW)
    unfold execOp
    simp only [ho, hx, Sem.run_bind, hr, Result.andThen_ok, Sem.run_pure]) h

/-- Two values are compared. -/
theorem calm_cmp (op : BinOp) (ty z : TypeId) (x y : Operand) (ho : o.op = .binOp op ty x y z) (hgd : Region.wanted o (yielded ops a.tmps) = true) (u v r : Value) (hx : a.eval x = u) (hy : a.eval y = v)
    (hg : ∀ W, (eqGuard op ty x y u v).run P W = .ok () W) (hq : ∀ W, (binOp op ty u v).run P W = .ok r W) (h : wpQuiet P ops C Q rest (a.put o.dst r)) : wpQuiet P ops C Q (o :: rest) a :=
  calm_by r hgd (fun W _ => by
    unfold execOp
    simp only [ho, hx, hy, Sem.run_bind, hg, hq, Result.andThen_ok, Sem.run_pure]) h

theorem run_callFunc_body {P : Program} {f : FuncId} {fn : Func} (hf : P.funcs[f]? = some fn) (hn : (fn.name == "runtime.NumGoroutine") = false) (hb : fn.body.isNone = false) (args : Array Value) (W : World) :
    (callFunc f args).run P W = .ok (.enter f args) W := by
  have hn' : fn.name ≠ "runtime.NumGoroutine" := by simpa using hn
  have hb' : fn.body ≠ none := by intro h; rw [h] at hb; cases hb
  unfold callFunc
  simp [Sem.run_bind, run_program, hf, hn', hb']

/-- A function is called, which answers the same in every world of the class, and keeps it. -/
theorem calm_call (f : FuncId) (xs : Array Operand) (ts : Array TypeId) (ho : o.op = .call { callee := .value (.func f), args := xs, argTypes := ts }) (hgd : Region.wanted o (yielded ops a.tmps) = true)
    {fn : Func} (hf : P.funcs[f]? = some fn) (hn : (fn.name == "runtime.NumGoroutine") = false) (hb : fn.body.isNone = false)
    (v : Value) (vs : List Value) (hxs : xs.toList.map a.eval = vs) (h : ∀ W, C W → Calls P f vs.toArray W fun e W' => e = .returned v ∧ C W')
    (hk : wpQuiet P ops C Q rest (a.put o.dst v)) : wpQuiet P ops C Q (o :: rest) a :=
  BigFrame.wpQuiet_want hgd fun K hK => ⟨v, fun W hW => by
    have := h W hW
    have e : (xs.map a.eval) = (xs.toList.map a.eval).toArray := by cases xs; simp
    have hc := run_callFunc_body (P := P) hf hn hb vs.toArray W
    unfold Oper.quietAt execOp
    simp only [ho, resolve, e, hxs]
    simp [go_sem, invoke, Act.eval, Oper.quietUpon, hc]
    simpa using this, hK _ hk⟩
end

end Go.Proofs.YtjhggcdoahnmkaaDoor

/- More moves of a region whose last operation turns what was read (over Last): loads of many cells, structs built, a cell laid. -/
namespace Go.Proofs.YtjhggcdoahnmkaaDoor
open Go.RowKit
set_option linter.unusedVariables false

section
variable {P : Program} {w : World} {o : Oper} {a : Act} {Q : Exit → Act → World → Prop} {K : Act → World → Prop} {E : Prop} {ops : Array Oper}
theorem exec_load_row (x : Operand) (ty : TypeId) (ho : o.op = .load ty x) (b off : Nat) (hx : a.eval x = .pointer (some ⟨b, off, none⟩)) (cs : List Value) (d : TypeDesc) (hu : P.underlying ty = some d) (hd : d.isRow = true)
    (hi : (P.info? ty).map (·.size) = some cs.length) (hc : w.rangeAt b off cs) : (execOp a.eval o).run P w = .ok (.value (.agg cs.toArray)) w := by
  have hr := run_loadAt_mid (P := P) w b off ty cs d hc hu hd hi
  unfold execOp
  simp only [ho, hx, Sem.run_bind, hr, Result.andThen_ok, Sem.run_pure]
theorem exec_build (ty : TypeId) (parts : Array (Nat × Operand)) (ho : o.op = .build ty parts) (vs : List (Nat × Value)) (hv : (parts.map fun (i, x) => (i, a.eval x)).toList = vs) (cells : Array Value) (hb : P.built ty vs = some cells) :
    (execOp a.eval o).run P w = .ok (.value (.agg cells)) w := by
  have := run_build (P := P) w ty (parts.map fun (i, x) => (i, a.eval x)) cells (by rw [hv]; exact hb)
  unfold execOp
  simp only [ho, Sem.run_bind, this, Result.andThen_ok, Sem.run_pure]
theorem step_store_cell (x y : Operand) (ty : TypeId) (ho : o.op = .store ty x y) (hgd : Region.wanted o (yielded ops a.tmps) = true) (p : Addr) (v : Value) (hx : a.eval x = .pointer (some p)) (hy : a.eval y = v)
    (hr : (Instr.storeAt ty (.pointer (some p)) v).run P w = .ok () (w.setCell p v)) (h : K (a.put o.dst undef) (w.setCell p v)) : if Region.wanted o (yielded ops a.tmps) = true then Oper.wp P o a w K Q else E := by
  rw [if_pos hgd]
  unfold Oper.wp execOp
  simp only [ho, hx, hy, hr, Sem.run_bind, Result.andThen_ok]
  exact h
theorem step_call (f : FuncId) (xs : Array Operand) (ts : Array TypeId) (ho : o.op = .call { callee := .value (.func f), args := xs, argTypes := ts }) (hgd : Region.wanted o (yielded ops a.tmps) = true)
    {fn : Func} (hf : P.funcs[f]? = some fn) (hn : (fn.name == "runtime.NumGoroutine") = false) (hb : fn.body.isNone = false)
    (vs : List Value) (hxs : xs.toList.map a.eval = vs) (h : Calls P f vs.toArray w fun e w' => ∃ v, e = .returned v ∧ K (a.put o.dst v) w') :
    if Region.wanted o (yielded ops a.tmps) = true then Oper.wp P o a w K Q else E := by
  have e : (xs.map a.eval) = (xs.toList.map a.eval).toArray := by cases xs; simp
  have hc := run_callFunc_body (P := P) hf hn hb vs.toArray w
  rw [if_pos hgd]
  unfold Oper.wp execOp
  simp only [ho, resolve, e, hxs]
  simp [go_sem, invoke, Act.eval, hc]
  refine Calls.mono (by simpa using h) fun e w' hh => ?_
  obtain ⟨v, rfl, hk⟩ := hh
  exact hk
theorem step_value (v : Value) (hgd : Region.wanted o (yielded ops a.tmps) = true) (hr : (execOp a.eval o).run P w = .ok (.value v) w) (h : K (a.put o.dst v) w) : if Region.wanted o (yielded ops a.tmps) = true then Oper.wp P o a w K Q else E := by
  rw [if_pos hgd]
  unfold Oper.wp
  rw [hr]
  exact h
end

theorem range_below {w w' : World} {b off B : Nat} {cs : List Value} (h : w.rangeAt b off cs) (hb : Below B w w') (hB : b < B) : w'.rangeAt b off cs :=
  fun j v hv => (hb.cell (p := ⟨b, off + j, none⟩) hB).trans (h j v hv)
theorem range_kept {w w' : World} {b off : Nat} {X : Nat → Prop} {cs : List Value} (h : w.rangeAt b off cs) (hk : Kept X w w') (hX : X b) : w'.rangeAt b off cs :=
  fun j v hv => (hk.cell (p := ⟨b, off + j, none⟩) hX).trans (h j v hv)

end Go.Proofs.YtjhggcdoahnmkaaDoor

/- Classes: sizes, Class, Size, Chunks. -/
namespace Go.Proofs.YtjhggcdoahnmkaaDoor
open Go.RowKit Go.Shelf
attribute [local go_sem] Oper.semAt_some
set_option linter.unusedVariables false
set_option linter.unusedSimpArgs false
abbrev sizesC : Array Value := #[.int .i64 32, .int .i64 64, .int .i64 96, .int .i64 144, .int .i64 216, .int .i64 324, .int .i64 486, .int .i64 1024]
theorem size_sizes : (Tryd.prog.info? 130).map (·.size) = some 8 := by kernel_rfl
theorem sizes_any (w : World) : Calls Tryd.prog 85 #[] w fun e w' => e = .returned (.agg sizesC) ∧ Below w.heap.size w w' := by
  go_enter Tryd.func85, Tryd.ntmps85
  go_wp2_with (with_reducible refine halt_end ?_)
  exact Halt.ret (results_row1 (p := 0) rfl _ _ w.heap.size 130 sizesC _ rfl (Blk.new w _ _) Tryd.underlying130 rfl size_sizes) rfl ⟨rfl, (Below.refl _ _).alloc (Nat.le_refl _) _⟩
theorem index_sizes (r : Nat) (hr : r < 8) (w : World) : (Instr.index 130 (.agg sizesC) (.int .i64 (r : Nat))).run Tryd.prog w = .ok (.int .i64 (szN r : Nat)) w := by
  have hs : (sizeOf 3).run Tryd.prog w = .ok 1 w := Tryd.sizeOf3 w
  obtain rfl | rfl | rfl | rfl | rfl | rfl | rfl | rfl : r = 0 ∨ r = 1 ∨ r = 2 ∨ r = 3 ∨ r = 4 ∨ r = 5 ∨ r = 6 ∨ r = 7 := by omega
  all_goals simp [Instr.index, run_underlying Tryd.underlying130, asIntOf, go_sem, hs, szN]
set_option maxHeartbeats 2000000 in
theorem class_any (n : Int) (w : World) : Calls Tryd.prog 76 #[.int .i64 n] w fun e w' => e = .returned (.tuple #[.int .i64 (clsK n : Nat), .int .i64 (clsE n : Nat)]) ∧ Below w.heap.size w w' := by
  go_enter Tryd.func76, Tryd.ntmps76
  by_cases h0 : n < 0
  · go_wp2
    go_ret2
    refine ⟨?_, Below.refl _ _⟩
    unfold clsK clsE
    rw [if_pos h0, if_pos h0]
    rfl
  · go_wp2_with fail
    refine (sizes_any _).mono ?_
    rintro e w2 ⟨rfl, hb⟩
    have HB := Lib.hid hb
    clear hb
    go_wp2_with fail
    go_loopw [9] (fun i wr => ∃ j : Nat, i = .int .i64 j ∧ j ≤ 8 ∧ (1 ≤ j → (szN (j - 1) : Int) < n) ∧ wr = w2) (fun i _ => 8 - (intOf i).toNat)
    case atStart => exact ⟨0, rfl, by omega, fun h => absurd h (by omega), rfl⟩
    case round =>
      obtain ⟨j, rfl, hj, hlt, rfl⟩ := hrel
      have hkey : ∀ (s : Int) (k : Nat), (k < 8) → szN k = s → (∀ n : Int, 0 ≤ n → n ≤ s → (1 ≤ k → (szN (k - 1) : Int) < n) → clsK n = k ∧ clsE n = 0) := by
        intro s k hk hs n hn hle hl
        have h8 : k = 0 ∨ k = 1 ∨ k = 2 ∨ k = 3 ∨ k = 4 ∨ k = 5 ∨ k = 6 ∨ k = 7 := by omega
        subst hs
        rcases h8 with rfl | rfl | rfl | rfl | rfl | rfl | rfl | rfl <;> simp [szN] at hle hl <;> (unfold clsK clsE; constructor <;> repeat' split) <;> omega
      have HKEY := Lib.hid hkey
      have h0' : 0 ≤ n := by omega
      clear hkey
      by_cases h8 : j = 8
      · subst h8
        go_wp2
        go_ret2
        refine ⟨?_, HB.out⟩
        simp [szN] at hlt
        have e1 : clsK n = 0 := by (unfold clsK; repeat' split) <;> omega
        have e2 : clsE n = 3 := by (unfold clsE; repeat' split) <;> omega
        rw [e1, e2]
        rfl
      · have hj8 : j = 0 ∨ j = 1 ∨ j = 2 ∨ j = 3 ∨ j = 4 ∨ j = 5 ∨ j = 6 ∨ j = 7 := by omega
        rcases hj8 with rfl | rfl | rfl | rfl | rfl | rfl | rfl | rfl
        all_goals simp only [szN, List.getD_cons_zero, List.getD_cons_succ, Nat.reduceSub, Nat.reduceLeDiff, forall_const, true_implies] at hlt
        · by_cases hle : n ≤ 32
          · have hx : ∀ w, (Instr.index 130 (.agg #[.int .i64 32, .int .i64 64, .int .i64 96, .int .i64 144, .int .i64 216, .int .i64 324, .int .i64 486, .int .i64 1024]) (.int .i64 0)).run Tryd.prog w = .ok (.int .i64 32) w := index_sizes 0 (by decide)
            have hk := HKEY.out 32 0 (by decide) rfl n h0' hle (by simp only [szN]; simp <;> omega)
            have HK := Lib.hid hk
            clear hk
            go_wp2
            go_ret2
            refine ⟨?_, HB.out⟩
            rw [HK.out.1, HK.out.2]
            rfl
          · have hx : ∀ w, (Instr.index 130 (.agg #[.int .i64 32, .int .i64 64, .int .i64 96, .int .i64 144, .int .i64 216, .int .i64 324, .int .i64 486, .int .i64 1024]) (.int .i64 0)).run Tryd.prog w = .ok (.int .i64 32) w := index_sizes 0 (by decide)
            go_wp2
            go_roundw
            case rel => exact ⟨1, by simp, by decide, fun _ => by simp [szN]; omega, trivial⟩
            case measure => show 8 - (Int.toNat ((0 : Nat) + 1 : Int)) < 8 - (Int.toNat ((0 : Nat) : Int)); decide
        · by_cases hle : n ≤ 64
          · have hx : ∀ w, (Instr.index 130 (.agg #[.int .i64 32, .int .i64 64, .int .i64 96, .int .i64 144, .int .i64 216, .int .i64 324, .int .i64 486, .int .i64 1024]) (.int .i64 1)).run Tryd.prog w = .ok (.int .i64 64) w := index_sizes 1 (by decide)
            have hk := HKEY.out 64 1 (by decide) rfl n h0' hle (by simp only [szN]; simp <;> omega)
            have HK := Lib.hid hk
            clear hk
            go_wp2
            go_ret2
            refine ⟨?_, HB.out⟩
            rw [HK.out.1, HK.out.2]
            rfl
          · have hx : ∀ w, (Instr.index 130 (.agg #[.int .i64 32, .int .i64 64, .int .i64 96, .int .i64 144, .int .i64 216, .int .i64 324, .int .i64 486, .int .i64 1024]) (.int .i64 1)).run Tryd.prog w = .ok (.int .i64 64) w := index_sizes 1 (by decide)
            go_wp2
            go_roundw
            case rel => exact ⟨2, by simp, by decide, fun _ => by simp [szN]; omega, trivial⟩
            case measure => show 8 - (Int.toNat ((1 : Nat) + 1 : Int)) < 8 - (Int.toNat ((1 : Nat) : Int)); decide
        · by_cases hle : n ≤ 96
          · have hx : ∀ w, (Instr.index 130 (.agg #[.int .i64 32, .int .i64 64, .int .i64 96, .int .i64 144, .int .i64 216, .int .i64 324, .int .i64 486, .int .i64 1024]) (.int .i64 2)).run Tryd.prog w = .ok (.int .i64 96) w := index_sizes 2 (by decide)
            have hk := HKEY.out 96 2 (by decide) rfl n h0' hle (by simp only [szN]; simp <;> omega)
            have HK := Lib.hid hk
            clear hk
            go_wp2
            go_ret2
            refine ⟨?_, HB.out⟩
            rw [HK.out.1, HK.out.2]
            rfl
          · have hx : ∀ w, (Instr.index 130 (.agg #[.int .i64 32, .int .i64 64, .int .i64 96, .int .i64 144, .int .i64 216, .int .i64 324, .int .i64 486, .int .i64 1024]) (.int .i64 2)).run Tryd.prog w = .ok (.int .i64 96) w := index_sizes 2 (by decide)
            go_wp2
            go_roundw
            case rel => exact ⟨3, by simp, by decide, fun _ => by simp [szN]; omega, trivial⟩
            case measure => show 8 - (Int.toNat ((2 : Nat) + 1 : Int)) < 8 - (Int.toNat ((2 : Nat) : Int)); decide
        · by_cases hle : n ≤ 144
          · have hx : ∀ w, (Instr.index 130 (.agg #[.int .i64 32, .int .i64 64, .int .i64 96, .int .i64 144, .int .i64 216, .int .i64 324, .int .i64 486, .int .i64 1024]) (.int .i64 3)).run Tryd.prog w = .ok (.int .i64 144) w := index_sizes 3 (by decide)
            have hk := HKEY.out 144 3 (by decide) rfl n h0' hle (by simp only [szN]; simp <;> omega)
            have HK := Lib.hid hk
            clear hk
            go_wp2
            go_ret2
            refine ⟨?_, HB.out⟩
            rw [HK.out.1, HK.out.2]
            rfl
          · have hx : ∀ w, (Instr.index 130 (.agg #[.int .i64 32, .int .i64 64, .int .i64 96, .int .i64 144, .int .i64 216, .int .i64 324, .int .i64 486, .int .i64 1024]) (.int .i64 3)).run Tryd.prog w = .ok (.int .i64 144) w := index_sizes 3 (by decide)
            go_wp2
            go_roundw
            case rel => exact ⟨4, by simp, by decide, fun _ => by simp [szN]; omega, trivial⟩
            case measure => show 8 - (Int.toNat ((3 : Nat) + 1 : Int)) < 8 - (Int.toNat ((3 : Nat) : Int)); decide
        · by_cases hle : n ≤ 216
          · have hx : ∀ w, (Instr.index 130 (.agg #[.int .i64 32, .int .i64 64, .int .i64 96, .int .i64 144, .int .i64 216, .int .i64 324, .int .i64 486, .int .i64 1024]) (.int .i64 4)).run Tryd.prog w = .ok (.int .i64 216) w := index_sizes 4 (by decide)
            have hk := HKEY.out 216 4 (by decide) rfl n h0' hle (by simp only [szN]; simp <;> omega)
            have HK := Lib.hid hk
            clear hk
            go_wp2
            go_ret2
            refine ⟨?_, HB.out⟩
            rw [HK.out.1, HK.out.2]
            rfl
          · have hx : ∀ w, (Instr.index 130 (.agg #[.int .i64 32, .int .i64 64, .int .i64 96, .int .i64 144, .int .i64 216, .int .i64 324, .int .i64 486, .int .i64 1024]) (.int .i64 4)).run Tryd.prog w = .ok (.int .i64 216) w := index_sizes 4 (by decide)
            go_wp2
            go_roundw
            case rel => exact ⟨5, by simp, by decide, fun _ => by simp [szN]; omega, trivial⟩
            case measure => show 8 - (Int.toNat ((4 : Nat) + 1 : Int)) < 8 - (Int.toNat ((4 : Nat) : Int)); decide
        · by_cases hle : n ≤ 324
          · have hx : ∀ w, (Instr.index 130 (.agg #[.int .i64 32, .int .i64 64, .int .i64 96, .int .i64 144, .int .i64 216, .int .i64 324, .int .i64 486, .int .i64 1024]) (.int .i64 5)).run Tryd.prog w = .ok (.int .i64 324) w := index_sizes 5 (by decide)
            have hk := HKEY.out 324 5 (by decide) rfl n h0' hle (by simp only [szN]; simp <;> omega)
            have HK := Lib.hid hk
            clear hk
            go_wp2
            go_ret2
            refine ⟨?_, HB.out⟩
            rw [HK.out.1, HK.out.2]
            rfl
          · have hx : ∀ w, (Instr.index 130 (.agg #[.int .i64 32, .int .i64 64, .int .i64 96, .int .i64 144, .int .i64 216, .int .i64 324, .int .i64 486, .int .i64 1024]) (.int .i64 5)).run Tryd.prog w = .ok (.int .i64 324) w := index_sizes 5 (by decide)
            go_wp2
            go_roundw
            case rel => exact ⟨6, by simp, by decide, fun _ => by simp [szN]; omega, trivial⟩
            case measure => show 8 - (Int.toNat ((5 : Nat) + 1 : Int)) < 8 - (Int.toNat ((5 : Nat) : Int)); decide
        · by_cases hle : n ≤ 486
          · have hx : ∀ w, (Instr.index 130 (.agg #[.int .i64 32, .int .i64 64, .int .i64 96, .int .i64 144, .int .i64 216, .int .i64 324, .int .i64 486, .int .i64 1024]) (.int .i64 6)).run Tryd.prog w = .ok (.int .i64 486) w := index_sizes 6 (by decide)
            have hk := HKEY.out 486 6 (by decide) rfl n h0' hle (by simp only [szN]; simp <;> omega)
            have HK := Lib.hid hk
            clear hk
            go_wp2
            go_ret2
            refine ⟨?_, HB.out⟩
            rw [HK.out.1, HK.out.2]
            rfl
          · have hx : ∀ w, (Instr.index 130 (.agg #[.int .i64 32, .int .i64 64, .int .i64 96, .int .i64 144, .int .i64 216, .int .i64 324, .int .i64 486, .int .i64 1024]) (.int .i64 6)).run Tryd.prog w = .ok (.int .i64 486) w := index_sizes 6 (by decide)
            go_wp2
            go_roundw
            case rel => exact ⟨7, by simp, by decide, fun _ => by simp [szN]; omega, trivial⟩
            case measure => show 8 - (Int.toNat ((6 : Nat) + 1 : Int)) < 8 - (Int.toNat ((6 : Nat) : Int)); decide
        · by_cases hle : n ≤ 1024
          · have hx : ∀ w, (Instr.index 130 (.agg #[.int .i64 32, .int .i64 64, .int .i64 96, .int .i64 144, .int .i64 216, .int .i64 324, .int .i64 486, .int .i64 1024]) (.int .i64 7)).run Tryd.prog w = .ok (.int .i64 1024) w := index_sizes 7 (by decide)
            have hk := HKEY.out 1024 7 (by decide) rfl n h0' hle (by simp only [szN]; simp <;> omega)
            have HK := Lib.hid hk
            clear hk
            go_wp2
            go_ret2
            refine ⟨?_, HB.out⟩
            rw [HK.out.1, HK.out.2]
            rfl
          · have hx : ∀ w, (Instr.index 130 (.agg #[.int .i64 32, .int .i64 64, .int .i64 96, .int .i64 144, .int .i64 216, .int .i64 324, .int .i64 486, .int .i64 1024]) (.int .i64 7)).run Tryd.prog w = .ok (.int .i64 1024) w := index_sizes 7 (by decide)
            go_wp2
            go_roundw
            case rel => exact ⟨8, by simp, by decide, fun _ => by simp [szN]; omega, trivial⟩
            case measure => show 8 - (Int.toNat ((7 : Nat) + 1 : Int)) < 8 - (Int.toNat ((7 : Nat) : Int)); decide
def szZ (c : Int) : Nat := if c < 0 then 0 else szN c.toNat
def chZ (c : Int) : Nat := if c < 0 then 0 else chN c.toNat
theorem szZ_nat (k : Nat) : szZ (k : Int) = szN k := by unfold szZ; rw [if_neg (by omega), Int.toNat_natCast]
theorem chZ_nat (k : Nat) : chZ (k : Int) = chN k := by unfold chZ; rw [if_neg (by omega), Int.toNat_natCast]
theorem szN_hi {k : Nat} (h : 8 ≤ k) : szN k = 0 ∧ chN k = 0 := by
  unfold szN chN
  constructor <;> (rw [List.getD, List.getElem?_eq_none (by simpa using h)]; rfl)
set_option maxHeartbeats 2000000 in
theorem size_any (c : Int) (w : World) : Calls Tryd.prog 96 #[.int .i64 c] w fun e w' => e = .returned (.int .i64 (szZ c : Nat)) ∧ Below w.heap.size w w' := by
  go_enter Tryd.func96, Tryd.ntmps96
  go_wp2_with fail
  refine (sizes_any _).mono ?_
  rintro e w2 ⟨rfl, hb⟩
  have HB := Lib.hid hb
  have HK := Lib.hid (Blk.new w2 130 sizesC)
  clear hb
  by_cases h0 : c < 0
  · go_wp2
    go_ret
    refine ⟨?_, HB.out.alloc HB.out.size _⟩
    unfold szZ
    rw [if_pos h0]
    rfl
  · by_cases h8 : 8 ≤ c
    · go_wp2
      go_ret
      refine ⟨?_, HB.out.alloc HB.out.size _⟩
      unfold szZ
      rw [if_neg (by omega), (szN_hi (k := c.toNat) (by omega)).1]
      rfl
    · obtain rfl | rfl | rfl | rfl | rfl | rfl | rfl | rfl : c = 0 ∨ c = 1 ∨ c = 2 ∨ c = 3 ∨ c = 4 ∨ c = 5 ∨ c = 6 ∨ c = 7 := by omega
      all_goals (
        go_wp2
        go_ret
        exact ⟨rfl, HB.out.alloc HB.out.size _⟩)
theorem chunks_any (c : Int) (w : World) : Calls Tryd.prog 94 #[.int .i64 c] w fun e w' => e = .returned (.int .i64 (chZ c : Nat)) ∧ Below w.heap.size w w' := by
  have hs := size_any c
  by_cases h0 : szZ c = 0
  · have e : chZ c = 0 := by
      unfold szZ chZ at *
      by_cases h : c < 0
      · rw [if_pos h]
      · rw [if_neg h] at h0 ⊢
        rcases Nat.lt_or_ge c.toNat 8 with h8 | h8
        · exact absurd h0 (chN_div h8).2.1
        · exact (szN_hi h8).2
    rw [h0] at hs
    rw [e]
    go_enter Tryd.func94, Tryd.ntmps94
    go_wp2_with fail
    refine (hs _).mono ?_
    rintro e w2 ⟨rfl, hb⟩
    go_wp2
    go_ret
    exact ⟨rfl, hb⟩
  · have e : ∃ k, k < 8 ∧ c = (k : Nat) := by
      unfold szZ at h0
      by_cases h : c < 0
      · rw [if_pos h] at h0; exact absurd rfl h0
      · rw [if_neg h] at h0
        rcases Nat.lt_or_ge c.toNat 8 with h8 | h8
        · exact ⟨c.toNat, h8, by omega⟩
        · exact absurd (szN_hi h8).1 h0
    obtain ⟨k, hk, rfl⟩ := e
    rw [szZ_nat] at hs
    rw [chZ_nat]
    clear h0
    obtain rfl | rfl | rfl | rfl | rfl | rfl | rfl | rfl : k = 0 ∨ k = 1 ∨ k = 2 ∨ k = 3 ∨ k = 4 ∨ k = 5 ∨ k = 6 ∨ k = 7 := by omega
    all_goals (
      simp only [szN, List.getD_cons_zero, List.getD_cons_succ] at hs
      go_enter Tryd.func94, Tryd.ntmps94
      go_wp2_with fail
      refine (hs _).mono ?_
      rintro e w2 ⟨rfl, hb⟩
      go_wp2
      go_ret
      exact ⟨rfl, hb⟩)
end Go.Proofs.YtjhggcdoahnmkaaDoor

/- How many bits are set: math/bits.OnesCount32. -/
namespace Go.Proofs.YtjhggcdoahnmkaaDoor
open Go.RowKit Go.Shelf
attribute [local go_sem] Oper.semAt_some
set_option linter.unusedVariables false
set_option linter.unusedSimpArgs false
def tab8 : ByteArray := { data := (([0, 1, 1, 2, 1, 2, 2, 3, 1, 2, 2, 3, 2, 3, 3, 4, 1, 2, 2, 3, 2, 3, 3, 4, 2, 3, 3, 4, 3, 4, 4, 5, 1, 2, 2, 3, 2, 3, 3, 4, 2, 3, 3, 4, 3, 4, 4, 5, 2, 3, 3, 4, 3, 4, 4, 5, 3, 4, 4, 5, 4, 5, 5, 6].append [1, 2, 2, 3, 2, 3, 3, 4, 2, 3, 3, 4, 3, 4, 4, 5, 2, 3, 3, 4, 3, 4, 4, 5, 3, 4, 4, 5, 4, 5, 5, 6, 2, 3, 3, 4, 3, 4, 4, 5, 3, 4, 4, 5, 4, 5, 5, 6, 3, 4, 4, 5, 4, 5, 5, 6, 4, 5, 5, 6, 5, 6, 6, 7]).append ([1, 2, 2, 3, 2, 3, 3, 4, 2, 3, 3, 4, 3, 4, 4, 5, 2, 3, 3, 4, 3, 4, 4, 5, 3, 4, 4, 5, 4, 5, 5, 6, 2, 3, 3, 4, 3, 4, 4, 5, 3, 4, 4, 5, 4, 5, 5, 6, 3, 4, 4, 5, 4, 5, 5, 6, 4, 5, 5, 6, 5, 6, 6, 7].append [2, 3, 3, 4, 3, 4, 4, 5, 3, 4, 4, 5, 4, 5, 5, 6, 3, 4, 4, 5, 4, 5, 5, 6, 4, 5, 5, 6, 5, 6, 6, 7, 3, 4, 4, 5, 4, 5, 5, 6, 4, 5, 5, 6, 5, 6, 6, 7, 4, 5, 5, 6, 5, 6, 6, 7, 5, 6, 6, 7, 6, 7, 7, 8])).toArray }
theorem tab8_size : tab8.size = 256 := by decide +kernel
theorem tab8_get : ∀ i : Fin 256, (tab8.data.getD i 0).toNat = pop i := by decide +kernel
def cnt (n : Nat) (f : Nat → Bool) : Nat := ((List.range n).filter f).length
theorem cnt_le (n : Nat) (f : Nat → Bool) : cnt n f ≤ n := by
  have := List.length_filter_le f (List.range n)
  simpa [cnt] using this
theorem cnt_add (n m : Nat) (f : Nat → Bool) : cnt (n + m) f = cnt n f + cnt m (fun i => f (n + i)) := by
  unfold cnt
  rw [List.range_add, List.filter_append, List.length_append, List.filter_map, List.length_map]
  rfl
theorem cnt_congr {n : Nat} {f h : Nat → Bool} (e : ∀ i, i < n → f i = h i) : cnt n f = cnt n h := by
  unfold cnt
  congr 1
  exact List.filter_congr fun i hi => e i (List.mem_range.1 hi)
theorem cnt_none {n : Nat} {f : Nat → Bool} (e : ∀ i, i < n → f i = false) : cnt n f = 0 := by
  unfold cnt
  rw [List.length_eq_zero_iff, List.filter_eq_nil_iff]
  exact fun i hi => by rw [e i (List.mem_range.1 hi)]; decide
theorem pop_byte {a : Nat} (h : a < 256) : pop a = cnt 8 a.testBit := by
  show cnt (8 + 24) a.testBit = _
  rw [cnt_add, cnt_none (f := fun i => a.testBit (8 + i)) (fun i _ => tb_high (c := 8) (by omega) (by omega))]
  rfl
theorem byte_tb (g k i : Nat) (hi : i < 8) : (g / 2 ^ k % 256).testBit i = g.testBit (k + i) := by
  rw [show (256 : Nat) = 2 ^ 8 from rfl, Nat.testBit_mod_two_pow, ← Nat.shiftRight_eq_div_pow, Nat.testBit_shiftRight]
  simp [hi]
theorem pop_bytes (g : Nat) (hg : g < 4294967296) : pop g = pop (g / 16777216) + pop (g / 65536 % 256) + pop (g / 256 % 256) + pop (g % 256) := by
  have e3 : pop (g / 16777216) = cnt 8 (fun i => g.testBit (24 + i)) := by
    rw [pop_byte (by omega)]
    exact cnt_congr fun i hi => by
      rw [← byte_tb g 24 i hi, Nat.mod_eq_of_lt (by omega)]
  have e2 : pop (g / 65536 % 256) = cnt 8 (fun i => g.testBit (16 + i)) := by
    rw [pop_byte (by omega)]
    exact cnt_congr fun i hi => byte_tb g 16 i hi
  have e1 : pop (g / 256 % 256) = cnt 8 (fun i => g.testBit (8 + i)) := by
    rw [pop_byte (by omega)]
    exact cnt_congr fun i hi => byte_tb g 8 i hi
  have e0 : pop (g % 256) = cnt 8 g.testBit := by
    rw [pop_byte (by omega)]
    exact cnt_congr fun i hi => by
      have := byte_tb g 0 i hi
      simpa using this
  rw [e3, e2, e1, e0]
  have h1 : pop g = cnt (8 + (8 + (8 + 8))) g.testBit := rfl
  rw [h1, cnt_add, cnt_add, cnt_add]
  have c1 : cnt 8 (fun i => (fun i => (fun i => g.testBit (8 + i)) (8 + i)) i) = cnt 8 (fun i => g.testBit (16 + i)) := cnt_congr fun i _ => by show g.testBit (8 + (8 + i)) = _; congr 1; omega
  have c2 : cnt 8 (fun i => (fun i => (fun i => g.testBit (8 + i)) (8 + i)) (8 + i)) = cnt 8 (fun i => g.testBit (24 + i)) := cnt_congr fun i _ => by show g.testBit (8 + (8 + (8 + i))) = _; congr 1; omega
  simp only [] at c1 c2 ⊢
  omega
theorem and_255 (x : Nat) (h : x < 4294967296) : bits .and .u32 (x : Int) 255 = ((x % 256 : Nat) : Int) := by
  have := bits_and_u32_nat x 255 h (by omega)
  rw [show (((255 : Nat)) : Int) = 255 from rfl] at this
  rw [this, show (255 : Nat) = 2 ^ 8 - 1 from rfl, Nat.and_two_pow_sub_one_eq_mod]
theorem index_tab8 (a : Nat) (h : a < 256) (w : World) : (Instr.index 9 (.string tab8) (.int .u32 (a : Nat))).run Tryd.prog w = .ok (.int .u8 (pop a : Nat)) w := by
  rw [run_index_string w 9 tab8 .u32 a Tryd.underlying9]
  have hs := tab8_size
  rw [dif_pos (by omega)]
  have hg := tab8_get ⟨a, h⟩
  have e : (tab8[(a : Int).toNat]'(by omega)).toNat = pop a := by
    rw [← hg]
    have hd : a < tab8.data.size := by have : tab8.data.size = tab8.size := rfl; omega
    simp only [Int.toNat_natCast]
    show (tab8.data[a]'hd).toNat = _
    rw [Array.getD, dif_pos hd]
    rfl
  rw [e]
set_option maxRecDepth 100000 in
theorem ones_any (g : Nat) (hg : g < 4294967296) (w : World) : Calls Tryd.prog 95 #[.int .u32 g] w fun e w' => e = .returned (.int .i64 (pop g : Nat)) ∧ Below w.heap.size w w' := by
  have i1 := index_tab8 (g / 16777216) (by omega)
  have i2 := index_tab8 (g / 65536 % 256) (by omega)
  have i3 := index_tab8 (g / 256 % 256) (by omega)
  have i4 := index_tab8 (g % 256) (by omega)
  have b2 := and_255 (g / 65536) (by omega)
  have b3 := and_255 (g / 256) (by omega)
  have b4 := and_255 g hg
  have l1 : pop (g / 16777216) ≤ 8 := by rw [pop_byte (by omega)]; exact cnt_le _ _
  have l2 : pop (g / 65536 % 256) ≤ 8 := by rw [pop_byte (by omega)]; exact cnt_le _ _
  have l3 : pop (g / 256 % 256) ≤ 8 := by rw [pop_byte (by omega)]; exact cnt_le _ _
  have l4 : pop (g % 256) ≤ 8 := by rw [pop_byte (by omega)]; exact cnt_le _ _
  rw [pop_bytes g hg]
  rw [show ((g / 65536 : Nat) : Int) = (g : Int) / 65536 from rfl] at b2
  rw [show ((g / 256 : Nat) : Int) = (g : Int) / 256 from rfl] at b3
  obtain ⟨a1, ha1⟩ : ∃ a, g / 16777216 = a := ⟨_, rfl⟩
  obtain ⟨a2, ha2⟩ : ∃ a, g / 65536 % 256 = a := ⟨_, rfl⟩
  obtain ⟨a3, ha3⟩ : ∃ a, g / 256 % 256 = a := ⟨_, rfl⟩
  obtain ⟨a4, ha4⟩ : ∃ a, g % 256 = a := ⟨_, rfl⟩
  have b1 : (g : Int) / 16777216 = (a1 : Nat) := by rw [← ha1]; rfl
  rw [ha1] at i1 l1 ⊢
  rw [ha2] at i2 b2 l2 ⊢
  rw [ha3] at i3 b3 l3 ⊢
  rw [ha4] at i4 b4 l4 ⊢
  obtain ⟨T, hT⟩ : ∃ T, T = tab8 := ⟨_, rfl⟩
  rw [← hT] at i1 i2 i3 i4
  obtain ⟨p1, hp1⟩ : ∃ p, pop a1 = p := ⟨_, rfl⟩
  obtain ⟨p2, hp2⟩ : ∃ p, pop a2 = p := ⟨_, rfl⟩
  obtain ⟨p3, hp3⟩ : ∃ p, pop a3 = p := ⟨_, rfl⟩
  obtain ⟨p4, hp4⟩ : ∃ p, pop a4 = p := ⟨_, rfl⟩
  rw [hp1] at i1 l1 ⊢
  rw [hp2] at i2 l2 ⊢
  rw [hp3] at i3 l3 ⊢
  rw [hp4] at i4 l4 ⊢
  clear ha1 ha2 ha3 ha4 hp1 hp2 hp3 hp4
  go_enter Tryd.func95, Tryd.ntmps95
  go_wp2_with fail
  unfold tab8 at hT
  rw [← hT]
  clear hT
  go_quiet (fail)
  go_wp2
  go_ret
  exact ⟨rfl, below_drewN (Below.refl _ w) nq⟩
end Go.Proofs.YtjhggcdoahnmkaaDoor
