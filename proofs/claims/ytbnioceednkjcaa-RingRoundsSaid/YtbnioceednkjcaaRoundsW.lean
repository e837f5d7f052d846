/- RingRounds: the walk. MADE by mkrounds.py out of XRoundsW.head. -/
import Derived.Test.YtbnioceednkjcaaMarksR
import Derived.Test.YtbnioceednkjcaaWakesR
import Derived.Test.YtbnioceednkjcaaArgsRing
import Derived.Deep.CutBlock
import Derived.Deep.DeepCutAuto
namespace Go.Proofs.Ytbnioceednkjcaa
open Go.RowKit Go.Shelf
attribute [local go_sem] Oper.semAt_some
set_option linter.unusedVariables false
set_option linter.unusedSimpArgs false

abbrev rr0 : Oper := { dst := some 94, op := Go.Op.load 66 (Go.Operand.tmp 5), type := 66, pos := "outright.go:65", after := #[], guard := none }
abbrev rr1 : Oper := { dst := some 95, op := Go.Op.call { callee := Go.Callee.value (Go.Operand.func 44), args := #[Go.Operand.tmp 94], argTypes := #[66] }, type := 28, pos := "outright.go:65", after := #[{ on := 0, ground := Go.Ground.data }], guard := none }
abbrev rr2 : Oper := { dst := some 96, op := Go.Op.binOp Go.BinOp.neq 28 (Go.Operand.tmp 95) (Go.Operand.const (Go.Value.int Go.IntKind.i64 0)) 28, type := 4, pos := "outright.go:65", after := #[{ on := 1, ground := Go.Ground.data }], guard := none }
abbrev rr3 : Oper := { dst := some 97, op := Go.Op.move (Go.Operand.tmp 96), type := 4, pos := "outright.go:65", after := #[{ on := 2, ground := Go.Ground.data }, { on := 1, ground := Go.Ground.chain }], guard := none }
abbrev rr4 : Oper := { dst := some 98, op := Go.Op.load 66 (Go.Operand.tmp 5), type := 66, pos := "outright.go:65", after := #[{ on := 3, ground := Go.Ground.guard }], guard := some (3, false) }
abbrev rr5 : Oper := { dst := some 99, op := Go.Op.call { callee := Go.Callee.value (Go.Operand.func 64), args := #[Go.Operand.tmp 98], argTypes := #[66] }, type := 4, pos := "outright.go:65", after := #[{ on := 4, ground := Go.Ground.data }, { on := 3, ground := Go.Ground.chain }, { on := 3, ground := Go.Ground.guard }], guard := some (3, false) }
abbrev rr6 : Oper := { dst := some 100, op := Go.Op.unOp Go.UnOp.not 4 (Go.Operand.tmp 99), type := 4, pos := "outright.go:65", after := #[{ on := 5, ground := Go.Ground.data }, { on := 3, ground := Go.Ground.guard }], guard := some (3, false) }
abbrev rr7 : Oper := { dst := some 101, op := Go.Op.pick (Go.Operand.tmp 97) (Go.Operand.const (Go.Value.bool true)) (Go.Operand.tmp 100), type := 4, pos := "outright.go:65", after := #[{ on := 3, ground := Go.Ground.data }, { on := 6, ground := Go.Ground.data }], guard := none }
abbrev rr8 : Oper := { dst := some 102, op := Go.Op.move (Go.Operand.tmp 101), type := 4, pos := "outright.go:65", after := #[{ on := 7, ground := Go.Ground.data }, { on := 5, ground := Go.Ground.chain }], guard := none }
abbrev rr9 : Oper := { dst := some 103, op := Go.Op.load 3 (Go.Operand.tmp 13), type := 3, pos := "outright.go:65", after := #[{ on := 8, ground := Go.Ground.guard }], guard := some (8, false) }
abbrev rr10 : Oper := { dst := some 104, op := Go.Op.load 66 (Go.Operand.tmp 5), type := 66, pos := "outright.go:65", after := #[{ on := 8, ground := Go.Ground.guard }], guard := some (8, false) }
abbrev rr11 : Oper := { dst := some 105, op := Go.Op.call { callee := Go.Callee.value (Go.Operand.func 39), args := #[Go.Operand.tmp 104], argTypes := #[66] }, type := 3, pos := "outright.go:65", after := #[{ on := 10, ground := Go.Ground.data }, { on := 8, ground := Go.Ground.chain }, { on := 8, ground := Go.Ground.guard }], guard := some (8, false) }
abbrev rr12 : Oper := { dst := some 106, op := Go.Op.binOp Go.BinOp.add 3 (Go.Operand.tmp 103) (Go.Operand.tmp 105) 3, type := 3, pos := "outright.go:65", after := #[{ on := 9, ground := Go.Ground.data }, { on := 11, ground := Go.Ground.data }, { on := 8, ground := Go.Ground.guard }], guard := some (8, false) }
abbrev rr13 : Oper := { dst := some 107, op := Go.Op.fieldAddr 66 (Go.Operand.tmp 5) 1, type := 0, pos := "outright.go:65", after := #[{ on := 8, ground := Go.Ground.guard }], guard := some (8, false) }
abbrev rr14 : Oper := { dst := some 108, op := Go.Op.load 64 (Go.Operand.tmp 107), type := 64, pos := "outright.go:65", after := #[{ on := 13, ground := Go.Ground.data }, { on := 8, ground := Go.Ground.guard }], guard := some (8, false) }
abbrev rr15 : Oper := { dst := some 109, op := Go.Op.call { callee := Go.Callee.builtin Go.Builtin.len, args := #[Go.Operand.tmp 108], argTypes := #[64] }, type := 3, pos := "outright.go:65", after := #[{ on := 14, ground := Go.Ground.data }, { on := 8, ground := Go.Ground.guard }], guard := some (8, false) }
abbrev rr16 : Oper := { dst := some 110, op := Go.Op.binOp Go.BinOp.neq 3 (Go.Operand.tmp 106) (Go.Operand.tmp 109) 3, type := 4, pos := "outright.go:65", after := #[{ on := 12, ground := Go.Ground.data }, { on := 15, ground := Go.Ground.data }, { on := 8, ground := Go.Ground.guard }], guard := some (8, false) }
abbrev rr17 : Oper := { dst := some 111, op := Go.Op.pick (Go.Operand.tmp 102) (Go.Operand.const (Go.Value.bool true)) (Go.Operand.tmp 110), type := 4, pos := "outright.go:65", after := #[{ on := 8, ground := Go.Ground.data }, { on := 16, ground := Go.Ground.data }], guard := none }

set_option maxRecDepth 100000 in
/-- The frame as it stands between two rounds. -/
def FrmR (G : Nat) (g : Int) (sl : Value) (L k : Nat) (ms : List Deferred) (a : Act) : Prop := ∀ M : Prop, (∀ (u0 u1 u2 u3 u4 u6 u8 u9 u10 u11 u12 u13 u14 u15 u16 u17 u18 u19 u20 u21 u22 u23 u24 u25 u26 u27 u28 u29 u30 u34 u35 u36 u37 u38 u39 u40 u41 u42 u43 u44 u45 u46 u47 u48 u49 u50 u51 u52 u53 u54 u55 u56 u57 u58 u59 u60 u61 u62 u63 u64 u65 u66 u67 u68 u69 u70 u71 u72 u73 u74 u75 u76 u77 u78 u79 u80 u81 u82 u83 u84 u85 u86 u87 u88 u89 u90 u91 u92 u93 u94 u95 u96 u97 u98 u99 u100 u101 u102 u103 u104 u105 u106 u107 u108 u109 u110 u111 u112 : Value), a = { tmps := List.toArray (u0 :: u1 :: u2 :: u3 :: u4 :: .pointer (some ⟨G, 0, none⟩) :: u6 :: .int .u64 g :: u8 :: u9 :: u10 :: u11 :: u12 :: u13 :: u14 :: u15 :: u16 :: u17 :: u18 :: u19 :: u20 :: u21 :: u22 :: u23 :: u24 :: u25 :: u26 :: u27 :: u28 :: u29 :: u30 :: sl :: .int .i64 (L : Int) :: .int .i64 (k : Int) :: u34 :: u35 :: u36 :: u37 :: u38 :: u39 :: u40 :: u41 :: u42 :: u43 :: u44 :: u45 :: u46 :: u47 :: u48 :: u49 :: u50 :: u51 :: u52 :: u53 :: u54 :: u55 :: u56 :: u57 :: u58 :: u59 :: u60 :: u61 :: u62 :: u63 :: u64 :: u65 :: u66 :: u67 :: u68 :: u69 :: u70 :: u71 :: u72 :: u73 :: u74 :: u75 :: u76 :: u77 :: u78 :: u79 :: u80 :: u81 :: u82 :: u83 :: u84 :: u85 :: u86 :: u87 :: u88 :: u89 :: u90 :: u91 :: u92 :: u93 :: u94 :: u95 :: u96 :: u97 :: u98 :: u99 :: u100 :: u101 :: u102 :: u103 :: u104 :: u105 :: u106 :: u107 :: u108 :: u109 :: u110 :: u111 :: u112 :: []), defers := ms } → M) → M
set_option maxRecDepth 100000 in
/-- The frame in which the range's body runs. -/
def FrmB (N : Nat) (a : Act) : Prop := ∀ M : Prop, (∀ (u0 u1 u2 u3 u4 u5 u6 u7 u8 u9 u10 u11 u12 u14 u15 u16 u17 u18 u19 u20 u21 u22 u23 u24 u25 u26 u27 u28 u29 u30 u31 u32 u33 u34 u35 u36 u37 u38 u39 u40 u41 u42 u43 u44 u45 u46 u47 u48 u49 u50 u51 u52 u53 u54 u55 u56 u57 u58 u59 u60 u61 u62 u63 u64 u65 u66 u67 u68 u69 u70 u71 u72 u73 u74 u75 u76 u77 u78 u79 u80 u81 u82 u83 u84 u85 u86 u87 u88 u89 u90 u91 u92 u93 u94 u95 u96 u97 u98 u99 u100 u101 u102 u103 u104 u105 u106 u107 u108 u109 u110 u111 u112 : Value), a = { tmps := List.toArray (u0 :: u1 :: u2 :: u3 :: u4 :: u5 :: u6 :: u7 :: u8 :: u9 :: u10 :: u11 :: u12 :: .pointer (some ⟨N, 0, none⟩) :: u14 :: u15 :: u16 :: u17 :: u18 :: u19 :: u20 :: u21 :: u22 :: u23 :: u24 :: u25 :: u26 :: u27 :: u28 :: u29 :: u30 :: u31 :: u32 :: u33 :: u34 :: u35 :: u36 :: u37 :: u38 :: u39 :: u40 :: u41 :: u42 :: u43 :: u44 :: u45 :: u46 :: u47 :: u48 :: u49 :: u50 :: u51 :: u52 :: u53 :: u54 :: u55 :: u56 :: u57 :: u58 :: u59 :: u60 :: u61 :: u62 :: u63 :: u64 :: u65 :: u66 :: u67 :: u68 :: u69 :: u70 :: u71 :: u72 :: u73 :: u74 :: u75 :: u76 :: u77 :: u78 :: u79 :: u80 :: u81 :: u82 :: u83 :: u84 :: u85 :: u86 :: u87 :: u88 :: u89 :: u90 :: u91 :: u92 :: u93 :: u94 :: u95 :: u96 :: u97 :: u98 :: u99 :: u100 :: u101 :: u102 :: u103 :: u104 :: u105 :: u106 :: u107 :: u108 :: u109 :: u110 :: u111 :: u112 :: []), defers := [] } → M) → M
/-- A ring's variable at G, its row not in it; marks. -/
def RndW (w : World) (G n : Nat) (Ds : List Nat) (A : Option Addr) (cap : Nat) (xs : List Seg) (W : World) : Prop :=
  Blk W G 66 #[.int .i64 24, .slice A n cap] ∧ RowZ W (fun b => b < W.heap.size ∧ b ≠ G) A n xs ∧ Below w.heap.size w W ∧ MarksR w.heap.size Ds W
def GoodR (n : Nat) (xs : List Seg) : Prop := OkR 24 xs ∧ ∃ s c, Arc n xs s c
section
variable {w : World} {G n : Nat} {Ds : List Nat} {A : Option Addr} {cap : Nat} {xs : List Seg} {W W' : World}
theorem RndW.now (h : RndW w G n Ds A cap xs W) : RowZ W (· < W.heap.size) A n xs := h.2.1.more (fun b h => h.1)
theorem RndW.next (h : RndW w G n Ds A cap xs W) (hb : Below W.heap.size W W') : RndW w G n Ds A cap xs W' :=
  ⟨h.1.below hb h.1.lt, (h.2.1.below hb (fun b h => h.1)).more (fun b h => ⟨Nat.lt_of_lt_of_le h.1 hb.size, h.2⟩), below_next h.2.2.1 hb, h.2.2.2.below hb⟩
end
/-- Between two rounds. -/
def RdsI (w : World) (G n L : Nat) (sl : Value) (a : Act) (W : World) : Prop :=
  ∃ (k : Nat) (g : Int) (Ds : List Nat) (A : Option Addr) (cap : Nat) (xs : List Seg), FrmR G g sl L k (Ds.map markR) a ∧ k ≤ L ∧ (0 ≤ g ∧ g ≤ 64 * k) ∧ RndW w G n Ds A cap xs W ∧ GoodR n xs

/-- Behind the switch: the number of the generation, the error; the ring's variable, or the one of before, holds a good ring. -/
def RdC (w : World) (G n H : Nat) (Ds : List Nat) (A : Option Addr) (cap : Nat) (xs : List Seg) (gm : Int) (W : World) (v7 v11 : Value) : Prop :=
  (∃ g, v7 = .int .u64 g ∧ 0 ≤ g ∧ g ≤ gm) ∧ Below w.heap.size w W ∧ MarksR w.heap.size Ds W ∧ Blk W H 66 #[.int .i64 24, .slice A n cap] ∧ RowZ W (fun b => b < W.heap.size ∧ b ≠ G) A n xs ∧
  ∃ E, v11 = .int .i64 E ∧ ((E = 0 ∧ ∃ A' cap' ys, RndW w G n Ds A' cap' ys W ∧ GoodR n ys) ∨ (∃ s' B n' c', (E : Int) ≠ 0 ∧ Blk W G 66 #[.int .i64 s', .slice B n' c']))
section
variable {w : World} {G n H m : Nat} {Ds : List Nat} {A B : Option Addr} {cap n' c' : Nat} {xs ys : List Seg} {W : World} {g gm : Int}
theorem RndW.put (h : RndW w G n Ds A cap xs W) (hB : w.heap.size ≤ G) (hne : H ≠ G) (hH : Blk W H 66 #[.int .i64 24, .slice A n cap]) (s' : Int) (v : Value) :
    Below w.heap.size w ((W.setCell ⟨G, 0, none⟩ (.int .i64 s')).setCell ⟨G, 1, none⟩ v) ∧ MarksR w.heap.size Ds ((W.setCell ⟨G, 0, none⟩ (.int .i64 s')).setCell ⟨G, 1, none⟩ v) ∧
    Blk ((W.setCell ⟨G, 0, none⟩ (.int .i64 s')).setCell ⟨G, 1, none⟩ v) H 66 #[.int .i64 24, .slice A n cap] ∧ Blk ((W.setCell ⟨G, 0, none⟩ (.int .i64 s')).setCell ⟨G, 1, none⟩ v) G 66 #[.int .i64 s', v] ∧
    RowZ ((W.setCell ⟨G, 0, none⟩ (.int .i64 s')).setCell ⟨G, 1, none⟩ v) (fun b => b < ((W.setCell ⟨G, 0, none⟩ (.int .i64 s')).setCell ⟨G, 1, none⟩ v).heap.size ∧ b ≠ G) A n xs := by
  have hk : Kept (fun b => b < W.heap.size ∧ b ≠ G) W ((W.setCell ⟨G, 0, none⟩ (.int .i64 s')).setCell ⟨G, 1, none⟩ v) := ((Kept.refl _ W).setCell (p := ⟨G, 0, none⟩) (fun h => h.2 rfl) _).setCell (p := ⟨G, 1, none⟩) (fun h => h.2 rfl) _
  refine ⟨(h.2.2.1.setCell (p := ⟨G, 0, none⟩) hB _).setCell (p := ⟨G, 1, none⟩) hB _, (h.2.2.2.setCell h.1 0 _).setCell (h.1.set_ 0 _) 1 _, (hH.far (p := ⟨G, 0, none⟩) hne _).far (p := ⟨G, 1, none⟩) hne _, (h.1.set_ 0 _).set_ 1 _, (h.2.1.kept hk (fun b h => h)).more (fun b h => ⟨Nat.lt_of_lt_of_le h.1 hk.size, h.2⟩)⟩
theorem RdC.no (h : RndW w G n Ds A cap xs W) (hB : w.heap.size ≤ G) (hne : H ≠ G) (hH : Blk W H 66 #[.int .i64 24, .slice A n cap]) (hg : 0 ≤ g ∧ g ≤ gm) {E : Int} (hE : E ≠ 0) (s' : Int) :
    RdC w G n H Ds A cap xs gm ((W.setCell ⟨G, 0, none⟩ (.int .i64 s')).setCell ⟨G, 1, none⟩ (.slice B n' c')) (.int .u64 g) (.int .i64 E) := by
  obtain ⟨h1, h2, h3, h4, h5⟩ := h.put hB hne hH s' (.slice B n' c')
  exact ⟨⟨g, rfl, hg⟩, h1, h2, h3, h5, E, rfl, .inr ⟨s', B, n', c', hE, h4⟩⟩
theorem RdC.stay (h : RndW w G n Ds A cap xs W) (hH : Blk W H 66 #[.int .i64 24, .slice A n cap]) (hg : 0 ≤ g ∧ g ≤ gm) {E : Int} (hE : E ≠ 0) : RdC w G n H Ds A cap xs gm W (.int .u64 g) (.int .i64 E) :=
  ⟨⟨g, rfl, hg⟩, h.2.2.1, h.2.2.2, hH, h.2.1, E, rfl, .inr ⟨24, A, n, cap, hE, h.1⟩⟩
theorem RdC.ok (h : RndW w G n Ds A cap xs W) (hB : w.heap.size ≤ G) (hne : H ≠ G) (hH : Blk W H 66 #[.int .i64 24, .slice A n cap]) (hg : 0 ≤ g ∧ g ≤ gm) (ho : OwnZ W m B n c' ys) (hm : G < m) (hgood : GoodR n ys) :
    RdC w G n H Ds A cap xs gm ((W.setCell ⟨G, 0, none⟩ (.int .i64 24)).setCell ⟨G, 1, none⟩ (.slice B n c')) (.int .u64 g) (.int .i64 0) := by
  obtain ⟨h1, h2, h3, h4, h5⟩ := h.put hB hne hH 24 (.slice B n c')
  have ho2 := (ho.far (p := ⟨G, 0, none⟩) hm (.int .i64 24)).far (p := ⟨G, 1, none⟩) hm (.slice B n c')
  exact ⟨⟨g, rfl, hg⟩, h1, h2, h3, h5, 0, rfl, .inl ⟨rfl, B, c', ys, ⟨h4, ho2.row.more (fun b hb => ⟨hb.2, by have := hb.1; omega⟩), h1, h2⟩, hgood⟩⟩
end
theorem GoodR.opn {n : Nat} {xs : List Seg} (h : GoodR n xs) {g : Int} (he : openE 24 xs g = 0) : GoodR n (openX xs g) := by
  obtain ⟨_, s, c, ha⟩ := h
  exact ⟨ok_open he, arc_open ha he⟩
theorem GoodR.use {n : Nat} {xs : List Seg} (h : GoodR n xs) {v : Int} (he : useE 24 xs v = 0) : GoodR n (useX xs v) := by
  obtain ⟨_, s, c, ha⟩ := h
  exact ⟨ok_use he, s, c, arc_use ha he⟩
theorem GoodR.sealed {n : Nat} {xs : List Seg} (h : GoodR n xs) (he : sealE 24 xs = 0) : GoodR n (sealX xs) := by
  obtain ⟨_, s, c, ha⟩ := h
  exact ⟨ok_seal he, s, c, arc_seal ha he⟩
theorem GoodR.free {n : Nat} {xs : List Seg} (h : GoodR n xs) {o : Nat} (ho : oldR xs = o) (he : freeE 24 xs o = 0) : GoodR n (freeX xs o) := by
  obtain ⟨_, s, c, ha⟩ := h
  exact ⟨ok_free he, arc_free ha ho⟩
theorem GoodR.len {n : Nat} {xs : List Seg} (h : GoodR n xs) : xs.length = n := by
  obtain ⟨_, s, c, ha⟩ := h
  exact ha.len

theorem rnd_back {w : World} {G n : Nat} {Ds : List Nat} {A : Option Addr} {cap : Nat} {xs : List Seg} {W : World} {v v' : Value} (hG : Blk W G 66 #[v, v']) (hr : RowZ W (fun b => b < W.heap.size ∧ b ≠ G) A n xs) (hb : Below w.heap.size w W) (hm : MarksR w.heap.size Ds W) (hB : w.heap.size ≤ G) :
    RndW w G n Ds A cap xs ((W.setCell ⟨G, 0, none⟩ (.int .i64 24)).setCell ⟨G, 1, none⟩ (.slice A n cap)) := by
  have hk : Kept (fun b => b < W.heap.size ∧ b ≠ G) W ((W.setCell ⟨G, 0, none⟩ (.int .i64 24)).setCell ⟨G, 1, none⟩ (.slice A n cap)) := ((Kept.refl _ W).setCell (p := ⟨G, 0, none⟩) (fun h => h.2 rfl) _).setCell (p := ⟨G, 1, none⟩) (fun h => h.2 rfl) _
  exact ⟨(hG.set_ 0 _).set_ 1 _, (hr.kept hk (fun b h => h)).more (fun b h => ⟨Nat.lt_of_lt_of_le h.1 hk.size, h.2⟩), (hb.setCell (p := ⟨G, 0, none⟩) hB _).setCell (p := ⟨G, 1, none⟩) hB _, (hm.setCell hG 0 _).setCell (hG.set_ 0 _) 1 _⟩
theorem marks_more {m D : Nat} {Ds : List Nat} {w9 W : World} (h9 : MarksR m Ds w9) (h : MarksR m Ds W) (hD : w9.heap.size ≤ D) (hm : m ≤ D) (hk : W.heap[D]? = some (.deferred (some []))) : MarksR m (D :: Ds) W := by
  refine ⟨List.nodup_cons.2 ⟨fun hin => ?_, h.1⟩, fun D' hD' => ?_⟩
  · have := (h9.2 D hin).2.1
    omega
  · rcases List.mem_cons.1 hD' with rfl | h3
    · exact ⟨hm, (Array.getElem?_eq_some_iff.1 hk).1, hk⟩
    · exact h.2 D' h3
/-- What the round keeps of the world ahead of the range. -/
def KeptN (w9 : World) (N : Nat) : World → World → Prop := fun _ W => Kept (fun b => b < w9.heap.size ∧ b ≠ N) w9 W
theorem own_keptN {β : Type} (w9 : World) (N : Nat) : OwnFrom w9.heap.size (fun (_ : β) W => Kept (fun b => b < w9.heap.size ∧ b ≠ N) w9 W) := fun s W W' row hs hg hr =>
  hs.grown hg (fun b hb => Nat.lt_of_lt_of_le hb.1 hs.size) (fun g e hg' => by have h1 := (hr g e).1; have h2 := hg'.1; omega)
theorem RndW.kept {w : World} {G n : Nat} {Ds : List Nat} {A : Option Addr} {cap : Nat} {xs : List Seg} {w9 W : World} {N : Nat} (h : RndW w G n Ds A cap xs w9) (hk : Kept (fun b => b < w9.heap.size ∧ b ≠ N) w9 W) (hN : w.heap.size ≤ N) (hGN : G ≠ N) (hr : RowZ w9 (fun b => b < w9.heap.size ∧ b ≠ G ∧ b ≠ N) A n xs) (hmN : ∃ t cs, Blk w9 N t cs) : RndW w G n Ds A cap xs W := by
  refine ⟨h.1.kept hk ⟨h.1.lt, hGN⟩, (hr.kept hk (fun b h => ⟨h.1, h.2.2⟩)).more (fun b h => ⟨Nat.lt_of_lt_of_le h.1 hk.size, h.2.1⟩), h.2.2.1.trans ⟨hk.os, hk.tape, hk.output, hk.size, fun b hb => hk.block b ⟨by have := h.2.2.1.size; omega, by omega⟩⟩, h.2.2.2.1, fun D hD => ?_⟩
  obtain ⟨h1, h2, h3⟩ := h.2.2.2.2 D hD
  obtain ⟨t, cs, hN2⟩ := hmN
  have hne : D ≠ N := fun e => by
    have h4 : w9.heap[N]? = some (.cells cs t) := hN2
    rw [e, h4] at h3
    cases h3
  exact ⟨h1, Nat.lt_of_lt_of_le h2 hk.size, by rw [hk.block D ⟨h2, hne⟩]; exact h3⟩

set_option maxRecDepth 100000 in
set_option maxHeartbeats 4000000 in
theorem rounds_law (a0 : Int) (A1 : Option Addr) (n1 c1 : Nat) (w : World) (bs : List Int) (hbs : bs.length = n1) (hrow : 0 < n1 → ∃ b off, A1 = some ⟨b, off, none⟩ ∧ b < w.heap.size ∧ ∀ i, i < n1 → w.cell? ⟨b, off + i, none⟩ = some (.int .u8 (bs.getD i 0))) (hby : ∀ i, 0 ≤ bs.getD i 0 ∧ bs.getD i 0 < 256) (hc : n1 ≤ c1 ∧ (A1 = none → c1 = 0)) :
    Calls Try.prog 12 #[.int .i64 a0, .slice A1 n1 c1] w fun e w' => e = .returned (.bool true) ∧ Below w.heap.size w w' := by
  obtain ⟨n, hn, h4, h16⟩ := segs_of a0
  refine (callsIn_wide (n := 5)).1 ?_
  refine callsIn_of_wp_marks Try.func12 rfl trivial ?_ rfl
  refine wpIn_wide.2 ?_
  simp only [Try.ntmps12, List.size_toArray, List.length_cons, List.length_nil, Nat.reduceAdd, Nat.reduceSub, Array.replicate_succ, Array.replicate_zero, List.push_toArray, List.append_toArray, List.nil_append, List.cons_append]
  go_wp2_with fail
  refine (wakes8 _).mono ?_
  rintro e w1 ⟨rfl, hb1⟩
  have HW1 := Lib.hid hb1
  clear hb1
  go_wp2_with fail
  rw [hn]
  refine (new_ok n 24 ⟨by omega, by omega, by omega, by omega⟩).mono ?_
  rintro e w2 ⟨⟨A, rfl, hr⟩, hb2⟩
  have HR2 := Lib.hid hr
  have HW2 := Lib.hid (HW1.out.trans (hb2.mono HW1.out.size))
  have HN := Lib.hid (show 4 ≤ n ∧ n ≤ 16 from ⟨h4, h16⟩)
  clear hr hb2 hn
  obtain ⟨L, hL⟩ : ∃ L : Nat, L = min n1 300 := ⟨_, rfl⟩
  have hmin : min (n1 : Int) 300 = (L : Int) := by omega
  have hLc : L ≤ c1 := by omega
  have hLn : L ≤ n1 := by omega
  have hL3 : L ≤ 300 := by omega
  have hl0 : (0 : Int) ≤ (L : Int) := by omega
  clear hL
  go_wp2_with fail
  have HB0 := Lib.hid hrow
  have HBY := Lib.hid hby
  have HC := Lib.hid hc
  clear hrow hby hc hmin
  refine wp_loop (RdsI w w2.heap.size n L (.slice A1 L c1)) (fun a _ => L - (intOf (a.tmps.getD 33 undef)).toNat) ?_ ?_
  · refine ⟨0, 0, [], A, n, List.replicate n seg0, ?_, Nat.zero_le _, by omega, ⟨Blk.new w2 _ _, ?_, HW2.out.alloc HW2.out.size _, MarksR.nil _ _⟩, ok_new ⟨by omega, by omega, by omega, by omega⟩, 0, 0, arc_new n (by omega)⟩
    · intro M f
      exact f _ _ _ _ _ _ _ _ _ _ _ _ _ _ _ _ _ _ _ _ _ _ _ _ _ _ _ _ _ _ _ _ _ _ _ _ _ _ _ _ _ _ _ _ _ _ _ _ _ _ _ _ _ _ _ _ _ _ _ _ _ _ _ _ _ _ _ _ _ _ _ _ _ _ _ _ _ _ _ _ _ _ _ _ _ _ _ _ _ _ _ _ _ _ _ _ _ _ _ _ _ _ _ _ _ _ _ _ rfl
    · exact (HR2.out.below ((Below.refl w2.heap.size w2).alloc (Nat.le_refl _) _) (fun b h => h.2)).more (fun b h => ⟨by have := h.2; simp; omega, by have := h.2; omega⟩)
  rintro a wr ⟨k, g, Ds, A', cap, xs, hfrm, hk, hg, hrw, hgood⟩
  have HRW := Lib.hid hrw
  have HGD := Lib.hid hgood
  have HG0 := Lib.hid hg
  refine hfrm _ ?_
  intro u0 u1 u2 u3 u4 u6 u8 u9 u10 u11 u12 u13 u14 u15 u16 u17 u18 u19 u20 u21 u22 u23 u24 u25 u26 u27 u28 u29 u30 u34 u35 u36 u37 u38 u39 u40 u41 u42 u43 u44 u45 u46 u47 u48 u49 u50 u51 u52 u53 u54 u55 u56 u57 u58 u59 u60 u61 u62 u63 u64 u65 u66 u67 u68 u69 u70 u71 u72 u73 u74 u75 u76 u77 u78 u79 u80 u81 u82 u83 u84 u85 u86 u87 u88 u89 u90 u91 u92 u93 u94 u95 u96 u97 u98 u99 u100 u101 u102 u103 u104 u105 u106 u107 u108 u109 u110 u111 u112 ha
  subst ha
  clear hfrm
  obtain ⟨k0, k1⟩ := ring_cells hrw.1
  clear hrw hgood hg
  by_cases hlt : k < L
  case neg =>
    obtain rfl : k = L := by omega
    go_wp2_with fail
    refine leaves_marks Ds wr HRW.out.2.2.2 (fun W' hW' => ⟨.bool true, ?_, rfl, HRW.out.2.2.1.trans hW'⟩)
    simp [results, Try.f12, go_sem]
  obtain ⟨b, off, rfl, hbb, hcell⟩ := HB0.out (by omega)
  have c0 : wr.cell? ⟨b, off + k, none⟩ = some (.int .u8 (bs.getD k 0)) := (Below.cell HRW.out.2.2.1 (p := ⟨b, _, none⟩) hbb).trans (hcell k (by omega))
  have hv := HBY.out k
  generalize bs.getD k 0 = v at *
  clear hcell hbb
  go_upto_block 2 with fail
  have HR6 := Lib.hid (HRW.out.next ((Below.refl wr.heap.size wr).alloc (Nat.le_refl _) (.cells #[.int .i64 24, .slice A' n cap] 66)))
  have HH6 := Lib.hid (Blk.new wr 66 #[.int .i64 24, .slice A' n cap])
  have HNE := Lib.hid (show wr.heap.size ≠ w2.heap.size from fun e => by have := HRW.out.1.lt; omega)
  have HGB := Lib.hid (show w.heap.size ≤ w2.heap.size from HW2.out.size)
  have hgm := Lib.hid (show 0 ≤ g ∧ g ≤ 64 * k from HG0.out)
  clear k0 k1 c0
  generalize wr.alloc (.cells #[.int .i64 24, .slice A' n cap] 66) = w6 at *
  obtain ⟨k0, k1⟩ := ring_cells HR6.out.1
  obtain ⟨r, hr⟩ : ∃ r : Int, v % 4 = r := ⟨_, rfl⟩
  rw [hr]
  have HR4 := Lib.hid (show r = 0 ∨ r = 1 ∨ r = 2 ∨ r = 3 by omega)
  clear hr
  go_cut [7, 11, 12] from 40 to 85 (fun v7 v11 v12 wx => RdC w w2.heap.size n wr.heap.size Ds A' cap xs (64 * (k + 1)) wx v7 v11)
  case first =>
    rcases HR4.out with rfl | rfl | rfl | rfl
    · obtain ⟨g2, hg2⟩ : ∃ g2 : Int, g2 = g + (v / 4 + 1) := ⟨_, rfl⟩
      have HG2 := Lib.hid (show 0 ≤ g2 ∧ g2 ≤ 64 * (k + 1) by have := hgm.out; omega)
      have HW64 := Lib.hid (show IntKind.u64.wrap (g + (v / 4 + 1)) = g2 by have := hgm.out; rw [IntKind.wrap_u64]; omega)
      clear hg2
      go_wp2_with fail
      rw [HW64.out]
      refine (open_any HR6.out.now 24 g2).mono ?_
      rintro e w7 ⟨hcase, hb7⟩
      have HR7 := Lib.hid (HR6.out.next hb7)
      have HH7 := Lib.hid (HH6.out.below hb7 HH6.out.lt)
      have HGL := Lib.hid HR6.out.1.lt
      obtain ⟨q0, q1⟩ := ring_cells HR7.out.1
      obtain ⟨f1, f2⟩ := And.intro (HR7.out.1.frozen 0) (HR7.out.1.frozen 1)
      generalize nxtR xs = nx at *
      rcases hcase with ⟨hz, v7, rfl, A6, n6, cap6, rfl, hown6⟩ | ⟨hno, rfl⟩
      · have HOK := Lib.hid (HGD.out.opn hz)
        obtain hnn : n = n6 := by rw [← hown6.1]; exact HOK.out.len.symm
        subst hnn
        have HO6 := Lib.hid hown6
        clear hown6 hb7 hz k0 k1
        go_wp2_with fail
        go_meet
        exact RdC.ok HR7.out HGB.out HNE.out HH7.out (by have := HG2.out; omega) HO6.out HGL.out HOK.out
      · have HNO := Lib.hid hno
        clear hno hb7 k0 k1
        generalize openE 24 xs g2 = E at *
        go_wp2_with fail
        go_meet
        exact RdC.no HR7.out HGB.out HNE.out HH7.out (by have := HG2.out; omega) HNO.out 0
    · go_wp2_with fail
      refine (use_any HR6.out.now 24 (v / 4)).mono ?_
      rintro e w7 ⟨hcase, hb7⟩
      have HR7 := Lib.hid (HR6.out.next hb7)
      have HH7 := Lib.hid (HH6.out.below hb7 HH6.out.lt)
      have HGL := Lib.hid HR6.out.1.lt
      obtain ⟨q0, q1⟩ := ring_cells HR7.out.1
      obtain ⟨f1, f2⟩ := And.intro (HR7.out.1.frozen 0) (HR7.out.1.frozen 1)
      rcases hcase with ⟨hz, v7, rfl, A6, n6, cap6, rfl, hown6⟩ | ⟨hno, rfl⟩
      · have HOK := Lib.hid (HGD.out.use hz)
        obtain hnn : n = n6 := by rw [← hown6.1]; exact HOK.out.len.symm
        subst hnn
        have HO6 := Lib.hid hown6
        clear hown6 hb7 hz k0 k1
        go_wp2_with fail
        go_meet
        exact RdC.ok HR7.out HGB.out HNE.out HH7.out (by have := hgm.out; have := hv; omega) HO6.out HGL.out HOK.out
      · have HNO := Lib.hid hno
        clear hno hb7 k0 k1
        generalize useE 24 xs (v / 4) = E at *
        go_wp2_with fail
        go_meet
        exact RdC.no HR7.out HGB.out HNE.out HH7.out (by have := hgm.out; have := hv; omega) HNO.out 0
    · go_wp2_with fail
      refine (seal_any HR6.out.now 24).mono ?_
      rintro e w7 ⟨hcase, hb7⟩
      have HR7 := Lib.hid (HR6.out.next hb7)
      have HH7 := Lib.hid (HH6.out.below hb7 HH6.out.lt)
      have HGL := Lib.hid HR6.out.1.lt
      obtain ⟨q0, q1⟩ := ring_cells HR7.out.1
      obtain ⟨f1, f2⟩ := And.intro (HR7.out.1.frozen 0) (HR7.out.1.frozen 1)
      rcases hcase with ⟨hz, v7, rfl, A6, n6, cap6, rfl, hown6⟩ | ⟨hno, rfl⟩
      · have HOK := Lib.hid (HGD.out.sealed hz)
        obtain hnn : n = n6 := by rw [← hown6.1]; exact HOK.out.len.symm
        subst hnn
        have HO6 := Lib.hid hown6
        clear hown6 hb7 hz k0 k1
        go_wp2_with fail
        go_meet
        exact RdC.ok HR7.out HGB.out HNE.out HH7.out (by have := hgm.out; have := hv; omega) HO6.out HGL.out HOK.out
      · have HNO := Lib.hid hno
        clear hno hb7 k0 k1
        generalize sealE 24 xs = E at *
        go_wp2_with fail
        go_meet
        exact RdC.no HR7.out HGB.out HNE.out HH7.out (by have := hgm.out; have := hv; omega) HNO.out 0
    · go_wp2_with fail
      refine (oldest_any HR6.out.now 24).mono ?_
      rintro e w5 ⟨rfl, hb5⟩
      have HR5 := Lib.hid (HR6.out.next hb5)
      have HH5 := Lib.hid (HH6.out.below hb5 HH6.out.lt)
      have hor := old_or xs
      have hOK := HGD.out.1
      clear hb5
      rcases hor with ⟨eo, _⟩ | ⟨o, ho, eo, _, _⟩
      · have e1 : oldE 24 xs = 4 := by unfold oldE; rw [if_neg (fun k => k hOK), eo, if_pos (by omega)]
        have e2 : oldV 24 xs = 0 := by unfold oldV; rw [e1]; rfl
        rw [e1, e2]
        clear e1 e2 eo
        go_wp2_with fail
        go_meet
        exact RdC.stay HR5.out HH5.out (by have := hgm.out; omega) (by decide)
      · have e1 : oldE 24 xs = 0 := by unfold oldE; rw [if_neg (fun k => k hOK), eo, if_neg (by omega)]
        have e2 : oldV 24 xs = o := by unfold oldV; rw [e1]; exact eo
        rw [e1, e2]
        have HEO := Lib.hid eo
        obtain ⟨p0, p1⟩ := ring_cells HR5.out.1
        clear e1 e2 eo k0 k1
        go_wp2_with fail
        refine (free_any HR5.out.now 24 o).mono ?_
        rintro e w7 ⟨hcase, hb7⟩
        have HR7 := Lib.hid (HR5.out.next hb7)
        have HH7 := Lib.hid (HH5.out.below hb7 HH5.out.lt)
        have HGL := Lib.hid HR5.out.1.lt
        obtain ⟨q0, q1⟩ := ring_cells HR7.out.1
        obtain ⟨f1, f2⟩ := And.intro (HR7.out.1.frozen 0) (HR7.out.1.frozen 1)
        rcases hcase with ⟨hz, v7, rfl, A6, n6, cap6, rfl, hown6⟩ | ⟨hno, rfl⟩
        · have HOK := Lib.hid (HGD.out.free HEO.out hz)
          obtain hnn : n = n6 := by rw [← hown6.1]; exact HOK.out.len.symm
          subst hnn
          have HO6 := Lib.hid hown6
          clear hown6 hb7 hz p0 p1
          go_wp2_with fail
          go_meet
          exact RdC.ok HR7.out HGB.out HNE.out HH7.out (by have := hgm.out; have := hv; omega) HO6.out HGL.out HOK.out
        · have HNO := Lib.hid hno
          clear hno hb7 p0 p1
          generalize freeE 24 xs o = E at *
          go_wp2_with fail
          go_meet
          exact RdC.no HR7.out HGB.out HNE.out HH7.out (by have := hgm.out; have := hv; omega) HNO.out 0
  case rest =>
    obtain ⟨⟨g', rfl, hg'⟩, hb, hm, hh, hrow, E, rfl, hcase⟩ := hcut
    have HG1 := Lib.hid hg'
    have HB1 := Lib.hid hb
    have HM1 := Lib.hid hm
    have HH1 := Lib.hid hh
    have HRO := Lib.hid hrow
    have HCA := Lib.hid hcase
    obtain ⟨p0, p1⟩ := ring_cells hh
    clear hg' hb hm hh hrow hcase k0 k1
    go_upto_if 86 with fail
    go_cut [7] from 87 to 88 (fun v7 wx => v7 = .int .u64 g' ∧ ∃ A2 cap2 ys, RndW w w2.heap.size n Ds A2 cap2 ys wx ∧ GoodR n ys)
    case first =>
      rcases HCA.out with ⟨rfl, A2, cap2, ys, h1, h2⟩ | ⟨s', B, n', c', hE, hG⟩
      · have H1 := Lib.hid h1
        have H2 := Lib.hid h2
        clear h1 h2
        go_wp2_with fail
        go_meet
        exact ⟨rfl, A2, cap2, ys, H1.out, H2.out⟩
      · have d1 : (E != 0) = true := by simpa using hE
        have HG := Lib.hid hG
        obtain ⟨f1, f2⟩ := And.intro (hG.frozen 0) (hG.frozen 1)
        obtain ⟨q0, q1⟩ : wc.cell? ⟨w2.heap.size, 0, none⟩ = some (.int .i64 s') ∧ wc.cell? ⟨w2.heap.size, 1, none⟩ = some (.slice B n' c') := ⟨hG.cell 0, hG.cell 1⟩
        clear hE hG
        go_wp2_with fail
        go_meet
        exact ⟨rfl, A', cap, xs, rnd_back HG.out HRO.out HB1.out HM1.out HGB.out, HGD.out⟩
    case rest =>
      obtain ⟨rfl, A2, cap2, ys, hrw, hgood⟩ := hcut
      have HR8 := Lib.hid (hrw.next ((Below.refl wc.heap.size wc).alloc (Nat.le_refl _) (.cells #[.int .i64 0] 3)))
      have HN8 := Lib.hid (Blk.new wc 3 #[.int .i64 0])
      have HGN := Lib.hid (show w2.heap.size < wc.heap.size from hrw.1.lt)
      have HWN := Lib.hid (show w.heap.size ≤ wc.heap.size from hrw.2.2.1.size)
      have HRN := Lib.hid (hrw.2.1)
      have HGY := Lib.hid hgood
      obtain ⟨q0, q1⟩ := ring_cells HR8.out.1
      clear hrw hgood p0 p1
      go_wp2_with fail
      refine (order_any HR8.out.now 24).mono ?_
      rintro e w9 ⟨Bq, Lo, rfl, hsq, hord, hb9⟩
      have HR9 := Lib.hid (HR8.out.next hb9)
      have HN9 := Lib.hid (HN8.out.below hb9 HN8.out.lt)
      have HRN9 := Lib.hid (show RowZ w9 (fun b => b < w9.heap.size ∧ b ≠ w2.heap.size ∧ b ≠ wc.heap.size) A2 n ys from
        ((HRN.out.below ((Below.refl wc.heap.size wc).alloc (Nat.le_refl _) (.cells #[.int .i64 0] 3)) (fun b h => h.1)).below hb9 (fun b h => by have := h.1; simp; omega)).more (fun b h => ⟨by have h1 := h.1; have h2 := hb9.size; simp at h2; omega, h.2, by have := h.1; omega⟩))
      have HLO := Lib.hid (hord.2.1 HGY.out.1)
      have hL16 : Lo.length ≤ 16 := by
        have h1 := HLO.out.length_eq
        have h2 := liveTo_length ys ys.length
        have h3 := HGY.out.len
        have h4 := HN.out.2
        unfold live at h1
        omega
      have HSZ := Lib.hid (show wc.heap.size + 1 ≤ w9.heap.size by have := hb9.size; simpa using this)
      clear hb9 hord
      go_wp2_with fail
      refine (wpIn_wide (n := 5)).1 ?_
      refine wpIn_rangeFunc_ownH rfl (by omega) (gf := 114) (lb := #[.pointer (some ⟨Bq, 0, none⟩)]) rfl trivial (enters_of Try.func114 (by kernel_rfl) rfl)
        (rise_stops Fence.wide 4 trivial rfl (by omega) Bq _ w9.heap.size Lo hL16 w9 hsq rfl) keptK_t (keptK_b (Nat.le_refl _)) (Below.refl _ _) (fun _ => rfl)
        (fun pre W => Blk W wc.heap.size 3 #[.int .i64 (pre.length : Nat)] ∧ Kept (fun b => b < w9.heap.size ∧ b ≠ wc.heap.size) w9 W)
        (fun c pre W => False)
        (OwnFrom.and (Own.from (blk_own _ _ _) _) (own_keptN w9 wc.heap.size))
        (fun c => fun s W W' row hs hg hr => hs)
        ⟨HN9.out, Kept.refl _ _⟩
        (fun x a' W => FrmB wc.heap.size a')
        (fun x a' _ X Y row hs hg hr => hs)
        ?assign ?body ?done ?stop
      case assign =>
        rintro l pre x W K ⟨h1, h2⟩ hK
        gi_wp2
        refine hK _ _ ((KeepsOthers.refl _).from _) (Kept.refl _ W) ⟨h1, h2⟩ ?_
        simp only [numA, List.zip_toArray, List.zip_cons_cons, List.zip_nil_right, List.zip_nil_left, List.foldl_toArray', List.foldl_toArray, List.foldl_cons, List.foldl_nil, List.setIfInBounds_toArray, List.set_cons_succ, List.set_cons_zero]
        exact fun M f => f _ _ _ _ _ _ _ _ _ _ _ _ _ _ _ _ _ _ _ _ _ _ _ _ _ _ _ _ _ _ _ _ _ _ _ _ _ _ _ _ _ _ _ _ _ _ _ _ _ _ _ _ _ _ _ _ _ _ _ _ _ _ _ _ _ _ _ _ _ _ _ _ _ _ _ _ _ _ _ _ _ _ _ _ _ _ _ _ _ _ _ _ _ _ _ _ _ _ _ _ _ _ _ _ _ _ _ _ _ _ _ _ rfl
      case body =>
        rintro l pre x a' W hl ⟨rr, hr⟩ ⟨h1, h2⟩ hfr hlt16
        refine hfr _ ?_
        intro u0 u1 u2 u3 u4 u5 u6 u7 u8 u9 u10 u11 u12 u14 u15 u16 u17 u18 u19 u20 u21 u22 u23 u24 u25 u26 u27 u28 u29 u30 u31 u32 u33 u34 u35 u36 u37 u38 u39 u40 u41 u42 u43 u44 u45 u46 u47 u48 u49 u50 u51 u52 u53 u54 u55 u56 u57 u58 u59 u60 u61 u62 u63 u64 u65 u66 u67 u68 u69 u70 u71 u72 u73 u74 u75 u76 u77 u78 u79 u80 u81 u82 u83 u84 u85 u86 u87 u88 u89 u90 u91 u92 u93 u94 u95 u96 u97 u98 u99 u100 u101 u102 u103 u104 u105 u106 u107 u108 u109 u110 u111 u112 ha
        subst ha
        have H1 := Lib.hid h1
        have H2 := Lib.hid h2
        have m0 : W.cell? ⟨wc.heap.size, 0, none⟩ = some (.int .i64 (pre.length : Nat)) := h1.cell 0
        have f1 := h1.frozen 0
        have hpl : pre.length ≤ 16 := by omega
        clear h1 h2 hfr
        gi_wp2
        refine ⟨(KeepsOthers.setCell _ _ _).from _, (Kept.refl _ W).setCell (p := ⟨wc.heap.size, 0, none⟩) (fun h => by have := h.1; simp at this; omega) _, ?_, H2.out.setCell (p := ⟨wc.heap.size, 0, none⟩) (fun h => h.2 rfl) _⟩
        have h := H1.out.set_ 0 (.int .i64 ((pre.length : Int) + 1))
        rw [List.length_append]
        exact h
      case done =>
        rintro D zs W hD hzs ⟨h1, h2⟩ hK
        rw [hzs] at h1
        clear hzs
        have hr10 := HR9.out.kept h2 HWN.out (by have := HGN.out; omega) HRN9.out ⟨_, _, HN9.out⟩
        have HR10 := Lib.hid hr10
        have HMK := Lib.hid (marks_more HR9.out.2.2.2 hr10.2.2.2 hD (by have := HWN.out; have := HSZ.out; omega) hK)
        have HN10 := Lib.hid h1
        have hsum : (Lo.length : Int) + (freesW 24 ys : Nat) = (n : Int) := by
          have e1 : freesW 24 ys = freesTo ys ys.length := by unfold freesW freesR; rw [if_pos HGY.out.1]
          have e2 := frees_live ys ys.length
          have e3 := HLO.out.length_eq
          have e4 := HGY.out.len
          unfold live at e3
          rw [e1]
          omega
        have HSUM := Lib.hid hsum
        obtain ⟨gl, hgl⟩ : ∃ gl : Nat → Int, ∀ o : Nat, oldR ys = o → SideBy ys n o (sealTo ys n) gl := by
          obtain ⟨hok, s0, c0, ha⟩ := HGY.out
          refine ⟨fun k => if k = 0 then 0 else genG ys (posR n s0 (k - 1)), fun o ho => ?_⟩
          obtain ⟨rfl, _⟩ := ha.old ho
          exact ha.side hok ho
        have HSD := Lib.hid hgl
        clear hgl hsum hr10 h1 h2 hK
        obtain ⟨fw, hfw⟩ : ∃ fw, freesW 24 ys = fw := ⟨_, rfl⟩
        rw [hfw] at HSUM
        have HFW := Lib.hid hfw
        clear hfw
        go_wp2_with fail
        refine wp_region_noPanic ?_
        refine Tillst.region (fun V => Below W.heap.size W V) [] (by kernel_rfl) (Below.refl _ _).drew (fun hHeld => ?_)
        generalize W.drew = vd at *
        refine Tillst.take (i := 0) (oi := rr0) (v := ?_) rfl (by kernel_rfl) (by kernel_rfl) (by kernel_rfl) (by kernel_rfl) (fun _ _ _ h => h) (by rfl) ?_ hHeld ?_
        rotate_left
        · intro W' hSW; obtain ⟨x0, x1⟩ := ring_cells (HR10.out.1.below hSW HR10.out.1.lt); have y0 : W'.cell? ⟨wc.heap.size, 0, none⟩ = some (.int .i64 (Lo.length : Nat)) := (HN10.out.below hSW HN10.out.lt).cell 0; unfold rr0; go_simp; with_reducible rfl
        simp only [rr0, Act.put, List.setIfInBounds_toArray, List.set_cons_zero, List.set_cons_succ]
        refine Tillst.one (i := 1) (o := rr1) (by kernel_rfl) rfl ?_
        intro K hK
        refine step_call 44 #[.tmp 94] #[66] rfl rfl Try.func44 rfl rfl [ringV 24 A2 n cap2] rfl ?_
        refine (check_any (cap := cap2) (row_now HR10.out.now hHeld) 24).mono ?_
        rintro e v1 ⟨rfl, hb⟩
        rw [if_pos HGY.out.1]
        refine ⟨_, rfl, ?_⟩
        simp only [rr1, Act.put, List.setIfInBounds_toArray, List.set_cons_zero, List.set_cons_succ]
        refine hK.out _ _ (fun _ => hHeld.trans (hb.mono hHeld.size)) (fun hHeld => ?_)
        replace hHeld := hHeld (by decide)
        clear hK K hb
        refine Tillst.take (i := 2) (oi := rr2) (v := ?_) rfl (by kernel_rfl) (by kernel_rfl) (by kernel_rfl) (by kernel_rfl) (fun _ _ _ h => h) (by rfl) ?_ hHeld ?_
        rotate_left
        · intro W hSW; (try dsimp only at hSW); unfold rr2; go_simp; with_reducible rfl
        simp only [rr2, Act.put, List.setIfInBounds_toArray, List.set_cons_zero, List.set_cons_succ]
        refine Tillst.take (i := 3) (oi := rr3) (v := ?_) rfl (by kernel_rfl) (by kernel_rfl) (by kernel_rfl) (by kernel_rfl) (fun _ _ _ h => h) (by rfl) ?_ hHeld ?_
        rotate_left
        · intro W hSW; (try dsimp only at hSW); unfold rr3; go_simp; with_reducible rfl
        simp only [rr3, Act.put, List.setIfInBounds_toArray, List.set_cons_zero, List.set_cons_succ]
        refine Tillst.take (i := 4) (oi := rr4) (v := ?_) rfl (by kernel_rfl) (by kernel_rfl) (by kernel_rfl) (by kernel_rfl) (fun _ _ _ h => h) (by rfl) ?_ hHeld ?_
        rotate_left
        · intro W' hSW; obtain ⟨x0, x1⟩ := ring_cells (HR10.out.1.below hSW HR10.out.1.lt); have y0 : W'.cell? ⟨wc.heap.size, 0, none⟩ = some (.int .i64 (Lo.length : Nat)) := (HN10.out.below hSW HN10.out.lt).cell 0; unfold rr4; go_simp; with_reducible rfl
        simp only [rr4, Act.put, List.setIfInBounds_toArray, List.set_cons_zero, List.set_cons_succ]
        refine Tillst.one (i := 5) (o := rr5) (by kernel_rfl) rfl ?_
        intro K hK
        refine step_call 64 #[.tmp 98] #[66] rfl rfl Try.func64 rfl rfl [ringV 24 A2 n cap2] rfl ?_
        refine (round_any (cap := cap2) (row_now HR10.out.now hHeld) 24 HGY.out.1 gl HSD.out).mono ?_
        rintro e v5 ⟨rfl, hb⟩
        refine ⟨_, rfl, ?_⟩
        simp only [rr5, Act.put, List.setIfInBounds_toArray, List.set_cons_zero, List.set_cons_succ]
        refine hK.out _ _ (fun _ => hHeld.trans (hb.mono hHeld.size)) (fun hHeld => ?_)
        replace hHeld := hHeld (by decide)
        clear hK K hb
        refine Tillst.take (i := 6) (oi := rr6) (v := ?_) rfl (by kernel_rfl) (by kernel_rfl) (by kernel_rfl) (by kernel_rfl) (fun _ _ _ h => h) (by rfl) ?_ hHeld ?_
        rotate_left
        · intro W hSW; (try dsimp only at hSW); unfold rr6; go_simp; with_reducible rfl
        simp only [rr6, Act.put, List.setIfInBounds_toArray, List.set_cons_zero, List.set_cons_succ]
        refine Tillst.take (i := 7) (oi := rr7) (v := ?_) rfl (by kernel_rfl) (by kernel_rfl) (by kernel_rfl) (by kernel_rfl) (fun _ _ _ h => h) (by rfl) ?_ hHeld ?_
        rotate_left
        · intro W hSW; (try dsimp only at hSW); unfold rr7; go_simp; with_reducible rfl
        simp only [rr7, Act.put, List.setIfInBounds_toArray, List.set_cons_zero, List.set_cons_succ]
        refine Tillst.take (i := 8) (oi := rr8) (v := ?_) rfl (by kernel_rfl) (by kernel_rfl) (by kernel_rfl) (by kernel_rfl) (fun _ _ _ h => h) (by rfl) ?_ hHeld ?_
        rotate_left
        · intro W hSW; (try dsimp only at hSW); unfold rr8; go_simp; with_reducible rfl
        simp only [rr8, Act.put, List.setIfInBounds_toArray, List.set_cons_zero, List.set_cons_succ]
        refine Tillst.take (i := 9) (oi := rr9) (v := ?_) rfl (by kernel_rfl) (by kernel_rfl) (by kernel_rfl) (by kernel_rfl) (fun _ _ _ h => h) (by rfl) ?_ hHeld ?_
        rotate_left
        · intro W' hSW; obtain ⟨x0, x1⟩ := ring_cells (HR10.out.1.below hSW HR10.out.1.lt); have y0 : W'.cell? ⟨wc.heap.size, 0, none⟩ = some (.int .i64 (Lo.length : Nat)) := (HN10.out.below hSW HN10.out.lt).cell 0; unfold rr9; go_simp; with_reducible rfl
        simp only [rr9, Act.put, List.setIfInBounds_toArray, List.set_cons_zero, List.set_cons_succ]
        refine Tillst.take (i := 10) (oi := rr10) (v := ?_) rfl (by kernel_rfl) (by kernel_rfl) (by kernel_rfl) (by kernel_rfl) (fun _ _ _ h => h) (by rfl) ?_ hHeld ?_
        rotate_left
        · intro W' hSW; obtain ⟨x0, x1⟩ := ring_cells (HR10.out.1.below hSW HR10.out.1.lt); have y0 : W'.cell? ⟨wc.heap.size, 0, none⟩ = some (.int .i64 (Lo.length : Nat)) := (HN10.out.below hSW HN10.out.lt).cell 0; unfold rr10; go_simp; with_reducible rfl
        simp only [rr10, Act.put, List.setIfInBounds_toArray, List.set_cons_zero, List.set_cons_succ]
        refine Tillst.take (i := 13) (oi := rr13) (v := ?_) rfl (by kernel_rfl) (by kernel_rfl) (by kernel_rfl) (by kernel_rfl) (fun _ _ _ h => h) (by rfl) ?_ hHeld ?_
        rotate_left
        · intro W hSW; (try dsimp only at hSW); unfold rr13; go_simp; with_reducible rfl
        simp only [rr13, Act.put, List.setIfInBounds_toArray, List.set_cons_zero, List.set_cons_succ]
        refine Tillst.take (i := 14) (oi := rr14) (v := ?_) rfl (by kernel_rfl) (by kernel_rfl) (by kernel_rfl) (by kernel_rfl) (fun _ _ _ h => h) (by rfl) ?_ hHeld ?_
        rotate_left
        · intro W' hSW; obtain ⟨x0, x1⟩ := ring_cells (HR10.out.1.below hSW HR10.out.1.lt); have y0 : W'.cell? ⟨wc.heap.size, 0, none⟩ = some (.int .i64 (Lo.length : Nat)) := (HN10.out.below hSW HN10.out.lt).cell 0; unfold rr14; go_simp; with_reducible rfl
        simp only [rr14, Act.put, List.setIfInBounds_toArray, List.set_cons_zero, List.set_cons_succ]
        refine Tillst.take (i := 15) (oi := rr15) (v := ?_) rfl (by kernel_rfl) (by kernel_rfl) (by kernel_rfl) (by kernel_rfl) (fun _ _ _ h => h) (by rfl) ?_ hHeld ?_
        rotate_left
        · intro W hSW; (try dsimp only at hSW); unfold rr15; go_simp; with_reducible rfl
        simp only [rr15, Act.put, List.setIfInBounds_toArray, List.set_cons_zero, List.set_cons_succ]
        refine Tillst.one (i := 11) (o := rr11) (by kernel_rfl) rfl ?_
        intro K hK
        refine step_call 39 #[.tmp 104] #[66] rfl rfl Try.func39 rfl rfl [ringV 24 A2 n cap2] rfl ?_
        refine (frees_any (cap := cap2) (row_now HR10.out.now hHeld) 24).mono ?_
        rintro e v11 ⟨rfl, hb⟩
        rw [HFW.out]
        refine ⟨_, rfl, ?_⟩
        simp only [rr11, Act.put, List.setIfInBounds_toArray, List.set_cons_zero, List.set_cons_succ]
        refine hK.out _ _ (fun _ => hHeld.trans (hb.mono hHeld.size)) (fun hHeld => ?_)
        replace hHeld := hHeld (by decide)
        clear hK K hb
        refine Tillst.take (i := 12) (oi := rr12) (v := .int .i64 (n : Int)) rfl (by kernel_rfl) (by kernel_rfl) (by kernel_rfl) (by kernel_rfl) (fun _ _ _ h => h) (by rfl) ?_ hHeld ?_
        · intro W hSW; (try dsimp only at hSW); unfold rr12; go_simp; (have hs := HSUM.out; rw [IntKind.wrap_i64]; omega)
        simp only [rr12, Act.put, List.setIfInBounds_toArray, List.set_cons_zero, List.set_cons_succ]
        refine Tillst.take (i := 16) (oi := rr16) (v := ?_) rfl (by kernel_rfl) (by kernel_rfl) (by kernel_rfl) (by kernel_rfl) (fun _ _ _ h => h) (by rfl) ?_ hHeld ?_
        rotate_left
        · intro W hSW; (try dsimp only at hSW); unfold rr16; go_simp; with_reducible rfl
        simp only [rr16, Act.put, List.setIfInBounds_toArray, List.set_cons_zero, List.set_cons_succ]
        refine Tillst.take (i := 17) (oi := rr17) (v := ?_) rfl (by kernel_rfl) (by kernel_rfl) (by kernel_rfl) (by kernel_rfl) (fun _ _ _ h => h) (by rfl) ?_ hHeld ?_
        rotate_left
        · intro W hSW; (try dsimp only at hSW); unfold rr17; go_simp; with_reducible rfl
        simp only [rr17, Act.put, List.setIfInBounds_toArray, List.set_cons_zero, List.set_cons_succ]
        refine Tillst.done (by kernel_rfl) ?_ _
        refine NoPanic.normal ?_
        have HEND := Lib.hid hHeld
        clear hHeld
        go_wp2_with fail
        have HREND := Lib.hid (RndW.next (W := W) (Ds := D :: Ds) ⟨HR10.out.1, HR10.out.2.1, HR10.out.2.2.1, HMK.out⟩ HEND.out)
        refine ⟨⟨k + 1, g', D :: Ds, A2, cap2, ys, ?_, by omega, by have := HG1.out; omega, HREND.out, HGY.out⟩, ?_⟩
        · rw [show ((k : Int) + 1) = ((k + 1 : Nat) : Int) by omega]
          exact fun M f => f _ _ _ _ _ _ _ _ _ _ _ _ _ _ _ _ _ _ _ _ _ _ _ _ _ _ _ _ _ _ _ _ _ _ _ _ _ _ _ _ _ _ _ _ _ _ _ _ _ _ _ _ _ _ _ _ _ _ _ _ _ _ _ _ _ _ _ _ _ _ _ _ _ _ _ _ _ _ _ _ _ _ _ _ _ _ _ _ _ _ _ _ _ _ _ _ _ _ _ _ _ _ _ _ _ _ _ _ rfl
        · simp [intOf]
          omega
      case stop =>
        rintro D c pre W hD _ h
        exact h.elim
end Go.Proofs.Ytbnioceednkjcaa
