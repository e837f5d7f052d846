/- Texts of LogOpens, packed. -/
import Derived.Test.YtodcohkblgjfeaaGreatPackLogOpens10
import Derived.Deep.Slices
import Derived.Deep.Fields
import Derived.ChangeSame
import Derived.Lib.SmallJoins
import Derived.Laws.Cover3
set_option linter.unusedVariables false
set_option linter.unusedSimpArgs false
namespace Go.Proofs.YtodcohkblgjfeaaGreat
set_option maxRecDepth 100000
open Go.RowKit Go.ChangeShapes Go.WideShapes Go.Deep Go.Joins
set_option linter.unusedVariables false
structure IsRing (w : World) (s : Int) (A : Option Addr) (n c : Nat) (z : List Seg) : Prop where
  row : RowZ w (· < w.heap.size) A n z
  nc : n ≤ c
  n63 : n ≤ 9223372036854775807
  nA : A = none → c = 0
  pos : ∀ i, i < n → 0 ≤ (z.getD i seg0).2.1
section
variable {H : Type} {enc : TypeId × Value → H} {w : World} {held : Bool}
set_option maxRecDepth 100000 in
theorem trod_seg {fuel : Nat} {l : List Value} {y : DataW H × List MemPlace} (hl3 : l.length = 3) (h : DataW.trod enc Tryz.prog w 0 (fun _ => true) held fuel 128 l = some y) :
    ∃ s : Seg, l = segC s ∧ 0 ≤ s.2.1 := by
  obtain ⟨ys, fu, _, _, _, hyl, hg⟩ := DataW.trod_struct Tryz.underlying128 h
  have hone : ∀ t, t = 3 ∨ t = 30 → Tryz.prog.cellsOf t = 1 := by
    rintro t (rfl | rfl) <;> kernel_rfl
  have hy3 : ys.length = 3 := hyl
  match l, hl3 with
  | [v0, v1, v2], _ =>
    have g0 : DataW.trod enc Tryz.prog w 0 (fun _ => true) held fu 3 (([v0, v1, v2].drop 0).take (Tryz.prog.cellsOf 3)) = ys[0]? := hg 0 _ rfl
    have g1 : DataW.trod enc Tryz.prog w 0 (fun _ => true) held fu 30 (([v0, v1, v2].drop 1).take (Tryz.prog.cellsOf 30)) = ys[1]? := hg 1 _ rfl
    have g2 : DataW.trod enc Tryz.prog w 0 (fun _ => true) held fu 3 (([v0, v1, v2].drop 2).take (Tryz.prog.cellsOf 3)) = ys[2]? := hg 2 _ rfl
    simp only [hone _ (.inl rfl), hone _ (.inr rfl), List.drop_zero, List.drop_succ_cons, List.take_succ_cons, List.take_zero] at g0 g1 g2
    rw [List.getElem?_eq_getElem (by omega)] at g0 g1 g2
    obtain ⟨a, ea, _, wa⟩ := DataW.trod_int Tryz.underlying3 g0
    obtain ⟨b, eb, _, wb⟩ := DataW.trod_int Tryz.underlying30 g1
    obtain ⟨c, ec, _, wc⟩ := DataW.trod_int Tryz.underlying3 g2
    injection ea with ea _
    injection eb with eb _
    injection ec with ec _
    subst ea eb ec
    have jb : 0 ≤ b ∧ b ≤ 18446744073709551615 := by simpa [Lit.wf, IntKind.min, IntKind.max, IntKind.signed, IntKind.bits] using wb
    exact ⟨(a, b, c), rfl, jb.1⟩
theorem open_segs {t : TypeId} {fuel : Nat} {cs : List Value} {x : DataW H × List MemPlace} (ht : Tryz.prog.underlying t = some (.slice 128))
    (h : DataW.trod enc Tryz.prog w 0 (fun _ => true) held fuel t cs = some x) :
    ∃ a len cap zs, cs = [.slice a len cap] ∧ RowZ w (· < w.heap.size) a len zs ∧ len ≤ cap ∧ len ≤ 9223372036854775807 ∧ (a = none → cap = 0) ∧ ∀ i, i < len → 0 ≤ (zs.getD i seg0).2.1 := by
  have hc3 : Tryz.prog.cellsOf 128 = 3 := by kernel_rfl
  rcases open_slice ht h with ⟨rfl, _⟩ | ⟨a, len, cap, m, n, D, Pl, rfl, hb, hl, hm, hmm, rfl, hi⟩
  · exact ⟨none, 0, 0, [], rfl, RowQ.nil _ _ _ _ _ _, Nat.le_refl _, by omega, fun _ => rfl, fun i hi => absurd hi (by omega)⟩
  · simp only [if_true] at hmm
    subst hmm
    have key : ∀ i, i < m → ∃ z : Seg, 0 ≤ z.2.1 ∧ ∀ j, j < 3 → w.cell? (a.add (i * 3 + j)) = (segC z)[j]? := by
      intro i him
      obtain ⟨cs', hc, ht'⟩ := hi i him
      rw [hc3] at hc
      obtain ⟨_, hcl, hat⟩ := World.cells?_some hc
      obtain ⟨z, rfl, hzp⟩ := trod_seg hcl ht'
      refine ⟨z, hzp, fun j hj => ?_⟩
      have h1 := hat j hj
      rw [Go.Deep.add_add] at h1
      exact h1
    have : ∀ k, k ≤ m → ∃ zs : List Seg, zs.length = k ∧ ∀ i, i < k → 0 ≤ (zs.getD i seg0).2.1 ∧ ∀ j, j < 3 → w.cell? (a.add (i * 3 + j)) = (segC (zs.getD i seg0))[j]? := by
      intro k
      induction k with
      | zero => intro _; exact ⟨[], rfl, fun i hi => by omega⟩
      | succ k ih =>
        intro hk
        obtain ⟨zs, hzl, hz⟩ := ih (by omega)
        obtain ⟨z, h1, h2⟩ := key k (by omega)
        refine ⟨zs ++ [z], by simp [hzl], fun i hi => ?_⟩
        by_cases e : i < k
        · have e2 : (zs ++ [z]).getD i seg0 = zs.getD i seg0 := by simp [List.getD, List.getElem?_append_left (show i < zs.length by omega)]
          rw [e2]
          exact hz i e
        · obtain rfl : i = k := by omega
          have e2 : (zs ++ [z]).getD i seg0 = z := by simp [List.getD, List.getElem?_append_right (show zs.length ≤ i by omega), hzl]
          rw [e2]
          exact ⟨h1, h2⟩
    obtain ⟨zs, hzl, hz⟩ := this m (Nat.le_refl _)
    have hget : ∀ i, i < len → (zs.take len).getD i seg0 = zs.getD i seg0 := fun i hi => by simp [List.getD, List.getElem?_take, hi]
    refine ⟨some a, len, m, zs.take len, rfl, ⟨by simp; omega, fun hn => ?_⟩, hl, by have := hm; unfold maxLen at this; omega, (by intro h; cases h), fun i hi => by rw [hget i hi]; exact (hz i (by omega)).1⟩
    obtain ⟨b, off, spot⟩ := a
    have h0 := (hz 0 (by omega)).2 0 (by omega)
    have h0' : w.cell? ⟨b, off, spot⟩ = some (.int .i64 (zs.getD 0 seg0).1) := by simpa [Addr.add] using h0
    have hspot : spot = none := World.cell?_spot h0'
    subst hspot
    refine ⟨b, off, rfl, block_lt_of_cell h0', fun i hi j v hv => ?_⟩
    rw [hget i hi] at hv
    have hj : j < 3 := by have := (List.getElem?_eq_some_iff.1 hv).1; simpa using this
    have h2 := (hz i (by omega)).2 j hj
    rw [add_plain] at h2
    rw [Nat.add_assoc, h2, hv]
set_option maxRecDepth 100000 in
theorem open_ring {r : Reach} {b0 : Nat} {v : Value} {d : DataW H} {p : List MemPlace} (hv : Value.okWide Tryz.prog w r b0 35 v) (h : DataW.Trod enc Tryz.prog w 0 (fun _ => true) held 35 v d p) :
    ∃ (s : Int) (A : Option Addr) (n c : Nat) (z : List Seg), v = .agg #[.int .i64 s, .slice A n c] ∧ IsRing w s A n c z := by
  obtain ⟨cs, rfl, hsz⟩ := okWide_struct Tryz.underlying35 hv
  obtain ⟨fuel, hf⟩ := h
  obtain ⟨ys, fu, _, _, _, hyl, hg⟩ := DataW.trod_struct Tryz.underlying35 hf
  have hc2 : Tryz.prog.cellsOf 35 = 2 := by kernel_rfl
  have hone : ∀ t, t = 3 ∨ t = 33 → Tryz.prog.cellsOf t = 1 := by
    rintro t (rfl | rfl) <;> kernel_rfl
  obtain ⟨l⟩ := cs
  have hl2 : l.length = 2 := by simpa using hsz.trans hc2
  have hy2 : ys.length = 2 := hyl
  match l, hl2 with
  | [v0, v1], _ =>
    have g0 := hg 0 _ rfl
    have g1 := hg 1 _ rfl
    simp only [Value.cells, hone _ (.inl rfl), hone _ (.inr rfl), List.drop_zero, List.drop_succ_cons, List.take_succ_cons, List.take_zero] at g0 g1
    rw [List.getElem?_eq_getElem (by omega)] at g0 g1
    obtain ⟨k, ek, _, wk⟩ := DataW.trod_int Tryz.underlying3 g0
    obtain ⟨A, n, c, z, ez, hz, nc, n63, nA, hpz⟩ := open_segs Tryz.underlying33 g1
    injection ek with ek _
    injection ez with ez _
    subst ek ez
    exact ⟨k, A, n, c, z, rfl, hz, nc, n63, nA, hpz⟩
end
end Go.Proofs.YtodcohkblgjfeaaGreat

namespace Go.Proofs.YtodcohkblgjfeaaGreat
set_option maxRecDepth 100000
open Go.RowKit
set_option linter.unusedVariables false
set_option linter.unusedSimpArgs false
set_option maxRecDepth 100000 in
set_option maxHeartbeats 2000000 in
theorem ref_same {w : World} {A A' : Option Addr} {n n' cap cap' : Nat} {xs ys : List Seg} (h : RowZ w (· < w.heap.size) A n xs) (h' : RowZ w (· < w.heap.size) A' n' ys) (sec sec' : Int) (hn : n ≤ 1000) :
    Calls Tryz.prog 28 #[ringV sec A n cap, ringV sec' A' n' cap'] w fun e w' => e = .returned (.bool (decide (sec = sec' ∧ xs = ys))) ∧ Below w.heap.size w w' := by
  have HX := Lib.hid h
  have HY := Lib.hid h'
  clear h h'
  by_cases hs : sec = sec'
  case neg =>
    rw [decide_eq_false (fun h => hs h.1)]
    have d : (sec != sec') = true := by simpa using hs
    go_enter Tryz.func28, Tryz.ntmps28
    go_wp2
    go_ret
    exact ⟨rfl, ((Below.refl _ w).alloc (Nat.le_refl _) _).alloc (by simp) _⟩
  subst hs
  by_cases hl : n = n'
  case neg =>
    have hne : xs ≠ ys := fun h => hl (by rw [← HX.out.1, ← HY.out.1, h])
    rw [decide_eq_false (fun h => hne h.2)]
    have d : ((n : Int) != (n' : Int)) = true := by simp; omega
    have d2 : (sec != sec) = false := by simp
    go_enter Tryz.func28, Tryz.ntmps28
    go_wp2
    go_ret
    exact ⟨rfl, ((Below.refl _ w).alloc (Nat.le_refl _) _).alloc (by simp) _⟩
  subst hl
  have d2 : (sec != sec) = false := by simp
  have d3 : ((n : Int) != (n : Int)) = false := by simp
  obtain ⟨R, hR⟩ : ∃ R, decide (sec = sec ∧ xs = ys) = R := ⟨_, rfl⟩
  have HR := Lib.hid hR
  rw [hR]
  clear hR
  go_enter Tryz.func28, Tryz.ntmps28
  go_wp2
  go_loopw [23] (fun i wr => ∃ j : Nat, j ≤ n ∧ i = .int .i64 j ∧ Blk wr w.heap.size 35 #[.int .i64 sec, .slice A n cap] ∧ Blk wr (w.heap.size + 1) 35 #[.int .i64 sec, .slice A' n cap'] ∧ Below w.heap.size w wr ∧ ∀ k, k < j → xs.getD k seg0 = ys.getD k seg0) (fun i _ => n - (intOf i).toNat)
  case atStart => exact ⟨0, Nat.zero_le _, rfl, (Blk.new w _ _).alloc _, blk_new2 w _ _ _, ((Below.refl _ w).alloc (Nat.le_refl _) _).alloc (by simp) _, fun k h => absurd h (by omega)⟩
  case round =>
    obtain ⟨j, hj, rfl, hb, hb2, hbel, heq⟩ := hrel
    have HB := Lib.hid hb
    have HB2 := Lib.hid hb2
    have HBEL := Lib.hid hbel
    have HEQ := Lib.hid heq
    obtain ⟨k0, k1⟩ := ring_cells hb
    obtain ⟨q0, q1⟩ := ring_cells hb2
    clear hb hb2 hbel heq
    by_cases hlt : j < n
    · obtain ⟨b, off, rfl, hbb, hcc⟩ := seg_get (HX.out.below HBEL.out (fun b h => h)) hlt
      obtain ⟨b', off', rfl, hbb', hcc'⟩ := seg_get (HY.out.below HBEL.out (fun b h => h)) hlt
      obtain ⟨c0, c1, c2⟩ := hcc j hlt
      obtain ⟨e0, e1, e2⟩ := hcc' j hlt
      have hlx : j < xs.length := by rw [HX.out.1]; exact hlt
      have hly : j < ys.length := by rw [HY.out.1]; exact hlt
      have hq := neq_seg (stG xs j) (genG xs j) (usedG xs j) (stG ys j) (genG ys j) (usedG ys j)
      have hxe : (stG xs j, genG xs j, usedG xs j) = xs.getD j seg0 := rfl
      have hye : (stG ys j, genG ys j, usedG ys j) = ys.getD j seg0 := rfl
      rw [hxe, hye] at hq
      clear hcc hcc' hxe hye
      generalize stG xs j = st at *
      generalize genG xs j = g at *
      generalize usedG xs j = u at *
      generalize stG ys j = st' at *
      generalize genG ys j = g' at *
      generalize usedG ys j = u' at *
      by_cases hee : xs.getD j seg0 = ys.getD j seg0
      · rw [decide_eq_true hee] at hq
        have HEE := Lib.hid hee
        clear hee
        go_wp2
        go_quiet (fail)
        go_wp2
        go_roundw
        case rel => exact ⟨j + 1, by omega, by simp, HB.out.drewN _, HB2.out.drewN _, below_drewN HBEL.out _, fun k hk => by
          by_cases hkj : k < j
          · exact HEQ.out k hkj
          · obtain rfl : k = j := by omega
            exact HEE.out⟩
        case measure => simp [intOf]; omega
      · have HNE := Lib.hid (show R = false by rw [← HR.out]; exact decide_eq_false (fun h => hee (by rw [h.2])))
        rw [decide_eq_false hee] at hq
        clear hee
        go_wp2
        go_quiet (fail)
        go_wp2
        go_ret
        exact ⟨by rw [HNE.out]; rfl, below_drewN HBEL.out _⟩
    · obtain rfl : j = n := by omega
      have HTR := Lib.hid (show R = true by
        rw [← HR.out]
        refine decide_eq_true ⟨by trivial, ?_⟩
        refine List.ext_getElem? fun k => ?_
        by_cases hk : k < j
        · have h1 := HEQ.out k hk
          have lx : k < xs.length := by rw [HX.out.1]; exact hk
          have ly : k < ys.length := by rw [HY.out.1]; exact hk
          simp only [List.getD, List.getElem?_eq_getElem lx, List.getElem?_eq_getElem ly, Option.getD_some] at h1
          rw [List.getElem?_eq_getElem lx, List.getElem?_eq_getElem ly, h1]
        · rw [List.getElem?_eq_none (by rw [HX.out.1]; omega), List.getElem?_eq_none (by rw [HY.out.1]; omega)])
      go_wp2
      go_ret
      exact ⟨by rw [HTR.out]; rfl, HBEL.out⟩
end Go.Proofs.YtodcohkblgjfeaaGreat

namespace Go.Proofs.YtodcohkblgjfeaaGreat
open Go.RowKit
set_option maxRecDepth 100000
set_option linter.unusedVariables false
set_option linter.unusedSimpArgs false
abbrev logC (p : Nat) (sec : Int) (A : Option Addr) (n c : Nat) (br : Bool) : Array Value := #[.pointer (some ⟨p, 0, none⟩), .int .i64 sec, .slice A n c, .bool br]
abbrev StoS (w : World) (X : Nat → Prop) (p d n : Nat) (s : Sup) (t : Int) (k : Dk) : Prop := StoreM w X p d n s.a s.b s.g s.r s.v s.f t k
def LogM (w : World) (X : Nat → Prop) (l p d n : Nat) (s : Sup) (t : Int) (k : Dk) (sec : Int) (A : Option Addr) (m c : Nat) (xs : List Seg) (br : Bool) : Prop :=
  Blk w l 117 (logC p sec A m c br) ∧ ¬ X l ∧ ∃ R : Nat → Prop, StoS w (fun b => X b ∨ b = l ∨ R b) p d n s t k ∧ RowZ w R A m xs ∧ (∀ b, R b → b < w.heap.size ∧ b ≠ l)
section
variable {w w' : World} {X Y : Nat → Prop} {l p d n m c : Nat} {s : Sup} {t : Int} {k : Dk} {sec : Int} {A : Option Addr} {xs : List Seg} {br : Bool}
theorem LogM.below (h : LogM w X l p d n s t k sec A m c xs br) (hb : Below w.heap.size w w') : LogM w' X l p d n s t k sec A m c xs br := by
  obtain ⟨h1, h2, R, h3, h4, h5⟩ := h
  exact ⟨h1.below hb h1.lt, h2, R, StoreM.below h3 hb, h4.below hb (fun b h => (h5 b h).1), fun b h => ⟨Nat.lt_of_lt_of_le (h5 b h).1 hb.size, (h5 b h).2⟩⟩
theorem LogM.now (h : LogM w X l p d n s t k sec A m c xs br) : RowZ w (· < w.heap.size) A m xs := by
  obtain ⟨h1, h2, R, h3, h4, h5⟩ := h
  exact h4.more (fun b h => (h5 b h).1)
theorem log_cells (h : LogM w X l p d n s t k sec A m c xs br) : w.cell? ⟨l, 0, none⟩ = some (.pointer (some ⟨p, 0, none⟩)) ∧ w.cell? ⟨l, 1, none⟩ = some (.int .i64 sec) ∧ w.cell? ⟨l, 2, none⟩ = some (.slice A m c) ∧ w.cell? ⟨l, 3, none⟩ = some (.bool br) :=
  ⟨h.1.cell 0, h.1.cell 1, h.1.cell 2, h.1.cell 3⟩
theorem sto_disk (hs : StoS w X p d n s t k) : Calls Tryz.prog 63 #[.pointer (some ⟨p, 0, none⟩)] w fun e w' => e = .returned (.pointer (some ⟨d, 0, none⟩)) ∧ w' = w := by
  have c7 : w.cell? ⟨p, 7, none⟩ = some (.pointer (some ⟨d, 0, none⟩)) := hs.1.cell 7
  clear hs
  go_enter Tryz.func63, Tryz.ntmps63
  go_wp2
  go_ret
  exact ⟨rfl, rfl⟩
theorem sto_base (hs : StoS w X p d n s t k) (i : Nat) (hi : (i : Int) < s.a) (ha : s.a ≤ 16) (hb : 0 ≤ s.b ∧ s.b ≤ 64) :
    Calls Tryz.prog 31 #[.pointer (some ⟨p, 0, none⟩), .int .i64 i] w fun e w' => e = .returned (.tuple #[.int .i64 (2 + i * s.b), .int .i64 0]) ∧ w' = w := by
  have c0 : w.cell? ⟨p, 0, none⟩ = some (.int .i64 s.a) := hs.1.cell 0
  have c1 : w.cell? ⟨p, 1, none⟩ = some (.int .i64 s.b) := hs.1.cell 1
  have d0 : decide ((i : Int) < 0) = false := by simp
  have d1 : decide (s.a ≤ (i : Int)) = false := decide_eq_false (by omega)
  obtain ⟨x, hx⟩ : ∃ x : Int, (i : Int) * s.b = x := ⟨_, rfl⟩
  have hi16 : (i : Int) ≤ 15 := by omega
  have hx1 : 0 ≤ x ∧ x ≤ 960 := by
    rw [← hx]
    exact ⟨Int.mul_nonneg (by omega) hb.1, by have := Int.mul_le_mul hi16 hb.2 hb.1 (by omega : (0:Int) ≤ 15); omega⟩
  rw [show (2 : Int) + i * s.b = 2 + x by rw [hx]]
  clear hs
  go_enter Tryz.func31, Tryz.ntmps31
  go_wp2
  go_ret2
  exact ⟨rfl, rfl⟩
theorem sto_base_no (hs : StoS w X p d n s t k) (i : Int) (hi : i < 0 ∨ s.a ≤ i) :
    Calls Tryz.prog 31 #[.pointer (some ⟨p, 0, none⟩), .int .i64 i] w fun e w' => e = .returned (.tuple #[.int .i64 0, .int .i64 2]) ∧ w' = w := by
  have c0 : w.cell? ⟨p, 0, none⟩ = some (.int .i64 s.a) := hs.1.cell 0
  clear hs
  go_enter Tryz.func31, Tryz.ntmps31
  by_cases h0 : i < 0
  · have d0 : decide (i < 0) = true := decide_eq_true h0
    go_wp2
    go_ret2
    exact ⟨rfl, rfl⟩
  · have d0 : decide (i < 0) = false := decide_eq_false h0
    have d1 : decide (s.a ≤ i) = true := decide_eq_true (by omega)
    go_wp2
    go_ret2
    exact ⟨rfl, rfl⟩
theorem log_super (h : LogM w X l p d n s t k sec A m c xs br) : Calls Tryz.prog 23 #[.pointer (some ⟨l, 0, none⟩)] w fun e w' => e = .returned (.pointer (some ⟨p, 0, none⟩)) ∧ w' = w := by
  obtain ⟨c0, _, _, _⟩ := log_cells h
  clear h
  go_enter Tryz.func23, Tryz.ntmps23
  go_wp2
  go_ret
  exact ⟨rfl, rfl⟩
theorem log_broken (h : LogM w X l p d n s t k sec A m c xs br) : Calls Tryz.prog 30 #[.pointer (some ⟨l, 0, none⟩)] w fun e w' => e = .returned (.bool br) ∧ w' = w := by
  obtain ⟨_, _, _, c3⟩ := log_cells h
  clear h
  go_enter Tryz.func30, Tryz.ntmps30
  go_wp2
  go_ret
  exact ⟨by simp, rfl⟩
theorem breaks_ok (w : World) (l : Nat) : Calls Tryz.prog 62 #[.pointer (some ⟨l, 0, none⟩), .int .i64 0] w fun e w' => e = .returned (.int .i64 0) ∧ w' = w := by
  go_enter Tryz.func62, Tryz.ntmps62
  go_wp2
  go_ret
  exact ⟨rfl, rfl⟩
theorem super_nil (w : World) : Calls Tryz.prog 23 #[.pointer none] w fun e w' => e = .returned (.pointer none) ∧ w' = w := by
  go_enter Tryz.func23, Tryz.ntmps23
  go_wp2
  go_ret
  exact ⟨rfl, rfl⟩
theorem broken_nil (w : World) : Calls Tryz.prog 30 #[.pointer none] w fun e w' => e = .returned (.bool false) ∧ w' = w := by
  go_enter Tryz.func30, Tryz.ntmps30
  go_wp2
  go_ret
  exact ⟨rfl, rfl⟩
theorem sync_nil_l (w : World) : Calls Tryz.prog 16 #[.pointer none] w fun e w' => e = .returned (.int .i64 1) ∧ w' = w := by
  go_enter Tryz.func16, Tryz.ntmps16
  go_wp2
  go_ret
  exact ⟨rfl, rfl⟩
theorem free_nil_l (i : Int) (w : World) : Calls Tryz.prog 20 #[.pointer none, .int .i64 i] w fun e w' => e = .returned (.int .i64 1) ∧ w' = w := by
  go_enter Tryz.func20, Tryz.ntmps20
  go_wp2
  go_ret
  exact ⟨rfl, rfl⟩
end
end Go.Proofs.YtodcohkblgjfeaaGreat

namespace Go.Proofs.YtodcohkblgjfeaaGreat
open Go.RowKit
set_option maxRecDepth 100000
set_option linter.unusedVariables false
set_option linter.unusedSimpArgs false
theorem eql_nil_seg (A : Option Addr) (n c : Nat) (w : World) : (binOp .eql 33 (.slice A n c) (.slice none 0 0)).run Tryz.prog w = .ok (.bool A.isNone) w := by
  have h := run_equal_slice_nil (P := Tryz.prog) w 33 128 A n c Tryz.underlying33
  simp [go_sem, binOp, h]
theorem clone_nil (c : Nat) (hc : c = 0) (w : World) : Calls Tryz.prog 128 #[.slice none 0 c] w fun e w' => e = .returned (.slice none 0 0) ∧ w' = w := by
  subst hc
  have heq := eql_nil_seg none 0 0
  go_enter Tryz.func128, Tryz.ntmps128
  go_wp2
  go_ret
  exact ⟨rfl, rfl⟩
set_option maxHeartbeats 1000000 in
theorem clone_some {w : World} {a : Addr} {n c : Nat} {xs : List Seg} (h : RowZ w (· < w.heap.size) (some a) n xs) (hn : n ≤ 1000) :
    Calls Tryz.prog 128 #[.slice (some a) n c] w fun e w' => (∃ A' c', e = .returned (.slice A' n c') ∧ OwnZ w' w.heap.size A' n c' xs) ∧ Below w.heap.size w w' := by
  have heq := eql_nil_seg (some a) n c
  have HO := Lib.hid (own_empty3 w)
  have HB := Lib.hid ((Below.refl w.heap.size w).alloc (Nat.le_refl _) (.cells #[] 128))
  have HX := Lib.hid (row_now h HB.out)
  have HL := Lib.hid h.1
  have h1000 : (0 : Nat) + n ≤ 1000000 := by omega
  clear h
  go_enter Tryz.func128, Tryz.ntmps128
  go_wp2_with (at_builtin; refine wpList_append_rowZ (.tmp 5) (.tmp 6) rfl rfl w.heap.size _ 0 [] rfl HO.out _ (some a) n c xs rfl HX.out (fun e => by cases e) h1000 (by simp) ?_; rintro v' w4 ho hg _; have HB4 := Lib.hid (HB.out.grown hg HB.out.size (fun k e => Nat.le_trans (by omega) (own_least HO.out e))); obtain ⟨A', cap', rfl, hc, hn', hrow⟩ := rowZ_own ho (xs := xs) (by simp) (by rw [HL.out, Nat.zero_add]); rw [Nat.zero_add] at hc hrow; simp only [Nat.zero_add]; have HROW := Lib.hid ho; have HC := Lib.hid hc; have HN := Lib.hid hn'; clear ho hg hc hn' hrow)
  go_ret
  have hown := HROW.out
  rw [Nat.zero_add, List.nil_append] at hown
  exact ⟨⟨A', cap', rfl, HL.out, hown, HN.out, HC.out⟩, HB4.out⟩
theorem clone_segs {w : World} {A : Option Addr} {n c : Nat} {xs : List Seg} (h : RowZ w (· < w.heap.size) A n xs) (hnil : A = none → c = 0) (hnc : n ≤ c) (hn : n ≤ 1000) :
    Calls Tryz.prog 128 #[.slice A n c] w fun e w' => (∃ A' c', e = .returned (.slice A' n c') ∧ OwnZ w' w.heap.size A' n c' xs) ∧ Below w.heap.size w w' := by
  cases A with
  | none =>
    have hc := hnil rfl
    subst hc
    obtain rfl : n = 0 := by omega
    have hx : xs = [] := List.length_eq_zero_iff.1 h.1
    subst hx
    refine (clone_nil 0 rfl w).mono ?_
    rintro e w' ⟨rfl, rfl⟩
    exact ⟨⟨none, 0, rfl, rfl, ⟨rfl, .inl ⟨rfl, rfl⟩⟩, fun _ => rfl, Nat.le_refl _⟩, Below.refl _ _⟩
  | some a =>
    exact clone_some h hn
set_option maxHeartbeats 1000000 in
theorem copied_ring {w : World} {A : Option Addr} {n c : Nat} {xs : List Seg} (h : RowZ w (· < w.heap.size) A n xs) (hnil : A = none → c = 0) (hnc : n ≤ c) (hn : n ≤ 1000) (sec : Int) :
    Calls Tryz.prog 77 #[ringV sec A n c] w fun e w' => (∃ A' c', e = .returned (ringV sec A' n c') ∧ OwnZ w' w.heap.size A' n c' xs) ∧ Below w.heap.size w w' := by
  have HB := Lib.hid (((Below.refl w.heap.size w).alloc (Nat.le_refl _) (.cells #[.int .i64 sec, .slice A n c] 35)).alloc (by simp) (.cells #[.int .i64 0, .slice none 0 0] 35))
  have HK0 := Lib.hid ((Blk.new w 35 #[.int .i64 sec, .slice A n c]).alloc (.cells #[.int .i64 0, .slice none 0 0] 35))
  have HK1 := Lib.hid (blk_new2 w (.cells #[.int .i64 sec, .slice A n c] 35) 35 #[.int .i64 0, .slice none 0 0])
  have HC := Lib.hid (clone_segs (row_now h HB.out) hnil hnc hn)
  obtain ⟨k0, k1⟩ := ring_cells HK0.out
  clear h
  go_enter Tryz.func77, Tryz.ntmps77
  go_wp2_with fail
  refine HC.out.mono ?_
  rintro e w3 ⟨⟨A', c', rfl, ho⟩, hb⟩
  have hs2 : w.heap.size + 1 + 1 ≤ w3.heap.size := by have := hb.size; simpa using this
  have HK3 := Lib.hid (HK0.out.below hb HK0.out.lt)
  have HK4 := Lib.hid (HK1.out.below hb HK1.out.lt)
  have HB3 := Lib.hid (HB.out.trans (hb.mono HB.out.size))
  have HO := Lib.hid (ho.base (m := w.heap.size + 1 + 1) (by simp))
  have f0 := HK3.out.frozen 1
  have hne : w.heap.size ≠ w.heap.size + 1 := by omega
  have HK5 := Lib.hid (HK3.out.set_ 1 (.slice A' n c'))
  have HK6 := Lib.hid (HK4.out.far (p := ⟨w.heap.size, 1, none⟩) hne.symm (.slice A' n c'))
  obtain ⟨g0, g1⟩ := And.intro (HK6.out.frozen 0) (HK6.out.frozen 1)
  obtain ⟨q0, q1⟩ : _ ∧ _ := ring_cells HK5.out
  obtain ⟨p0, p1⟩ := ring_cells HK6.out
  clear ho hb k0 k1
  obtain ⟨k0, k1⟩ := ring_cells HK3.out
  go_wp2_with (with_reducible refine halt_end ?_)
  have hst := (HK6.out.set_ 0 (.int .i64 sec)).set_ 1 (.slice A' n c')
  have hown := ((HO.out.far (p := ⟨w.heap.size, 1, none⟩) (by show w.heap.size < _; omega) (.slice A' n c')).far (p := ⟨w.heap.size + 1, 0, none⟩) (by show w.heap.size + 1 < _; omega) (.int .i64 sec)).far (p := ⟨w.heap.size + 1, 1, none⟩) (by show w.heap.size + 1 < _; omega) (.slice A' n c')
  have hbel := ((HB3.out.setCell (p := ⟨w.heap.size, 1, none⟩) (Nat.le_refl _) (.slice A' n c')).setCell (p := ⟨w.heap.size + 1, 0, none⟩) (by simp) (.int .i64 sec)).setCell (p := ⟨w.heap.size + 1, 1, none⟩) (by simp) (.slice A' n c')
  exact Halt.ret (results_row1 (p := 2) rfl _ _ (w.heap.size + 1) 35 #[.int .i64 sec, .slice A' n c'] _ rfl hst Tryz.underlying35 rfl size_ring) rfl ⟨⟨A', c', rfl, hown.base (by omega)⟩, hbel⟩
set_option maxHeartbeats 1000000 in
theorem open_log_ring {w : World} {X : Nat → Prop} {p d n : Nat} {s : Sup} {t : Int} {k : Dk} {A : Option Addr} {m c : Nat} {xs : List Seg} (hs : StoS w X p d n s t k) (h : RowZ w (· < w.heap.size) A m xs) (sec : Int) (hk : ¬ OkR sec xs) :
    Calls Tryz.prog 33 #[.pointer (some ⟨p, 0, none⟩), ringV sec A m c] w fun e w' => e = .returned (.tuple #[.pointer none, .int .i64 180]) ∧ Below w.heap.size w w' := by
  have HB := Lib.hid ((Below.refl w.heap.size w).alloc (Nat.le_refl _) (.cells #[.int .i64 sec, .slice A m c] 35))
  have HK0 := Lib.hid (Blk.new w 35 #[.int .i64 sec, .slice A m c])
  have HC := Lib.hid (check_any (cap := c) (row_now h HB.out) sec)
  rw [if_neg hk] at HC
  obtain ⟨k0, k1⟩ := ring_cells HK0.out
  clear h hs hk
  go_enter Tryz.func33, Tryz.ntmps33
  go_wp2_with fail
  refine HC.out.mono ?_
  rintro e w2 ⟨rfl, hb⟩
  have HB2 := Lib.hid (HB.out.trans (hb.mono HB.out.size))
  clear hb k0 k1
  go_wp2_with fail
  go_ret2
  exact ⟨rfl, HB2.out⟩
set_option maxHeartbeats 1000000 in
theorem open_log_arg {w : World} {X : Nat → Prop} {p d n : Nat} {s : Sup} {t : Int} {k : Dk} {A : Option Addr} {m c : Nat} {xs : List Seg} (hs : StoS w X p d n s t k) (h : RowZ w (· < w.heap.size) A m xs) (sec : Int) (hk : OkR sec xs) (hne : ¬ ((m : Int) = s.a ∧ sec = s.b)) :
    Calls Tryz.prog 33 #[.pointer (some ⟨p, 0, none⟩), ringV sec A m c] w fun e w' => e = .returned (.tuple #[.pointer none, .int .i64 2]) ∧ Below w.heap.size w w' := by
  have HS := Lib.hid hs
  have HB := Lib.hid ((Below.refl w.heap.size w).alloc (Nat.le_refl _) (.cells #[.int .i64 sec, .slice A m c] 35))
  have HK0 := Lib.hid (Blk.new w 35 #[.int .i64 sec, .slice A m c])
  have HC := Lib.hid (check_any (cap := c) (row_now h HB.out) sec)
  rw [if_pos hk] at HC
  obtain ⟨k0, k1⟩ := ring_cells HK0.out
  have HNE := Lib.hid hne
  clear h hs hk hne
  go_enter Tryz.func33, Tryz.ntmps33
  go_wp2_with fail
  refine HC.out.mono ?_
  rintro e w2 ⟨rfl, hb⟩
  have HB2 := Lib.hid (HB.out.trans (hb.mono HB.out.size))
  have HK2 := Lib.hid (HK0.out.below hb HK0.out.lt)
  clear hb k0 k1
  go_wp2_with fail
  refine (get_any (HS.out.below HB2.out)).mono ?_
  rintro e w3 ⟨rfl, hb⟩
  have HB3 := Lib.hid ((HB2.out.trans (hb.mono HB2.out.size)).alloc (HB2.out.trans (hb.mono HB2.out.size)).size (.cells #[.int .i64 s.a, .int .i64 s.b, .int .u64 s.g, .int .u64 s.r, .int .u64 s.v, .int .u64 s.f] 32))
  have HK3 := Lib.hid ((HK2.out.below hb HK2.out.lt).alloc (.cells #[.int .i64 s.a, .int .i64 s.b, .int .u64 s.g, .int .u64 s.r, .int .u64 s.v, .int .u64 s.f] 32))
  obtain ⟨k0, k1⟩ := ring_cells HK3.out
  clear hb
  by_cases h1 : (m : Int) = s.a
  · have d1 : ((m : Int) != s.a) = false := by simpa using h1
    have h2 : ¬ sec = s.b := fun e => HNE.out ⟨h1, e⟩
    have d2 : (sec != s.b) = true := by simpa using h2
    clear h1 h2
    go_wp2_with fail
    go_ret2
    exact ⟨rfl, HB3.out⟩
  · have d1 : ((m : Int) != s.a) = true := by simpa using h1
    clear h1
    go_wp2_with fail
    go_ret2
    exact ⟨rfl, HB3.out⟩
end Go.Proofs.YtodcohkblgjfeaaGreat

namespace Go.Proofs.YtodcohkblgjfeaaGreat
open Go.RowKit
set_option maxRecDepth 100000
set_option linter.unusedVariables false
set_option linter.unusedSimpArgs false
section
variable {w : World} {X : Nat → Prop} {p d n : Nat} {s : Sup} {t : Int} {k : Dk} {A : Option Addr} {m c : Nat} {xs : List Seg}
set_option maxHeartbeats 1000000 in
theorem open_log_state (hs : StoS w X p d n s t k) (h : RowZ w (· < w.heap.size) A m xs) (sec : Int) (hk : OkR sec xs) (ha : (m : Int) = s.a) (hb : sec = s.b) (ho : 0 ≤ opnR xs) :
    Calls Tryz.prog 33 #[.pointer (some ⟨p, 0, none⟩), ringV sec A m c] w fun e w' => e = .returned (.tuple #[.pointer none, .int .i64 181]) ∧ Below w.heap.size w w' := by
  have HS := Lib.hid hs
  have HR := Lib.hid h
  have HB := Lib.hid ((Below.refl w.heap.size w).alloc (Nat.le_refl _) (.cells #[.int .i64 sec, .slice A m c] 35))
  have HK0 := Lib.hid (Blk.new w 35 #[.int .i64 sec, .slice A m c])
  have HC := Lib.hid (check_any (cap := c) (row_now h HB.out) sec)
  rw [if_pos hk] at HC
  obtain ⟨ov, hov⟩ : ∃ x, openedV sec xs = x := ⟨_, rfl⟩
  have e1 := (opened_yes hk (show ¬ opnR xs < 0 by omega)).1
  obtain ⟨k0, k1⟩ := ring_cells HK0.out
  have HOV := Lib.hid hov
  have HOE := Lib.hid e1
  have d1 : ((m : Int) != s.a) = false := by simpa using ha
  have d2 : (sec != s.b) = false := by simpa using hb
  clear h hs hk hov e1 ha hb ho
  go_enter Tryz.func33, Tryz.ntmps33
  go_wp2_with fail
  refine HC.out.mono ?_
  rintro e w2 ⟨rfl, hb⟩
  have HB2 := Lib.hid (HB.out.trans (hb.mono HB.out.size))
  have HK2 := Lib.hid (HK0.out.below hb HK0.out.lt)
  clear hb k0 k1
  go_wp2_with fail
  refine (get_any (HS.out.below HB2.out)).mono ?_
  rintro e w3 ⟨rfl, hb⟩
  have HB3 := Lib.hid ((HB2.out.trans (hb.mono HB2.out.size)).alloc (HB2.out.trans (hb.mono HB2.out.size)).size (.cells #[.int .i64 s.a, .int .i64 s.b, .int .u64 s.g, .int .u64 s.r, .int .u64 s.v, .int .u64 s.f] 32))
  have HK3 := Lib.hid ((HK2.out.below hb HK2.out.lt).alloc (.cells #[.int .i64 s.a, .int .i64 s.b, .int .u64 s.g, .int .u64 s.r, .int .u64 s.v, .int .u64 s.f] 32))
  obtain ⟨k0, k1⟩ := ring_cells HK3.out
  clear hb
  go_wp2_with fail
  refine (opened_any (row_now HR.out HB3.out) sec).mono ?_
  rintro e w4 ⟨rfl, hb⟩
  rw [HOV.out, HOE.out]
  have HB4 := Lib.hid (HB3.out.trans (hb.mono HB3.out.size))
  clear hb k0 k1
  go_wp2_with fail
  go_ret2
  exact ⟨rfl, HB4.out⟩
set_option maxHeartbeats 1000000 in
theorem open_log_ok (hs : StoS w X p d n s t k) (hX : ∀ b, X b → b < w.heap.size) (h : RowZ w (· < w.heap.size) A m xs) (hnil : A = none → c = 0) (hmc : m ≤ c) (sec : Int) (hk : OkR sec xs) (ha : (m : Int) = s.a) (hb : sec = s.b) (ho : opnR xs < 0) :
    Calls Tryz.prog 33 #[.pointer (some ⟨p, 0, none⟩), ringV sec A m c] w fun e w' => ∃ l A' c', e = .returned (.tuple #[.pointer (some ⟨l, 0, none⟩), .int .i64 0]) ∧ LogM w' X l p d n s t k sec A' m c' xs false ∧ m ≤ c' ∧ (A' = none → c' = 0) ∧ w.heap.size ≤ l ∧ Below w.heap.size w w' := by
  have HS := Lib.hid hs
  have HXX := Lib.hid hX
  have HR := Lib.hid h
  have HB := Lib.hid ((Below.refl w.heap.size w).alloc (Nat.le_refl _) (.cells #[.int .i64 sec, .slice A m c] 35))
  have HK0 := Lib.hid (Blk.new w 35 #[.int .i64 sec, .slice A m c])
  have HC := Lib.hid (check_any (cap := c) (row_now h HB.out) sec)
  rw [if_pos hk] at HC
  obtain ⟨ov, hov⟩ : ∃ x, openedV sec xs = x := ⟨_, rfl⟩
  have e1 := (opened_no hk ho).1
  obtain ⟨k0, k1⟩ := ring_cells HK0.out
  have HOV := Lib.hid hov
  have HOE := Lib.hid e1
  have HMN := Lib.hid (And.intro hnil (And.intro hmc (show m ≤ 1000 by have := (ok_n hk h.1).2; omega)))
  have d1 : ((m : Int) != s.a) = false := by simpa using ha
  have d2 : (sec != s.b) = false := by simpa using hb
  clear h hs hk hov e1 ha hb ho hX hnil hmc
  go_enter Tryz.func33, Tryz.ntmps33
  go_wp2_with fail
  refine HC.out.mono ?_
  rintro e w2 ⟨rfl, hb⟩
  have HB2 := Lib.hid (HB.out.trans (hb.mono HB.out.size))
  have HK2 := Lib.hid (HK0.out.below hb HK0.out.lt)
  clear hb k0 k1
  go_wp2_with fail
  refine (get_any (HS.out.below HB2.out)).mono ?_
  rintro e w3 ⟨rfl, hb⟩
  have HB3 := Lib.hid ((HB2.out.trans (hb.mono HB2.out.size)).alloc (HB2.out.trans (hb.mono HB2.out.size)).size (.cells #[.int .i64 s.a, .int .i64 s.b, .int .u64 s.g, .int .u64 s.r, .int .u64 s.v, .int .u64 s.f] 32))
  have HK3 := Lib.hid ((HK2.out.below hb HK2.out.lt).alloc (.cells #[.int .i64 s.a, .int .i64 s.b, .int .u64 s.g, .int .u64 s.r, .int .u64 s.v, .int .u64 s.f] 32))
  obtain ⟨k0, k1⟩ := ring_cells HK3.out
  clear hb
  go_wp2_with fail
  refine (opened_any (row_now HR.out HB3.out) sec).mono ?_
  rintro e w4 ⟨rfl, hb⟩
  rw [HOV.out, HOE.out]
  have HB4 := Lib.hid (HB3.out.trans (hb.mono HB3.out.size))
  have HK4 := Lib.hid (HK3.out.below hb HK3.out.lt)
  clear hb k0 k1
  obtain ⟨k0, k1⟩ := ring_cells HK4.out
  go_wp2_with fail
  refine (copied_ring (row_now HR.out HB4.out) HMN.out.1 HMN.out.2.1 HMN.out.2.2 sec).mono ?_
  rintro e w5 ⟨⟨A', c', rfl, hown⟩, hb⟩
  have HB5 := Lib.hid (HB4.out.trans (hb.mono HB4.out.size))
  have HO5 := Lib.hid (hown.base (m := w.heap.size) HB4.out.size)
  clear hb hown k0 k1
  go_wp2_with fail
  go_ret2
  have hal := (Below.refl w5.heap.size w5).alloc (Nat.le_refl _) (.cells (logC p sec A' m c' false) 117)
  have hba := HB5.out.alloc HB5.out.size (.cells (logC p sec A' m c' false) 117)
  have hl := HB5.out.size
  refine ⟨w5.heap.size, A', c', rfl, ⟨Blk.new w5 _ _, fun hx => by have := HXX.out _ hx; omega, From w.heap.size w5, ?_, HO5.out.row.below hal (fun b h => h.2), fun b hb => ⟨Nat.lt_of_lt_of_le hb.2 hal.size, by have := hb.2; omega⟩⟩, HO5.out.2.2.2, HO5.out.2.2.1, hl, hba⟩
  exact StoreM.kept HS.out (Kept.of_below hba (fun b h => h)) (fun b hb _ => hb) (fun b hb hy => by
    rcases hy with h | h | h
    · exact h
    · omega
    · have := h.1; omega)
end
end Go.Proofs.YtodcohkblgjfeaaGreat

namespace Go.Proofs.YtodcohkblgjfeaaGreat
open Go.RowKit
set_option maxRecDepth 100000
set_option linter.unusedVariables false
set_option linter.unusedSimpArgs false
section
variable {w w' : World} {X Y : Nat → Prop} {l p d n m c : Nat} {s : Sup} {t : Int} {k : Dk} {sec : Int} {A : Option Addr} {xs : List Seg} {br : Bool}
theorem LogM.put (h : LogM w X l p d n s t k sec A m c xs br) (hX : ∀ b, X b → b < w.heap.size) (hb : Below w.heap.size w w') {A2 : Option Addr} {c2 : Nat} {ys : List Seg} (ho : OwnZ w' w.heap.size A2 m c2 ys) :
    LogM ((w'.setCell ⟨l, 1, none⟩ (.int .i64 sec)).setCell ⟨l, 2, none⟩ (.slice A2 m c2)) X l p d n s t k sec A2 m c2 ys br ∧ Kept X w ((w'.setCell ⟨l, 1, none⟩ (.int .i64 sec)).setCell ⟨l, 2, none⟩ (.slice A2 m c2)) := by
  obtain ⟨h1, h2, R, h3, h4, h5⟩ := h
  have hlt := h1.lt
  have hk : Kept (fun b => b < w.heap.size ∧ b ≠ l) w ((w'.setCell ⟨l, 1, none⟩ (.int .i64 sec)).setCell ⟨l, 2, none⟩ (.slice A2 m c2)) :=
    ((Kept.of_below hb (fun b h => h.1)).setCell (p := ⟨l, 1, none⟩) (fun h => h.2 rfl) _).setCell (p := ⟨l, 2, none⟩) (fun h => h.2 rfl) _
  have ho2 := (ho.far (p := ⟨l, 1, none⟩) hlt (.int .i64 sec)).far (p := ⟨l, 2, none⟩) hlt (.slice A2 m c2)
  refine ⟨⟨((h1.below hb hlt).set_ 1 (.int .i64 sec)).set_ 2 (.slice A2 m c2), h2, From w.heap.size ((w'.setCell ⟨l, 1, none⟩ (.int .i64 sec)).setCell ⟨l, 2, none⟩ (.slice A2 m c2)), ?_, ho2.row, fun b hb => ⟨hb.2, by have := hb.1; omega⟩⟩, hk.mono (fun b hx => ⟨hX b hx, fun e => h2 (e ▸ hx)⟩)⟩
  refine StoreM.kept h3 hk (fun b hb hx => ⟨hb, fun e => hx (.inr (.inl e))⟩) (fun b hb hy => ?_)
  rcases hy with h | h | h
  · exact .inl h
  · exact .inr (.inl h)
  · have := h.1; omega
theorem StoreM.grow {a b g r v f : Int} (h : StoreM w Y p d n a b g r v f t k) (hb : Below w.heap.size w w') : StoreM w' (fun b => Y b ∨ (w.heap.size ≤ b ∧ b < w'.heap.size)) p d n a b g r v f t k :=
  StoreM.kept (Z := fun b => b < w.heap.size) h (Kept.of_below hb (fun b h => h)) (fun b hb _ => hb) (fun b hb hy => by
    rcases hy with h | h
    · exact h
    · omega)
theorem grow_lt (hY : ∀ b, Y b → b < w.heap.size) (hs : w.heap.size ≤ w'.heap.size) : ∀ b, (Y b ∨ (w.heap.size ≤ b ∧ b < w'.heap.size)) → b < w'.heap.size := fun b h => by
  rcases h with h | h
  · exact Nat.lt_of_lt_of_le (hY b h) hs
  · exact h.2
noncomputable def sealedX (sec : Int) (xs : List Seg) : List Seg := if sealE sec xs = 0 then sealX xs else xs
def BegC (w : World) (X : Nat → Prop) (l p d n : Nat) (s : Sup) (t : Int) (k : Dk) (sec : Int) (m : Nat) (zs : List Seg) (wx : World) : Prop :=
  ∃ A c, LogM wx X l p d n s t k sec A m c zs false ∧ Kept X w wx ∧ m ≤ c ∧ (A = none → c = 0)
theorem seal_len (xs : List Seg) : (sealX xs).length = xs.length := by unfold sealX; rw [List.length_set]
end
end Go.Proofs.YtodcohkblgjfeaaGreat

namespace Go.Proofs.YtodcohkblgjfeaaGreat
open Go.RowKit
set_option maxRecDepth 100000
set_option linter.unusedVariables false
set_option linter.unusedSimpArgs false
abbrev lw0 : Oper := { dst := some 33, op := Go.Op.move (Go.Operand.tmp 0), type := 26, pos := "log.go:343", after := #[], guard := none }
abbrev lw1 : Oper := { dst := some 34, op := Go.Op.nilCheck (Go.Operand.tmp 33), type := 0, pos := "log.go:343", after := #[{ on := 0, ground := Go.Ground.data }], guard := none }
abbrev lw2 : Oper := { dst := some 35, op := Go.Op.fieldAddr 117 (Go.Operand.tmp 34) 0, type := 0, pos := "log.go:343", after := #[{ on := 1, ground := Go.Ground.data }], guard := none }
abbrev lw3 : Oper := { dst := some 36, op := Go.Op.load 70 (Go.Operand.tmp 35), type := 70, pos := "log.go:343", after := #[{ on := 2, ground := Go.Ground.data }], guard := none }
abbrev lw4 : Oper := { dst := some 37, op := Go.Op.call { callee := Go.Callee.value (Go.Operand.func 63), args := #[Go.Operand.tmp 36], argTypes := #[70] }, type := 27, pos := "log.go:343", after := #[{ on := 3, ground := Go.Ground.data }], guard := none }
abbrev lw5 : Oper := { dst := some 38, op := Go.Op.move (Go.Operand.tmp 9), type := 3, pos := "log.go:343", after := #[], guard := none }
abbrev lw6 : Oper := { dst := some 39, op := Go.Op.move (Go.Operand.tmp 2), type := 3, pos := "log.go:343", after := #[], guard := none }
abbrev lw7 : Oper := { dst := some 40, op := Go.Op.binOp Go.BinOp.add 3 (Go.Operand.tmp 38) (Go.Operand.tmp 39) 3, type := 3, pos := "log.go:343", after := #[{ on := 5, ground := Go.Ground.data }, { on := 6, ground := Go.Ground.data }], guard := none }
abbrev lw8 : Oper := { dst := some 41, op := Go.Op.move (Go.Operand.tmp 11), type := 3, pos := "log.go:343", after := #[], guard := none }
abbrev lw9 : Oper := { dst := some 42, op := Go.Op.binOp Go.BinOp.add 3 (Go.Operand.tmp 40) (Go.Operand.tmp 41) 3, type := 3, pos := "log.go:343", after := #[{ on := 7, ground := Go.Ground.data }, { on := 8, ground := Go.Ground.data }], guard := none }
abbrev lw10 : Oper := { dst := some 43, op := Go.Op.load 84 (Go.Operand.tmp 12), type := 84, pos := "log.go:343", after := #[], guard := none }
abbrev lw11 : Oper := { dst := some 44, op := Go.Op.call { callee := Go.Callee.value (Go.Operand.func 32), args := #[Go.Operand.tmp 37, Go.Operand.tmp 42, Go.Operand.tmp 43], argTypes := #[27, 3, 84] }, type := 49, pos := "log.go:343", after := #[{ on := 4, ground := Go.Ground.data }, { on := 9, ground := Go.Ground.data }, { on := 10, ground := Go.Ground.data }, { on := 4, ground := Go.Ground.chain }], guard := none }
abbrev lw12 : Oper := { dst := some 13, op := Go.Op.assign (Go.Operand.tmp 44), type := 49, pos := "log.go:343", after := #[{ on := 11, ground := Go.Ground.data }, { on := 11, ground := Go.Ground.chain }, { on := 0, ground := Go.Ground.phase }, { on := 1, ground := Go.Ground.phase }, { on := 2, ground := Go.Ground.phase }, { on := 3, ground := Go.Ground.phase }, { on := 4, ground := Go.Ground.phase }, { on := 5, ground := Go.Ground.phase }, { on := 6, ground := Go.Ground.phase }, { on := 7, ground := Go.Ground.phase }, { on := 8, ground := Go.Ground.phase }, { on := 9, ground := Go.Ground.phase }, { on := 10, ground := Go.Ground.phase }, { on := 11, ground := Go.Ground.phase }], guard := none }
def wrs (k : Dk) (i : Nat) : List (List Int) → Dk × Int
  | [] => (k, 0)
  | ys :: r => if k.wre = 0 then wrs (k.wr (Dk.put i ys)) (i + 1) r else (k.wr (Dk.put i ys), k.wre)
theorem wr_pend (k : Dk) (i : Nat) (ys : List Int) : (k.wr (Dk.put i ys)).pend.length ≤ k.pend.length + 1 := by
  unfold Dk.wr
  split
  · omega
  split
  · show k.pend.length ≤ _; omega
  split
  · show k.pend.length ≤ _; omega
  · show (k.pend ++ [_]).length ≤ _; simp
section
variable {w : World} {Y : Nat → Prop} {l p d N m c : Nat} {s : Sup} {t : Int} {k : Dk} {A : Option Addr} {xss : List (List Int)}
def WrI (w : World) (Y : Nat → Prop) (l p d N : Nat) (s : Sup) (t : Int) (k : Dk) (i0 : Nat) (xss : List (List Int)) (j : Nat) (wr : World) : Prop :=
  ∃ kj : Dk, StoS wr Y p d N s t kj ∧ Kept Y w wr ∧ wrs k i0 xss = wrs kj (i0 + j) (xss.drop j) ∧ kj.pend.length ≤ k.pend.length + j
set_option maxHeartbeats 2000000 in
theorem write_log (hs : StoS w Y p d N s t k) (hY : ∀ b, Y b → b < w.heap.size) (hl : Y l) (c0 : w.cell? ⟨l, 0, none⟩ = some (.pointer (some ⟨p, 0, none⟩))) (hrow : RowK w Y A m xss) (hby : ∀ i, Bytes (xss.getD i [])) (hss : Secs xss)
    (i at_ i0 : Nat) (hi : (i : Int) < s.a) (ha : s.a ≤ 16) (hb : 0 ≤ s.b ∧ s.b ≤ 64) (hi0 : (i0 : Int) = 2 + i * s.b + at_) (hN : i0 + m ≤ N) (hN2 : N ≤ 2048) (hp : k.pend.length ≤ 900000) :
    Calls Tryz.prog 104 #[.pointer (some ⟨l, 0, none⟩), .int .i64 i, .int .i64 at_, .slice A m c] w fun e w' => e = .returned (.int .i64 (wrs k i0 xss).2) ∧ StoS w' Y p d N s t (wrs k i0 xss).1 ∧ Kept Y w w' := by
  have HS := Lib.hid hs
  have HYY := Lib.hid hY
  have HYL := Lib.hid hl
  have HRW := Lib.hid hrow
  have HBYS := Lib.hid hby
  have HSS := Lib.hid hss
  have HBS := Lib.hid (sto_base hs i hi ha hb)
  obtain ⟨x, hx⟩ : ∃ x : Int, (2 : Int) + i * s.b = x := ⟨_, rfl⟩
  rw [hx] at HBS hi0
  have HC0 := Lib.hid c0
  have HLEN := Lib.hid hrow.1
  have HP := Lib.hid hp
  have hx0 : x = (i0 : Int) - at_ := by omega
  have HX0 := Lib.hid hx0
  have hib : i0 ≤ 2048 ∧ at_ ≤ 2048 := by
    have h1 : 0 ≤ (i : Int) * s.b := Int.mul_nonneg (by omega) hb.1
    omega
  have HIB := Lib.hid hib
  clear hs hY hl hrow hby hss hi ha hb hx hp hx0 hi0
  go_enter Tryz.func104, Tryz.ntmps104
  go_wp2_with fail
  refine HBS.out.mono ?_
  rintro e w1 ⟨rfl, rfl⟩
  go_wp2_with fail
  clear c0
  go_loopw [8, 28] (fun _ v wr => ∃ j : Nat, j ≤ m ∧ v = .int .i64 j ∧ WrI w1 Y l p d N s t k i0 xss j wr) (fun _ v _ => m - (intOf v).toNat)
  case atStart => exact ⟨0, Nat.zero_le _, rfl, k, HS.out, Kept.refl _ _, rfl, Nat.le_refl _⟩
  case round =>
    obtain ⟨j, hj, rfl, kj, hsj, hkj, hwj, hpj⟩ := hrel
    have HSJ := Lib.hid hsj
    have HKJ := Lib.hid hkj
    have HWJ := Lib.hid hwj
    have HPJ := Lib.hid hpj
    clear hsj hkj hwj hpj
    by_cases hlt : j < m
    case neg =>
      obtain rfl : j = m := by omega
      have hd : xss.drop j = [] := List.drop_eq_nil_of_le (by rw [HLEN.out]; exact Nat.le_refl _)
      have hw2 := HWJ.out
      rw [hd] at hw2
      have HW2 := Lib.hid hw2
      clear hw2 hd
      go_wp2_with fail
      go_ret
      rw [HW2.out]
      exact ⟨rfl, HSJ.out, HKJ.out⟩
    obtain ⟨gb, off, rfl, hgb, hrng⟩ := HRW.out.2 (by omega)
    obtain ⟨ys, hys⟩ : ∃ ys, xss.getD j [] = ys := ⟨_, rfl⟩
    have hjx : j < xss.length := by rw [HLEN.out]; exact hlt
    have hye : xss[j] = ys := by rw [← hys]; simp [List.getD, List.getElem?_eq_getElem hjx]
    have HLY := Lib.hid (show ys.length = 64 by rw [← hye]; exact HSS.out _ (List.getElem_mem hjx))
    have HBY := Lib.hid (show Bytes ys by rw [← hys]; exact HBYS.out j)
    have HRY := Lib.hid (show wr.rangeAt gb (off + j * 64) (ys.map (Value.int .u8)) from fun q u hu => by
      have h := hrng j hlt q u (by rw [hys]; exact hu)
      rw [← h]
      exact HKJ.out.cell (p := ⟨gb, _, none⟩) hgb)
    have hdrop : xss.drop j = ys :: xss.drop (j + 1) := by rw [List.drop_eq_getElem_cons hjx, hye]
    have hw2 := HWJ.out
    rw [hdrop] at hw2
    obtain ⟨E, hE⟩ : ∃ E, kj.wre = E := ⟨_, rfl⟩
    unfold wrs at hw2
    rw [hE] at hw2
    have HW2 := Lib.hid (show wrs k i0 xss = if E = 0 then wrs (kj.wr (Dk.put (i0 + j) ys)) (i0 + j + 1) (xss.drop (j + 1)) else (kj.wr (Dk.put (i0 + j) ys), E) by
      rw [← hw2]
      cases xss <;> rfl)
    have HWE := Lib.hid hE
    have hal := (Below.refl wr.heap.size wr).alloc (Nat.le_refl _) (.cells (cells8 ys) 84)
    have HSD := Lib.hid (show StoS (wr.alloc (.cells (cells8 ys) 84)).drew Y p d N s t kj from StoreM.below HSJ.out hal.drew)
    have HDD := Lib.hid (show DiskM (wr.alloc (.cells (cells8 ys) 84)).drew (fun c => (Y c ∨ c = p) ∨ c = wr.heap.size) d N kj from HSJ.out.2.1.below hal.drew (fun b hb h => by rcases h with h | h; exact h; omega))
    have hpl := HSJ.out.1.lt
    have HXD := Lib.hid (show ∀ c, ((Y c ∨ c = p) ∨ c = wr.heap.size) → c < (wr.alloc (.cells (cells8 ys) 84)).drew.heap.size from fun c h => by
      have hz := hal.drew.size
      have hz2 : wr.heap.size < (wr.alloc (.cells (cells8 ys) 84)).drew.heap.size := by simp [World.drew]
      rcases h with (h | h) | h
      · exact Nat.lt_of_lt_of_le (Nat.lt_of_lt_of_le (HYY.out c h) HKJ.out.size) hz
      · omega
      · omega)
    have HVD := Lib.hid (show Kept Y wr (wr.alloc (.cells (cells8 ys) 84)).drew from Kept.of_below hal.drew (fun b h => Nat.lt_of_lt_of_le (HYY.out b h) HKJ.out.size))
    have HC1 := Lib.hid (show (wr.alloc (.cells (cells8 ys) 84)).drew.cell? ⟨l, 0, none⟩ = some (.pointer (some ⟨p, 0, none⟩)) from (HVD.out.cell (p := ⟨l, 0, none⟩) HYL.out).trans ((HKJ.out.cell (p := ⟨l, 0, none⟩) HYL.out).trans HC0.out))
    have HR1 := Lib.hid (show (wr.alloc (.cells (cells8 ys) 84)).drew.rangeAt wr.heap.size 0 (ys.map (Value.int .u8)) from fun q u hu => by
      have h := (show ArrB (wr.alloc (.cells (cells8 ys) 84)) wr.heap.size ys from Blk.new wr _ _).range q u hu
      exact h)
    have HWK := Lib.hid (show Calls Tryz.prog 32 #[.pointer (some ⟨d, 0, none⟩), .int .i64 ((i0 : Int) + (j : Int)), .agg (cells8 ys)] (wr.alloc (.cells (cells8 ys) 84)).drew fun e w' => e = .returned (.int .i64 E) ∧ DiskM w' (fun c => (Y c ∨ c = p) ∨ c = wr.heap.size) d N (kj.wr (Dk.put (i0 + j) ys)) ∧ Kept (fun c => (Y c ∨ c = p) ∨ c = wr.heap.size) (wr.alloc (.cells (cells8 ys) 84)).drew w' by
      have h := write_k HDD.out HXD.out (i0 + j) (by omega) ys HLY.out HBY.out (by have h1 := HPJ.out; have h2 := HP.out; omega)
      rw [Int.natCast_add, hE] at h
      exact h)
    have HPN := Lib.hid (show (kj.wr (Dk.put (i0 + j) ys)).pend.length ≤ k.pend.length + (j + 1) by have h1 := HPJ.out; have h2 := wr_pend kj (i0 + j) ys; omega)
    have HWI := Lib.hid (show IntKind.i64.wrap (IntKind.i64.wrap (i0 : Int) + (j : Int)) = (i0 : Int) + (j : Int) by
      have e : IntKind.i64.wrap (i0 : Int) = (i0 : Int) := by rw [IntKind.wrap_i64]; omega
      rw [e, IntKind.wrap_i64]
      omega)
    have hx0 := HX0.out
    have hjm : (j : Int) < (m : Int) := by omega
    have hmb : (m : Int) ≤ 2048 := by omega
    clear hgb hrng hys hye hdrop hw2 hE hal hpl
    go_wp2_with (first
      | (refine wpList_load_blk (.tmp 31) rfl rfl gb (off + j * 64) rfl ys HLY.out HRY.out ?_)
      | (refine wpList_alloc_blk rfl rfl ?_)
      | (refine wpList_store_new (.tmp 12) (.tmp 32) rfl rfl wr ys rfl rfl (noughts 64) rfl (noughts_length 64) HLY.out ?_))
    have hu26 := Tryz.underlying84
    have hs26 : (Tryz.prog.info? 84).map (·.size) = some (ys.map (Value.int .u8)).length := by rw [size_blk, List.length_map, HLY.out]
    refine wp_region_noPanic ?_
    refine Tillst.region (fun W => W.cell? ⟨l, 0, none⟩ = some (.pointer (some ⟨p, 0, none⟩)) ∧ W.rangeAt wr.heap.size 0 (ys.map (Value.int .u8))) [] (by kernel_rfl) ⟨HC1.out, HR1.out⟩ (fun hHeld => ?_)
    generalize (wr.alloc (.cells (cells8 ys) 84)).drew = vd at *
    refine Tillst.take (i := 0) (oi := lw0) (v := ?_) rfl (by kernel_rfl) (by kernel_rfl) (by kernel_rfl) (by kernel_rfl) (fun _ _ _ h => h) (by rfl) ?_ hHeld ?_
    rotate_left
    · intro W hSW; (try dsimp only at hSW); unfold lw0; go_simp; with_reducible rfl
    simp only [lw0, Act.put, List.setIfInBounds_toArray, List.set_cons_zero, List.set_cons_succ]
    refine Tillst.take (i := 1) (oi := lw1) (v := ?_) rfl (by kernel_rfl) (by kernel_rfl) (by kernel_rfl) (by kernel_rfl) (fun _ _ _ h => h) (by rfl) ?_ hHeld ?_
    rotate_left
    · intro W hSW; (try dsimp only at hSW); unfold lw1; go_simp; with_reducible rfl
    simp only [lw1, Act.put, List.setIfInBounds_toArray, List.set_cons_zero, List.set_cons_succ]
    refine Tillst.take (i := 2) (oi := lw2) (v := ?_) rfl (by kernel_rfl) (by kernel_rfl) (by kernel_rfl) (by kernel_rfl) (fun _ _ _ h => h) (by rfl) ?_ hHeld ?_
    rotate_left
    · intro W hSW; (try dsimp only at hSW); unfold lw2; go_simp; with_reducible rfl
    simp only [lw2, Act.put, List.setIfInBounds_toArray, List.set_cons_zero, List.set_cons_succ]
    refine Tillst.take (i := 3) (oi := lw3) (v := ?_) rfl (by kernel_rfl) (by kernel_rfl) (by kernel_rfl) (by kernel_rfl) (fun _ _ _ h => h) (by rfl) ?_ hHeld ?_
    rotate_left
    · intro W' hSW; have c0 := hSW.1; unfold lw3; go_simp; with_reducible rfl
    simp only [lw3, Act.put, List.setIfInBounds_toArray, List.set_cons_zero, List.set_cons_succ]
    refine Tillst.take (i := 5) (oi := lw5) (v := ?_) rfl (by kernel_rfl) (by kernel_rfl) (by kernel_rfl) (by kernel_rfl) (fun _ _ _ h => h) (by rfl) ?_ hHeld ?_
    rotate_left
    · intro W hSW; (try dsimp only at hSW); unfold lw5; go_simp; with_reducible rfl
    simp only [lw5, Act.put, List.setIfInBounds_toArray, List.set_cons_zero, List.set_cons_succ]
    refine Tillst.take (i := 6) (oi := lw6) (v := ?_) rfl (by kernel_rfl) (by kernel_rfl) (by kernel_rfl) (by kernel_rfl) (fun _ _ _ h => h) (by rfl) ?_ hHeld ?_
    rotate_left
    · intro W hSW; (try dsimp only at hSW); unfold lw6; go_simp; with_reducible rfl
    simp only [lw6, Act.put, List.setIfInBounds_toArray, List.set_cons_zero, List.set_cons_succ]
    refine Tillst.take (i := 7) (oi := lw7) (v := ?_) rfl (by kernel_rfl) (by kernel_rfl) (by kernel_rfl) (by kernel_rfl) (fun _ _ _ h => h) (by rfl) ?_ hHeld ?_
    rotate_left
    · intro W hSW; (try dsimp only at hSW); unfold lw7; go_simp; with_reducible rfl
    simp only [lw7, Act.put, List.setIfInBounds_toArray, List.set_cons_zero, List.set_cons_succ]
    refine Tillst.take (i := 8) (oi := lw8) (v := ?_) rfl (by kernel_rfl) (by kernel_rfl) (by kernel_rfl) (by kernel_rfl) (fun _ _ _ h => h) (by rfl) ?_ hHeld ?_
    rotate_left
    · intro W hSW; (try dsimp only at hSW); unfold lw8; go_simp; with_reducible rfl
    simp only [lw8, Act.put, List.setIfInBounds_toArray, List.set_cons_zero, List.set_cons_succ]
    refine Tillst.take (i := 9) (oi := lw9) (v := ?_) rfl (by kernel_rfl) (by kernel_rfl) (by kernel_rfl) (by kernel_rfl) (fun _ _ _ h => h) (by rfl) ?_ hHeld ?_
    rotate_left
    · intro W hSW; (try dsimp only at hSW); unfold lw9; go_simp; with_reducible rfl
    simp only [lw9, Act.put, List.setIfInBounds_toArray, List.set_cons_zero, List.set_cons_succ]
    refine Tillst.take (i := 10) (oi := lw10) (v := ?_) rfl (by kernel_rfl) (by kernel_rfl) (by kernel_rfl) (by kernel_rfl) (fun _ _ _ h => h) (by rfl) ?_ hHeld ?_
    rotate_left
    · intro W' hSW; refine exec_load_row (.tmp 12) 84 ?_ wr.heap.size 0 ?_ (ys.map (Value.int .u8)) _ hu26 rfl hs26 hSW.2 <;> rfl
    simp only [lw10, Act.put, List.setIfInBounds_toArray, List.set_cons_zero, List.set_cons_succ]
    refine Tillst.one (i := 4) (o := lw4) (by kernel_rfl) rfl ?_
    intro K hK
    refine step_call 63 #[.tmp 36] #[70] rfl rfl Tryz.func63 rfl rfl [.pointer (some ⟨p, 0, none⟩)] rfl ?_
    refine (sto_disk HSD.out).mono ?_
    rintro e v1 ⟨rfl, rfl⟩
    refine ⟨_, rfl, ?_⟩
    simp only [lw4, Act.put, List.setIfInBounds_toArray, List.set_cons_zero, List.set_cons_succ]
    refine hK.out _ _ (fun _ => hHeld) (fun hHeld => ?_)
    replace hHeld := hHeld (by decide)
    clear hK K
    rw [HWI.out]
    refine Tillst.one (i := 11) (o := lw11) (by kernel_rfl) rfl ?_
    intro K hK
    refine step_call 32 #[.tmp 37, .tmp 42, .tmp 43] #[27, 3, 84] rfl rfl Tryz.func32 rfl rfl [.pointer (some ⟨d, 0, none⟩), .int .i64 ((i0 : Int) + (j : Int)), .agg (cells8 ys)] rfl ?_
    refine HWK.out.mono ?_
    rintro e v2 ⟨rfl, hd2, hk2⟩
    have HD2 := Lib.hid hd2
    have HK2 := Lib.hid hk2
    have hS2 := And.intro (show v2.cell? ⟨l, 0, none⟩ = some (.pointer (some ⟨p, 0, none⟩)) from (hk2.cell (p := ⟨l, 0, none⟩) (.inl (.inl HYL.out))).trans hHeld.1) (show v2.rangeAt wr.heap.size 0 (ys.map (Value.int .u8)) from fun q u hu => (hk2.cell (p := ⟨wr.heap.size, 0 + q, none⟩) (.inr rfl)).trans (hHeld.2 q u hu))
    clear hd2 hk2
    refine ⟨_, rfl, ?_⟩
    simp only [lw11, Act.put, List.setIfInBounds_toArray, List.set_cons_zero, List.set_cons_succ]
    refine hK.out _ _ (fun _ => hS2) (fun hHeld => ?_)
    replace hHeld := hHeld (by decide)
    clear hK K hS2
    refine Tillst.one (i := 12) (o := lw12) (by kernel_rfl) rfl ?_
    intro K hK
    refine step_value ?_ rfl ?_ ?_
    rotate_left
    · unfold lw12; go_simp; with_reducible rfl
    simp only [lw12, Act.put, List.setIfInBounds_toArray, List.set_cons_zero, List.set_cons_succ]
    refine hK.out _ _ (fun _ => hHeld) (fun hHeld => ?_)
    replace hHeld := hHeld (by decide)
    clear hK K
    refine Tillst.done (by kernel_rfl) ?_ _
    refine NoPanic.normal ?_
    clear hHeld
    have HKA := Lib.hid (HKJ.out.trans (HVD.out.trans HK2.out (fun b h => .inl (.inl h))) (fun b h => h))
    have HSA := Lib.hid (show StoS v2 Y p d N s t (kj.wr (Dk.put (i0 + j) ys)) from ⟨HSD.out.1.kept HK2.out (.inl (.inr rfl)), HD2.out.mono (fun b hb h => .inl h), HSD.out.2.2⟩)
    by_cases hz : E = 0
    · have hw3 := HW2.out
      rw [if_pos hz] at hw3
      have HW3 := Lib.hid hw3
      subst hz
      clear hw3
      go_wp2_with fail
      go_roundw
      case rel => exact ⟨_, _, _, _, _, ⟨j + 1, by omega, (by rw [Int.natCast_add]; rfl), kj.wr (Dk.put (i0 + j) ys), HSA.out, HKA.out, by rw [HW3.out]; rfl, HPN.out⟩, rfl, rfl, rfl, rfl, rfl⟩
      case measure => simp [intOf]; omega
    · have hw3 := HW2.out
      rw [if_neg hz] at hw3
      have HW3 := Lib.hid hw3
      have d1 : (E != 0) = true := by simpa using hz
      clear hw3 hz
      go_wp2_with fail
      go_ret
      rw [HW3.out]
      exact ⟨rfl, HSA.out, HKA.out⟩
end
end Go.Proofs.YtodcohkblgjfeaaGreat

namespace Go.Proofs.YtodcohkblgjfeaaGreat
open Go.RowKit
set_option maxRecDepth 100000
set_option linter.unusedVariables false
set_option linter.unusedSimpArgs false
def hdrL (i : Nat) (g : Int) : List Int := packL g 0 [(i : Int) / 256, (i : Int)]
theorem hdrL_length (i : Nat) (g : Int) : (hdrL i g).length = 64 := packL_length _ _ _ (by simp)
set_option maxHeartbeats 1000000 in
theorem header_any (i : Nat) (g : Int) (w : World) (hi : i ≤ 15) (hg : 1 ≤ g ∧ g ≤ 18446744073709551615) :
    Calls Tryz.prog 125 #[.int .i64 i, .int .u64 g] w fun e w' => e = .returned (.tuple #[.agg (cells8 (hdrL i g)), .int .i64 0]) ∧ Below w.heap.size w w' := by
  have hi2 : (i : Int) ≤ 15 := by omega
  obtain ⟨ys, hys⟩ : ∃ ys, hdrL i g = ys := ⟨_, rfl⟩
  have HL := Lib.hid (show ys.length = 64 by rw [← hys]; exact hdrL_length i g)
  have HY := Lib.hid (show packL g 0 [(i : Int) / 256, (i : Int)] = ys from hys)
  rw [hys]
  clear hys
  go_enter Tryz.func125, Tryz.ntmps125
  go_wp2_with (refine wpList_alloc_blk rfl rfl ?_)
  have HA := Lib.hid (show Arr (Value.int .u8) ((w.alloc (.cells (cells8 (noughts 64)) 84)).alloc (.cells #[.int .u8 ((i : Int) / 256), .int .u8 (i : Int)] 5)) (w.heap.size + 1) 5 [(i : Int) / 256, (i : Int)] from blk_new2 w _ _ _)
  have HR := Lib.hid (show Arr (Value.int .u8) ((w.alloc (.cells (cells8 (noughts 64)) 84)).alloc (.cells #[.int .u8 ((i : Int) / 256), .int .u8 (i : Int)] 5)) w.heap.size 84 (noughts 64) from (Blk.new w _ _).alloc _)
  have HB := Lib.hid (((Below.refl w.heap.size w).alloc (Nat.le_refl _) (.cells (cells8 (noughts 64)) 84)).alloc (by simp) (.cells #[.int .u8 ((i : Int) / 256), .int .u8 (i : Int)] 5))
  refine (pack_ok g 0 _ 2 2 [(i : Int) / 256, (i : Int)] (· < _) _ (HA.out.row 0 (Blk.lt HA.out)) (fun b h => h) hg.1 hg.2 (by omega) (by omega) (by omega)).mono ?_
  rintro e w2 ⟨rfl, hb⟩
  have HR2 := Lib.hid (show Arr (Value.int .u8) w2 w.heap.size 84 (noughts 64) from Blk.below HR.out hb (Blk.lt HR.out))
  have HB2 := Lib.hid (HB.out.trans (hb.mono HB.out.size))
  rw [HY.out]
  clear hb
  go_wp2_with (first
    | (refine wpList_store_blk (.tmp 4) (.tmp 16) rfl rfl w.heap.size ys rfl rfl 84 (noughts 64) HR2.out (noughts_length 64) HL.out ?_)
    | (with_reducible refine halt_end ?_))
  exact Halt.ret (results_blk2 (p := 4) (u := 5) rfl _ _ w.heap.size 84 ys rfl (HR2.out.setRow ys) HL.out) rfl ⟨rfl, below_setRow HB2.out (Nat.le_refl _) _⟩
end Go.Proofs.YtodcohkblgjfeaaGreat

namespace Go.Proofs.YtodcohkblgjfeaaGreat
open Go.RowKit
set_option maxRecDepth 100000
set_option linter.unusedVariables false
set_option linter.unusedSimpArgs false
def pickS9 (E sec : Int) : Int := if E = 0 then sec else 0
def pickY9 (E : Int) (ys : List Seg) : List Seg := if E = 0 then ys else []
theorem pickS9_zero (sec : Int) : pickS9 0 sec = sec := if_pos rfl
theorem pickY9_zero (ys : List Seg) : pickY9 0 ys = ys := if_pos rfl
theorem OpenT.told9 {w w' : World} {sec g : Int} {xs : List Seg} {e : Ending} (h : OpenT w sec xs g e w') :
    ∃ A cap, e = .returned (.tuple #[ringV (pickS9 (openE sec xs g) sec) A (pickY9 (openE sec xs g) (openX xs g)).length cap, .int .i64 (if openE sec xs g = 0 then nxtR xs else 0), .int .i64 (openE sec xs g)]) ∧
      OwnZ w' w.heap.size A (pickY9 (openE sec xs g) (openX xs g)).length cap (pickY9 (openE sec xs g) (openX xs g)) ∧ Below w.heap.size w w' := by
  obtain ⟨⟨h0, v, rfl, A, n, cap, rfl, ho⟩ | ⟨h0, rfl⟩, hb⟩ := h
  · unfold pickS9 pickY9
    simp only [h0, if_pos]
    obtain rfl : n = (openX xs g).length := ho.1.symm
    exact ⟨A, cap, rfl, ho, hb⟩
  · unfold pickS9 pickY9
    simp only [if_neg h0]
    exact ⟨none, 0, rfl, ⟨rfl, ⟨rfl, .inl ⟨rfl, rfl⟩⟩, fun _ => rfl, Nat.le_refl _⟩, hb⟩
theorem OwnZ.setRow9 {w : World} {base : Nat} {A : Option Addr} {n cap : Nat} {xs : List Seg} (h : OwnZ w base A n cap xs) {g : Nat} (hg : g < base) (cs : Array Value) : OwnZ (w.setRow g cs) base A n cap xs :=
  ⟨h.1, h.2.1.kept (row := some g) ⟨rfl, rfl, rfl, by simp [World.setRow], fun k _ hne => setRow_other w g k cs (fun e => hne (by rw [e]))⟩ (.inr (fun e => by have := own_least h.2.1 e; omega)), h.2.2⟩
theorem zero_ring (w : World) : (zeroValue 35).run Tryz.prog w = .ok (.agg #[.int .i64 0, .slice none 0 0]) w := (Tryz.zeroValue35 w).trans rfl
theorem ring_one (a : Int) (A : Option Addr) (n c : Nat) : (#[Value.int .i64 a, Value.slice A n c] : Array Value).all (·.oneCell') = true := by simp [Value.oneCell']
theorem open_nxt {sec : Int} {xs : List Seg} {g : Int} (h : openE sec xs g = 0) : ¬ nxtR xs < 0 := by
  intro h3
  by_cases h0 : OkR sec xs
  · by_cases h1 : 0 ≤ opnR xs
    · rw [open_state h0 h1] at h; omega
    by_cases h2 : g ≤ topG xs
    · rw [open_arg h0 h1 h2] at h; omega
    rw [open_full h0 h1 h2 h3] at h
    omega
  · rw [open_bad h0] at h; omega
def OpnC (v : World) (sec : Int) (zs : List Seg) (g : Int) (t i e : Value) (wy : World) : Prop :=
  e = .int .i64 (openE sec zs g) ∧ i = .int .i64 (if openE sec zs g = 0 then nxtR zs else 0) ∧ ∃ nb A c, t = .pointer (some ⟨nb, 0, none⟩) ∧ v.heap.size ≤ nb ∧
    Blk wy nb 35 #[.int .i64 (pickS9 (openE sec zs g) sec), .slice A (pickY9 (openE sec zs g) (openX zs g)).length c] ∧ OwnZ wy v.heap.size A (pickY9 (openE sec zs g) (openX zs g)).length c (pickY9 (openE sec zs g) (openX zs g)) ∧ Below v.heap.size v wy
section
variable {v v7 v8 : World} {sec : Int} {zs : List Seg} {g : Int} {A : Option Addr} {c : Nat}
theorem OpnC.call (ho : OwnZ v7 v.heap.size A (pickY9 (openE sec zs g) (openX zs g)).length c (pickY9 (openE sec zs g) (openX zs g))) (hb : Below v.heap.size v v7) :
    OpnC v sec zs g (.pointer (some ⟨v7.heap.size, 0, none⟩)) (.int .i64 (if openE sec zs g = 0 then nxtR zs else 0)) (.int .i64 (openE sec zs g))
      ((v7.alloc (.cells #[.int .i64 0, .slice none 0 0] 35)).setRow v7.heap.size #[.int .i64 (pickS9 (openE sec zs g) sec), .slice A (pickY9 (openE sec zs g) (openX zs g)).length c]) := by
  have h1 := below_setRow ((Below.refl v7.heap.size v7).alloc (Nat.le_refl _) (.cells #[.int .i64 0, .slice none 0 0] 35)) (Nat.le_refl _) #[.int .i64 (pickS9 (openE sec zs g) sec), .slice A (pickY9 (openE sec zs g) (openX zs g)).length c]
  exact ⟨rfl, rfl, _, A, c, rfl, hb.size, setRow_heap _ _ _ _ _ _ (Blk.new v7 _ _), ho.below h1, hb.trans (h1.mono hb.size)⟩
theorem OpnC.laid (ho : OwnZ v8 (v.alloc (.cells #[.int .i64 0, .slice none 0 0] 35)).heap.size A (pickY9 (openE sec zs g) (openX zs g)).length c (pickY9 (openE sec zs g) (openX zs g))) (hb : Below (v.alloc (.cells #[.int .i64 0, .slice none 0 0] 35)).heap.size (v.alloc (.cells #[.int .i64 0, .slice none 0 0] 35)) v8) :
    OpnC v sec zs g (.pointer (some ⟨v.heap.size, 0, none⟩)) (.int .i64 (if openE sec zs g = 0 then nxtR zs else 0)) (.int .i64 (openE sec zs g))
      (v8.setRow v.heap.size #[.int .i64 (pickS9 (openE sec zs g) sec), .slice A (pickY9 (openE sec zs g) (openX zs g)).length c]) := by
  have hlt : v.heap.size < (v.alloc (.cells #[.int .i64 0, .slice none 0 0] 35)).heap.size := by simp
  have hk := Blk.below (Blk.new v 35 #[.int .i64 0, .slice none 0 0]) hb hlt
  have h1 := ((Below.refl v.heap.size v).alloc (Nat.le_refl _) (.cells #[.int .i64 0, .slice none 0 0] 35)).trans (hb.mono (Nat.le_of_lt hlt))
  exact ⟨rfl, rfl, _, A, c, rfl, Nat.le_refl _, setRow_heap _ _ _ _ _ _ hk, (ho.setRow9 hlt _).base (Nat.le_of_lt hlt), below_setRow h1 (Nat.le_refl _) _⟩
end
end Go.Proofs.YtodcohkblgjfeaaGreat
