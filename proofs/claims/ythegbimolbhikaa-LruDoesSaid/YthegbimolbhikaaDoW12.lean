/- LruDoes. MADE by mkdoes.py. -/
import Derived.Test.YthegbimolbhikaaR17
import Derived.Test.YthegbimolbhikaaAgree12
import Derived.Test.YthegbimolbhikaaKind12
import Derived.Test.YthegbimolbhikaaWakes12
namespace Go.Proofs.Ythegbimolbhikaa
open Go.RowKit
attribute [local go_sem] Oper.semAt_some
set_option linter.unusedVariables false
set_option linter.unusedSimpArgs false
set_option maxRecDepth 100000
/-- Both kinds of lists stand; the document's lie behind a block. -/
structure DoS (w : World) (x p n g : Nat) (A : Option Addr) (c : Nat) (ds : List RowD) (xs ys : List (List Nat)) (W : World) : Prop where
  l : LrV W x p n xs
  y : Blk W g 31 #[.int .i64 (n : Nat), .slice A ys.length c]
  r : RefX W (fun b => b < W.heap.size ∧ b ≠ x ∧ b ≠ p ∧ b ≠ g) A ys.length ds ys
  bel : Below w.heap.size w W
  hx : w.heap.size ≤ x
  hp : w.heap.size ≤ p
  hg : w.heap.size ≤ g
  xg : x ≠ g
  pg : p ≠ g
section
variable {w W V : World} {x p n g go c c' : Nat} {A A' : Option Addr} {ds ds' : List RowD} {xs ys xs' ys' : List (List Nat)} {cs : Array Value}
theorem DoS.next (h : DoS w x p n g A c ds xs ys W) (hb : Below W.heap.size W V) : DoS w x p n g A c ds xs ys V :=
  ⟨h.l.below hb h.l.lt.1 h.l.lt.2, h.y.below hb h.y.lt, (h.r.below hb (fun b h => h.1)).more fun b h => ⟨Nat.lt_of_lt_of_le h.1 hb.size, h.2⟩, h.bel.trans (hb.mono h.bel.size), h.hx, h.hp, h.hg, h.xg, h.pg⟩
theorem DoS.onL (h : DoS w x p n g A c ds xs ys W) (hl : LrV V x p n xs') (hk : Kept (fun k => k ≠ x ∧ k ≠ p) W V) : DoS w x p n g A c ds xs' ys V :=
  ⟨hl, h.y.kept hk ⟨fun e => h.xg e.symm, fun e => h.pg e.symm⟩, (h.r.keep fun q hq => hk.cell ⟨hq.2.1, hq.2.2.1⟩).more fun b h => ⟨Nat.lt_of_lt_of_le h.1 hk.size, h.2⟩,
    h.bel.trans (hk.to_below fun k hk => ⟨by have := h.hx; have := h.bel.size; omega, by have := h.hp; have := h.bel.size; omega⟩), h.hx, h.hp, h.hg, h.xg, h.pg⟩
/-- New rows of the document's lists, told by a call. -/
theorem DoS.rows (h : DoS w x p n g A c ds xs ys W) (hb : Below W.heap.size W V) (hr : RefX V (fun b => (b < W.heap.size ∧ b ≠ x ∧ b ≠ p ∧ b ≠ g) ∨ (W.heap.size ≤ b ∧ b < V.heap.size)) A' ys'.length ds' ys') :
    RefX V (fun b => b < V.heap.size ∧ b ≠ x ∧ b ≠ p ∧ b ≠ g) A' ys'.length ds' ys' := hr.more fun b hb2 => by
  have h1 := h.l.lt
  have h2 := h.y.lt
  have h3 := hb.size
  rcases hb2 with h4 | h4
  · exact ⟨by omega, h4.2⟩
  · exact ⟨h4.2, by omega, by omega, by omega⟩
theorem DoS.onY (h : DoS w x p n g A c ds xs ys W) (hr : RefX W (fun b => b < W.heap.size ∧ b ≠ x ∧ b ≠ p ∧ b ≠ g) A' ys'.length ds' ys') :
    DoS w x p n g A' c' ds' xs ys' ((W.setCell ⟨g, 0, none⟩ (.int .i64 (n : Nat))).setCell ⟨g, 1, none⟩ (.slice A' ys'.length c')) := by
  have hsz : ((W.setCell ⟨g, 0, none⟩ (.int .i64 (n : Nat))).setCell ⟨g, 1, none⟩ (.slice A' ys'.length c')).heap.size = W.heap.size := by simp [World.setCell]
  have hk : Kept (fun b => b ≠ g) W ((W.setCell ⟨g, 0, none⟩ (.int .i64 (n : Nat))).setCell ⟨g, 1, none⟩ (.slice A' ys'.length c')) :=
    ⟨rfl, rfl, rfl, by rw [hsz]; exact Nat.le_refl _, fun k hk => (Below.heap_setCell _ ⟨g, 1, none⟩ _ k hk).trans (Below.heap_setCell _ ⟨g, 0, none⟩ _ k hk)⟩
  refine ⟨h.l.kept hk h.xg h.pg, (h.y.set_ 0 (.int .i64 (n : Nat))).set_ 1 (.slice A' ys'.length c'), ?_, (h.bel.setCell (p := ⟨g, 0, none⟩) h.hg _).setCell (p := ⟨g, 1, none⟩) h.hg _, h.hx, h.hp, h.hg, h.xg, h.pg⟩
  rw [hsz]
  exact hr.keep fun q hq => hk.cell hq.2.2.2
/-- An op's block stands too. -/
structure DoO (w : World) (x p n g go : Nat) (cs : Array Value) (A : Option Addr) (c : Nat) (ds : List RowD) (xs ys : List (List Nat)) (W : World) : Prop where
  s : DoS w x p n g A c ds xs ys W
  o : Blk W go 35 cs
  xo : go ≠ x
  po : go ≠ p
  og : go ≠ g
theorem DoO.next (h : DoO w x p n g go cs A c ds xs ys W) (hb : Below W.heap.size W V) : DoO w x p n g go cs A c ds xs ys V := ⟨h.s.next hb, h.o.below hb h.o.lt, h.xo, h.po, h.og⟩
theorem DoO.onL (h : DoO w x p n g go cs A c ds xs ys W) (hl : LrV V x p n xs') (hk : Kept (fun k => k ≠ x ∧ k ≠ p) W V) : DoO w x p n g go cs A c ds xs' ys V := ⟨h.s.onL hl hk, h.o.kept hk ⟨h.xo, h.po⟩, h.xo, h.po, h.og⟩
theorem DoO.onY (h : DoO w x p n g go cs A c ds xs ys W) (hr : RefX W (fun b => b < W.heap.size ∧ b ≠ x ∧ b ≠ p ∧ b ≠ g) A' ys'.length ds' ys') :
    DoO w x p n g go cs A' c' ds' xs ys' ((W.setCell ⟨g, 0, none⟩ (.int .i64 (n : Nat))).setCell ⟨g, 1, none⟩ (.slice A' ys'.length c')) :=
  ⟨h.s.onY hr, ((Below.heap_setCell _ ⟨g, 1, none⟩ _ go h.og).trans (Below.heap_setCell _ ⟨g, 0, none⟩ _ go h.og)).trans h.o, h.xo, h.po, h.og⟩
theorem DoO.cells (h : DoO w x p n g go cs A c ds xs ys W) : (W.cell? ⟨go, 0, none⟩ = cs[0]? ∧ W.cell? ⟨go, 1, none⟩ = cs[1]? ∧ W.cell? ⟨go, 2, none⟩ = cs[2]?) ∧
    W.cell? ⟨g, 0, none⟩ = some (.int .i64 (n : Nat)) ∧ W.cell? ⟨g, 1, none⟩ = some (.slice A ys.length c) ∧ W.frozen? ⟨g, 0, none⟩ = false ∧ W.frozen? ⟨g, 1, none⟩ = false :=
  ⟨⟨h.o.cell 0, h.o.cell 1, h.o.cell 2⟩, h.s.y.cell 0, h.s.y.cell 1, h.s.y.frozen 0, h.s.y.frozen 1⟩
end
theorem neq_same (E : Int) : (E != E) = false := by simp
set_option maxHeartbeats 8000000 in
theorem does_law {A : Option Addr} {nz cap : Nat} {z : List OpE} (a0 a1 : Int) {w : World} (ho : IsOps w A nz cap z) :
    Calls Try.prog 3 #[.int .i64 a0, .int .i64 a1, .slice A nz cap] w fun e w' => e = .returned (.bool true) ∧ Below w.heap.size w w' := by
  obtain ⟨m, hm⟩ : ∃ m, m = min nz 200 := ⟨_, rfl⟩
  obtain ⟨n, hn, hn1, hn2⟩ := uwrap a0 12 (by omega)
  obtain ⟨ll, hll, hl1, hl2⟩ := uwrap a1 4 (by omega)
  have HO := Lib.hid ho
  have hm200 : m ≤ 200 := by omega
  have hmn : m ≤ nz := by omega
  have HFEW := Lib.hid (few_any A nz cap m hm ho.nc ho.nA)
  have HW := Lib.hid (wakes12 w)
  have HN := Lib.hid (fun (W : World) => new_ok n ll hn1 (by omega) hl1 (by omega) W)
  have HRN := Lib.hid (fun (W : World) => rnew_anyY n ll ⟨hl1, by omega⟩ W)
  clear ho hm
  go_enter Try.func3, Try.ntmps3
  go_wp2_with fail
  refine HW.out.mono ?_
  rintro e w1 ⟨rfl, hb⟩
  have HB1 := Lib.hid hb
  clear hb HW
  go_wp2_with fail
  rw [hn, hll]
  refine (HN.out w1).mono ?_
  rintro e w2 ⟨x, p, rfl, hl, hb, hx, hp⟩
  have hxw : w.heap.size ≤ x := Nat.le_trans HB1.out.size hx
  have hpw : w.heap.size ≤ p := Nat.le_trans HB1.out.size hp
  have HB2 := Lib.hid (HB1.out.trans (hb.mono HB1.out.size))
  have HL2 := Lib.hid hl
  clear hb hl hx hp HN HB1 hn hll
  go_wp2_with fail
  refine (HRN.out w2).mono ?_
  rintro e w3 ⟨gr, ⟨rfl, hr⟩, hb⟩
  have HDS := Lib.hid (show DoS w x p n w3.heap.size (some ⟨gr, 0, none⟩) ll (List.replicate ll d0) (List.replicate ll []) (List.replicate ll []) (w3.alloc (.cells #[.int .i64 (n : Nat), .slice (some ⟨gr, 0, none⟩) ll ll] 31)) by
    have hl3 := HL2.out.below hb HL2.out.lt.1 HL2.out.lt.2
    have hs := hl3.lt
    have hs2 := HL2.out.lt
    have hB3 := HB2.out.trans (hb.mono HB2.out.size)
    have ha := (Below.refl w3.heap.size w3).alloc (Nat.le_refl _) (.cells #[.int .i64 (n : Nat), .slice (some ⟨gr, 0, none⟩) ll ll] 31)
    have hz : (List.replicate ll ([] : List Nat)).length = ll := by simp
    refine ⟨hl3.below ha hs.1 hs.2, ?_, ?_, hB3.trans (ha.mono hB3.size), hxw, hpw, hB3.size, by omega, by omega⟩
    · rw [hz]; exact Blk.new w3 _ _
    · rw [hz]; exact (hr.below ha (fun b h => h.2)).more fun b h => ⟨Nat.lt_of_lt_of_le h.2 ha.size, by omega, by omega, by omega⟩)
  clear hb hr HRN HB2 HL2
  go_wp2_with fail
  obtain ⟨g, hg⟩ : ∃ g, w3.heap.size = g := ⟨_, rfl⟩
  rw [hg] at HDS ⊢
  generalize w3.alloc (.cells #[.int .i64 (n : Nat), .slice (some ⟨gr, 0, none⟩) ll ll] 31) = w4 at *
  clear hg
  refine (HFEW.out _).mono ?_
  rintro e w5 ⟨rfl, rfl⟩
  go_wp2_with fail
  go_loopw [44] (fun i wr => ∃ (j : Nat) (xs : List (List Nat)) (A1 : Option Addr) (q1 : Nat) (ds1 : List RowD), i = .int .i64 j ∧ j ≤ m ∧ DoS w x p n g A1 q1 ds1 xs xs wr ∧ xs.length = ll) (fun i _ => m - (intOf i).toNat)
  case atStart => exact ⟨0, _, _, _, _, rfl, Nat.zero_le _, HDS.out, by simp⟩
  case round =>
    obtain ⟨j, xs, A1, q1, ds1, rfl, hj, hS, hlen⟩ := hrel
    have HSS := Lib.hid hS
    have HLL := Lib.hid hlen
    have HBIG := Lib.hid (fun j => Nat.le_trans (hS.l.len j) (show n ≤ 100000 by omega))
    have hn64 : xs.length ≤ 64 := by omega
    clear hS hlen HDS
    by_cases hjm : j < m
    · obtain ⟨b0, o0, rfl, K, L, N, hof, hoz, p0, p1, p2⟩ := op_cells HO.out HSS.out.bel (j := j) (by omega)
      have ha := (Below.refl wr.heap.size wr).alloc (Nat.le_refl _) (.cells #[.int .i64 K, .int .i64 L, .int .i64 N] 35)
      have HS := Lib.hid (show DoO w x p n g wr.heap.size #[.int .i64 K, .int .i64 L, .int .i64 N] A1 q1 ds1 xs xs (wr.alloc (.cells #[.int .i64 K, .int .i64 L, .int .i64 N] 35)) from
        ⟨HSS.out.next ha, Blk.new wr _ _, by have := HSS.out.l.lt.1; omega, by have := HSS.out.l.lt.2; omega, by have := HSS.out.y.lt; omega⟩)
      obtain ⟨⟨c0, c1, c2⟩, k0, k1, f0, f1⟩ := HS.out.cells
      clear ha hoz hof HSS
      obtain hq | hq | hq := kindL_lt K
      · have HQ := Lib.hid (show ∀ V, Calls Try.prog 12 #[.agg #[.int .i64 K, .int .i64 L, .int .i64 N]] V fun e w' => e = .returned (.int .i64 0) ∧ Below V.heap.size V w' from fun V => by have h := kind_any K L N V; rw [hq] at h; exact h)
        clear hq
        obtain ⟨E, hE⟩ : ∃ E, pushE n xs L N = E := ⟨_, rfl⟩
        obtain ⟨xs', hxs⟩ : ∃ xs', pushX n xs L N = xs' := ⟨_, rfl⟩
        have HL2 := Lib.hid (show xs'.length = ll by rw [← hxs, pushX_len]; exact HLL.out)
        have HPX := Lib.hid (fun (V : World) (h : LrV V x p n xs) => by have h2 := push_lr h L N; rw [hE, hxs] at h2; exact h2)
        have HPY := Lib.hid (fun (V : World) (A1 : Option Addr) (q1 : Nat) (h : RefX V (fun b => b < V.heap.size ∧ b ≠ x ∧ b ≠ p ∧ b ≠ g) A1 xs.length ds1 xs) => by have h2 := push_ref (c := q1) n L N h (fun b h => h.1) hn64 HBIG.out; rw [hE, hxs] at h2; exact h2)
        have hne := neq_same E
        clear hE hxs
        go_upto_region 21 with (first | (go_at_call 12; refine (HQ.out _).mono ?_; rintro e v ⟨rfl, hb⟩; have HS := Lib.hid (HS.out.next hb); obtain ⟨⟨c0, c1, c2⟩, k0, k1, f0, f1⟩ := HS.out.cells; clear hb) | (go_at_call 13; refine (HPX.out _ HS.out.s.l).mono ?_; rintro e v ⟨rfl, hi, hk⟩; have HS := Lib.hid (HS.out.onL hi hk); obtain ⟨⟨c0, c1, c2⟩, k0, k1, f0, f1⟩ := HS.out.cells; clear hi hk) | (go_at_call 14; refine (HPY.out _ _ _ HS.out.s.r).mono ?_; rintro e vy hdo; obtain ⟨A2, q2, ds2, rfl, hr2, hb⟩ := hdo; have HR2 := Lib.hid (HS.out.s.rows hb hr2); have HS := Lib.hid (HS.out.next hb); obtain ⟨⟨c0, c1, c2⟩, k0, k1, f0, f1⟩ := HS.out.cells; clear hr2 hb))
        have HS := Lib.hid (HS.out.onY (c' := q2) HR2.out)
        generalize (vy.setCell ⟨g, 0, none⟩ (.int .i64 (n : Nat))).setCell ⟨g, 1, none⟩ (.slice A2 xs'.length q2) = w8 at *
        obtain ⟨⟨c0, c1, c2⟩, k0, k1, f0, f1⟩ := HS.out.cells
        clear HR2 HPX HPY HQ
        go_wp2_with (go_at_call 19; refine (agree_any HS.out.s.l (HS.out.s.r.more fun b h => h.1) _ _).mono ?_; rintro e v9 ⟨rfl, hb⟩; have HS := Lib.hid (HS.out.next hb); obtain ⟨⟨c0, c1, c2⟩, k0, k1, f0, f1⟩ := HS.out.cells; clear hb)
        go_roundw
        case rel => exact ⟨j + 1, xs', A2, q2, ds2, by simp, by omega, HS.out.s, HL2.out⟩
        case measure => show m - (Int.toNat ((j : Int) + 1)) < m - (Int.toNat (j : Int)); omega
      · have HQ := Lib.hid (show ∀ V, Calls Try.prog 12 #[.agg #[.int .i64 K, .int .i64 L, .int .i64 N]] V fun e w' => e = .returned (.int .i64 1) ∧ Below V.heap.size V w' from fun V => by have h := kind_any K L N V; rw [hq] at h; exact h)
        clear hq
        obtain ⟨E, hE⟩ : ∃ E, outE n xs N = E := ⟨_, rfl⟩
        obtain ⟨xs', hxs⟩ : ∃ xs', touchX n xs N = xs' := ⟨_, rfl⟩
        have HL2 := Lib.hid (show xs'.length = ll by rw [← hxs, touchX_len]; exact HLL.out)
        have HPX := Lib.hid (fun (V : World) (h : LrV V x p n xs) => by have h2 := touch_lr h N; rw [hE, hxs] at h2; exact h2)
        have HPY := Lib.hid (fun (V : World) (A1 : Option Addr) (q1 : Nat) (h : RefX V (fun b => b < V.heap.size ∧ b ≠ x ∧ b ≠ p ∧ b ≠ g) A1 xs.length ds1 xs) => by have h2 := touch_ref (c := q1) n N h (fun b h => h.1) hn64 HBIG.out; rw [hE, hxs] at h2; exact h2)
        have hne := neq_same E
        clear hE hxs
        go_upto_region 21 with (first | (go_at_call 12; refine (HQ.out _).mono ?_; rintro e v ⟨rfl, hb⟩; have HS := Lib.hid (HS.out.next hb); obtain ⟨⟨c0, c1, c2⟩, k0, k1, f0, f1⟩ := HS.out.cells; clear hb) | (go_at_call 15; refine (HPX.out _ HS.out.s.l).mono ?_; rintro e v ⟨rfl, hi, hk⟩; have HS := Lib.hid (HS.out.onL hi hk); obtain ⟨⟨c0, c1, c2⟩, k0, k1, f0, f1⟩ := HS.out.cells; clear hi hk) | (go_at_call 16; refine (HPY.out _ _ _ HS.out.s.r).mono ?_; rintro e vy hdo; obtain ⟨A2, q2, ds2, rfl, hr2, hb⟩ := hdo; have HR2 := Lib.hid (HS.out.s.rows hb hr2); have HS := Lib.hid (HS.out.next hb); obtain ⟨⟨c0, c1, c2⟩, k0, k1, f0, f1⟩ := HS.out.cells; clear hr2 hb))
        have HS := Lib.hid (HS.out.onY (c' := q2) HR2.out)
        generalize (vy.setCell ⟨g, 0, none⟩ (.int .i64 (n : Nat))).setCell ⟨g, 1, none⟩ (.slice A2 xs'.length q2) = w8 at *
        obtain ⟨⟨c0, c1, c2⟩, k0, k1, f0, f1⟩ := HS.out.cells
        clear HR2 HPX HPY HQ
        go_wp2_with (go_at_call 19; refine (agree_any HS.out.s.l (HS.out.s.r.more fun b h => h.1) _ _).mono ?_; rintro e v9 ⟨rfl, hb⟩; have HS := Lib.hid (HS.out.next hb); obtain ⟨⟨c0, c1, c2⟩, k0, k1, f0, f1⟩ := HS.out.cells; clear hb)
        go_roundw
        case rel => exact ⟨j + 1, xs', A2, q2, ds2, by simp, by omega, HS.out.s, HL2.out⟩
        case measure => show m - (Int.toNat ((j : Int) + 1)) < m - (Int.toNat (j : Int)); omega
      · have HQ := Lib.hid (show ∀ V, Calls Try.prog 12 #[.agg #[.int .i64 K, .int .i64 L, .int .i64 N]] V fun e w' => e = .returned (.int .i64 2) ∧ Below V.heap.size V w' from fun V => by have h := kind_any K L N V; rw [hq] at h; exact h)
        clear hq
        obtain ⟨E, hE⟩ : ∃ E, outE n xs N = E := ⟨_, rfl⟩
        obtain ⟨xs', hxs⟩ : ∃ xs', remX n xs N = xs' := ⟨_, rfl⟩
        have HL2 := Lib.hid (show xs'.length = ll by rw [← hxs, remX_len]; exact HLL.out)
        have HPX := Lib.hid (fun (V : World) (h : LrV V x p n xs) => by have h2 := remove_lr h N; rw [hE, hxs] at h2; exact h2)
        have HPY := Lib.hid (fun (V : World) (A1 : Option Addr) (q1 : Nat) (h : RefX V (fun b => b < V.heap.size ∧ b ≠ x ∧ b ≠ p ∧ b ≠ g) A1 xs.length ds1 xs) => by have h2 := remove_ref (c := q1) n N h (fun b h => h.1) hn64 HBIG.out; rw [hE, hxs] at h2; exact h2)
        have hne := neq_same E
        clear hE hxs
        go_upto_region 21 with (first | (go_at_call 12; refine (HQ.out _).mono ?_; rintro e v ⟨rfl, hb⟩; have HS := Lib.hid (HS.out.next hb); obtain ⟨⟨c0, c1, c2⟩, k0, k1, f0, f1⟩ := HS.out.cells; clear hb) | (go_at_call 17; refine (HPX.out _ HS.out.s.l).mono ?_; rintro e v ⟨rfl, hi, hk⟩; have HS := Lib.hid (HS.out.onL hi hk); obtain ⟨⟨c0, c1, c2⟩, k0, k1, f0, f1⟩ := HS.out.cells; clear hi hk) | (go_at_call 18; refine (HPY.out _ _ _ HS.out.s.r).mono ?_; rintro e vy hdo; obtain ⟨A2, q2, ds2, rfl, hr2, hb⟩ := hdo; have HR2 := Lib.hid (HS.out.s.rows hb hr2); have HS := Lib.hid (HS.out.next hb); obtain ⟨⟨c0, c1, c2⟩, k0, k1, f0, f1⟩ := HS.out.cells; clear hr2 hb))
        have HS := Lib.hid (HS.out.onY (c' := q2) HR2.out)
        generalize (vy.setCell ⟨g, 0, none⟩ (.int .i64 (n : Nat))).setCell ⟨g, 1, none⟩ (.slice A2 xs'.length q2) = w8 at *
        obtain ⟨⟨c0, c1, c2⟩, k0, k1, f0, f1⟩ := HS.out.cells
        clear HR2 HPX HPY HQ
        go_wp2_with (go_at_call 19; refine (agree_any HS.out.s.l (HS.out.s.r.more fun b h => h.1) _ _).mono ?_; rintro e v9 ⟨rfl, hb⟩; have HS := Lib.hid (HS.out.next hb); obtain ⟨⟨c0, c1, c2⟩, k0, k1, f0, f1⟩ := HS.out.cells; clear hb)
        go_roundw
        case rel => exact ⟨j + 1, xs', A2, q2, ds2, by simp, by omega, HS.out.s, HL2.out⟩
        case measure => show m - (Int.toNat ((j : Int) + 1)) < m - (Int.toNat (j : Int)); omega
    · obtain rfl : m = j := by omega
      have k01 := And.intro (HSS.out.y.cell 0) (HSS.out.y.cell 1)
      clear HO hjm
      go_upto_region 25 with fail
      rename World => wo
      go_loopw [106] (fun i wr => ∃ (j : Nat), i = .int .i64 j ∧ j ≤ ll ∧ DoS w x p n g A1 q1 ds1 xs xs wr) (fun i _ => ll - (intOf i).toNat)
      case atStart => exact ⟨0, rfl, Nat.zero_le _, HSS.out⟩
      case round =>
        obtain ⟨j, rfl, hj, hS⟩ := hrel
        have HS := Lib.hid hS
        clear hS HSS k01
        obtain ⟨k0, k1⟩ := And.intro (HS.out.y.cell 0) (HS.out.y.cell 1)
        by_cases hjl : j < ll
        · go_wp2_with (go_at_call 19; refine (agree_any HS.out.l (HS.out.r.more fun b h => h.1) _ _).mono ?_; rintro e v9 ⟨rfl, hb⟩; have HS := Lib.hid (HS.out.next hb); clear hb)
          go_roundw
          case rel => exact ⟨j + 1, by simp, by omega, HS.out⟩
          case measure => show ll - (Int.toNat ((j : Int) + 1)) < ll - (Int.toNat (j : Int)); omega
        · obtain rfl : ll = j := by omega
          go_wp2_with fail
          go_ret
          exact ⟨rfl, HS.out.bel⟩
end Go.Proofs.Ythegbimolbhikaa
