/- Texts of LogReads, packed. -/
import Derived.Test.YtjmjhldjablfeaaGreatPackLogReads12
import Derived.Deep.Slices
import Derived.Deep.Fields
import Derived.Deep.MidRow
import Derived.Deep.Grids
import Derived.Lib.SlBytesConst
set_option linter.unusedVariables false
set_option linter.unusedSimpArgs false
set_option maxRecDepth 100000
set_option maxHeartbeats 16000000
namespace Go.Proofs.YtjmjhldjablfeaaGreat
section
open Go.RowKit
theorem noughts_not : stamped (noughts 64) = false := by decide +kernel
section
variable {k k' : Dk} {s : Sup} {xs : List Seg} {rs : Nat → List (Nat × List Int)}
theorem HistR.start (hst : ∀ i, i < xs.length → stG xs i = 0) (hV : ∀ i j : Nat, i < xs.length → (j : Int) < s.b → strV k s i j = noughts 64) : HistR k s xs (fun _ => []) :=
 ⟨fun i h1 h2 => absurd (hst i h1) h2, fun i h1 h2 => absurd (hst i h1) h2, fun i h1 h2 => absurd (hst i h1) h2, fun i j h1 h2 h3 => by rw [hV i j h1 h2, noughts_not] at h3; cases h3⟩
theorem HistR.known {s' : Sup} (h : HistR k s xs rs) (hb : s'.b = s.b) (hg : s.g ≤ s'.g) (hV : ∀ i j : Nat, (j : Int) < s.b → strV k' s' i j = strV k s i j) (hok : OkR s.b xs) : HistR k' s' xs rs := by
 have hb24 : 24 ≤ s.b := by have hz := hok.1; unfold SizedR at hz; omega
 refine ⟨fun i h1 h2 => ?_, fun i h1 h2 => ?_, fun i h1 h2 j h3 h4 => ?_, fun i j h1 h2 h3 => ?_⟩
 ·rw [hV i 0 (by omega)]; exact h.hdr i h1 h2
 ·obtain ⟨e, e1, e2⟩ := h.laid i h1 h2
  have := used_le hok h1
  exact ⟨e, e1, e2.ext fun j h3 h4 => hV i j (by omega)⟩
 ·rw [hV i j (by omega)]; exact h.tail i h1 h2 j h3 (by omega)
 ·rw [hV i j (by omega)] at h3 ⊢
  have := h.old i j h1 (by omega) h3
  omega
theorem HistR.free {zs : List Seg} (h : HistR k s xs rs) (hl : zs.length = xs.length) (hst : ∀ i, stG zs i ≠ 0 → stG xs i ≠ 0 ∧ genG zs i = genG xs i ∧ usedG zs i = usedG xs i) : HistR k s zs rs :=
 ⟨fun i h1 h2 => by rw [(hst i h2).2.1]; exact h.hdr i (by omega) (hst i h2).1, fun i h1 h2 => by rw [(hst i h2).2.1, (hst i h2).2.2]; exact h.laid i (by omega) (hst i h2).1, fun i h1 h2 j h3 h4 => by rw [(hst i h2).2.1]; rw [(hst i h2).2.2] at h3; exact h.tail i (by omega) (hst i h2).1 j h3 h4, fun i j h1 h2 h3 => h.old i j (by omega) h2 h3⟩
theorem HistR.scan (h : HistR k s xs rs) (hok : OkR s.b xs) {i : Nat} (hi : i < xs.length) (h0 : stG xs i ≠ 0) (hg : 1 ≤ genG xs i ∧ genG xs i ≤ 18446744073709551615) :
 begunG (ldV (secsAt (strV k s i) 0 s.b.toNat) 0) i = genG xs i ∧ scanL (secsAt (strV k s i) 0 s.b.toNat) (genG xs i) (secsAt (strV k s i) 0 s.b.toNat).length 1 = rs i ∧ ((scanU (secsAt (strV k s i) 0 s.b.toNat) (genG xs i) (secsAt (strV k s i) 0 s.b.toNat).length 1 : Nat) : Int) = usedG xs i := by
 obtain ⟨b, hb⟩ : ∃ b : Nat, s.b = b := ⟨s.b.toNat, by have hz := hok.1; unfold SizedR at hz; omega⟩
 have hbb : 24 ≤ b ∧ b ≤ 64 := by have hz := hok.1; unfold SizedR at hz; omega
 have hl16 : xs.length ≤ 16 := by have hz := hok.1; unfold SizedR at hz; omega
 rw [show s.b.toNat = b by omega]
 have hV : ∀ j, j < b → ldV (secsAt (strV k s i) 0 b) j = strV k s i j := fun j hj => by
  unfold ldV
  rw [if_pos (by rw [secsAt_length]; exact hj)]
  unfold secsAt
  simp [List.getD, List.getElem?_map, List.getElem?_range hj]
 have hlen := secsAt_length (strV k s i) 0 b
 have hs := pack_said (genG xs i) 0 [(i : Int) / 256, (i : Int)] (by omega) hg.2 (by omega) (by omega) (by simp)
 have hps := pack_stamped (genG xs i) 0 [(i : Int) / 256, (i : Int)] hg.1 hg.2 (by omega) (by omega) (by simp)
 obtain ⟨e, e1, e2⟩ := h.laid i hi h0
 have hle := e2.le
 have hub := used_le hok hi
 refine ⟨?_, ?_⟩
 ·rw [hV 0 (by omega), h.hdr i hi h0]
  unfold begunG hdrL
  rw [hs.1, if_pos ⟨hps, rfl⟩]
 ·have hn : standE (ldV (secsAt (strV k s i) 0 b)) (ldE (secsAt (strV k s i) 0 b)) (genG xs i) e ≠ 0 := by
   by_cases he : e < b
   ·exact stand_not (by rw [hV e he]; exact h.tail i hi h0 e (by omega) (by omega))
   ·intro h9
    have := (stand_in h9).2
    have := (stand_in h9).1
    omega
  have h9 := scan_laid (gen := genG xs i) hg (by rw [hlen]; omega) (f := b) (e2.ext (W := ldV (secsAt (strV k s i) 0 b)) fun j h3 h4 => hV j (by omega)) (by rw [hlen]; omega) hn (by rw [hlen]; omega)
  rw [hlen]
  exact ⟨h9.1, by rw [h9.2, e1]⟩
theorem AtR.same {a : Int × Int × Int} {bs bs' : List Int} (h : AtR k s xs a bs) (h' : AtR k s xs a bs') (hok : OkR s.b xs) (hg : ∀ i, i < xs.length → usedG xs i ≠ 0 → 1 ≤ genG xs i ∧ genG xs i ≤ 18446744073709551615) : bs = bs' := by
 obtain ⟨h1, i, c, e, h2, h3, h4, h5⟩ := h
 obtain ⟨g1, i', c', e', g2, g3, g4, g5⟩ := h'
 rw [e] at e'
 injection e' with e1 e2
 injection e2 with e2 e3
 obtain rfl : i = i' := by omega
 obtain rfl : c = c' := by omega
 have hc := cnt_pos bs.length
 have hgi := hg i h2 (by omega)
 have hub := used_le hok h2
 have q1 := rec_stands (V := strV k s i) (E := fun _ => 0) (at_ := c) h1 h5 (fun j hj => rfl) hgi (by omega)
 have q2 := rec_stands (V := strV k s i) (E := fun _ => 0) (at_ := c) g1 g5 (fun j hj => rfl) hgi (by omega)
 have e4 : cntOf bs.length = cntOf bs'.length := q1.2.1.symm.trans q2.2.1
 rw [← q1.2.2, ← q2.2.2, e4]
theorem HistR.at (h : HistR k s xs rs) {i : Nat} (hi : i < xs.length) (h0 : stG xs i ≠ 0) {p : Nat × List Int} (hp : p ∈ rs i) : AtR k s xs ((i : Int), genG xs i, (p.1 : Int)) p.2 := by
 obtain ⟨e, e1, e2⟩ := h.laid i hi h0
 obtain ⟨g1, g2, g3, g4⟩ := e2.mem hp
 exact ⟨g1, i, p.1, rfl, hi, g2, by rw [e1]; omega, g4⟩
end
end
section
open Go.RowKit
def MoreH (xs : List Seg) (rs rs' : Nat → List (Nat × List Int)) (i u : Nat) (bs : List Int) : Prop := (∀ q, q ≠ i → rs' q = rs q) ∧ rs' i = (if stG xs i = 0 then [] else rs i) ++ [(u, bs)]
def AppHs (w : World) (X : Nat → Prop) (l p d n : Nat) (s : Sup) (t : Int) (k : Dk) (xs : List Seg) (pe : Nat) (bs : List Int) (e : Ending) (w' : World) : Prop :=
 Kept X w w' ∧ ((appR s xs (cntOf bs.length) = none ∧ e = .returned (.tuple #[adrW (0, 0, 0), .int .i64 6]) ∧ LgM w' X l p d n s t k xs pe) ∨
  ∃ i s1 xs1 t' k', appR s xs (cntOf bs.length) = some (i, s1, xs1) ∧ e = .returned (.tuple #[adrW ((i : Int), genG xs1 i, usedG xs1 i), .int .i64 0]) ∧ LgM w' X l p d n s1 t' k' (useX xs1 ((cntOf bs.length : Nat) : Int)) (pe + 17) ∧
   (s1 = s ∨ s1 = genS s) ∧ AtR k' s1 (useX xs1 ((cntOf bs.length : Nat) : Int)) ((i : Int), genG xs1 i, usedG xs1 i) bs ∧
   (∀ a bs', AtR k s xs a bs' → AtR k' s1 (useX xs1 ((cntOf bs.length : Nat) : Int)) a bs' ∧ a ≠ ((i : Int), genG xs1 i, usedG xs1 i)) ∧
   (∀ rs, HistR k s xs rs → ∃ (rs' : Nat → List (Nat × List Int)) (u : Nat), usedG xs1 i = u ∧ HistR k' s1 (useX xs1 ((cntOf bs.length : Nat) : Int)) rs' ∧ MoreH xs rs rs' i u bs) ∧
   ∀ q j : Nat, q ≠ i → (j : Int) < s.b → strV k' s1 q j = strV k s q j)
section
variable {n : Nat} {s : Sup} {k : Dk} {xs : List Seg}
theorem lay_other (hg : Good k) (hok : OkR s.b xs) (hn : k.held.length = n) (hroom : 2 + s.a * s.b ≤ (n : Int)) (hdim : (xs.length : Int) = s.a) {i : Nat} (ho : opnR xs = (i : Nat)) {bs : List Int} (hc : 1 ≤ cntOf bs.length ∧ cntOf bs.length ≤ 17) (hfit : ((cntOf bs.length : Nat) : Int) ≤ leftR s.b xs)
 (q j : Nat) (hq : q ≠ i) (hj : (j : Int) < s.b) : strV (layK k s xs i bs) s q j = strV k s q j := by
 obtain ⟨o1, o2, o3, o4, o5, o6⟩ := opn_bounds hok ho
 obtain ⟨b, hb⟩ : ∃ b : Nat, s.b = b := ⟨s.b.toNat, by have hz := hok.1; unfold SizedR at hz; omega⟩
 obtain ⟨u, hu⟩ : ∃ u : Nat, usedG xs i = u := ⟨(usedG xs i).toNat, by omega⟩
 have hroomN : 2 + xs.length * b ≤ n := by
  rw [← hdim, hb] at hroom
  have : ((xs.length * b : Nat) : Int) = (xs.length : Int) * (b : Int) := by push_cast; rfl
  omega
 rw [lay_V (seg := q) (j := j) (bs := bs) hg (a := xs.length) (b := b) (u := u) (i := i) hdim.symm hb hu hn hroomN o1 (by omega) (by omega), if_neg (fun h => hq h.1)]
end
section
variable {w : World} {X : Nat → Prop} {l p d n pe : Nat} {s : Sup} {t : Int} {k : Dk} {xs : List Seg}
theorem append_hist (h : LgM w X l p d n s t k xs pe) (hX : ∀ b, X b → b < w.heap.size) (hpe : pe ≤ 900000) (hgm : s.g + 1 ≤ 18446744073709551615) {k1 f x s1 : Int} {A1 A2 : Option Addr} {n1 c1 n2 c2 : Nat} {us vs : List Int} (hm : May k1 f x s1 n1 n2) (hr : Rng f x s1)
 (hx : RowI .u8 w (· < w.heap.size) A1 n1 us) (hy : RowI .u8 w (· < w.heap.size) A2 n2 vs) (hn1 : A1 = none → c1 = 0) (hn2 : A2 = none → c2 = 0) (hbu : Bytes us) (hbv : Bytes vs) :
 Calls Tryz.prog 9 #[.pointer (some ⟨l, 0, none⟩), .agg #[.int .i64 k1, .int .u32 f, .int .u32 x, .int .u64 s1, .slice A1 n1 c1, .slice A2 n2 c2]] w (AppHs w X l p d n s t k xs pe (recB k1 f x s1 us vs)) := by
 have hrok : RecOk (recB k1 f x s1 us vs) := rec_ok (by rw [hx.1, hy.1]; exact hm) hr hbu hbv
 have hlen : (recB k1 f x s1 us vs).length = 21 + n1 + n2 := by rw [recB_length, hx.1, hy.1]
 refine (append_good h hX hpe hgm hm hr hx hy hn1 hn2 hbu hbv).mono ?_
 rintro e w' ⟨h3, hk⟩
 rw [← hlen] at h3
 generalize recB k1 f x s1 us vs = bs at *
 have hc : 1 ≤ cntOf bs.length ∧ cntOf bs.length ≤ 17 := by have := hrok.len; unfold cntOf; omega
 have hhl : k.held.length = n := h.ok_k.heldLen
 rcases h3 with ⟨i, hi, hfit, rfl, hlg⟩ | ⟨hno, hnx, rfl, hlg⟩ | ⟨hno, i, hi, rfl, hlg⟩
 ·obtain ⟨g1, g2⟩ := lay_at h.good h.ok hhl h.room h.dims hi hrok hfit
  obtain ⟨o1, o2, o3, o4, o5, o6⟩ := opn_bounds h.ok hi
  refine ⟨hk, .inr ⟨i, s, xs, t, _, ?_, rfl, hlg.pe_le (by omega), .inl rfl, g1, g2, fun rs hrs => ?_, fun q j hq hj => ?_⟩⟩
  ·unfold appR
   rw [if_pos hfit, hi]
   simp
  ·obtain ⟨u, hu⟩ : ∃ u : Nat, usedG xs i = u := ⟨(usedG xs i).toNat, by omega⟩
   exact ⟨_, u, hu, hrs.lay h.good h.ok h.top (by omega) hhl h.room h.dims hi hu hrok hfit (by omega), fun q hq => if_neg hq, by dsimp only; rw [if_pos rfl, if_neg (show stG xs i ≠ 0 by rw [o6]; decide)]⟩
  ·exact lay_other h.good h.ok hhl h.room h.dims hi hc hfit q j hq hj
 ·refine ⟨hk, .inl ⟨?_, rfl, hlg⟩⟩
  unfold appR
  rw [if_neg (by omega), if_pos hnx]
 ·obtain ⟨f1, f2, f3, f4⟩ := turn_facts h hi
  have hz : sealedX s.b xs = if sealE s.b xs = 0 then sealX xs else xs := rfl
  have hE := turn_open h.ok hz h.top (by omega)
  obtain ⟨j, _, _, j3, _, _, j6, _, _, _, j10, _⟩ := open_facts hE
  obtain ⟨_, _, _, z4, _, z6, z7⟩ := seal_facts h.ok hz
  have hgb : Good (begK k s t i) := (((h.good.put _ _).sync).put _ _).sync
  have hb := h.may.2.2
  have hbl : (begK k s t i).held.length = n := by
   unfold begK setK
   rw [((h.good.put _ _).sync.put _ _).held_sync, (h.good.put _ _).sync.held_put, (h.good.put _ _).held_sync, h.good.held_put, List.length_set, List.length_set]
   exact hhl
  have hfit : ((cntOf bs.length : Nat) : Int) ≤ leftR s.b (openX (sealedX s.b xs) (s.g + 1)) := by rw [f4]; omega
  obtain ⟨g1, g2⟩ := lay_at (s := genS s) hgb j3 hbl h.room (by rw [j10, z6]; exact h.dims) f1 hrok hfit
  obtain ⟨o1, o2, o3, o4, _, _⟩ := opn_bounds j3 f1
  rw [f2, f3] at g1 g2
  obtain ⟨_, _, _, i9, _, i10, i11⟩ := open_zero hE
  rw [z4] at i10
  obtain rfl : i9 = i := by omega
  have hst0 : stG xs i9 = 0 := (z7 i9).1.1 i11
  refine ⟨hk, .inr ⟨i9, genS s, openX (sealedX s.b xs) (s.g + 1), nxt t, _, ?_, by rw [f2, f3], hlg.pe_le (by omega), .inr rfl, by rw [f2, f3]; exact g1, fun a bs' ha => ?_, fun rs hrs => ?_, fun q j hq hj => ?_⟩⟩
  ·unfold appR
   rw [if_neg (by omega), if_neg (by omega), hi]
   simp
  ·rw [f2, f3]
   exact g2 a bs' (beg_at h.good h.ok h.dims t hi hE ha)
  ·have hg0 : 0 ≤ s.g := Int.le_trans (top_nonneg h.ok) h.top
   have h1 := hrs.beg h.good h.ok hg0 hgm hhl h.room h.dims t hi hE
   have h2 := h1.lay (s := genS s) hgb j3 (by show topG _ ≤ s.g + 1; omega) hgm hbl h.room (by rw [j10, z6]; exact h.dims) f1 (u := 1) f3 hrok hfit (by omega)
   exact ⟨_, 1, f3, h2, fun q hq => by dsimp only; rw [if_neg hq, if_neg hq], by dsimp only; rw [if_pos rfl, if_pos rfl, if_pos hst0]⟩
  ·rw [lay_other (s := genS s) hgb j3 hbl h.room (by rw [j10, z6]; exact h.dims) f1 hc hfit q j hq hj]
   exact beg_V h.good (show s.b = ((s.b.toNat : Nat) : Int) by have := h.ok.1; unfold SizedR at this; omega) t q j (by omega) (.inr hq)
end
end
section
open Go.RowKit Go.ChangeShapes Go.WideShapes Go.Deep Go.Joins
structure RcI where
 k : Int
 f : Int
 x : Int
 s : Int
 A : Option Addr
 n : Nat
 c : Nat
 B : Option Addr
 m : Nat
 d : Nat
 z : List Int
 y : List Int
abbrev rcI0 : RcI := ⟨0, 0, 0, 0, none, 0, 0, none, 0, 0, [], []⟩
abbrev rcV (r : RcI) : List Value := [.int .i64 r.k, .int .u32 r.f, .int .u32 r.x, .int .u64 r.s, .slice r.A r.n r.c, .slice r.B r.m r.d]
abbrev RcI.Is (w : World) (r : RcI) : Prop := IsRec w r.k r.f r.x r.s r.A r.n r.c r.B r.m r.d r.z r.y
structure IsRecs (w : World) (A : Option Addr) (n c : Nat) (zs : List RcI) : Prop where
 row : RowQ rcV 6 rcI0 w (· < w.heap.size) A n zs
 rc : ∀ i, i < n → (zs.getD i rcI0).Is w
 nc : n ≤ c
 n63 : n ≤ 9223372036854775807
theorem IsRec.below {w w' : World} {k f x s : Int} {A : Option Addr} {n c : Nat} {B : Option Addr} {m d : Nat} {z y : List Int} (h : IsRec w k f x s A n c B m d z y) (hb : Below w.heap.size w w') : IsRec w' k f x s A n c B m d z y :=
 ⟨h.rng, h.k0, h.k1, (h.key.below hb (fun b h => h)).more (fun b h => nL h hb.size), (h.value.below hb (fun b h => h)).more (fun b h => nL h hb.size), h.bkey, h.bvalue, h.nc, h.md, h.n63, h.m63, h.nA, h.nB⟩
section
variable {H : Type} {enc : TypeId × Value → H} {w : World} {held : Bool}
theorem open_rec_cells {fuel : Nat} {cs : List Value} (hl6 : cs.length = 6) {y : DataW H × List MemPlace} (hf : DataW.trod enc Tryz.prog w 0 (fun _ => true) held fuel 33 cs = some y) :
 ∃ r : RcI, cs = rcV r ∧ r.Is w := by
 obtain ⟨ys, fu, _, _, _, hyl, hg⟩ := DataW.trod_struct Tryz.underlying33 hf
 have hone : ∀ t, t = 3 ∨ t = 29 ∨ t = 30 ∨ t = 31 → Tryz.prog.cellsOf t = 1 := by
  rintro t (rfl | rfl | rfl | rfl) <;> kernel_rfl
 have hy6 : ys.length = 6 := hyl
 match cs, hl6 with
 | [v0, v1, v2, v3, v4, v5], _ =>
  have g0 := hg 0 _ rfl
  have g1 := hg 1 _ rfl
  have g2 := hg 2 _ rfl
  have g3 := hg 3 _ rfl
  have g4 := hg 4 _ rfl
  have g5 := hg 5 _ rfl
  simp only [Value.cells, List.getElem_toArray, List.getElem_cons_zero, List.getElem_cons_succ, hone _ (.inl rfl), hone _ (.inr (.inl rfl)), hone _ (.inr (.inr (.inl rfl))), hone _ (.inr (.inr (.inr rfl))), List.drop_zero, List.drop_succ_cons, List.take_succ_cons, List.take_zero] at g0 g1 g2 g3 g4 g5
  rw [List.getElem?_eq_getElem (by omega)] at g0 g1 g2 g3 g4 g5
  obtain ⟨k, ek, _, wk⟩ := DataW.trod_int Tryz.underlying3 g0
  obtain ⟨f, ef, _, wf⟩ := DataW.trod_int Tryz.underlying29 g1
  obtain ⟨x, ex, _, wx⟩ := DataW.trod_int Tryz.underlying29 g2
  obtain ⟨s, es, _, ws⟩ := DataW.trod_int Tryz.underlying30 g3
  obtain ⟨A, n, c, z, rfl, hz, bz, nc, n63, nA⟩ := open_row8 g4
  obtain ⟨B, m, d', y, rfl, hy, by_, md, m63, nB⟩ := open_row8 g5
  injection ek with ek _
  injection ef with ef _
  injection ex with ex _
  injection es with es _
  subst ek ef ex es
  have ik : -9223372036854775808 ≤ k ∧ k ≤ 9223372036854775807 := by simpa [Lit.wf, IntKind.min, IntKind.max, IntKind.signed, IntKind.bits] using wk
  have jf : 0 ≤ f ∧ f ≤ 4294967295 := by simpa [Lit.wf, IntKind.min, IntKind.max, IntKind.signed, IntKind.bits] using wf
  have jx : 0 ≤ x ∧ x ≤ 4294967295 := by simpa [Lit.wf, IntKind.min, IntKind.max, IntKind.signed, IntKind.bits] using wx
  have js : 0 ≤ s ∧ s ≤ 18446744073709551615 := by simpa [Lit.wf, IntKind.min, IntKind.max, IntKind.signed, IntKind.bits] using ws
  exact ⟨⟨k, f, x, s, A, n, c, B, m, d', z, y⟩, rfl, ⟨⟨jf.1, jf.2, jx.1, jx.2, js.1, js.2⟩, ik.1, ik.2, hz, hy, bz, by_, nc, md, n63, m63, nA, nB⟩⟩
theorem open_recs {t : TypeId} {fuel : Nat} {cs : List Value} {x : DataW H × List MemPlace} (ht : Tryz.prog.underlying t = some (.slice 33))
 (h : DataW.trod enc Tryz.prog w 0 (fun _ => true) held fuel t cs = some x) :
 ∃ a len cap zs, cs = [.slice a len cap] ∧ IsRecs w a len cap zs := by
 have hc6 : Tryz.prog.cellsOf 33 = 6 := by kernel_rfl
 rcases open_slice ht h with ⟨rfl, _⟩ | ⟨a, len, cap, m, n, D, Pl, rfl, hb, hl, hm, hmm, rfl, hi⟩
 ·exact ⟨none, 0, 0, [], rfl, RowQ.nil _ _ _ _ _ _, fun i hi => absurd hi (by omega), nR _, by omega⟩
 ·simp only [if_true] at hmm
  subst hmm
  have key : ∀ i, i < m → ∃ z : RcI, z.Is w ∧ ∀ j, j < 6 → w.cell? (a.add (i * 6 + j)) = (rcV z)[j]? := by
   intro i him
   obtain ⟨cs', hc, ht'⟩ := hi i him
   rw [hc6] at hc
   obtain ⟨_, hcl, hat⟩ := World.cells?_some hc
   obtain ⟨r, rfl, hz⟩ := open_rec_cells hcl ht'
   refine ⟨r, hz, fun j hj => ?_⟩
   have h1 := hat j hj
   rw [Go.Deep.add_add] at h1
   exact h1
  have : ∀ k, k ≤ m → ∃ zs : List RcI, zs.length = k ∧ ∀ i, i < k → (zs.getD i rcI0).Is w ∧ ∀ j, j < 6 → w.cell? (a.add (i * 6 + j)) = (rcV (zs.getD i rcI0))[j]? := by
   intro k
   induction k with
   | zero => intro _; exact ⟨[], rfl, fun i hi => by omega⟩
   | succ k ih =>
    intro hk
    obtain ⟨zs, hzl, hz⟩ := ih (by omega)
    obtain ⟨z, h1, h2⟩ := key k (by omega)
    refine ⟨zs ++ [z], by simp [hzl], fun i hi => ?_⟩
    by_cases e : i < k
    ·have e2 : (zs ++ [z]).getD i rcI0 = zs.getD i rcI0 := by simp [List.getD, List.getElem?_append_left (show i < zs.length by omega)]
     rw [e2]
     exact hz i e
    ·obtain rfl : i = k := by omega
     have e2 : (zs ++ [z]).getD i rcI0 = z := by simp [List.getD, List.getElem?_append_right (show zs.length ≤ i by omega), hzl]
     rw [e2]
     exact ⟨h1, h2⟩
  obtain ⟨zs, hzl, hz⟩ := this m (nR _)
  have hget : ∀ i, i < len → ((zs.take len).getD i rcI0) = zs.getD i rcI0 := fun i hi => by
   simp [List.getD, List.getElem?_take, hi]
  refine ⟨some a, len, m, zs.take len, rfl, ⟨by simp; omega, fun hn => ?_⟩, fun i hi => by rw [hget i hi]; exact (hz i (by omega)).1, hl, by have := hm; unfold maxLen at this; omega⟩
  obtain ⟨b, off, spot⟩ := a
  have h0 := (hz 0 (by omega)).2 0 (by omega)
  have h0' : w.cell? ⟨b, off, spot⟩ = some (.int .i64 (zs.getD 0 rcI0).k) := by simpa [Addr.add] using h0
  have hspot : spot = none := World.cell?_spot h0'
  subst hspot
  refine ⟨b, off, rfl, block_lt_of_cell h0', fun i hi j v hv => ?_⟩
  rw [hget i hi] at hv
  have hj : j < 6 := by have := (List.getElem?_eq_some_iff.1 hv).1; simpa using this
  have h2 := (hz i (by omega)).2 j hj
  rw [add_plain] at h2
  rw [Nat.add_assoc, h2, hv]
end
end
section
open Go.RowKit
structure OrdS (xs : List Seg) (m : Nat) : Prop where
 len : xs.length = 4
 le : m ≤ 4
 live : ∀ q, q < 4 → (stG xs q = 0 ↔ m ≤ q)
 opn : opnR xs = (m : Int) - 1
 lat : latR xs = (m : Int) - 1
section
variable {xs : List Seg} {m : Nat}
theorem nxt_pos (xs : List Seg) (a : Int) (m : Nat) (h1 : (a + 1).toNat % xs.length = m) (h0 : stG xs m = 0) : ∀ k, nxtTo xs a (k + 1) = (m : Int)
 | 0 => by
  unfold nxtTo
  rw [if_neg (by unfold nxtTo; omega)]
  have e : (a + 1 + ((0 : Nat) : Int)).toNat = (a + 1).toNat := by simp
  rw [e, h1, if_pos h0]
 | k + 1 => by
  have ih := nxt_pos xs a m h1 h0 k
  rw [nxtTo, ih, if_pos (by omega)]
theorem OrdS.next (h : OrdS xs m) (hm : m < 4) : nxtR xs = (m : Int) := by
 unfold nxtR
 rw [h.lat, h.len]
 exact nxt_pos xs _ m (by rw [h.len]; omega) ((h.live m hm).2 (nR _)) 3
theorem OrdS.start : OrdS (List.replicate 4 seg0) 0 := by
 refine ⟨rfl, by omega, fun q hq => ?_, by decide +kernel, by decide +kernel⟩
 have h : q = 0 ∨ q = 1 ∨ q = 2 ∨ q = 3 := by omega
 rcases h with rfl | rfl | rfl | rfl <;> exact ⟨fun _ => by omega, fun _ => by decide⟩
theorem OrdS.app {s : Sup} (h : OrdS xs m) (hok : OkR s.b xs) (htop : topG xs ≤ s.g) {K : Nat} (hK : 1 ≤ K ∧ K ≤ 17) {i : Nat} {s1 : Sup} {xs1 : List Seg} (ha : appR s xs K = some (i, s1, xs1)) :
 i < 4 ∧ OrdS (useX xs1 (K : Int)) (i + 1) ∧ m ≤ i + 1 ∧ (∀ q, q ≠ i → genG (useX xs1 (K : Int)) q = genG xs q) ∧ (stG xs i ≠ 0 → genG xs1 i = genG xs i) ∧ genG (useX xs1 (K : Int)) i = genG xs1 i ∧ (stG xs i = 0 → m = i) ∧ (s1 = s ∨ s1 = genS s) := by
 have hb : 24 ≤ s.b := by have hz := hok.1; unfold SizedR at hz; omega
 unfold appR at ha
 split at ha
 ·rename_i hfit
  injection ha with ha
  injection ha with e1 e2
  injection e2 with e2 e3
  subst e2 e3
  obtain ⟨j, hj⟩ := left_open hok (by omega) hfit
  obtain ⟨o1, o2, o3, o4, o5, o6⟩ := opn_bounds hok hj
  obtain rfl : i = j := by omega
  have hE := use_zero hok (n := (K : Int)) (by omega) (by omega) hfit
  obtain ⟨i2, u1, u2, u3, u4, u5, u6, u7, u8, u9, u10, u11⟩ := use_facts hE
  obtain rfl : i = i2 := by omega
  have hm : m = i + 1 := by have := h.opn; omega
  subst hm
  refine ⟨by have := h.len; omega, ⟨by rw [u9]; exact h.len, h.le, fun q hq => ?_, by rw [u4]; omega, by rw [u5]; omega⟩, nR _, fun q hq => ?_, fun _ => rfl, u7, fun h0 => ?_, .inl rfl⟩
  ·rw [u10, st_set9 u1]
   by_cases e : i = q
   ·subst e; rw [if_pos rfl]; exact ⟨fun h => absurd (show (1 : Int) = 0 from h) (by decide), fun h => by omega⟩
   ·rw [if_neg e]; exact h.live q hq
  ·rw [u10, gen_set u1, if_neg (Ne.symm hq)]
  ·rw [o6] at h0; exact absurd h0 (by decide)
 ·rename_i hfit
  split at ha
  ·cases ha
  rename_i hnx
  injection ha with ha
  injection ha with e1 e2
  injection e2 with e2 e3
  subst e2 e3
  obtain ⟨j, hj⟩ : ∃ j : Nat, nxtR xs = j := ⟨(nxtR xs).toNat, by omega⟩
  obtain rfl : i = j := by omega
  have hz : sealedX s.b xs = if sealE s.b xs = 0 then sealX xs else xs := rfl
  obtain ⟨z1, z2, z3, z4, z5, z6, z7⟩ := seal_facts hok hz
  have hE := turn_open hok hz htop (by omega)
  obtain ⟨j2, j1, j22, j3, j4, j5, j6, j7, j8, j9, j10, j11⟩ := open_facts hE
  obtain rfl : i = j2 := by omega
  obtain ⟨_, _, _, i9, _, i10, i11⟩ := open_zero hE
  obtain rfl : i = i9 := by omega
  have hst0 : stG xs i = 0 := (z7 i).1.1 i11
  have hi4 : i < 4 := by have := h.len; rw [z6] at j1; omega
  have hm : m = i := by
   have h1 := (h.live i hi4).1 hst0
   have h2 := h.next (by omega)
   omega
  subst hm
  have hE2 := use_zero j3 (n := (K : Int)) (by omega) (by omega) (by rw [j9]; omega)
  obtain ⟨i2, u1, u2, u3, u4, u5, u6, u7, u8, u9, u10, u11⟩ := use_facts hE2
  obtain rfl : m = i2 := by omega
  refine ⟨hi4, ⟨by rw [u9, j10, z6]; exact h.len, by omega, fun q hq => ?_, by rw [u4]; omega, by rw [u5]; omega⟩, by omega, fun q hq => ?_, fun h0 => absurd hst0 h0, u7, fun _ => rfl, .inr rfl⟩
  ·rw [u10, st_set9 u1]
   by_cases e : m = q
   ·subst e; rw [if_pos rfl]; exact ⟨fun h => absurd (show (1 : Int) = 0 from h) (by decide), fun h => by omega⟩
   ·rw [if_neg e, j11, st_set9 j1, if_neg e, (z7 q).1, h.live q hq]
    omega
  ·rw [u10, gen_set u1, if_neg (Ne.symm hq), j11, gen_set j1, if_neg (Ne.symm hq), (z7 q).2.1]
end
def segL (rs : Nat → List (Nat × List Int)) (xs : List Seg) (q : Nat) : List ((Nat × Int) × (Nat × List Int)) := (rs q).map fun p => ((q, genG xs q), p)
def preL (rs : Nat → List (Nat × List Int)) (xs : List Seg) : Nat → List ((Nat × Int) × (Nat × List Int))
 | 0 => []
 | k + 1 => preL rs xs k ++ segL rs xs k
section
variable {rs rs' : Nat → List (Nat × List Int)} {xs ys : List Seg} {i u : Nat} {bs : List Int}
theorem seg_same {q : Nat} (h1 : rs' q = rs q) (h2 : genG ys q = genG xs q) : segL rs' ys q = segL rs xs q := by unfold segL; rw [h1, h2]
theorem pre_app (hne : ∀ q, q ≠ i → segL rs' ys q = segL rs xs q) (hi : segL rs' ys i = segL rs xs i ++ [((i, genG ys i), (u, bs))]) (h0 : ∀ q, i < q → q < 4 → segL rs xs q = []) :
 ∀ k, k ≤ 4 → preL rs' ys k = if i < k then preL rs xs k ++ [((i, genG ys i), (u, bs))] else preL rs xs k
 | 0, _ => by rw [if_neg (by omega)]; rfl
 | k + 1, hk => by
  have ih := pre_app hne hi h0 k (by omega)
  rw [preL, ih]
  by_cases e : i = k
  ·subst e
   rw [if_neg (by omega), if_pos (by omega), hi, preL, List.append_assoc]
  ·rw [hne k (fun h => e h.symm)]
   by_cases e2 : i < k
   ·rw [if_pos e2, if_pos (by omega), preL, h0 k e2 (by omega), List.append_nil, List.append_nil]
   ·rw [if_neg e2, if_neg (by omega), preL]
end
structure PuE where
 q : Nat
 g : Int
 c : Nat
 r : RcI
def PuE.pl (e : PuE) : PlM.Pl := ⟨(e.q : Int), e.g, (e.c : Int), e.r.k, e.r.f, e.r.x, e.r.s, e.r.A, e.r.n, e.r.c, e.r.B, e.r.m, e.r.d⟩
def PuE.bs (e : PuE) : List Int := recB e.r.k e.r.f e.r.x e.r.s e.r.z e.r.y
def PuE.at_ (e : PuE) : (Nat × Int) × (Nat × List Int) := ((e.q, e.g), (e.c, e.bs))
structure PutH (w0 : World) (k : Dk) (s : Sup) (xs : List Seg) (rs : Nat → List (Nat × List Int)) (m : Nat) (L : List PuE) : Prop where
 hist : HistR k s xs rs
 ord : OrdS xs m
 nil : ∀ q, m ≤ q → rs q = []
 zer : ∀ q j : Nat, m ≤ q → q < 4 → (j : Int) < s.b → strV k s q j = noughts 64
 all : L.map PuE.at_ = preL rs xs 4
 rec_ : ∀ e, e ∈ L → e.r.Is w0 ∧ May e.r.k e.r.f e.r.x e.r.s e.r.n e.r.m
section
variable {w0 : World} {k k' : Dk} {s s1 : Sup} {xs xs1 : List Seg} {rs : Nat → List (Nat × List Int)} {m i : Nat} {L : List PuE}
theorem PutH.app (h : PutH w0 k s xs rs m L) (hok : OkR s.b xs) (htop : topG xs ≤ s.g) {r : RcI} (hr : r.Is w0) (hmay : May r.k r.f r.x r.s r.n r.m) {bs : List Int} (hbs : recB r.k r.f r.x r.s r.z r.y = bs) (hK : 1 ≤ cntOf bs.length ∧ cntOf bs.length ≤ 17)
 (ha : appR s xs (cntOf bs.length) = some (i, s1, xs1)) {rs' : Nat → List (Nat × List Int)} {u : Nat} (hu : usedG xs1 i = u) (hh : HistR k' s1 (useX xs1 ((cntOf bs.length : Nat) : Int)) rs') (hm : MoreH xs rs rs' i u bs)
 (hV : ∀ q j : Nat, q ≠ i → (j : Int) < s.b → strV k' s1 q j = strV k s q j) :
 PutH w0 k' s1 (useX xs1 ((cntOf bs.length : Nat) : Int)) rs' (i + 1) (L ++ [⟨i, genG xs1 i, u, r⟩]) := by
 obtain ⟨a1, a2, a3, a4, a5, a6, a7, a8⟩ := h.ord.app hok htop hK ha
 have hb : s1.b = s.b := by rcases a8 with rfl | rfl <;> rfl
 have hseg : segL rs' (useX xs1 ((cntOf bs.length : Nat) : Int)) i = segL rs xs i ++ [((i, genG (useX xs1 ((cntOf bs.length : Nat) : Int)) i), (u, bs))] := by
  unfold segL
  rw [hm.2, a6]
  by_cases h0 : stG xs i = 0
  ·rw [if_pos h0, h.nil i (by have := a7 h0; omega)]
   rfl
  ·rw [if_neg h0, a5 h0, List.map_append]
   rfl
 refine ⟨hh, a2, fun q hq => ?_, fun q j hq hq4 hj => ?_, ?_, fun e he => ?_⟩
 ·rw [hm.1 q (by omega)]
  exact h.nil q (by omega)
 ·rw [hb] at hj
  rw [hV q j (by omega) hj]
  exact h.zer q j (by omega) hq4 hj
 ·rw [pre_app (i := i) (u := u) (bs := bs) (rs := rs) (xs := xs) (fun q hq => seg_same (hm.1 q hq) (a4 q hq)) hseg (fun q h1 h2 => by unfold segL; rw [h.nil q (by omega)]; rfl) 4 (nR _), if_pos a1, List.map_append, h.all, a6]
  unfold PuE.at_ PuE.bs
  simp only [List.map_cons, List.map_nil, hbs]
 ·rcases List.mem_append.1 he with he | he
  ·exact h.rec_ e he
  ·rw [List.mem_singleton.1 he]
   exact ⟨hr, hmay⟩
theorem preL_len (rs : Nat → List (Nat × List Int)) (xs : List Seg) (k : Nat) : (preL rs xs (k + 1)).length = (preL rs xs k).length + (rs k).length := by
 rw [preL, List.length_append]
 unfold segL
 rw [List.length_map]
theorem preL_get {k j : Nat} (hk : k < 4) (hj : j < (rs k).length) : (preL rs xs 4)[(preL rs xs k).length + j]? = some ((k, genG xs k), (rs k)[j]) := by
 have key : ∀ n, k < n → n ≤ 4 → (preL rs xs n)[(preL rs xs k).length + j]? = some ((k, genG xs k), (rs k)[j]) := by
  intro n
  induction n with
  | zero => intro h; omega
  | succ n ih =>
   intro h1 h2
   rw [preL]
   by_cases e : k = n
   ·subst e
    rw [List.getElem?_append_right (Nat.le_add_right _ _), Nat.add_sub_cancel_left]
    unfold segL
    rw [List.getElem?_map, List.getElem?_eq_getElem hj]
    rfl
   ·rw [List.getElem?_append_left, ih (by omega) (by omega)]
    have h3 := ih (by omega) (by omega)
    exact (List.getElem?_eq_some_iff.1 h3).1
 exact key 4 hk (nR _)
theorem PutH.get (h : PutH w0 k s xs rs m L) {q j : Nat} (hq : q < 4) (hj : j < (rs q).length) : ∃ e, L[(preL rs xs q).length + j]? = some e ∧ e.q = q ∧ e.g = genG xs q ∧ e.c = (rs q)[j].1 ∧ e.bs = (rs q)[j].2 := by
 have h1 := preL_get (rs := rs) (xs := xs) hq hj
 rw [← h.all, List.getElem?_map] at h1
 obtain ⟨e, he⟩ : ∃ e, L[(preL rs xs q).length + j]? = some e := by
  rcases he : L[(preL rs xs q).length + j]? with _ | e
  ·rw [he] at h1; cases h1
  ·exact ⟨e, rfl⟩
 rw [he] at h1
 simp only [Option.map_some, Option.some.injEq] at h1
 unfold PuE.at_ at h1
 injection h1 with h2 h3
 injection h2 with h4 h5
 have h6 : e.c = (rs q)[j].1 := by rw [← h3]
 have h7 : e.bs = (rs q)[j].2 := by rw [← h3]
 exact ⟨e, he, h4, h5, h6, h7⟩
theorem PutH.length (h : PutH w0 k s xs rs m L) : L.length = (preL rs xs 4).length := by rw [← h.all, List.length_map]
end
end
section
open Go.RowKit
section
variable {w : World} {X : Nat → Prop} {l p d n pe : Nat} {s : Sup} {t : Int} {k : Dk} {xs : List Seg}
theorem LgM.gen (h : LgM w X l p d n s t k xs pe) {i : Nat} (h2 : i < xs.length) (h0 : stG xs i ≠ 0) : 1 ≤ genG xs i ∧ genG xs i ≤ 18446744073709551615 := by
 have h9 := h.top
 have h8 := top_max h2 h0
 have h7 := (may_live (may_at h.ok.2.1 h2) h0).2.1
 have h6 := h.sin
 simp only [Sup.In, InS] at h6
 have : genG xs i = (xs.getD i seg0).2.1 := rfl
 omega
theorem begun_nought (i : Nat) : begunG (noughts 64) i = 0 := by
 unfold begunG
 rw [if_neg (fun h => by have := h.1; rw [noughts_not] at this; cases this)]
theorem PutH.scan {w0 : World} {rs : Nat → List (Nat × List Int)} {m : Nat} {L : List PuE} (h : PutH w0 k s xs rs m L) (hl : LgM w X l p d n s t k xs pe) {q : Nat} (hq : q < 4) :
 (begunG (ldV (secsAt (strV k s q) 0 s.b.toNat) 0) q = 0 → rs q = []) ∧ (begunG (ldV (secsAt (strV k s q) 0 s.b.toNat) 0) q ≠ 0 → begunG (ldV (secsAt (strV k s q) 0 s.b.toNat) 0) q = genG xs q ∧ stG xs q ≠ 0 ∧
  scanL (secsAt (strV k s q) 0 s.b.toNat) (begunG (ldV (secsAt (strV k s q) 0 s.b.toNat) 0) q) (secsAt (strV k s q) 0 s.b.toNat).length 1 = rs q) := by
 have hb : 24 ≤ s.b := by have hz := hl.ok.1; unfold SizedR at hz; omega
 have hqx : q < xs.length := by rw [h.ord.len]; exact hq
 by_cases h0 : stG xs q = 0
 ·have hm := (h.ord.live q hq).1 h0
  have e0 : ldV (secsAt (strV k s q) 0 s.b.toNat) 0 = noughts 64 := by
   unfold ldV
   rw [if_pos (by rw [secsAt_length]; omega)]
   unfold secsAt
   have e1 : (List.map (fun i => strV k s q (0 + i)) (List.range s.b.toNat)).getD 0 [] = strV k s q 0 := by
    simp [List.getD, List.getElem?_map, List.getElem?_range (show 0 < s.b.toNat by omega)]
   rw [e1]
   exact h.zer q 0 hm hq (by omega)
  rw [e0, begun_nought]
  exact ⟨fun _ => h.nil q hm, fun h9 => absurd rfl h9⟩
 ·have hg := hl.gen hqx h0
  obtain ⟨g1, g2, g3⟩ := h.hist.scan hl.ok hqx h0 hg
  rw [g1]
  exact ⟨fun h9 => by omega, fun _ => ⟨rfl, h0, g2⟩⟩
end
end
section
open Go.RowKit
def ScanG (w : World) (X : Nat → Prop) (l p d n : Nat) (s : Sup) (t : Int) (k : Dk) (xs : List Seg) (pe seg : Nat) (e : Ending) (w' : World) : Prop :=
 ∃ k' A c ts gen used m, e = .returned (.tuple #[.agg (scanC gen used (.slice A ts.length c)), .int .i64 0]) ∧ w.heap.size ≤ m ∧ LgM w' (fun b => X b ∨ (m ≤ b ∧ b < w'.heap.size)) l p d n s t k' xs pe ∧ k'.held = k.held ∧ Kept X w w' ∧
  gen = begunG (ldV (secsAt (strV k s seg) 0 s.b.toNat) 0) seg ∧ (gen = 0 → used = 0 ∧ ts = []) ∧
  (gen ≠ 0 → used = (scanU (secsAt (strV k s seg) 0 s.b.toNat) gen (secsAt (strV k s seg) 0 s.b.toNat).length 1 : Nat) ∧ ts.map Tl.two = scanL (secsAt (strV k s seg) 0 s.b.toNat) gen (secsAt (strV k s seg) 0 s.b.toNat).length 1) ∧ ToldS w' m seg gen A c ts
section
variable {w w' : World} {X : Nat → Prop} {l p d n pe : Nat} {s : Sup} {t : Int} {k : Dk} {xs : List Seg}
theorem scan_lg (h : LgM w X l p d n s t k xs pe) (hX : ∀ b, X b → b < w.heap.size) (seg : Nat) (hseg : (seg : Int) < s.a) :
 Calls Tryz.prog 10 #[.pointer (some ⟨p, 0, none⟩), .int .i64 seg] w (ScanG w X l p d n s t k xs pe seg) := by
 obtain ⟨A, c, ⟨h1, h2, R, h3, h4, h5⟩, hc, hA⟩ := h.log
 refine (scan_good (X := fun b => X b ∨ b = l ∨ R b) h3 (fun b hb => by
  rcases hb with hb | rfl | hb
  ·exact hX b hb
  ·exact h1.lt
  ·exact (h5 b hb).1) h.may h.good h.ok_k seg hseg h.room h.n2.2).mono ?_
 rintro e w' ⟨k', A5, c5, ts, gen, used, m5, rfl, hm5, hst, hg, hh, hp, hk5, hgen, hg0, hg1, htold⟩
 refine ⟨k', A5, c5, ts, gen, used, m5, rfl, hm5, ⟨⟨A, c, ⟨h1.kept hk5 (.inr (.inl rfl)), fun e => ?_, R, ?_, h4.kept hk5 (fun b hb => .inr (.inr hb)), fun b hb => ⟨nL (h5 b hb).1 hk5.size, (h5 b hb).2.1, fun e => ?_⟩⟩, hc, hA⟩, hg, h.ok, h.top, h.may, h.sin, h.dims, h.n2, h.room, by rw [hp]; exact h.pend⟩, hh, hk5.mono (fun b hb => .inl hb), hgen, hg0, hg1, htold⟩
 ·rcases e with e | ⟨e, _⟩
  ·exact h2 e
  ·have := h1.lt; omega
 ·refine StoreM.kept (Z := fun _ => True) hst (Kept.refl _ _) (fun _ _ _ => trivial) (fun b _ hb => ?_)
  rcases hb with (hb | hb) | hb | hb
  ·exact .inl (.inl hb)
  ·exact .inr hb
  ·exact .inl (.inr (.inl hb))
  ·exact .inl (.inr (.inr hb))
 ·rcases e with e | ⟨e, _⟩
  ·exact (h5 b hb).2.2 e
  ·have := (h5 b hb).1; omega
theorem LgM.offG {S : Nat → Prop} (h : LgM w X l p d n s t k xs pe) (hk : Kept S w w') (hS : ∀ b, b < w.heap.size → ¬ X b → S b) : LgM w' (fun b => X b ∨ (w.heap.size ≤ b ∧ b < w'.heap.size)) l p d n s t k xs pe := by
 obtain ⟨A, c, ⟨h1, h2, R, h3, h4, h5⟩, hc, hA⟩ := h.log
 refine ⟨⟨A, c, ⟨h1.kept hk (hS _ h1.lt h2), fun e => ?_, R, StoreM.kept h3 hk (fun b hb hx => hS b hb (fun e => hx (.inl e))) (fun b hb hy => ?_), h4.kept hk (fun b hb => hS b (h5 b hb).1 (h5 b hb).2.2), fun b hb => ⟨nL (h5 b hb).1 hk.size, (h5 b hb).2.1, fun e => ?_⟩⟩, hc, hA⟩, h.good, h.ok, h.top, h.may, h.sin, h.dims, h.n2, h.room, h.pend⟩
 ·rcases e with e | ⟨e, _⟩
  ·exact h2 e
  ·have := h1.lt; omega
 ·rcases hy with (hy | hy) | hy
  ·exact .inl hy
  ·omega
  ·exact .inr hy
 ·rcases e with e | ⟨e, _⟩
  ·exact (h5 b hb).2.2 e
  ·have := (h5 b hb).1; omega
end
end
section
open Go.RowKit
def reS (s : Sup) (q : Int) : Sup := ⟨s.a, s.b, s.g, q, s.v, s.f⟩
def reK (k : Dk) (s : Sup) (t q : Int) : Dk := (k.wr (Dk.put (secOf t) (supL s.a s.b s.g q s.v s.f (nxt t)))).wr Dk.sync
section
variable {w w' : World} {X Y : Nat → Prop} {l p d n pe : Nat} {s : Sup} {t q : Int} {k : Dk} {xs : List Seg} {a : Int × Int × Int} {bs : List Int}
theorem re_V (hg : Good k) (seg j : Nat) : strV (reK k s t q) (reS s q) seg j = strV k s seg j := by
 unfold strV
 show (if (j : Int) < s.b then (reK k s t q).held.getD (2 + (seg : Int) * s.b + j).toNat [] else noughts 64) = _
 by_cases h : (j : Int) < s.b
 ·rw [if_pos h, if_pos h]
  have h0 : 0 ≤ (seg : Int) * s.b := Int.mul_nonneg (by omega) (by omega)
  have h1 := sec_lt t
  unfold reK
  rw [(hg.put _ _).held_sync, hg.held_put]
  simp only [List.getD]
  rw [List.getElem?_set_ne (by omega)]
 ·rw [if_neg h, if_neg h]
theorem reK_good (hg : Good k) : Good (reK k s t q) := (hg.put _ _).sync
theorem reK_pend (hg : Good k) : (reK k s t q).pend = [] := (hg.put _ _).pend_sync
theorem sto_setR {A : Option Addr} {m c : Nat} (h1 : LogM w X l p d n s t k s.b A m c xs false) (hX : ∀ b, X b → b < w.heap.size) (hin : s.In) (hmay : s.May) (hgd : Good k) (hp : k.pend.length ≤ 1000000) (hn : 2 ≤ n) (hq : s.r ≤ q) (hq2 : q ≤ s.g) :
 Calls Tryz.prog 61 #[.pointer (some ⟨p, 0, none⟩), .agg (supC s.a s.b s.g q s.v s.f)] w fun e w' => e = .returned (.int .i64 0) ∧ LogM w' X l p d n (reS s q) (nxt t) (reK k s t q) s.b A m c xs false ∧ Kept X w w' := by
 obtain ⟨h1, h2, R, h3, h4, h5⟩ := h1
 refine (set_go (w := w) (X := fun b => X b ∨ b = l ∨ R b) h3 (fun b hb => by
  rcases hb with hb | rfl | hb
  ·exact hX b hb
  ·exact h1.lt
  ·exact (h5 b hb).1) s.g q s.v s.f (by unfold Sup.May MayS at hmay; unfold MayS; unfold Sup.In InS at hin; omega) (by unfold Sup.In InS at hin; unfold InS; omega) (by unfold BackS; omega) hn hp hgd.wre (hgd.put _ _).wre).mono ?_
 rintro e w1 ⟨rfl, hs, hk⟩
 exact ⟨rfl, ⟨h1.kept hk (.inr (.inl rfl)), h2, R, hs, h4.kept hk (fun b hb => .inr (.inr hb)), fun b hb => ⟨nL (h5 b hb).1 hk.size, (h5 b hb).2⟩⟩, hk.mono (fun b hb => .inl hb)⟩
end
section
variable {sec : Int} {xs : List Seg} {i : Nat}
theorem free_st (hi : i < xs.length) (j : Nat) : stG (freeX xs i) j = if i = j then 0 else stG xs j := by
 unfold freeX
 rw [Int.toNat_natCast]
 unfold stG
 by_cases e : i = j
 ·subst e; simp [List.getD, hi]
 ·simp [List.getD, List.getElem?_set_ne e, e]
theorem free_gen (hi : i < xs.length) (j : Nat) (h : i ≠ j) : genG (freeX xs i) j = genG xs j ∧ usedG (freeX xs i) j = usedG xs j := by
 unfold freeX
 rw [Int.toNat_natCast]
 unfold genG usedG
 simp [List.getD, List.getElem?_set_ne h]
theorem free_len : (freeX xs i).length = xs.length := by unfold freeX; rw [List.length_set]
theorem free_top (hok : OkR sec xs) (hi : i < xs.length) : topG (freeX xs i) ≤ topG xs := by
 have h0 := top_nonneg hok
 rcases lat_or (freeX xs i) with ⟨e, _⟩ | ⟨j, hj, e, hs, _⟩
 ·unfold topG
  rw [e, if_pos (by omega)]
  exact h0
 ·have hne : i ≠ j := fun e2 => hs (by rw [free_st hi, if_pos e2])
  rw [free_st hi, if_neg hne] at hs
  have h2 := top_max (xs := xs) (j := j) (by rw [free_len] at hj; exact hj) hs
  unfold topG
  rw [e, if_neg (by omega), Int.toNat_natCast, (free_gen hi j hne).1]
  exact h2
theorem old_free (hok : OkR sec xs) (ho : oldR xs = (i : Nat)) : i < xs.length ∧ stG xs i = 2 ∧ freeE sec xs i = 0 := by
 rcases old_or xs with ⟨e, _⟩ | ⟨j, hj, e, hs, _⟩
 ·omega
 ·obtain rfl : i = j := by omega
  exact ⟨hj, hs, free_go hok hj hs⟩
end
end
section
open Go.RowKit
structure LrS (w0 : World) (b1 l p d base : Nat) (W : World) (X : Nat → Prop) (v : Value) (L M : List PuE) (s : Sup) (t : Int) (k : Dk) (xs : List Seg) (rs : Nat → List (Nat × List Int)) (m pe : Nat) : Prop where
 lg : LgM W X l p d 1026 s t k xs pe
 lt : ∀ b, X b → b < W.heap.size
 x0 : ∀ b, b < b1 → X b
 bb : w0.heap.size ≤ b1 ∧ b1 ≤ base ∧ base ≤ W.heap.size
 own : W.ownsRow base 40 9 v M.length (PlM.flatG (M.map PuE.pl))
 ownX : ∀ g, v.ownBlock = some g → X g
 put : PutH w0 k s xs rs m L
 sup : s.a = 4 ∧ s.b = 30 ∧ s.r = 0
 bel : Below w0.heap.size w0 W
section
variable {w0 : World} {b1 l p d base : Nat} {W W' : World} {X : Nat → Prop} {v v' : Value} {L M : List PuE} {s : Sup} {t : Int} {k : Dk} {xs : List Seg} {rs : Nat → List (Nat × List Int)} {m pe : Nat}
theorem LrS.grow (h : LrS w0 b1 l p d base W X v L M s t k xs rs m pe) (hb : Below W.heap.size W W') : LrS w0 b1 l p d base W' (fun b => X b ∨ (W.heap.size ≤ b ∧ b < W'.heap.size)) v L M s t k xs rs m pe :=
 ⟨h.lg.grow hb, grow_lt h.lt hb.size, fun b hb => .inl (h.x0 b hb), ⟨h.bb.1, h.bb.2.1, nT h.bb.2.2 hb.size⟩, own_kept h.own (Kept.of_below hb h.lt) h.ownX, fun g hg => .inl (h.ownX g hg), h.put, h.sup, h.bel.trans (hb.mono h.bel.size)⟩
theorem LrS.kept {k' : Dk} {pe' : Nat} (h : LrS w0 b1 l p d base W X v L M s t k xs rs m pe) (hk : Kept X W W') (hl : LgM W' X l p d 1026 s t k' xs pe') (hh : k'.held = k.held) : LrS w0 b1 l p d base W' X v L M s t k' xs rs m pe' :=
 ⟨hl, fun b hb => nL (h.lt b hb) hk.size, h.x0, ⟨h.bb.1, h.bb.2.1, nT h.bb.2.2 hk.size⟩, own_kept h.own hk h.ownX, h.ownX,
  ⟨h.put.hist.held hh, h.put.ord, h.put.nil, fun q j h1 h2 h3 => by rw [strV_held hh]; exact h.put.zer q j h1 h2 h3, h.put.all, h.put.rec_⟩, h.sup, h.bel.trans (hk.to_below (B := w0.heap.size) fun b hb => h.x0 b (nL hb h.bb.1))⟩
theorem LrS.more {e : PuE} (h : LrS w0 b1 l p d base W X v (L ++ [e]) L s t k xs rs m pe) (ho : W'.ownsRow base 40 9 v' (L.length + 1) (PlM.flatG (L.map PuE.pl) ++ PlM.flatG [e.pl])) (hg : W.grownBy W' v.ownBlock) (hv : v'.ownBlock = v.ownBlock ∨ v'.ownBlock = some W.heap.size) :
 LrS w0 b1 l p d base W' (fun b => X b ∨ (W.heap.size ≤ b ∧ b < W'.heap.size)) v' (L ++ [e]) (L ++ [e]) s t k xs rs m pe := by
 have hk : Kept (fun b => b < W.heap.size ∧ v.ownBlock ≠ some b) W W' := (Kept.refl _ W).grown hg (fun b hb => hb.1) (fun g e hb => hb.2 e)
 refine ⟨h.lg.offG hk (fun b hb hx => ⟨hb, fun e => hx (h.ownX b e)⟩), grow_lt h.lt hk.size, fun b hb => .inl (h.x0 b hb), ⟨h.bb.1, h.bb.2.1, nT h.bb.2.2 hk.size⟩, ?_, fun g hg9 => ?_, h.put, h.sup, ?_⟩
 ·rw [List.length_append, List.map_append, PlM.flatG_append]
  exact ho
 ·rcases hv with e | e
  ·exact .inl (h.ownX g (by rw [← e]; exact hg9))
  ·rw [e] at hg9
   injection hg9 with hg9
   subst hg9
   refine .inr ⟨nR _, ?_⟩
   have := ho.lt W.heap.size e
   exact this.2
 ·exact below_append h.bel h.own (by have := h.bb; omega) (by have := h.bb; omega) hg
def LrA (w0 : World) (b1 l p d base : Nat) (W : World) (X : Nat → Prop) (v : Value) (L : List PuE) (pe : Nat) (g : Int) (r : RcI) (e : Ending) (W' : World) : Prop :=
 Kept X W W' ∧ ∃ (a : Int × Int × Int) (er : Int), e = .returned (.tuple #[adrW a, .int .i64 er]) ∧
  ((er = 0 ∧ ∃ (u : PuE) (X : Nat → Prop) (s : Sup) (t : Int) (k : Dk) (xs : List Seg) (rs : Nat → List (Nat × List Int)) (m : Nat), u.r = r ∧ a = ((u.q : Int), u.g, (u.c : Int)) ∧ s.g ≤ g + 1 ∧ LrS w0 b1 l p d base W' X v (L ++ [u]) L s t k xs rs m (pe + 17)) ∨
   ((er = 6 ∨ er = 160) ∧ ∃ (X : Nat → Prop) (s : Sup) (t : Int) (k : Dk) (xs : List Seg) (rs : Nat → List (Nat × List Int)) (m : Nat), s.g ≤ g + 1 ∧ LrS w0 b1 l p d base W' X v L L s t k xs rs m (pe + 17)))
theorem LrS.append (h : LrS w0 b1 l p d base W X v L L s t k xs rs m pe) (hpe : pe ≤ 5000) (hg : s.g ≤ 1000) {r : RcI} (hr : r.Is w0) :
 Calls Tryz.prog 9 #[.pointer (some ⟨l, 0, none⟩), .agg #[.int .i64 r.k, .int .u32 r.f, .int .u32 r.x, .int .u64 r.s, .slice r.A r.n r.c, .slice r.B r.m r.d]] W (LrA w0 b1 l p d base W X v L pe s.g r) := by
 by_cases hm : May r.k r.f r.x r.s r.n r.m
 ·have hrW : IsRec W r.k r.f r.x r.s r.A r.n r.c r.B r.m r.d r.z r.y := IsRec.below hr h.bel
  obtain ⟨bs, hbs⟩ : ∃ bs, recB r.k r.f r.x r.s r.z r.y = bs := ⟨_, rfl⟩
  have hbl : bs.length = 21 + r.n + r.m := by rw [← hbs, recB_length, hr.key.1, hr.value.1]
  have key := append_hist h.lg h.lt (by omega) (by omega) hm hr.rng hrW.key hrW.value hrW.nA hrW.nB hrW.bkey hrW.bvalue
  rw [hbs] at key
  refine key.mono ?_
  rintro e W' ⟨hk, ⟨_, rfl, hl⟩ | ⟨i, s1, xs1, t', k', ha, rfl, hl, hs1, _, _, hh, hV⟩⟩
  ·exact ⟨hk, _, _, rfl, .inr ⟨.inl rfl, X, s, t, k, xs, rs, m, by omega, h.kept hk (hl.pe_le (by omega)) rfl⟩⟩
  ·have hc : 1 ≤ cntOf bs.length ∧ cntOf bs.length ≤ 17 := by
    unfold May at hm
    unfold cntOf
    omega
   obtain ⟨rs', u, hu, hh', hmore⟩ := hh rs h.put.hist
   have hput := h.put.app h.lg.ok h.lg.top hr hm hbs hc ha hu hh' hmore hV
   refine ⟨hk, _, _, rfl, .inl ⟨rfl, ⟨i, genG xs1 i, u, r⟩, X, s1, t', k', _, rs', i + 1, rfl, by rw [hu], ?_, hl, fun b hb => nL (h.lt b hb) hk.size, h.x0, ⟨h.bb.1, h.bb.2.1, nT h.bb.2.2 hk.size⟩, own_kept h.own hk h.ownX, h.ownX, hput, ?_, h.bel.trans (hk.to_below (B := w0.heap.size) fun b hb => h.x0 b (nL hb h.bb.1))⟩⟩
   ·rcases hs1 with rfl | rfl
    ·omega
    ·exact Int.le_refl _
   ·rcases hs1 with rfl | rfl <;> exact h.sup
 ·obtain ⟨A, c, hl, _, _⟩ := h.lg.log
  refine (append_no hl r.k r.f r.x r.s r.A r.B r.n r.c r.m r.d hm).mono ?_
  rintro e W' ⟨rfl, hb⟩
  have h2 := h.grow hb
  exact ⟨Kept.of_below hb h.lt, (0, 0, 0), _, rfl, .inr ⟨.inr rfl, _, s, t, k, xs, rs, m, by omega, { h2 with lg := h2.lg.pe_le (by omega) }⟩⟩
structure ToldF (W : World) (a b : Nat) (seg : Nat) (gen : Int) (A : Option Addr) (ts : List Tl) : Prop where
 row : PlM.RowE W (fun q => a ≤ q ∧ q < b) A ts.length (ts.map (plV seg gen))
 ent : ∀ t, t ∈ ts → (a ≤ t.b1 ∧ t.b1 < b) ∧ (a ≤ t.b2 ∧ t.b2 < b) ∧ ArrU W t.b1 (keyOf t.bs) ∧ ArrU W t.b2 (valOf t.bs)
theorem ToldS.fix {a seg : Nat} {gen : Int} {A : Option Addr} {c : Nat} {ts : List Tl} (h : ToldS W a seg gen A c ts) : ToldF W a W.heap.size seg gen A ts :=
 ⟨h.row, fun t ht => by
  obtain ⟨g1, g2, g3, g4⟩ := h.ent t ht
  exact ⟨⟨g1, Blk.lt g3⟩, ⟨g2, Blk.lt g4⟩, g3, g4⟩⟩
theorem ToldF.kept {S : Nat → Prop} {a b seg : Nat} {gen : Int} {A : Option Addr} {ts : List Tl} (h : ToldF W a b seg gen A ts) (hk : Kept S W W') (hS : ∀ q, a ≤ q → q < b → S q) : ToldF W' a b seg gen A ts :=
 ⟨h.row.kept hk (fun q hq => hS q hq.1 hq.2), fun t ht => by
  obtain ⟨g1, g2, g3, g4⟩ := h.ent t ht
  exact ⟨g1, g2, Blk.kept g3 hk (hS _ g1.1 g1.2), Blk.kept g4 hk (hS _ g2.1 g2.2)⟩⟩
end
end
section
open Go.RowKit
theorem pre_mem {rs : Nat → List (Nat × List Int)} {xs : List Seg} {x : (Nat × Int) × (Nat × List Int)} : ∀ {k : Nat}, x ∈ preL rs xs k → x.1.1 < k ∧ x.1.2 = genG xs x.1.1 ∧ x.2 ∈ rs x.1.1
 | 0, h => by cases h
 | k + 1, h => by
  rw [preL] at h
  rcases List.mem_append.1 h with h | h
  ·obtain ⟨h1, h2⟩ := pre_mem h
   exact ⟨by omega, h2⟩
  ·unfold segL at h
   obtain ⟨p, hp, rfl⟩ := List.mem_map.1 h
   exact ⟨Nat.lt_succ_self k, rfl, hp⟩
theorem pre_len_le {rs : Nat → List (Nat × List Int)} {xs : List Seg} {a : Nat} : ∀ {b : Nat}, a ≤ b → (preL rs xs a).length ≤ (preL rs xs b).length
 | 0, h => by obtain rfl : a = 0 := by omega
              exact nR _
 | b + 1, h => by
  by_cases e : a = b + 1
  ·subst e; exact nR _
  ·rw [preL_len]
   have := pre_len_le (rs := rs) (xs := xs) (a := a) (b := b) (by omega)
   omega
section
variable {w0 : World} {b1 l p d base : Nat} {W W' : World} {X : Nat → Prop} {v v' : Value} {L M : List PuE} {s : Sup} {t : Int} {k : Dk} {xs : List Seg} {rs : Nat → List (Nat × List Int)} {m pe : Nat}
theorem PutH.of (h : PutH w0 k s xs rs m L) {e : PuE} (he : e ∈ L) : e.q < 4 ∧ e.g = genG xs e.q ∧ (e.c, e.bs) ∈ rs e.q ∧ stG xs e.q ≠ 0 := by
 have h1 : e.at_ ∈ preL rs xs 4 := by rw [← h.all]; exact List.mem_map_of_mem he
 obtain ⟨h2, h3, h4⟩ := pre_mem h1
 refine ⟨h2, h3, h4, fun h0 => ?_⟩
 have h5 := (h.ord.live e.q h2).1 h0
 have h6 : (e.c, e.bs) ∈ rs e.q := h4
 rw [h.nil e.q h5] at h6
 cases h6
theorem PuE.said {e : PuE} (hr : e.r.Is w0) (hm : May e.r.k e.r.f e.r.x e.r.s e.r.n e.r.m) : kindOf e.bs = e.r.k ∧ flagsOf e.bs = e.r.f ∧ expOf e.bs = e.r.x ∧ seqOf e.bs = e.r.s ∧ klenOf e.bs = e.r.n ∧ vlenOf e.bs = e.r.m ∧ keyOf e.bs = e.r.z ∧ valOf e.bs = e.r.y := by
 have hm2 : May e.r.k e.r.f e.r.x e.r.s e.r.z.length e.r.y.length := by rw [hr.key.1, hr.value.1]; exact hm
 have h := rec_may [] hm2 hr.rng
 rw [List.append_nil] at h
 obtain ⟨_, g1, g2, g3, g4, g5, g6, g7, g8⟩ := h
 exact ⟨g1, g2, g3, g4, g5.trans hr.key.1, g6.trans hr.value.1, g7, g8⟩
theorem LrS.scan {k' : Dk} {a : Nat} (h : LrS w0 b1 l p d base W X v L M s t k xs rs m pe) (hk : Kept X W W') (hl : LgM W' (fun b => X b ∨ (a ≤ b ∧ b < W'.heap.size)) l p d 1026 s t k' xs pe) (hh : k'.held = k.held) :
 LrS w0 b1 l p d base W' (fun b => X b ∨ (a ≤ b ∧ b < W'.heap.size)) v L M s t k' xs rs m pe := by
 have h2 := h.kept hk (hl.less (fun b hb => .inl hb)) hh
 exact ⟨hl, fun b hb => hb.elim (h2.lt b) (fun q => q.2), fun b hb => .inl (h2.x0 b hb), h2.bb, h2.own, fun g hg => .inl (h2.ownX g hg), h2.put, h2.sup, h2.bel⟩
structure LrZ (w0 : World) (b1 l p d base : Nat) (W : World) (X : Nat → Prop) (v : Value) (L : List PuE) (s : Sup) (t : Int) (k : Dk) (xs : List Seg) (rs : Nat → List (Nat × List Int)) (pe : Nat) : Prop where
 lg : LgM W X l p d 1026 s t k xs pe
 lt : ∀ b, X b → b < W.heap.size
 x0 : ∀ b, b < b1 → X b
 bb : w0.heap.size ≤ b1
 own : W.ownsRow base 40 9 v L.length (PlM.flatG (L.map PuE.pl))
 ownX : ∀ g, v.ownBlock = some g → X g
 hist : HistR k s xs rs
 bel : Below w0.heap.size w0 W
theorem LrS.freed (h : LrS w0 b1 l p d base W X v L L s t k xs rs m pe) (hk : Kept X W W') {i : Nat} (hi : i < xs.length) (hl : LgM W' X l p d 1026 (reS s (genG xs i)) (nxt t) (reK k s t (genG xs i)) (freeX xs (i : Nat)) pe) :
 LrZ w0 b1 l p d base W' X v L (reS s (genG xs i)) (nxt t) (reK k s t (genG xs i)) (freeX xs (i : Nat)) rs pe :=
 ⟨hl, fun b hb => nL (h.lt b hb) hk.size, h.x0, h.bb.1, own_kept h.own hk h.ownX, h.ownX,
  (h.put.hist.known (s' := reS s (genG xs i)) rfl (Int.le_refl _) (fun q j _ => re_V h.lg.good q j) h.lg.ok).free free_len (fun j hj => by
   have hne : i ≠ j := fun e => hj (by rw [free_st hi, if_pos e])
   rw [free_st hi, if_neg hne] at hj
   exact ⟨hj, free_gen hi j hne⟩), h.bel.trans (hk.to_below (B := w0.heap.size) fun b hb => h.x0 b (nL hb h.bb.1))⟩
theorem LrZ.grow (h : LrZ w0 b1 l p d base W X v L s t k xs rs pe) (hb : Below W.heap.size W W') : LrZ w0 b1 l p d base W' (fun b => X b ∨ (W.heap.size ≤ b ∧ b < W'.heap.size)) v L s t k xs rs pe :=
 ⟨h.lg.grow hb, grow_lt h.lt hb.size, fun b hb => .inl (h.x0 b hb), h.bb, own_kept h.own (Kept.of_below hb h.lt) h.ownX, fun g hg => .inl (h.ownX g hg), h.hist, h.bel.trans (hb.mono h.bel.size)⟩
theorem LrZ.kept {k' : Dk} {pe' : Nat} (h : LrZ w0 b1 l p d base W X v L s t k xs rs pe) (hk : Kept X W W') (hl : LgM W' X l p d 1026 s t k' xs pe') (hh : k'.held = k.held) : LrZ w0 b1 l p d base W' X v L s t k' xs rs pe' :=
 ⟨hl, fun b hb => nL (h.lt b hb) hk.size, h.x0, h.bb, own_kept h.own hk h.ownX, h.ownX, h.hist.held hh, h.bel.trans (hk.to_below (B := w0.heap.size) fun b hb => h.x0 b (nL hb h.bb))⟩
end
end
section
open Go.RowKit
section
variable {w : World} {X : Nat → Prop} {l p d n m c : Nat} {s : Sup} {t : Int} {k : Dk} {sec : Int} {A : Option Addr} {xs : List Seg} {br : Bool}
end
def bornK (a b : Int) : Dk := (((Dk.fresh 1026).wr (Dk.put 0 (supL a b 0 0 0 0 0))).wr (Dk.put 1 (noughts 64))).wr Dk.sync
theorem born_any (a : Nat) (b : Int) (w : World) (ha : 4 ≤ a ∧ a ≤ 16) (hb : 24 ≤ b ∧ b ≤ 64) :
 Calls Tryz.prog 8 #[.int .i64 a, .int .i64 b] w fun e w' => ∃ l p d A c, e = .returned (.tuple #[.pointer (some ⟨l, 0, none⟩), .pointer (some ⟨d, 0, none⟩)]) ∧
  LogM w' (fun x => x < w.heap.size) l p d 1026 ⟨a, b, 0, 0, 0, 0⟩ 0 (bornK a b) b A a c (List.replicate a seg0) false ∧ a ≤ c ∧ (A = none → c = 0) ∧ Below w.heap.size w w' := by
 have hm : MayS a b 0 0 := ⟨by omega, by omega, by omega, by omega, by omega⟩
 have hz : SizedR a b := ⟨by omega, by omega, by omega, by omega⟩
 have hok := ok_new hz
 have hop : opnR (List.replicate a seg0) < 0 := by
  rcases opn_range (List.replicate a seg0) with h | ⟨i, hi, h⟩
  ·omega
  ·exfalso
   obtain ⟨j, hj, e1, e2⟩ := opn_nat hok (by omega)
   have : stG (List.replicate a seg0) j = 0 := by
    unfold stG
    rw [List.length_replicate] at hj
    simp [List.getD, hj, seg0]
   omega
 have HM := hI hm
 have HZ := hI hz
 have HOK := hI hok
 have HOP := hI hop
 have HAR := hI (area_in hm).2
 clear hm hz hok hop
 go_enter Tryz.func8, Tryz.ntmps8
 go_wp2_with fail
 refine (new_i w 1026 1026 rfl (by omega) (by omega)).mono ?_
 rintro e w1 ⟨d, rfl, hd, hb1⟩
 have HD1 := hI hd
 have HB1 := hI hb1
 clear hd hb1
 go_wp2_with fail
 refine (format_fresh HD1.out (fun c h => nL h HB1.out.size) a b HM.out (by have := HAR.out; omega)).mono ?_
 rintro e w2 ⟨p, rfl, hst, hk⟩
 have HS2 := hI (show StoS w2 (fun x => x < w.heap.size) p d 1026 ⟨a, b, 0, 0, 0, 0⟩ 0 (bornK a b) from hst)
 have HB2 := hI (show Below w.heap.size w w2 from HB1.out.trans (hk.to_below (fun b h => h)))
 clear hst hk
 go_wp2_with fail
 refine (new_ok a b HZ.out).mono ?_
 rintro e w3 ⟨⟨A0, rfl, hr⟩, hb3⟩
 have hal := (Below.refl w3.heap.size w3).alloc (nR _) (.cells #[.int .i64 b, .slice A0 a a] 95)
 have HS3 := hI (StoreM.below HS2.out (hb3.trans (hal.mono hb3.size)))
 have HB3 := hI (HB2.out.trans ((hb3.trans (hal.mono hb3.size)).mono HB2.out.size))
 have HR3 := hI (row_now (hr.more (fun b h => h.2)) hal)
 have HK3 := hI (Blk.new w3 95 #[.int .i64 b, .slice A0 a a])
 have HA0 := hI (show A0 = none → a = 0 from fun e => by
  rcases Nat.eq_zero_or_pos a with h | h
  ·exact h
  ·obtain ⟨_, _, h2, _⟩ := hr.2 h
   rw [e] at h2; cases h2)
 obtain ⟨k0, k1⟩ := ring_cells HK3.out
 clear hr hb3 hal
 go_wp2_with fail
 refine (open_log_ok (s := ⟨a, b, 0, 0, 0, 0⟩) HS3.out (fun b h => nL h HB3.out.size) HR3.out HA0.out (nR _) b HOK.out rfl rfl HOP.out).mono ?_
 rintro e w4 ⟨l, A, c, rfl, hl, hac, hnil, hsz, hb4⟩
 have HL := hI hl
 have HB4 := hI (HB3.out.trans (hb4.mono HB3.out.size))
 have HAC := hI (And.intro hac hnil)
 clear hl hb4 hac hnil k0 k1
 go_wp2_with fail
 go_ret2
 exact ⟨l, p, d, A, c, rfl, HL.out, HAC.out.1, HAC.out.2, HB4.out⟩
end
section
open Go.RowKit
abbrev wkS : Sup := ⟨4, 24, 0, 0, 0, 0⟩
abbrev wkX : List Seg := List.replicate 4 seg0
def wkB : List Int := recB 1 0 0 1 [97] [120]
def wkK : Dk := layK (begK (bornK 4 24) wkS 0 0) (genS wkS) (openX wkX 1) 0 wkB
theorem wk_next : nxtR wkX = 0 := by decide +kernel
theorem wk_open : opnR wkX = -1 := by decide +kernel
theorem wk_sec : strV wkK (genS wkS) 0 1 = packL 1 1 wkB := by decide +kernel
theorem wk_begins : beginsN (packL 1 1 wkB) 1 1 = 1 := by decide +kernel
end
section
open Go.RowKit
theorem wk_chain : Chain [packL 1 1 wkB] := by
 intro i hi
 obtain rfl : i = 0 := by simpa using hi
 exact ⟨by decide +kernel, fun h => absurd h (by decide)⟩
theorem wk_meants : meants [packL 1 1 wkB] = wkB := by decide +kernel
theorem wk_dec : DecOk wkB wkB.length := by
 refine ⟨by decide +kernel, ?_, by decide +kernel⟩
 unfold MayB May
 decide +kernel
theorem wk_need : needOf wkB = wkB.length := by decide +kernel
theorem wk_val : valOf wkB = [120] := by decide +kernel
theorem wk_vlen : vlenOf wkB = 1 := by decide +kernel
theorem wk_E : strE (genS wkS) 1 = 0 := by decide +kernel
theorem wk_stands : standE (strV wkK (genS wkS) 0) (strE (genS wkS)) 1 1 = 0 ∧ beginsN (strV wkK (genS wkS) 0 1) 1 1 = 1 := by
 have hb : beginsN (strV wkK (genS wkS) 0 1) 1 ((1 : Nat) : Int) = 1 := by rw [wk_sec]; exact wk_begins
 have h := stand_all (V := strV wkK (genS wkS) 0) (E := strE (genS wkS)) (gen := 1) (at_ := 1) wk_E (by rw [hb]; decide) (fun q h1 h2 => by rw [hb] at h2; omega)
 rw [hb] at h
 refine ⟨h.1 ?_, hb⟩
 have e : secsAt (strV wkK (genS wkS) 0) 1 1 = [packL 1 1 wkB] := by rw [secsAt_one, wk_sec]
 rw [e]
 exact ⟨wk_chain, by rw [wk_meants]; exact wk_dec, by rw [wk_meants]; exact wk_need⟩
theorem wk_uses : usesB (useX (openX wkX 1) (1 : Nat)) 0 1 1 = true := by decide +kernel
end
section
open Go.RowKit
attribute [local go_sem] Oper.semAt_some
theorem wk_sealed : sealedX 24 wkX = wkX := by
 unfold sealedX
 rw [if_neg]
 unfold sealE
 split
 ·decide
 ·rw [if_pos (by rw [wk_open]; decide)]; decide
theorem eql_adr9 (w : World) : (binOp .eql 35 (.agg #[.int .i64 0, .int .u64 1, .int .i64 1]) (.agg #[.int .i64 0, .int .u64 1, .int .i64 1])).run Tryz.prog w = .ok (.bool true) w := by
 go_simp
theorem wk_good : Good (bornK 4 24) := ⟨by decide +kernel, by decide +kernel, by decide +kernel⟩
theorem wk_top : topG wkX ≤ 0 := by decide +kernel
theorem wk_pend : (bornK 4 24).pend.length ≤ 0 := by decide +kernel
theorem wk_cnt : cntOf (21 + 1 + 1) = 1 := by decide +kernel
theorem born_lg {w : World} {X : Nat → Prop} {l p d : Nat} {A : Option Addr} {c : Nat} (h : LogM w X l p d 1026 wkS 0 (bornK 4 24) 24 A 4 c wkX false) (hc : 4 ≤ c) (hn : A = none → c = 0) : LgM w X l p d 1026 wkS 0 (bornK 4 24) wkX 0 where
 log := ⟨A, c, h, hc, hn⟩
 good := wk_good
 ok := ok_new ⟨by decide, by decide, by decide, by decide⟩
 top := wk_top
 may := by decide
 sin := ⟨by decide, by decide, by decide, by decide, by decide, by decide, by decide, by decide, by decide, by decide, by decide, by decide⟩
 dims := rfl
 n2 := by decide
 room := by decide
 pend := wk_pend
theorem wakes9 (w : World) : Calls Tryz.prog 7 #[] w fun e w' => e = .returned (.bool true) ∧ Below w.heap.size w w' := by
 have HBN := hI (born_any 4 24 w (by omega) (by omega))
 go_enter Tryz.func7, Tryz.ntmps7
 go_wp2_with fail
 refine HBN.out.mono ?_
 rintro e wb ⟨l, p, d, A, c, rfl, hlog, hc, hnil, hb⟩
 have HLG := hI (born_lg hlog hc hnil)
 have HB0 := hI hb
 have hb0 := hb.size
 have HL0 := hI hlog.1.lt
 clear hlog hc hnil hb HBN
 have hc1 := Go.Lib.run_convert_bytes_const (P := Tryz.prog) wb 31 5 #[.int .u8 97] 1 1 Tryz.underlying31 Tryz.underlying5
 have hc2 := Go.Lib.run_convert_bytes_const (P := Tryz.prog) (wb.alloc (.cells #[.int .u8 97] 5 (1, 2))) 31 5 #[.int .u8 120] 1 1 Tryz.underlying31 Tryz.underlying5
 simp only [World.size_alloc, List.size_toArray, List.length_cons, List.length_nil, Nat.zero_add, Nat.reduceAdd] at hc1 hc2
 go_upto_region 5 with fail
 clear hc1 hc2
 generalize hw1 : ((wb.alloc _).alloc _).alloc _ = w1
 have HB1 := hI (show Below wb.heap.size wb w1 by rw [← hw1]; exact (((Below.refl _ _).alloc (nR _) _).alloc (by simp) _).alloc (by simp; omega) _)
 have HS1 := hI (show w1.heap.size = wb.heap.size + 3 by rw [← hw1]; simp)
 have HA1 := hI (show RowI .u8 w1 (fun b => b < w1.heap.size) (some ⟨wb.heap.size, 0, none⟩) 1 [97] by
  have h := row_marked wb [97] (1, 2) 1 rfl (S := fun b => b = wb.heap.size) rfl
  rw [← hw1]
  refine ((h.keep (fun p hp => World.cell?_alloc_lt _ _ p ?_)).keep (fun p hp => World.cell?_alloc_lt _ _ p ?_)).more (fun b h => ?_) <;> simp <;> omega)
 have HV1 := hI (show RowI .u8 w1 (fun b => b < w1.heap.size) (some ⟨wb.heap.size + 1, 0, none⟩) 1 [120] by
  have h := row_marked (wb.alloc (.cells #[.int .u8 97] 5 (1, 2))) [120] (1, 2) 1 rfl (S := fun b => b = wb.heap.size + 1) (by simp)
  rw [show (wb.alloc (.cells #[.int .u8 97] 5 (1, 2))).heap.size = wb.heap.size + 1 by simp] at h
  rw [← hw1]
  refine (h.keep (fun p hp => World.cell?_alloc_lt _ _ p ?_)).more (fun b h => ?_) <;> simp <;> omega)
 have HR1 := hI (show Blk w1 (wb.heap.size + 1 + 1) 33 #[.int .i64 1, .int .u32 0, .int .u32 0, .int .u64 1, .slice (some ⟨wb.heap.size, 0, none⟩) 1 1, .slice (some ⟨wb.heap.size + 1, 0, none⟩) 1 1] by rw [← hw1]; exact blk_new3 wb _ _ _ _)
 have HLG1 := hI (HLG.out.below HB1.out)
 have HAP := hI (show Calls Tryz.prog 9 #[.pointer (some ⟨l, 0, none⟩), .agg #[.int .i64 1, .int .u32 0, .int .u32 0, .int .u64 1, .slice (some ⟨wb.heap.size, 0, none⟩) 1 1, .slice (some ⟨wb.heap.size + 1, 0, none⟩) 1 1]] w1 fun e w' =>
  e = .returned (.tuple #[.agg #[.int .i64 0, .int .u64 1, .int .i64 1], .int .i64 0]) ∧ LgM w' (fun x => x < w.heap.size) l p d 1026 (genS wkS) (nxt 0) wkK (useX (openX wkX 1) (1 : Nat)) (0 + 1) ∧ Kept (fun x => x < w.heap.size) w1 w' by
  refine (append_good HLG1.out (fun b h => by have := HS1.out; omega) (by omega) (by decide) (by decide) ⟨by omega, by omega, by omega, by omega, by omega, by omega⟩ HA1.out HV1.out (fun h => by cases h) (fun h => by cases h) (by intro j; match j with | 0 => simp | (j + 1) => simp) (by intro j; match j with | 0 => simp | (j + 1) => simp)).mono ?_
  rintro e w' ⟨h3, hk⟩
  rcases h3 with ⟨i, h, _⟩ | ⟨_, h, _⟩ | ⟨_, i, hi, rfl, hlg⟩
  ·rw [wk_open] at h; omega
  ·rw [wk_next] at h; omega
  ·obtain rfl : i = 0 := by rw [wk_next] at hi; omega
   rw [wk_cnt] at hlg
   have e1 : sealedX (wkS).b wkX = wkX := wk_sealed
   rw [e1] at hlg
   exact ⟨rfl, hlg, hk⟩)
 clear hw1
 go_wp2_with (refine wpList_load_rowB (.tmp 3) 33 rfl rfl (wb.heap.size + 1 + 1) rfl 33 [.int .i64 1, .int .u32 0, .int .u32 0, .int .u64 1, .slice (some ⟨wb.heap.size, 0, none⟩) 1 1, .slice (some ⟨wb.heap.size + 1, 0, none⟩) 1 1] _ Tryz.underlying33 rfl size_rec HR1.out ?_)
 refine HAP.out.mono ?_
 rintro e w2 ⟨rfl, hlg, hk⟩
 have HLG2 := hI hlg
 have HK2 := hI hk
 clear hlg hk HAP
 obtain ⟨w3, hw3⟩ : ∃ w3, w3 = w2.alloc (.cells #[.int .i64 0, .int .u64 1, .int .i64 1] 35) := ⟨_, rfl⟩
 have hb3 : Below w2.heap.size w2 w3 := by rw [hw3]; exact (Below.refl _ w2).alloc (nR _) _
 have HA3 := hI (show Blk w3 w2.heap.size 35 #[.int .i64 0, .int .u64 1, .int .i64 1] by rw [hw3]; exact Blk.new w2 _ _)
 have hz3 : w3.heap.size = w2.heap.size + 1 := by rw [hw3]; simp
 have HLG3 := hI (HLG2.out.grow hb3)
 have HBW3 := hI (((HB0.out.trans (HB1.out.mono hb0)).trans (HK2.out.to_below (B := w.heap.size) fun b hb => hb)).trans (hb3.mono (by have := HS1.out; have : w1.heap.size ≤ w2.heap.size := HK2.out.size; omega)))
 have HW3 := hI hw3
 have hs2 : w1.heap.size ≤ w2.heap.size := HK2.out.size
 have hsb : w.heap.size ≤ w2.heap.size := by have := HS1.out; omega
 clear hb3 hw3
 have HRE := hI (show Calls Tryz.prog 13 #[.pointer (some ⟨l, 0, none⟩), .agg #[.int .i64 0, .int .u64 1, .int .i64 1]] w3 fun e w' =>
  ∃ (v0 v1 v2 v3 : Int) (b1 v4 b2 : Nat), e = .returned (.tuple #[.agg #[.int .i64 v0, .int .u32 v1, .int .u32 v2, .int .u64 v3, .slice (some ⟨b1, 0, none⟩) v4 v4, .slice (some ⟨b2, 0, none⟩) 1 1], .int .i64 0]) ∧ ArrU w' b2 [120] ∧ Kept (fun x => x < w.heap.size ∨ (w2.heap.size ≤ x ∧ x < w3.heap.size)) w3 w' by
  have hlg := HLG3.out
  obtain ⟨A2, c2, hlm, _, _⟩ := hlg.log
  have hok : wkK.Ok 1026 := by obtain ⟨_, _, R, hs, _, _⟩ := hlm; exact hs.2.1.ok
  refine (read_used hlm (fun b hb => by rcases hb with h | h <;> omega) (by decide) hlg.may hlg.good hok 0 (by decide) hlg.room hlg.n2.2 1 1 (by omega) wk_uses).mono ?_
  rintro e w' ⟨rec, er, rfl, hrd, _, hk⟩
  obtain ⟨_, h2, _, h4⟩ := hrd
  have hz : er = 0 := h2.trans wk_stands.1
  obtain ⟨xs, b1, b2, e1, e2, _, _, _, _, h7⟩ := h4 hz
  have hb : beginsN (strV wkK (genS wkS) 0 1) 1 ((1 : Nat) : Int) = 1 := wk_stands.2
  rw [hb, secsAt_one, wk_sec, wk_meants] at e1
  subst e1 e2 hz
  rw [wk_val] at h7
  exact ⟨kindOf wkB, flagsOf wkB, expOf wkB, seqOf wkB, b1, klenOf wkB, b2, by simp only [recT9, wk_vlen], h7, hk⟩)
 go_upto_region 6 with fail
 rw [← HW3.out]
 have a0 := HA3.out.cell 0
 have a1 := HA3.out.cell 1
 have a2 := HA3.out.cell 2
 go_wp2_with fail
 refine HRE.out.mono ?_
 rintro e w4 ⟨v0, v1, v2, v3, b1, v4, b2, rfl, hv, hk⟩
 have HV4 := hI hv
 have HK4 := hI hk
 have HA4 := hI (HA3.out.kept hk (.inr ⟨nR _, by omega⟩))
 clear hv hk HRE a0 a1 a2
 have HBW4 := hI (HBW3.out.trans (HK4.out.to_below (B := w.heap.size) fun b hb => .inl hb))
 obtain ⟨w5, hw5⟩ : ∃ w5, w5 = w4.alloc (.cells #[.int .i64 v0, .int .u32 v1, .int .u32 v2, .int .u64 v3, .slice (some ⟨b1, 0, none⟩) v4 v4, .slice (some ⟨b2, 0, none⟩) 1 1] 33) := ⟨_, rfl⟩
 have HQ5 := hI (show Blk w5 w4.heap.size 33 #[.int .i64 v0, .int .u32 v1, .int .u32 v2, .int .u64 v3, .slice (some ⟨b1, 0, none⟩) v4 v4, .slice (some ⟨b2, 0, none⟩) 1 1] by rw [hw5]; exact Blk.new w4 _ _)
 have HA5 := hI (show Blk w5 w2.heap.size 35 #[.int .i64 0, .int .u64 1, .int .i64 1] by rw [hw5]; exact HA4.out.alloc _)
 have HV5 := hI (show ArrU w5 b2 [120] by rw [hw5]; exact Blk.alloc HV4.out _)
 have HBW5 := hI (show Below w.heap.size w w5 by rw [hw5]; exact HBW4.out.alloc HBW4.out.size _)
 obtain ⟨tt, ht, hnt⟩ := conv_string (P := Tryz.prog) w5 31 9 5 Tryz.underlying31 Tryz.underlying5 Tryz.underlying9 1 (HV5.out.rowN 0 (n := 1) rfl (S := fun b => b < w5.heap.size) HV5.out.lt).toRow (by intro j; match j with | 0 => simp | (j + 1) => simp)
 obtain rfl : tt = ⟨#[120]⟩ := nums_inj (hnt.trans rfl)
 have HW5 := hI hw5
 have hea := eql_adr9 w5
 clear hw5 hnt
 go_upto_region 7 with fail
 rw [← HW5.out]
 have a0 := HA5.out.cell 0
 have a1 := HA5.out.cell 1
 have a2 := HA5.out.cell 2
 have r5 := HQ5.out.cell 5
 go_wp2_with fail
 go_ret
 exact ⟨rfl, HBW5.out⟩
end
section
open Go.RowKit
abbrev fr0 : Oper := ⟨some 62, .move (.tmp 0), 24, "log.go:98", #[], none⟩
abbrev fr1 : Oper := ⟨some 63, .move (.tmp 0), 24, "log.go:98", #[], none⟩
abbrev fr2 : Oper := ⟨some 64, .nilCheck (.tmp 63), 0, "log.go:98", #[⟨1, .data⟩], none⟩
abbrev fr3 : Oper := ⟨some 65, .fieldAddr 103 (.tmp 64) 0, 0, "log.go:98", #[⟨2, .data⟩], none⟩
abbrev fr4 : Oper := ⟨some 66, .load 45 (.tmp 65), 45, "log.go:98", #[⟨3, .data⟩], none⟩
abbrev fr5 : Oper := ⟨some 67, .load 115 (.tmp 7), 115, "log.go:98", #[], none⟩
abbrev fr6 : Oper := ⟨some 68, .call { callee := .value (.func 61), args := #[.tmp 66, .tmp 67], argTypes := #[45, 115] }, 36, "log.go:98", #[⟨4, .data⟩, ⟨5, .data⟩], none⟩
abbrev fr7 : Oper := ⟨some 69, .call { callee := .value (.func 60), args := #[.tmp 62, .tmp 68], argTypes := #[24, 36] }, 36, "log.go:98", #[⟨0, .data⟩, ⟨6, .data⟩, ⟨6, .chain⟩], none⟩
abbrev fr8 : Oper := ⟨some 8, .assign (.tmp 69), 36, "log.go:98", #[⟨7, .data⟩, ⟨7, .chain⟩, ⟨0, .phase⟩, ⟨1, .phase⟩, ⟨2, .phase⟩, ⟨3, .phase⟩, ⟨4, .phase⟩, ⟨5, .phase⟩, ⟨6, .phase⟩, ⟨7, .phase⟩], none⟩
def FreeG (w : World) (X : Nat → Prop) (l p d n : Nat) (s : Sup) (t : Int) (k : Dk) (xs : List Seg) (pe : Nat) (v : Int) (e : Ending) (w' : World) : Prop :=
 Kept X w w' ∧ ((∃ i : Nat, v = (i : Nat) ∧ oldR xs = (i : Nat) ∧ e = .returned (.int .i64 0) ∧ LgM w' X l p d n (reS s (genG xs i)) (nxt t) (reK k s t (genG xs i)) (freeX xs (i : Nat)) pe) ∨
  (∃ er : Int, er = (if v < 0 ∨ (xs.length : Int) ≤ v then 2 else 181) ∧ (v < 0 ∨ oldR xs ≠ v) ∧ e = .returned (.int .i64 er) ∧ LgM w' X l p d n s t k xs pe))
section
variable {w w' : World} {X Y : Nat → Prop} {l p d n pe : Nat} {s : Sup} {t : Int} {k : Dk} {xs : List Seg}
theorem old_okE (hok : OkR s.b xs) {i : Nat} (h : oldR xs = (i : Nat)) : oldE s.b xs = 0 ∧ oldV s.b xs = (i : Nat) := by
 have e : oldE s.b xs = 0 := by unfold oldE; rw [if_neg (fun q => q hok), if_neg (by omega)]
 exact ⟨e, by unfold oldV; rw [if_pos e]; exact h⟩
theorem free_lg (h : LgM w X l p d n s t k xs pe) (hX : ∀ b, X b → b < w.heap.size) (hpe : pe ≤ 900000) (v : Int) (hret : ∀ i : Nat, oldR xs = (i : Nat) → s.r ≤ genG xs i) :
 Calls Tryz.prog 14 #[.pointer (some ⟨l, 0, none⟩), .int .i64 v] w (FreeG w X l p d n s t k xs pe v) := by
 have HLG := hI h
 have HX := hI hX
 have HPE := hI hpe
 obtain ⟨A, c, hl, hmc, hnil⟩ := h.log
 have HL := hI hl
 have HMC := hI (And.intro hmc hnil)
 have HO := hI (oldest_any (cap := c) hl.now s.b)
 obtain ⟨m, hmm⟩ : ∃ m, xs.length = m := ⟨_, rfl⟩
 rw [hmm] at HL HO HMC
 have HMM := hI hmm
 obtain ⟨c0, c1, c2, c3⟩ := log_cells HL.out
 clear h hX hpe hl hmc hnil hmm
 obtain ⟨OE, hOE⟩ : ∃ OE, oldE s.b xs = OE := ⟨_, rfl⟩
 obtain ⟨OV, hOV⟩ : ∃ OV, oldV s.b xs = OV := ⟨_, rfl⟩
 rw [hOE, hOV] at HO
 have HOE := hI hOE
 have HOV := hI hOV
 clear hOE hOV
 go_enter Tryz.func14, Tryz.ntmps14
 go_wp2_with fail
 refine HO.out.mono ?_
 rintro e w2 ⟨rfl, hb2⟩
 have HL2 := hI (HL.out.below hb2)
 have HB2 := hI hb2
 clear hb2 c0 c1 c2 c3 HO
 obtain ⟨c0, c1, c2, c3⟩ := log_cells HL2.out
 have HNO := hI (show LgM w2 X l p d n s t k xs pe ∧ Kept X w w2 from ⟨HLG.out.below HB2.out, Kept.of_below HB2.out HX.out⟩)
 by_cases h1 : v < 0
 ·have d1 : decide (v < 0) = true := decide_eq_true h1
  have H1 := hI h1
  clear h1
  go_wp2_with fail
  go_ret
  exact ⟨HNO.out.2, .inr ⟨2, by rw [if_pos (.inl H1.out)], .inl H1.out, rfl, HNO.out.1⟩⟩
 have d1 : decide (v < 0) = false := decide_eq_false h1
 by_cases h2 : (m : Int) ≤ v
 ·have d2 : decide ((m : Int) ≤ v) = true := decide_eq_true h2
  have H2 := hI h2
  have H1 := hI h1
  clear h1 h2
  go_wp2_with fail
  go_ret
  refine ⟨HNO.out.2, .inr ⟨2, by rw [if_pos (.inr (by rw [HMM.out]; exact H2.out))], .inr fun e => ?_, rfl, HNO.out.1⟩⟩
  obtain ⟨i, hi⟩ : ∃ i : Nat, v = i := ⟨v.toNat, by have := H1.out; omega⟩
  have := (old_free HLG.out.ok (e.trans hi)).1
  have := H2.out
  have := HMM.out
  omega
 have d2 : decide ((m : Int) ≤ v) = false := decide_eq_false h2
 obtain ⟨i, rfl⟩ : ∃ i : Nat, v = i := ⟨v.toNat, by omega⟩
 have him : i < m := by omega
 have HNI := hI (show ¬ ((i : Int) < 0 ∨ (xs.length : Int) ≤ (i : Int)) from by have := HMM.out; omega)
 clear h1 h2
 by_cases h3 : OE = 0
 case neg =>
  have d3 : (OE != 0) = true := by simpa using h3
  have H3 := hI h3
  clear h3
  go_wp2_with fail
  go_ret
  refine ⟨HNO.out.2, .inr ⟨181, by rw [if_neg HNI.out], .inr fun e => ?_, rfl, HNO.out.1⟩⟩
  exact H3.out (HOE.out.symm.trans (old_okE HLG.out.ok e).1)
 subst h3
 by_cases h4 : (i : Int) = OV
 case neg =>
  have d4 : ((i : Int) != OV) = true := by simpa using h4
  have H4 := hI h4
  clear h4
  go_wp2_with fail
  go_ret
  refine ⟨HNO.out.2, .inr ⟨181, by rw [if_neg HNI.out], .inr fun e => ?_, rfl, HNO.out.1⟩⟩
  exact H4.out ((old_okE HLG.out.ok e).2.symm.trans HOV.out)
 subst h4
 have d4 : ((i : Int) != (i : Int)) = false := by simp
 have hold : oldR xs = (i : Nat) := by
  have h9 := HOV.out
  unfold oldV at h9
  rw [if_pos HOE.out] at h9
  exact h9
 have HOLD := hI hold
 have HRET := hI (hret i hold)
 have HST := hI (old_free HLG.out.ok hold)
 clear hold hret HNI
 obtain ⟨hbk, hxl, R, hs, hrow, hR⟩ := HL2.out
 have HS2 := hI hs
 have HR2 := hI hrow
 have HRR := hI hR
 have HB := hI hbk
 clear hbk hxl hs hrow hR
 go_wp2_with fail
 refine (get_any HS2.out).mono ?_
 rintro e w3 ⟨rfl, hb3⟩
 obtain ⟨w4, hw4⟩ : ∃ w4, w4 = w3.alloc (.cells #[.int .i64 s.a, .int .i64 s.b, .int .u64 s.g, .int .u64 s.r, .int .u64 s.v, .int .u64 s.f] 115) := ⟨_, rfl⟩
 have hb4 : Below w2.heap.size w2 w4 := by rw [hw4]; exact hb3.alloc hb3.size _
 have HK4 := hI (show Blk w4 w3.heap.size 115 #[.int .i64 s.a, .int .i64 s.b, .int .u64 s.g, .int .u64 s.r, .int .u64 s.v, .int .u64 s.f] by rw [hw4]; exact Blk.new w3 _ _)
 have HL4 := hI (HL2.out.below hb4)
 have HB4 := hI hb4
 have HZ3 := hI hb3.size
 have HW4 := hI hw4.symm
 clear hw4 hb4 hb3 c0 c1 c2 c3
 go_upto_region 11 with fail
 rw [HW4.out]
 clear HS2 HR2 HRR HB
 obtain ⟨c0, c1, c2, c3⟩ := log_cells HL4.out
 obtain ⟨bb, off, rfl, hbb, hcc⟩ := seg_get (show RowZ w4 _ A m xs from HL4.out.now) him
 have q1 := (hcc i him).2.1
 have k3 := HK4.out.cell 3
 have f3 := HK4.out.frozen 3
 clear hcc
 obtain ⟨G, hG⟩ : ∃ G, genG xs i = G := ⟨_, rfl⟩
 rw [hG] at q1
 have HG := hI hG
 clear hG
 go_upto_region 12 with fail
 obtain ⟨w5, hw5⟩ : ∃ w5, w5 = w4.setCell ⟨w3.heap.size, 3, none⟩ (.int .u64 G) := ⟨_, rfl⟩
 rw [← hw5]
 have HK5 := hI (show Blk w5 w3.heap.size 115 #[.int .i64 s.a, .int .i64 s.b, .int .u64 s.g, .int .u64 G, .int .u64 s.v, .int .u64 s.f] by rw [hw5]; exact HK4.out.set_ 3 (.int .u64 G))
 have hb5 : Below w2.heap.size w2 w5 := by rw [hw5]; exact HB4.out.setCell (p := ⟨w3.heap.size, 3, none⟩) HZ3.out (.int .u64 G)
 have HL5 := hI (HL2.out.below hb5)
 have HX5 := hI (show ∀ b, X b → b < w5.heap.size from fun b hb => nL (HX.out b hb) (nT HB2.out.size hb5.size))
 have HKX5 := hI (show Kept X w w5 from HNO.out.2.trans (Kept.of_below hb5 (fun b hb => nL (HX.out b hb) HB2.out.size)) (fun b h => h))
 clear hw5 hb5 c0 c1 c2 c3 q1 k3 f3 hbb HW4
 have HTOP := hI (show G ≤ s.g from by
  have h1 := HST.out
  have h2 := top_max (xs := xs) h1.1 (by rw [h1.2.1]; decide)
  have h3 := HLG.out.top
  have h4 := HG.out
  omega)
 have HRG := hI (show s.r ≤ G from by have := HRET.out; rw [HG.out] at this; exact this)
 refine wp_region_noPanic ?_
 refine Tillst.region (fun W => Below w5.heap.size w5 W) [0, 6, 7, 8] (by kernel_rfl) ((Below.refl _ _).drew) (fun hė => ?_)
 generalize w5.drew = vd at *
 refine Tillst.takeF (i := 0) (oi := fr0) (v := ?_) rfl (by kernel_rfl) (by kernel_rfl) (by kernel_rfl) (by kernel_rfl) (fun _ _ _ h => h) (by rfl) ?_ ?_
 rotate_left
 ·intro W; unfold fr0; go_simp; with_reducible rfl
 simp only [fr0, Act.put, sA, sZ, sS]
 refine Tillst.takeG (i := 1) (oi := fr1) (v := ?_) rfl (by kernel_rfl) (by kernel_rfl) (by kernel_rfl) (by kernel_rfl) (by kernel_rfl) (fun _ _ _ h => h) (by rfl) ?_ hė ?_
 rotate_left
 ·intro W hSW; (try dsimp only at hSW); unfold fr1; go_simp; with_reducible rfl
 simp only [fr1, Act.put, sA, sZ, sS]
 refine Tillst.takeG (i := 2) (oi := fr2) (v := ?_) rfl (by kernel_rfl) (by kernel_rfl) (by kernel_rfl) (by kernel_rfl) (by kernel_rfl) (fun _ _ _ h => h) (by rfl) ?_ hė ?_
 rotate_left
 ·intro W hSW; (try dsimp only at hSW); unfold fr2; go_simp; with_reducible rfl
 simp only [fr2, Act.put, sA, sZ, sS]
 refine Tillst.takeG (i := 3) (oi := fr3) (v := ?_) rfl (by kernel_rfl) (by kernel_rfl) (by kernel_rfl) (by kernel_rfl) (by kernel_rfl) (fun _ _ _ h => h) (by rfl) ?_ hė ?_
 rotate_left
 ·intro W hSW; (try dsimp only at hSW); unfold fr3; go_simp; with_reducible rfl
 simp only [fr3, Act.put, sA, sZ, sS]
 refine Tillst.takeG (i := 4) (oi := fr4) (v := ?_) rfl (by kernel_rfl) (by kernel_rfl) (by kernel_rfl) (by kernel_rfl) (by kernel_rfl) (fun _ _ _ h => h) (by rfl) ?_ hė ?_
 rotate_left
 ·intro W hSW; have h9 := (log_cells (HL5.out.below hSW)).1; clear hSW; unfold fr4; go_simp; with_reducible rfl
 simp only [fr4, Act.put, sA, sZ, sS]
 refine Tillst.takeG (i := 5) (oi := fr5) (v := .agg #[.int .i64 s.a, .int .i64 s.b, .int .u64 s.g, .int .u64 G, .int .u64 s.v, .int .u64 s.f]) rfl (by kernel_rfl) (by kernel_rfl) (by kernel_rfl) (by kernel_rfl) (by kernel_rfl) (fun _ _ _ h => h) (by rfl) ?_ hė ?_
 ·intro W hSW; have h9 := HK5.out.below hSW HK5.out.lt; have c0 := h9.cell 0; have c1 := h9.cell 1; have c2 := h9.cell 2; have c3 := h9.cell 3; have c4 := h9.cell 4; have c5 := h9.cell 5; clear hSW h9; simp only [List.getElem?_toArray, List.getElem?_cons_zero, List.getElem?_cons_succ] at c0 c1 c2 c3 c4 c5; unfold fr5; go_simp
 simp only [fr5, Act.put, sA, sZ, sS]
 have HL6 := hI (HL5.out.below hė)
 have HKX6 := hI (HKX5.out.trans (Kept.of_below (S := X) hė (fun b hb => HX5.out b hb)) (fun b h => h))
 have HX6 := hI (show ∀ b, X b → b < vd.heap.size from fun b hb => nL (HX5.out b hb) hė.size)
 have hlg := HLG.out
 have hpe := HPE.out
 have hpd := hlg.pend
 refine Tillst.one (i := 6) (o := fr6) (by kernel_rfl) rfl ?_
 intro K hK
 refine step_call 61 #[.tmp 66, .tmp 67] #[45, 115] rfl rfl Tryz.func61 rfl rfl [.pointer (some ⟨p, 0, none⟩), .agg (supC s.a s.b s.g G s.v s.f)] rfl ((sto_setR HL6.out HX6.out hlg.sin hlg.may hlg.good (by omega) hlg.n2.1 HRG.out HTOP.out).mono ?_)
 rintro e w7 ⟨rfl, hl7, hk7⟩
 refine ⟨_, rfl, ?_⟩
 simp only [fr6, Act.put, sA, sZ, sS]
 have HL7 := hI hl7
 have HKX7 := hI (HKX6.out.trans hk7 (fun b h => h))
 clear hl7 hk7 hlg hpe hpd
 refine hK.out _ _ (fun h => by cases h) (fun _ => ?_)
 clear hK K hė
 refine Tillst.one (i := 7) (o := fr7) (by kernel_rfl) rfl ?_
 intro K hK
 refine step_call 60 #[.tmp 62, .tmp 68] #[24, 36] rfl rfl Tryz.func60 rfl rfl [.pointer (some ⟨l, 0, none⟩), .int .i64 0] rfl ((breaks_ok _ l).mono ?_)
 rintro e w8 ⟨rfl, rfl⟩
 refine ⟨_, rfl, ?_⟩
 simp only [fr7, Act.put, sA, sZ, sS]
 refine hK.out _ _ (fun h => by cases h) (fun _ => ?_)
 clear hK K
 refine Tillst.one (i := 8) (o := fr8) (by kernel_rfl) rfl ?_
 intro K hK
 refine step_value ?_ rfl ?_ ?_
 rotate_left
 ·unfold fr8; go_simp; with_reducible rfl
 simp only [fr8, Act.put, sA, sZ, sS]
 refine hK.out _ _ (fun h => by cases h) (fun _ => ?_)
 clear hK K
 refine Tillst.done (by kernel_rfl) ?_ _
 refine NoPanic.normal ?_
 clear HL5 HX5 HKX5 HL6 HKX6 HX6 HK4 HK5 HB4 HZ3
 have hX8 : ∀ b, X b → b < w8.heap.size := fun b hb => nL (HX.out b hb) HKX7.out.size
 have HX8 := hI hX8
 have HFA := hI (free_any (cap := c) (show RowZ w8 (· < w8.heap.size) (some ⟨bb, off, none⟩) m xs from HL7.out.now) s.b (i : Int))
 have HLL := hI HL7.out.1.lt
 obtain ⟨c0, c1, c2, c3⟩ := log_cells HL7.out
 clear hX8
 go_wp2_with fail
 refine HFA.out.mono ?_
 rintro e w9 ⟨hcase, hb9⟩
 rcases hcase with ⟨hz, v7, rfl, A6, n6, cap6, rfl, hown6⟩ | ⟨hno, rfl⟩
 rotate_left
 ·exact absurd HST.out.2.2 hno
 obtain rfl : m = n6 := by rw [← hown6.1, free_len]; exact HMM.out.symm
 have hal := (Below.refl w9.heap.size w9).alloc (nR _) (.cells #[.int .i64 s.b, .slice A6 m cap6] 95)
 have hbz := hb9.trans (hal.mono hb9.size)
 have hput := HL7.out.put HX8.out hbz (hown6.below hal)
 have HEND := hI (And.intro hput (And.intro hown6.2.2.2 hown6.2.2.1))
 have hlz := HL7.out.below hbz
 obtain ⟨_, b1, b2, _⟩ := log_cells hlz
 obtain ⟨f1, f2⟩ := And.intro (hlz.1.frozen 1) (hlz.1.frozen 2)
 obtain ⟨k0, k1⟩ := ring_cells (Blk.new w9 95 #[.int .i64 s.b, .slice A6 m cap6])
 have hll := HLL.out
 have hb9s := hb9.size
 have hneq : w9.heap.size ≠ l := by omega
 clear hown6 hal hbz hput hlz hb9 hz c0 c1 c2 c3 hll hb9s HFA
 go_wp2_with fail
 (first | go_ret | go_ret2)
 obtain ⟨⟨h1, h2⟩, h3, h4⟩ := HEND.out
 have hlg := HLG.out
 have hok := ok_free HST.out.2.2
 refine ⟨HKX7.out.trans h2 (fun b h => h), .inl ⟨i, rfl, HOLD.out, rfl, ?_⟩⟩
 rw [HG.out]
 refine ⟨⟨A6, cap6, ?_, by rw [free_len, HMM.out]; exact h3, h4⟩, reK_good hlg.good, hok, Int.le_trans (free_top hlg.ok HST.out.1) hlg.top, ?_, ?_, by rw [free_len]; exact hlg.dims, hlg.n2, hlg.room, by rw [reK_pend hlg.good]; exact Nat.zero_le _⟩
 ·rw [free_len, HMM.out]
  exact h1
 ·have h5 := hlg.may
  have h6 := hlg.sin
  have h7 := HRG.out
  have h8 := HTOP.out
  show MayS s.a s.b s.g G
  unfold MayS
  unfold Sup.May MayS at h5
  omega
 ·have h6 := hlg.sin
  have h7 := HRG.out
  have h8 := HTOP.out
  show InS s.a s.b s.g G s.v s.f
  unfold InS
  unfold Sup.In InS at h6
  omega
end
end
section
open Go.RowKit
theorem born_good (a b : Int) : Good (bornK a b) := ((((Good.fresh 1026).put _ _).put _ _).sync)
theorem born_pend (a b : Int) : (bornK a b).pend = [] := (((Good.fresh 1026).put _ _).put _ _).pend_sync
theorem born_held (a b : Int) (j : Nat) (hj : 2 ≤ j) (hn : j < 1026) : (bornK a b).held.getD j [] = noughts 64 := by
 unfold bornK
 rw [(((Good.fresh 1026).put _ _).put _ _).held_sync, ((Good.fresh 1026).put _ _).held_put, (Good.fresh 1026).held_put]
 simp only [List.getD, List.getElem?_set]
 rw [if_neg (by omega), if_neg (by omega)]
 have : (Dk.fresh 1026).held = List.replicate 1026 (noughts 64) := by rfl
 rw [this, List.getElem?_replicate, if_pos hn]
 rfl
end
end Go.Proofs.YtjmjhldjablfeaaGreat
