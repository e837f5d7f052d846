/- Texts of LogReads, packed. -/
import Derived.Test.YtjmjhldjablfeaaGreatPackLogReads10
import Derived.RangeFuncNested
import Derived.RangeFuncLeaves
import Derived.RangeFuncFrom
import Derived.RangeFuncBound
import Derived.OrdersIn
import Derived.TacticsIn
import Derived.RangeFuncKeeps
import Derived.RangeFuncOwn
set_option linter.unusedVariables false
set_option linter.unusedSimpArgs false
set_option maxRecDepth 100000
set_option maxHeartbeats 16000000
namespace Go.Proofs.YtjmjhldjablfeaaGreat
section
open Go.RowKit
theorem strK_pend {k : Dk} {s : Sup} (h : Good k) (i : Nat) : (strK k s i).pend = k.pend := by
 unfold strK
 split
 ·rw [h.rd]
 ·rfl
theorem stR_good {k : Dk} {s : Sup} (h : Good k) (at_ : Nat) : ∀ j, Good (stR (fun k i => strK k s i) k at_ j) ∧ (stR (fun k i => strK k s i) k at_ j).held = k.held ∧ (stR (fun k i => strK k s i) k at_ j).pend = k.pend
 | 0 => ⟨h, rfl, rfl⟩
 | j + 1 => by
  obtain ⟨h1, h2, h3⟩ := stR_good h at_ j
  exact ⟨strK_good h1 _, (strK_held h1 _).trans h2, (strK_pend h1 _).trans h3⟩
abbrev adrW (a : Int × Int × Int) : Value := .agg #[.int .i64 a.1, .int .u64 a.2.1, .int .i64 a.2.2]
noncomputable section
def appR (s : Sup) (xs : List Seg) (K : Nat) : Option (Nat × Sup × List Seg) :=
 if (K : Int) ≤ leftR s.b xs then some ((opnR xs).toNat, s, xs) else
 if nxtR xs < 0 then none else some ((nxtR xs).toNat, genS s, openX (sealedX s.b xs) (s.g + 1))
end
section
variable {w w' : World} {X Y : Nat → Prop} {l p d n : Nat} {s : Sup} {t : Int} {k : Dk} {xs : List Seg} {pe : Nat} {a : Int × Int × Int} {bs : List Int}
theorem LgM.ok_k (h : LgM w X l p d n s t k xs pe) : k.Ok n := by
 obtain ⟨A, c, hl, _, _⟩ := h.log
 obtain ⟨_, _, R, hs, _, _⟩ := hl
 exact hs.2.1.ok
theorem LgM.pe_le {pe2 : Nat} (h : LgM w X l p d n s t k xs pe) (hp : pe ≤ pe2) : LgM w X l p d n s t k xs pe2 :=
 ⟨h.log, h.good, h.ok, h.top, h.may, h.sin, h.dims, h.n2, h.room, nT h.pend hp⟩
theorem LogM.off {S : Nat → Prop} {sec : Int} {A : Option Addr} {m c : Nat} {br : Bool} (h : LogM w X l p d n s t k sec A m c xs br) (hk : Kept S w w') (hS : ∀ b, b < w.heap.size → ¬ X b → S b) : LogM w' X l p d n s t k sec A m c xs br := by
 obtain ⟨h1, h2, R, h3, h4, h5⟩ := h
 exact ⟨h1.kept hk (hS _ h1.lt h2), h2, R, StoreM.kept h3 hk (fun b hb hx => hS b hb (fun e => hx (.inl e))) (fun b _ h => h), h4.kept hk (fun b h => hS b (h5 b h).1 (h5 b h).2.2), fun b h => ⟨nL (h5 b h).1 hk.size, (h5 b h).2⟩⟩
theorem LgM.off {S : Nat → Prop} (h : LgM w X l p d n s t k xs pe) (hk : Kept S w w') (hS : ∀ b, b < w.heap.size → ¬ X b → S b) : LgM w' X l p d n s t k xs pe := by
 obtain ⟨A, c, h1, h2, h3⟩ := h.log
 exact ⟨⟨A, c, h1.off hk hS, h2, h3⟩, h.good, h.ok, h.top, h.may, h.sin, h.dims, h.n2, h.room, h.pend⟩
def ReadH (w : World) (X : Nat → Prop) (l p d n : Nat) (s : Sup) (t : Int) (k : Dk) (xs : List Seg) (pe : Nat) (bs : List Int) (e : Ending) (w' : World) : Prop :=
 ∃ b1 b2 k', e = .returned (.tuple #[.agg (recT9 bs b1 b2), .int .i64 0]) ∧ w.heap.size ≤ b1 ∧ w.heap.size ≤ b2 ∧ b1 ≠ b2 ∧ ArrU w' b1 (keyOf bs) ∧ ArrU w' b2 (valOf bs) ∧ LgM w' X l p d n s t k' xs pe ∧ k'.held = k.held ∧ Kept X w w'
theorem read_at (h : LgM w X l p d n s t k xs pe) (hX : ∀ b, X b → b < w.heap.size) (ha : AtR k s xs a bs) :
 Calls Tryz.prog 13 #[.pointer (some ⟨l, 0, none⟩), adrW a] w (ReadH w X l p d n s t k xs pe bs) := by
 obtain ⟨hr, i, c, rfl, h2, h3, h4, h5⟩ := ha
 obtain ⟨A, cc, hl, hc, hn⟩ := h.log
 have hlen := h.ok.1
 unfold SizedR at hlen
 have hdim := h.dims
 have hub := used_le h.ok h2
 have hc1 : 1 ≤ cntOf bs.length := by unfold cntOf; omega
 have hu : usesB xs (i : Nat) (genG xs i) (c : Nat) = true := by
  rw [uses_in h2]
  have e1 : decide ((c : Int) < (xs.getD i seg0).2.2) = true := decide_eq_true (by have : usedG xs i = (xs.getD i seg0).2.2 := rfl; omega)
  have e2 : decide (1 ≤ (c : Int)) = true := decide_eq_true (by omega)
  rw [e1, e2]
  show ((genG xs i == genG xs i) && (true && true)) = true
  rw [beq_self_eq_true]
  rfl
 have hg : 1 ≤ genG xs i ∧ genG xs i ≤ 18446744073709551615 := by
  have h0 : stG xs i ≠ 0 := fun e => by have := used_free h.ok h2 e; omega
  have h9 := h.top
  have h8 := top_max h2 h0
  have h7 := (may_live (may_at h.ok.2.1 h2) h0).2.1
  have h6 := h.sin
  simp only [Sup.In, InS] at h6
  have : genG xs i = (xs.getD i seg0).2.1 := rfl
  omega
 obtain ⟨r1, r2, r3⟩ := rec_stands (V := strV k s i) (E := strE s) hr h5 (fun j hj => by unfold strE; rw [if_pos (by omega)]) hg (by omega)
 refine (read_used hl hX (by omega) h.may h.good h.ok_k i (by omega) h.room h.n2.2 (genG xs i) c (by omega) hu).mono ?_
 rintro e w' ⟨rec, er, rfl, hrd, hlog, hk⟩
 obtain ⟨_, q2, _, q4⟩ := hrd
 have hz : er = 0 := q2.trans r1
 obtain ⟨ys, b1, b2, e1, e2, e3, e4, e5, e6, e7⟩ := q4 hz
 rw [r2, r3] at e1
 subst e1 e2 hz
 obtain ⟨g1, g2, g3⟩ := stR_good (s := s) h.good c (standR (strV k s i) (strE s) (genG xs i) c)
 exact ⟨b1, b2, _, rfl, e3, e4, e5, e6, e7, ⟨⟨A, cc, hlog, hc, hn⟩, g1, h.ok, h.top, h.may, h.sin, h.dims, h.n2, h.room, by rw [g3]; exact h.pend⟩, g2, hk⟩
end
end
section
open Go.RowKit
def Laid (V : Nat → List Int) (gen : Int) : Nat → List (Nat × List Int) → Nat → Prop
 | c, [], e => c = e
 | c, p :: rs, e => p.1 = c ∧ RecOk p.2 ∧ (∀ j, j < cntOf p.2.length → V (c + j) = packL gen ((c : Int) + j) (partOf p.2 j)) ∧ Laid V gen (c + cntOf p.2.length) rs e
section
variable {V W : Nat → List Int} {gen : Int}
theorem Laid.le : ∀ {rs : List (Nat × List Int)} {c e : Nat}, Laid V gen c rs e → c ≤ e
 | [], _, _, h => Nat.le_of_eq h
 | p :: rs, c, e, ⟨_, _, _, h⟩ => nT (Nat.le_add_right _ _) h.le
theorem Laid.ext : ∀ {rs : List (Nat × List Int)} {c e : Nat}, Laid V gen c rs e → (∀ j, c ≤ j → j < e → W j = V j) → Laid W gen c rs e
 | [], _, _, h, _ => h
 | p :: rs, c, e, ⟨h1, h2, h3, h4⟩, hw => ⟨h1, h2, fun j hj => by
  have := h4.le
  rw [hw (c + j) (by omega) (by omega)]
  exact h3 j hj, h4.ext (fun j h5 h6 => hw j (by omega) h6)⟩
theorem Laid.snoc : ∀ {rs : List (Nat × List Int)} {c e : Nat} {bs : List Int}, Laid V gen c rs e → RecOk bs → (∀ j, j < cntOf bs.length → V (e + j) = packL gen ((e : Int) + j) (partOf bs j)) → Laid V gen c (rs ++ [(e, bs)]) (e + cntOf bs.length)
 | [], c, e, bs, h, hr, hv => by
  have h : c = e := h
  subst h
  exact ⟨rfl, hr, hv, rfl⟩
 | p :: rs, c, e, bs, ⟨h1, h2, h3, h4⟩, hr, hv => ⟨h1, h2, h3, h4.snoc hr hv⟩
theorem Laid.mem : ∀ {rs : List (Nat × List Int)} {c e : Nat} {p : Nat × List Int}, Laid V gen c rs e → p ∈ rs → RecOk p.2 ∧ c ≤ p.1 ∧ p.1 + cntOf p.2.length ≤ e ∧ ∀ j, j < cntOf p.2.length → V (p.1 + j) = packL gen ((p.1 : Int) + j) (partOf p.2 j)
 | q :: rs, c, e, p, ⟨h1, h2, h3, h4⟩, hp => by
  rcases List.mem_cons.1 hp with rfl | hp
  ·have := h4.le
   subst h1
   exact ⟨h2, nR _, this, h3⟩
  ·obtain ⟨g1, g2, g3, g4⟩ := h4.mem hp
   exact ⟨g1, by omega, g3, g4⟩
theorem cnt_pos (n : Nat) : 1 ≤ cntOf n := by unfold cntOf; omega
theorem scan_laid {xss : List (List Int)} (hg : 1 ≤ gen ∧ gen ≤ 18446744073709551615) (hx : xss.length ≤ 80000) : ∀ {rs : List (Nat × List Int)} {c e f : Nat}, Laid (ldV xss) gen c rs e → e ≤ xss.length → standE (ldV xss) (ldE xss) gen e ≠ 0 → xss.length ≤ c + f → scanL xss gen f c = rs ∧ scanU xss gen f c = e
 | [], c, e, f, h, _, hn, _ => by
  have h : c = e := h
  subst h
  exact ⟨scanL_end hn, scanU_end hn⟩
 | p :: rs, c, e, f, ⟨h1, h2, h3, h4⟩, he, hn, hf => by
  have hle := h4.le
  have hc := cnt_pos p.2.length
  obtain ⟨g1, g2, g3⟩ := rec_stands (E := ldE xss) (at_ := c) h2 h3 (fun j hj => ldE_zero.2 (by omega)) hg (by omega)
  obtain ⟨f', rfl⟩ : ∃ f', f = f' + 1 := ⟨f - 1, by omega⟩
  have ih := scan_laid hg hx h4 he hn (f := f') (by omega)
  rw [scanL, scanU, if_pos g1, if_pos g1, g2, g3, ih.1, ih.2]
  obtain ⟨p1, p2⟩ := p
  have h1 : p1 = c := h1
  subst h1
  exact ⟨rfl, rfl⟩
end
end
section
open Go.RowKit
structure HistR (k : Dk) (s : Sup) (xs : List Seg) (rs : Nat → List (Nat × List Int)) : Prop where
 hdr : ∀ i, i < xs.length → stG xs i ≠ 0 → strV k s i 0 = hdrL i (genG xs i)
 laid : ∀ i, i < xs.length → stG xs i ≠ 0 → ∃ e : Nat, usedG xs i = e ∧ Laid (strV k s i) (genG xs i) 1 (rs i) e
 tail : ∀ i, i < xs.length → stG xs i ≠ 0 → ∀ j : Nat, usedG xs i ≤ j → (j : Int) < s.b → beginsN (strV k s i j) (genG xs i) j = 0
 old : ∀ i j : Nat, i < xs.length → (j : Int) < s.b → stamped (strV k s i j) = true → genOf (strV k s i j) ≤ s.g
section
variable {k k' : Dk} {s : Sup} {xs : List Seg} {rs : Nat → List (Nat × List Int)}
theorem HistR.held (h : HistR k s xs rs) (hk : k'.held = k.held) : HistR k' s xs rs := by
 have e : ∀ i j, strV k' s i j = strV k s i j := fun i j => strV_held hk j
 have e2 : ∀ i, strV k' s i = strV k s i := fun i => funext (e i)
 exact ⟨fun i h1 h2 => by rw [e]; exact h.hdr i h1 h2, fun i h1 h2 => by rw [e2]; exact h.laid i h1 h2, fun i h1 h2 j h3 h4 => by rw [e]; exact h.tail i h1 h2 j h3 h4, fun i j h1 h2 h3 => by rw [e] at h3 ⊢; exact h.old i j h1 h2 h3⟩
theorem begins_other {ys : List Int} {g : Int} {at_ : Int} (h : stamped ys = true → genOf ys < g) : beginsN ys g at_ = 0 := by
 unfold beginsN
 rw [if_neg (fun h2 => by have := h h2.1; omega)]
theorem st_set9 {xs : List Seg} {i j : Nat} {x : Seg} (hi : i < xs.length) : stG (xs.set i x) j = if i = j then x.1 else stG xs j := by
 unfold stG
 by_cases e : i = j
 ·subst e; simp [List.getD, hi]
 ·simp [List.getD, List.getElem?_set_ne e, e]
theorem part_le9 (bs : List Int) (j : Nat) : (partOf bs j).length ≤ 48 := by
 unfold partOf
 simp
 omega
theorem HistR.lay {n : Nat} (h : HistR k s xs rs) (hg : Good k) (hok : OkR s.b xs) (htop : topG xs ≤ s.g) (hgm : s.g ≤ 18446744073709551615) (hn : k.held.length = n) (hroom : 2 + s.a * s.b ≤ (n : Int)) (hdim : (xs.length : Int) = s.a) {i u : Nat} (ho : opnR xs = (i : Nat)) (hu : usedG xs i = u) {bs2 : List Int} (hr : RecOk bs2) (hfit : ((cntOf bs2.length : Nat) : Int) ≤ leftR s.b xs) (hgt : genG xs i ≤ topG xs) :
 HistR (layK k s xs i bs2) s (useX xs ((cntOf bs2.length : Nat) : Int)) (fun q => if q = i then rs i ++ [(u, bs2)] else rs q) := by
 obtain ⟨o1, o2, o3, o4, o5, o6⟩ := opn_bounds hok ho
 have hE := use_zero hok (n := ((cntOf bs2.length : Nat) : Int)) (by omega) (by omega) hfit
 obtain ⟨i2, u1, u2, u3, u4, u5, u6, u7, u8, u9, u10, u11⟩ := use_facts hE
 obtain rfl : i2 = i := by omega
 have hc2 : 1 ≤ cntOf bs2.length := cnt_pos _
 obtain ⟨b, hb⟩ : ∃ b : Nat, s.b = b := ⟨s.b.toNat, by have hz := hok.1; unfold SizedR at hz; omega⟩
 have hroomN : 2 + xs.length * b ≤ n := by
  rw [← hdim, hb] at hroom
  have : ((xs.length * b : Nat) : Int) = (xs.length : Int) * (b : Int) := by push_cast; rfl
  omega
 have hV := fun seg j hj => lay_V (seg := seg) (j := j) (bs := bs2) hg (a := xs.length) (b := b) (u := u) (i := i2) hdim.symm hb hu hn hroomN u1 (by omega) hj
 have hu1 : 1 ≤ u := by omega
 have hg1 : 1 ≤ genG xs i2 := by omega
 have hsti : stG xs i2 ≠ 0 := by rw [o6]; decide
 have hst : ∀ q, stG (useX xs ((cntOf bs2.length : Nat) : Int)) q ≠ 0 → stG xs q ≠ 0 := fun q hq => by
  rw [u10, st_set9 u1] at hq
  by_cases e : i2 = q
  ·subst e; exact hsti
  ·rw [if_neg e] at hq; exact hq
 have hgen : ∀ j, genG (useX xs ((cntOf bs2.length : Nat) : Int)) j = genG xs j := fun j => by
  rw [u10, gen_set u1]
  by_cases e : i2 = j
  ·subst e; rw [if_pos rfl]
  ·rw [if_neg e]
 have hus : ∀ j, usedG (useX xs ((cntOf bs2.length : Nat) : Int)) j = if i2 = j then usedG xs i2 + cntOf bs2.length else usedG xs j := fun j => by
  rw [u10, used_set9 u1]
 refine ⟨fun q h1 h2 => ?_, fun q h1 h2 => ?_, fun q h1 h2 j h3 h4 => ?_, fun q j h1 h2 h3 => ?_⟩
 ·rw [hV q 0 (by omega), if_neg (by omega), hgen]
  exact h.hdr q (by omega) (hst q h2)
 ·obtain ⟨e, e1, e2⟩ := h.laid q (by omega) (hst q h2)
  rw [hgen, hus]
  by_cases eq : i2 = q
  ·subst eq
   rw [if_pos rfl, if_pos rfl]
   obtain rfl : e = u := by omega
   refine ⟨e + cntOf bs2.length, by rw [hu]; push_cast; rfl, Laid.snoc (e2.ext fun j h3 h4 => ?_) hr (fun j hj => ?_)⟩
   ·rw [hV i2 j (by omega), if_neg (by omega)]
   ·rw [hV i2 (e + j) (by omega), if_pos ⟨rfl, by omega, by omega⟩, show e + j - e = j by omega]
    push_cast
    rfl
  ·rw [if_neg eq, if_neg (fun e3 => eq e3.symm)]
   have hub := used_le hok (show q < xs.length by omega)
   refine ⟨e, e1, e2.ext fun j h3 h4 => ?_⟩
   rw [hV q j (by omega), if_neg (fun h5 => eq h5.1.symm)]
 ·rw [hus] at h3
  rw [hgen, hV q j (by omega)]
  by_cases eq : i2 = q
  ·subst eq
   rw [if_pos rfl] at h3
   rw [if_neg (by omega)]
   exact h.tail i2 (by omega) hsti j (by omega) (by omega)
  ·rw [if_neg eq] at h3
   rw [if_neg (fun h5 => eq h5.1.symm)]
   exact h.tail q (by omega) (hst q h2) j h3 (by omega)
 ·rw [hV q j (by omega)] at h3 ⊢
  by_cases e : q = i2 ∧ u ≤ j ∧ j < u + cntOf bs2.length
  ·rw [if_pos e]
   rw [(pack_said (genG xs i2) (j : Int) (partOf bs2 (j - u)) (by omega) (by omega) (by omega) (by have := used_le hok (show i2 < xs.length from u1); omega) (part_le9 _ _)).1]
   omega
  ·rw [if_neg e] at h3 ⊢
   exact h.old q j (by omega) h2 h3
theorem HistR.beg {n : Nat} (h : HistR k s xs rs) (hg : Good k) (hok : OkR s.b xs) (hg0 : 0 ≤ s.g) (hgm : s.g + 1 ≤ 18446744073709551615) (hn : k.held.length = n) (hroom : 2 + s.a * s.b ≤ (n : Int)) (hdim : (xs.length : Int) = s.a) (t : Int) {i : Nat} (hi : nxtR xs = (i : Nat)) (hE : openE s.b (sealedX s.b xs) (s.g + 1) = 0) :
 HistR (begK k s t i) (genS s) (openX (sealedX s.b xs) (s.g + 1)) (fun q => if q = i then [] else rs q) := by
 have hz : sealedX s.b xs = if sealE s.b xs = 0 then sealX xs else xs := rfl
 obtain ⟨z1, z2, z3, z4, z5, z6, z7⟩ := seal_facts hok hz
 obtain ⟨j, j1, j2, j3, j4, j5, j6, j7, j8, j9, j10, j11⟩ := open_facts hE
 obtain rfl : j = i := by omega
 obtain ⟨b, hb⟩ : ∃ b : Nat, s.b = b := ⟨s.b.toNat, by have hz := hok.1; unfold SizedR at hz; omega⟩
 have hb24 : 24 ≤ b := by have hz := hok.1; unfold SizedR at hz; omega
 have hV := fun seg q hq hq1 => beg_V (k := k) (s := s) (i := j) hg hb t seg q hq hq1
 have hV0 : strV (begK k s t j) (genS s) j 0 = hdrL j (s.g + 1) := by
  have hp2 : (2 + (j : Int) * s.b + ((0 : Nat) : Int)).toNat = (2 + (j : Int) * s.b).toNat := by simp
  have hp1 : (2 + (j : Int) * s.b).toNat = 2 + (j * b + 0) := by
   rw [hb]
   have h9 := pos_nat j b 0
   simpa using h9
  have hroomN : 2 + xs.length * b ≤ n := by
   rw [← hdim, hb] at hroom
   have : ((xs.length * b : Nat) : Int) = (xs.length : Int) * (b : Int) := by push_cast; rfl
   omega
  have hin := pos_in (p := j) (i := 1) (b := b) (a := xs.length) (n := n) (by omega) (by omega) hroomN
  unfold strV
  rw [if_pos (show ((0 : Nat) : Int) < (genS s).b by show ((0 : Nat) : Int) < s.b; omega)]
  show (begK k s t j).held.getD (2 + (j : Int) * s.b + ((0 : Nat) : Int)).toNat [] = _
  rw [hp2, hp1]
  unfold begK setK
  rw [((hg.put _ _).sync.put _ _).held_sync, (hg.put _ _).sync.held_put, (hg.put _ _).held_sync, hg.held_put, hp1]
  simp only [List.getD]
  rw [List.getElem?_set_self (by rw [List.length_set, hn]; omega)]
  rfl
 have hst : ∀ q, q ≠ j → stG (openX (sealedX s.b xs) (s.g + 1)) q ≠ 0 → stG xs q ≠ 0 := fun q hq h0 h1 => h0 (by
  rw [j11, st_set9 j1, if_neg (Ne.symm hq)]
  exact (z7 q).1.2 h1)
 have hgen : ∀ q, q ≠ j → genG (openX (sealedX s.b xs) (s.g + 1)) q = genG xs q := fun q hq => by
  rw [j11, gen_set j1, if_neg (Ne.symm hq)]; exact (z7 q).2.1
 have hus : ∀ q, q ≠ j → usedG (openX (sealedX s.b xs) (s.g + 1)) q = usedG xs q := fun q hq => by
  rw [j11, used_set9 j1, if_neg (Ne.symm hq)]; exact (z7 q).2.2
 refine ⟨fun q h1 h2 => ?_, fun q h1 h2 => ?_, fun q h1 h2 p h3 h4 => ?_, fun q p h1 h2 h3 => ?_⟩
 ·by_cases e : q = j
  ·subst e; rw [hV0, j7]
  ·rw [hV q 0 (by omega) (.inr e), hgen q e]
   exact h.hdr q (by omega) (hst q e h2)
 ·by_cases e : q = j
  ·subst e
   exact ⟨1, j8, by rw [if_pos rfl]; rfl⟩
  ·obtain ⟨e1, e2, e3⟩ := h.laid q (by omega) (hst q e h2)
   rw [hgen q e, hus q e, if_neg e]
   have hub := used_le hok (show q < xs.length by omega)
   have he := e3.le
   exact ⟨e1, e2, e3.ext fun p h3 h4 => hV q p (by omega) (.inr e)⟩
 ·have h4' : (p : Int) < s.b := h4
  by_cases e : q = j
  ·subst e
   rw [j8] at h3
   rw [hV q p (by omega) (.inl (by omega)), j7]
   exact begins_other fun h5 => by have := h.old q p (by omega) h4' h5; omega
  ·rw [hus q e] at h3
   rw [hgen q e, hV q p (by omega) (.inr e)]
   exact h.tail q (by omega) (hst q e h2) p h3 h4'
 ·have h2' : (p : Int) < s.b := h2
  show _ ≤ s.g + 1
  by_cases e : q = j ∧ p = 0
  ·obtain ⟨rfl, rfl⟩ := e
   rw [hV0]
   have := (pack_said (s.g + 1) 0 [(q : Int) / 256, (q : Int)] (by omega) hgm (by omega) (by omega) (by simp)).1
   unfold hdrL
   omega
  ·have e1 : strV (begK k s t j) (genS s) q p = strV k s q p := hV q p (by omega) (by omega)
   rw [e1] at h3 ⊢
   have := h.old q p (by omega) h2' h3
   omega
end
end
section
open Go.RowKit
section
variable {F : Fence} {n : Nat} {P : Program} {w : World}
end
end
section
open Go.RowKit
section
variable {P : Program} {n l : Nat} {Q : Exit → Act → World → Prop}
theorem callsIn_round {f : FuncId} {args : Array Value} {w : World} {R : Ending → World → Prop} (h : Calls P f args w R) : CallsIn (Fence.wide.inRound l) n P f args w R :=
 ⟨trivial, fun cs _ => let ⟨e, w', fr, r, s, x⟩ := h cs; ⟨e, w', fr, r, comesIn_wide.2 s, x⟩⟩
theorem rowsIn_round {row : String} {args : Array Value} {w : World} {R : Value → World → Prop} (h : Rows P row args w R) : RowsIn (Fence.wide.inRound l) n P row args w R :=
 fun c cs _ => let ⟨v, w', r, s⟩ := h c cs; ⟨v, w', r, stepsIn_wide.2 s⟩
theorem operIn_round {o : Oper} {a : Act} {w : World} {K : Act → World → Prop} (hnd : ∀ c, o.op ≠ .defer c) (h : o.wp P a w K Q) : o.wpIn (Fence.wide.inRound l) n P a w K Q := by
 refine ⟨fun _ _ => trivial, ?_⟩
 rw [Oper.semAt_eq _ _ _ hnd]
 unfold Oper.wp at h
 generalize (execOp a.eval o).run P w = r at *
 have hd : (Fence.wide.inRound l).depth.isSome = true → 1 ≤ n := fun h => by simp [Fence.wide] at h
 cases r with
 | ok x w' =>
  cases x <;> simp only [Oper.upon] at h <;> simp only [Oper.uponIn]
  all_goals first
   | exact h
   | exact ⟨hd, callsIn_round h⟩
   | exact ⟨hd, rowsIn_round h⟩
   | exact ⟨hd, h⟩
 | halt x w' => cases x <;> simp only [Oper.upon] at h <;> simp only [Oper.uponIn] <;> exact h
theorem anyIn_round {md : Region.Mode} {ops : Array Oper} (hnd : ∀ (i : Nat) (o : Oper), ops[i]? = some o → ∀ c, o.op ≠ .defer c) (hno : LetsOut Q → False) :
 ∀ (k : Nat) (L : Array Bool) (a : Act) (w : World), wpAny P md ops Q k L a w → wpAnyIn (Fence.wide.inRound l) n P md ops Q k L a w
 | 0, _, _, _, h => h
 | k + 1, L, a, w, h => by
  refine ⟨h.1, fun i hi => ?_⟩
  have h2 := h.2 i hi
  unfold wpOp at h2
  unfold wpOpIn
  split
  ·rename_i ho
   simp only [ho] at h2
   exact anyIn_round hnd hno k _ _ _ h2
  ·rename_i o ho
   simp only [ho] at h2
   split
   ·rename_i hw
    simp only [hw, if_true] at h2
    exact Oper.wpIn_mono (fun a w h => anyIn_round hnd hno k _ _ _ h) (operIn_round (hnd i o ho) (h2.resolve_right fun h => hno h.2))
   ·rename_i hw
    simp only [hw] at h2
    exact ⟨fun _ _ => trivial, anyIn_round hnd hno k _ _ _ h2⟩
theorem region_anyR {id : Nat} {ops : List Oper} {a : Act} {w : World} (hnd : ops.all noDefer = true) (hm : P.follows .mixedOrders = true) (hno : LetsOut Q → False)
 (h : wpAny P .any ops.toArray Q ops.toArray.size (Array.replicate ops.toArray.size false) a w.drew) : (Code.region id ops.toArray true).wpIn (Fence.wide.inRound l) n P Q a w :=
 wpIn_region_any hm (anyIn_round (noDefer_all hnd) hno _ _ _ _ h)
theorem Tillst.round {id : Nat} {ops : List Oper} {a : Act} {w : World} (S : World → Prop) (st : List Nat) (hnd : ops.all noDefer = true) (hm : P.follows .mixedOrders = true) (hno : LetsOut Q → False) (hS : S w.drew)
 (h : S w.drew → Tillst P .any ops.toArray Q S st ops.toArray.size (Array.replicate ops.toArray.size false) a w.drew) : (Code.region id ops.toArray true).wpIn (Fence.wide.inRound l) n P Q a w :=
 region_anyR hnd hm hno (Tillst.any _ _ _ _ (h hS))
def NoPO (Q : Exit → Act → World → Prop) : Exit → Act → World → Prop
 | .panic _, _, _ => False
 | .outgrown, _, _ => False
 | e, a, w => Q e a w
theorem NoPO.imp : ∀ (e : Exit) (a : Act) (w : World), NoPO Q e a w → Q e a w := fun e a w h => by cases e <;> first | exact h | exact h.elim
end
end
section
open Go.RowKit
theorem ownsRow_block {w : World} {base size n g : Nat} {e : TypeId} {v : Value} {xs : List Value} (h : w.ownsRow base e size v n xs) (hv : v.ownBlock = some g) : ∃ cur, w.heap[g]? = some (.cells cur e (0, 0)) ∧ base ≤ g := by
 rcases h.2 with ⟨rfl, _⟩ | ⟨g', cap, cur, rfl, hb, hh, rest⟩
 ·simp [Value.ownBlock] at hv
 ·have : g' = g := by simpa [Value.ownBlock] using hv
  subst this
  exact ⟨cur, hh, hb⟩
theorem ownsRow_slice {w : World} {base size n : Nat} {e : TypeId} {v : Value} {xs : List Value} (h : w.ownsRow base e size v n xs) : ∃ A cap, v = .slice A n cap := by
 rcases h.2 with ⟨rfl, rfl⟩ | ⟨g', cap, cur, rfl, _⟩
 ·exact ⟨_, _, rfl⟩
 ·exact ⟨_, _, rfl⟩
theorem blk_past {w w' : World} {base size n g : Nat} {e t : TypeId} {v : Value} {xs : List Value} {cs : Array Value} (hb : Blk w g t cs) (ho : w.ownsRow base e size v n xs) (hne : t ≠ e) (hg : w.grownBy w' v.ownBlock) : Blk w' g t cs :=
 hb.grown hg (fun h => by
  obtain ⟨cur, hc, _⟩ := ownsRow_block ho h.symm
  rw [show w.heap[g]? = _ from hb] at hc
  cases hc
  exact hne rfl)
theorem own_past {w : World} {base size n g : Nat} {e t : TypeId} {v : Value} {xs : List Value} {cs : Array Value} (ho : w.ownsRow base e size v n xs) (hb : Blk w g t cs) (hne : t ≠ e) (i : Nat) (u : Value) : (w.setCell ⟨g, i, none⟩ u).ownsRow base e size v n xs := by
 rcases ho.2 with h0 | ⟨g', cap, cur, rfl, hbs, hh, rest⟩
 ·exact ⟨ho.1, .inl h0⟩
 ·refine ⟨ho.1, .inr ⟨g', cap, cur, rfl, hbs, ?_, rest⟩⟩
  have : g' ≠ g := by
   rintro rfl
   rw [show w.heap[g']? = _ from hb] at hh
   cases hh
   exact hne rfl
  rw [Below.heap_setCell _ _ _ g' this]
  exact hh
theorem below_append {a w w' : World} {B base size n : Nat} {e : TypeId} {v : Value} {xs : List Value} (hb : Below B a w) (ho : w.ownsRow base e size v n xs) (hB : B ≤ base) (hBw : B ≤ w.heap.size) (hg : w.grownBy w' v.ownBlock) : Below B a w' :=
 hb.grown hg hBw (fun k hk => by obtain ⟨_, _, h⟩ := ownsRow_block ho hk; omega)
def MarksR_x (m : Nat) (Ds : List Nat) (W : World) : Prop := Ds.Nodup ∧ ∀ D, D ∈ Ds → m ≤ D ∧ D < W.heap.size ∧ W.heap[D]? = some (.deferred (some []))
theorem MarksR_x.nil (m : Nat) (W : World) : MarksR_x m [] W := ⟨List.nodup_nil, fun D h => by cases h⟩
theorem MarksR_x.below {m : Nat} {Ds : List Nat} {W W' : World} (h : MarksR_x m Ds W) (hb : Below W.heap.size W W') : MarksR_x m Ds W' :=
 ⟨h.1, fun D hD => by obtain ⟨h1, h2, h3⟩ := h.2 D hD; exact ⟨h1, nL h2 hb.size, by rw [hb.block D h2]; exact h3⟩⟩
end
section
open Go.RowKit
attribute [local go_sem] Oper.semAt_some
abbrev zeroS9 : Array Value := #[.int .u64 0, .int .i64 0, .slice none 0 0]
theorem size_scan : (Tryz.prog.info? 42).map (·.size) = some 3 := by kernel_rfl
theorem one_zeroS9 : zeroS9.all (·.oneCell') = true := by simp [zeroS9, Value.oneCell']
end
end Go.Proofs.YtjmjhldjablfeaaGreat
