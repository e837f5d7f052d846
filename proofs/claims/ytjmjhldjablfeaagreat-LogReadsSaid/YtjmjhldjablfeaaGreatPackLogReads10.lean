/- Texts of LogReads, packed. -/
import Derived.Test.YtjmjhldjablfeaaGreatPackLogReads9
import Derived.BigQuiet
import Derived.Deep.DeepCutAuto
set_option linter.unusedVariables false
set_option linter.unusedSimpArgs false
set_option maxRecDepth 100000
set_option maxHeartbeats 16000000
namespace Go.Proofs.YtjmjhldjablfeaaGreat
section
theorem opn_uniq {sec : Int} {xs : List Seg} (h : OkR sec xs) {i : Nat} (hi : i < xs.length) (h1 : stG xs i = 1) : opnR xs = i ∧ latR xs = i := by
 have hl := opn_lat h hi h1
 rcases opn_or h with ⟨_, hz⟩ | ⟨j, hj, e1, e2, _⟩
 ·exact absurd h1 (hz i hi)
 ·exact ⟨by omega, hl⟩
theorem used_set9 {xs : List Seg} {i j : Nat} {x : Seg} (hi : i < xs.length) : usedG (xs.set i x) j = if i = j then x.2.2 else usedG xs j := by
 unfold usedG
 by_cases e : i = j
 ·subst e; simp [List.getD, List.getElem?_set_self hi]
 ·simp [List.getD, List.getElem?_set_ne e, e]
theorem lat_congr {xs zs : List Seg} (h : ∀ j, (stG zs j = 0 ↔ stG xs j = 0) ∧ genG zs j = genG xs j) : ∀ k, latTo zs k = latTo xs k
 | 0 => rfl
 | k + 1 => by
  have ih := lat_congr h k
  unfold latTo
  rw [ih, (h k).2, (h (latTo xs k).toNat).2]
  by_cases e : stG xs k = 0
  ·have e2 := (h k).1.2 e
   rw [if_neg (fun hh => hh.1 e2), if_neg (fun hh => hh.1 e)]
  ·have e2 : stG zs k ≠ 0 := fun hh => e ((h k).1.1 hh)
   simp [e, e2]
theorem nxt_congr {xs zs : List Seg} (hl : zs.length = xs.length) (h : ∀ j, (stG zs j = 0 ↔ stG xs j = 0)) (a : Int) : ∀ k, nxtTo zs a k = nxtTo xs a k
 | 0 => rfl
 | k + 1 => by
  have ih := nxt_congr hl h a k
  unfold nxtTo
  rw [ih, hl]
  by_cases e : stG xs ((a + 1 + k).toNat % xs.length) = 0
  ·rw [if_pos ((h _).2 e), if_pos e]
  ·rw [if_neg (fun hh => e ((h _).1 hh)), if_neg e]
theorem seal_facts {sec : Int} {xs zs : List Seg} (h : OkR sec xs) (hz : zs = if sealE sec xs = 0 then sealX xs else xs) :
 OkR sec zs ∧ opnR zs = -1 ∧ latR zs = latR xs ∧ nxtR zs = nxtR xs ∧ topG zs = topG xs ∧ zs.length = xs.length ∧ ∀ j, (stG zs j = 0 ↔ stG xs j = 0) ∧ genG zs j = genG xs j ∧ usedG zs j = usedG xs j := by
 have key : OkR sec zs ∧ opnR zs = -1 ∧ zs.length = xs.length ∧ ∀ j, (stG zs j = 0 ↔ stG xs j = 0) ∧ genG zs j = genG xs j ∧ usedG zs j = usedG xs j := by
  rcases opn_or h with ⟨e1, hno⟩ | ⟨i, hi, e1, e2, hs⟩
  ·have hE : sealE sec xs ≠ 0 := by unfold sealE; rw [if_neg (fun k => k h), if_pos (by omega)]; decide
   rw [if_neg hE] at hz
   subst hz
   exact ⟨h, e1, rfl, fun j => ⟨Iff.rfl, rfl, rfl⟩⟩
  ·have hE : sealE sec xs = 0 := by unfold sealE; rw [if_neg (fun k => k h), if_neg (by omega)]
   rw [if_pos hE] at hz
   have hX : sealX xs = xs.set i (2, genG xs i, usedG xs i) := by unfold sealX; rw [e1]; rfl
   have hok := ok_seal hE
   rw [hX] at hz hok
   subst hz
   have hst : ∀ j, stG (xs.set i (2, genG xs i, usedG xs i)) j = if i = j then 2 else stG xs j := fun j => st_set hi
   refine ⟨hok, ?_, by simp, fun j => ⟨?_, ?_, ?_⟩⟩
   ·rcases opn_or hok with ⟨e3, _⟩ | ⟨j, hj, e3, _, hs3⟩
    ·exact e3
    ·rw [hst] at hs3
     by_cases e : i = j
     ·rw [if_pos e] at hs3; omega
     ·rw [if_neg e] at hs3
      have := (opn_uniq h (by simpa using hj) hs3).1
      omega
   ·rw [hst]
    by_cases e : i = j
    ·subst e; simp [hs]
    ·rw [if_neg e]
   ·rw [gen_set hi]
    by_cases e : i = j
    ·subst e; simp
    ·rw [if_neg e]
   ·rw [used_set9 hi]
    by_cases e : i = j
    ·subst e; simp
    ·rw [if_neg e]
 obtain ⟨k1, k2, k3, k4⟩ := key
 have hlat : latR zs = latR xs := by unfold latR; rw [k3]; exact lat_congr (fun j => ⟨(k4 j).1, (k4 j).2.1⟩) _
 refine ⟨k1, k2, hlat, ?_, ?_, k3, k4⟩
 ·unfold nxtR; rw [hlat, k3]; exact nxt_congr k3 (fun j => (k4 j).1) _ _
 ·unfold topG; rw [hlat, (k4 _).2.1]
theorem open_facts {sec : Int} {zs : List Seg} {g : Int} (hE : openE sec zs g = 0) : ∃ i, i < zs.length ∧ nxtR zs = (i : Nat) ∧ OkR sec (openX zs g) ∧ opnR (openX zs g) = (i : Nat) ∧ latR (openX zs g) = (i : Nat) ∧ topG (openX zs g) = g ∧ genG (openX zs g) i = g ∧ usedG (openX zs g) i = 1 ∧ leftR sec (openX zs g) = sec - 1 ∧
 (openX zs g).length = zs.length ∧ openX zs g = zs.set i (1, g, 1) := by
 have hok := ok_open hE
 unfold openE at hE
 split at hE
 ·omega
 rename_i h0
 split at hE
 ·omega
 split at hE
 ·omega
 split at hE
 ·omega
 rename_i hn
 have hk : OkR sec zs := Decidable.not_not.1 h0
 have hlen : 0 < zs.length := by have := hk.1.1; omega
 obtain ⟨i, hi, e1⟩ : ∃ i, i < zs.length ∧ nxtR zs = (i : Nat) := by
  rcases nxt_or zs with ⟨e, _⟩ | ⟨i, hi, e, _⟩
  ·omega
  ·exact ⟨_, Nat.mod_lt _ hlen, e⟩
 have hX : openX zs g = zs.set i (1, g, 1) := by unfold openX; rw [e1]; rfl
 rw [hX] at hok ⊢
 have hs : stG (zs.set i (1, g, 1)) i = 1 := by rw [st_set hi]; simp
 have hg : genG (zs.set i (1, g, 1)) i = g := by rw [gen_set hi]; simp
 have hu : usedG (zs.set i (1, g, 1)) i = 1 := by rw [used_set9 hi]; simp
 obtain ⟨e2, e3⟩ := opn_uniq hok (by simpa using hi) hs
 refine ⟨i, hi, e1, hok, e2, e3, ?_, hg, hu, ?_, by simp, rfl⟩
 ·unfold topG; rw [e3, if_neg (by omega)]; exact hg
 ·unfold leftR; rw [e2, if_pos (by omega)]; simp only [Int.toNat_natCast]; rw [hu]
theorem use_facts {sec : Int} {xs : List Seg} {n : Int} (hE : useE sec xs n = 0) : ∃ i, i < xs.length ∧ opnR xs = (i : Nat) ∧ OkR sec (useX xs n) ∧ opnR (useX xs n) = (i : Nat) ∧ latR (useX xs n) = (i : Nat) ∧ topG (useX xs n) = topG xs ∧ genG (useX xs n) i = genG xs i ∧ usedG (useX xs n) i = usedG xs i + n ∧
 (useX xs n).length = xs.length ∧ useX xs n = xs.set i (1, genG xs i, usedG xs i + n) ∧ 0 ≤ n ∧ n ≤ leftR sec xs := by
 have hok := ok_use hE
 unfold useE at hE
 split at hE
 ·omega
 rename_i h0
 split at hE
 ·omega
 rename_i h1
 split at hE
 ·omega
 split at hE
 ·omega
 have hk : OkR sec xs := Decidable.not_not.1 h0
 rcases opn_or hk with ⟨e1, _⟩ | ⟨i, hi, e1, e2, hs⟩
 ·omega
 have hX : useX xs n = xs.set i (1, genG xs i, usedG xs i + n) := by unfold useX; rw [e1]; simp only [Int.toNat_natCast]; rw [hs]
 rw [hX] at hok ⊢
 have hs' : stG (xs.set i (1, genG xs i, usedG xs i + n)) i = 1 := by rw [st_set hi]; simp
 have hg : genG (xs.set i (1, genG xs i, usedG xs i + n)) i = genG xs i := by rw [gen_set hi]; simp
 have hu : usedG (xs.set i (1, genG xs i, usedG xs i + n)) i = usedG xs i + n := by rw [used_set9 hi]; simp
 obtain ⟨e3, e4⟩ := opn_uniq hok (by simpa using hi) hs'
 refine ⟨i, hi, e1, hok, e3, e4, ?_, hg, hu, by simp, rfl, by omega, by omega⟩
 unfold topG
 rw [e4, e2, if_neg (by omega), if_neg (by omega)]
 exact hg
theorem turn_open {sec : Int} {xs zs : List Seg} {g : Int} (h : OkR sec xs) (hz : zs = if sealE sec xs = 0 then sealX xs else xs) (hg : topG xs ≤ g) (hn : 0 ≤ nxtR xs) : openE sec zs (g + 1) = 0 := by
 obtain ⟨k1, k2, _, k4, k5, _⟩ := seal_facts h hz
 unfold openE
 rw [if_neg (fun k => k k1), if_neg (by omega), if_neg (by omega), if_neg (by omega)]
theorem use_zero {sec : Int} {xs : List Seg} (h : OkR sec xs) {n : Int} (h0 : 0 ≤ opnR xs) (h1 : 0 ≤ n) (h2 : n ≤ leftR sec xs) : useE sec xs n = 0 := by
 unfold useE
 rw [if_neg (fun k => k h), if_neg (by omega), if_neg (by omega), if_neg (by omega)]
theorem opn_bounds {sec : Int} {xs : List Seg} (h : OkR sec xs) {i : Nat} (ho : opnR xs = (i : Nat)) : i < xs.length ∧ 0 < genG xs i ∧ genG xs i = topG xs ∧ 1 ≤ usedG xs i ∧ usedG xs i + leftR sec xs = sec ∧ stG xs i = 1 := by
 rcases opn_or h with ⟨e1, _⟩ | ⟨j, hj, e1, e2, hs⟩
 ·omega
 obtain rfl : j = i := by omega
 have hm := may_live (may_at h.2.1 hj) (by rw [show (xs.getD j seg0).1 = 1 from hs]; decide)
 refine ⟨hj, hm.2.1, ?_, hm.2.2.1, ?_, hs⟩
 ·unfold topG; rw [e2, if_neg (by omega)]; rfl
 ·unfold leftR; rw [e1, if_pos (by omega)]; simp only [Int.toNat_natCast]; omega
end
section
open Go.RowKit
structure LgM (w : World) (X : Nat → Prop) (l p d n : Nat) (s : Sup) (t : Int) (k : Dk) (xs : List Seg) (pe : Nat) : Prop where
 log : ∃ A c, LogM w X l p d n s t k s.b A xs.length c xs false ∧ xs.length ≤ c ∧ (A = none → c = 0)
 good : Good k
 ok : OkR s.b xs
 top : topG xs ≤ s.g
 may : s.May
 sin : s.In
 dims : (xs.length : Int) = s.a
 n2 : 2 ≤ n ∧ n ≤ 2048
 room : 2 + s.a * s.b ≤ (n : Int)
 pend : k.pend.length ≤ pe
section
variable {w w' : World} {X Y : Nat → Prop} {l p d n m c : Nat} {s : Sup} {t : Int} {k : Dk} {A : Option Addr} {xs : List Seg} {pe : Nat}
theorem LgM.below (h : LgM w X l p d n s t k xs pe) (hb : Below w.heap.size w w') : LgM w' X l p d n s t k xs pe := by
 obtain ⟨A, c, h1, h2, h3⟩ := h.log
 exact ⟨⟨A, c, h1.below hb, h2, h3⟩, h.good, h.ok, h.top, h.may, h.sin, h.dims, h.n2, h.room, h.pend⟩
theorem LgM.grow (h : LgM w X l p d n s t k xs pe) (hb : Below w.heap.size w w') : LgM w' (fun b => X b ∨ (w.heap.size ≤ b ∧ b < w'.heap.size)) l p d n s t k xs pe := by
 obtain ⟨A, c, h1, h2, h3⟩ := h.log
 exact ⟨⟨A, c, h1.grow hb, h2, h3⟩, h.good, h.ok, h.top, h.may, h.sin, h.dims, h.n2, h.room, h.pend⟩
theorem LogM.less {sec : Int} {m c : Nat} {br : Bool} (h : LogM w Y l p d n s t k sec A m c xs br) (hX : ∀ b, X b → Y b) : LogM w X l p d n s t k sec A m c xs br := by
 obtain ⟨h1, h2, R, h3, h4, h5⟩ := h
 refine ⟨h1, fun e => h2 (hX _ e), R, ?_, h4, fun b h => ⟨(h5 b h).1, (h5 b h).2.1, fun e => (h5 b h).2.2 (hX b e)⟩⟩
 exact StoreM.kept (Z := fun _ => True) h3 (Kept.refl _ _) (fun _ _ _ => trivial) (fun b _ h => by
  rcases h with h | h | h
  ·exact .inl (hX b h)
  ·exact .inr (.inl h)
  ·exact .inr (.inr h))
theorem LgM.less (h : LgM w Y l p d n s t k xs pe) (hX : ∀ b, X b → Y b) : LgM w X l p d n s t k xs pe := by
 obtain ⟨A, c, h1, h2, h3⟩ := h.log
 exact ⟨⟨A, c, h1.less hX, h2, h3⟩, h.good, h.ok, h.top, h.may, h.sin, h.dims, h.n2, h.room, h.pend⟩
theorem wrs_pend : ∀ (xss : List (List Int)) (k : Dk) (i : Nat), Good k → (wrs k i xss).1.pend.length ≤ k.pend.length + xss.length
 | [], k, i, h => nR _
 | ys :: r, k, i, h => by
  unfold wrs
  rw [if_pos h.wre]
  have h1 := wrs_pend r (k.wr (Dk.put i ys)) (i + 1) (h.put i ys)
  have h2 : (k.wr (Dk.put i ys)).pend.length ≤ k.pend.length + 1 := by
   rw [h.wr]
   unfold Dk.put
   simp
  simp only [List.length_cons]
  omega
end
end
section
open Go.RowKit
def layK (k : Dk) (s : Sup) (xs : List Seg) (i : Nat) (bs : List Int) : Dk := (wrs k (2 + (i : Int) * s.b + usedG xs i).toNat (splitL (genG xs i) (usedG xs i) bs)).1
section
variable {w w' : World} {X Y : Nat → Prop} {l p d n m c : Nat} {s : Sup} {t : Int} {k : Dk} {A : Option Addr} {xs : List Seg} {pe : Nat}
theorem LogM.setOff {sec : Int} {br : Bool} {q : Nat} {ty : TypeId} {cs : Array Value} (h : LogM w Y l p d n s t k sec A m c xs br) (hm : 2 ≤ m) (hq : Blk w q ty cs) (hsz : cs.size ≤ 3) (hY : Y q) (i : Nat) (v : Value) : LogM (w.setCell ⟨q, i, none⟩ v) Y l p d n s t k sec A m c xs br := by
 obtain ⟨h1, h2, R, h3, h4, h5⟩ := h
 obtain ⟨b, off, rfl, hR, hc⟩ := h4.2 (by omega)
 have hbq : b ≠ q := fun e => by
  subst e
  have h9 := hc (m - 1) (by omega) 2 _ rfl
  rw [hq.cell, Array.getElem?_eq_none (by omega)] at h9
  cases h9
 have hlq : l ≠ q := fun e => h2 (e ▸ hY)
 have hk := (Kept.refl (· ≠ q) w).setCell (p := ⟨q, i, none⟩) (fun h => h rfl) v
 refine ⟨h1.kept hk hlq, h2, (· = b), ?_, ⟨h4.1, fun _ => ⟨b, off, rfl, rfl, fun i2 hi2 j u hu => (hk.cell (p := ⟨b, _, none⟩) hbq).trans (hc i2 hi2 j u hu)⟩⟩, fun b2 e => by subst e; exact ⟨nL (h5 _ hR).1 hk.size, (h5 _ hR).2⟩⟩
 exact StoreM.kept h3 hk (fun b2 _ hx e => hx (.inl (e ▸ hY))) (fun b2 _ hh => by
  rcases hh with hh | hh | hh
  ·exact .inl hh
  ·exact .inr (.inl hh)
  ·exact .inr (.inr (hh ▸ hR)))
theorem LgM.setOff {q : Nat} {ty : TypeId} {cs : Array Value} (h : LgM w Y l p d n s t k xs pe) (hq : Blk w q ty cs) (hsz : cs.size ≤ 3) (hY : Y q) (i : Nat) (v : Value) : LgM (w.setCell ⟨q, i, none⟩ v) Y l p d n s t k xs pe := by
 obtain ⟨A, c, h1, h2, h3⟩ := h.log
 have := h.ok.1.1
 exact ⟨⟨A, c, h1.setOff (by omega) hq hsz hY i v, h2, h3⟩, h.good, h.ok, h.top, h.may, h.sin, h.dims, h.n2, h.room, h.pend⟩
theorem LgM.setOff3 {q : Nat} {ty : TypeId} {a0 a1 a2 : Value} (h : LgM w Y l p d n s t k xs pe) (hq : Blk w q ty #[a0, a1, a2]) (hY : Y q) (hX : ∀ b, X b → Y b) (hne : ∀ b, X b → b ≠ q) (b0 b1 b2 : Value) :
 LgM (((w.setCell ⟨q, 0, none⟩ b0).setCell ⟨q, 1, none⟩ b1).setCell ⟨q, 2, none⟩ b2) X l p d n s t k xs pe ∧ Blk (((w.setCell ⟨q, 0, none⟩ b0).setCell ⟨q, 1, none⟩ b1).setCell ⟨q, 2, none⟩ b2) q ty #[b0, b1, b2] ∧ ∀ V, Kept X V w → Kept X V (((w.setCell ⟨q, 0, none⟩ b0).setCell ⟨q, 1, none⟩ b1).setCell ⟨q, 2, none⟩ b2) := by
 have e0 := hq.set_ 0 b0
 have e1 := e0.set_ 1 b1
 have e2 := e1.set_ 2 b2
 have g0 := h.setOff hq (by simp) hY 0 b0
 have g1 := g0.setOff e0 (by simp) hY 1 b1
 have g2 := g1.setOff e1 (by simp) hY 2 b2
 exact ⟨g2.less hX, e2, fun V hV => ((hV.setCell (p := ⟨q, 0, none⟩) (fun hh => hne q hh rfl) _).setCell (p := ⟨q, 1, none⟩) (fun hh => hne q hh rfl) _).setCell (p := ⟨q, 2, none⟩) (fun hh => hne q hh rfl) _⟩
theorem lay_lg {i : Nat} {B : Option Addr} {n0 c0 : Nat} {bs : List Int} (h : LgM w X l p d n s t k xs pe) (hX : ∀ b, X b → b < w.heap.size) (hpe : pe ≤ 900000)
 (ho : opnR xs = (i : Nat)) (hfit : ((cntOf n0 : Nat) : Int) ≤ leftR s.b xs) (hb : RowI .u8 w (· < w.heap.size) B n0 bs) (hbn : B = none → c0 = 0) (hbc : n0 ≤ c0) (hn0 : n0 ≤ 16384) (hby : Bytes bs) :
 Calls Tryz.prog 49 #[.pointer (some ⟨l, 0, none⟩), .slice B n0 c0] w fun e w' =>
  e = .returned (.tuple #[.agg #[.int .i64 (i : Int), .int .u64 (genG xs i), .int .i64 (usedG xs i)], .int .i64 0]) ∧ LgM w' X l p d n s t (layK k s xs i bs) (useX xs ((cntOf n0 : Nat) : Int)) (pe + cntOf n0) ∧ Kept X w w' := by
 obtain ⟨A, c, h1, h2, h3⟩ := h.log
 obtain ⟨b1, b2, b3, b4, b5, b6⟩ := opn_bounds h.ok ho
 have hue := use_zero h.ok (n := ((cntOf n0 : Nat) : Int)) (by omega) (by omega) hfit
 have htop := h.top
 have hsin := h.sin
 have hmay := h.may
 have hg : genG xs i ≤ 18446744073709551615 := by
  have h9 : s.g ≤ 18446744073709551615 := by
   have := hsin
   simp only [Sup.In, InS] at this
   omega
  omega
 have hb64 : s.b ≤ 64 := hmay.2.2.2.1
 have hoe := opened_yes h.ok (by omega)
 have hbl : bs.length = n0 := hb.1
 have key := lay_good (i := i) (c0 := c0) h1 hX h2 h3 h.good hoe.1 (by rw [hoe.2, ho]) b1 hb hbn hbc hn0 ⟨by omega, hg⟩ ⟨by omega, by omega⟩ hue hby (by rw [← h.dims]; omega) h.may (by omega) h.room h.n2.2 (by have := h.pend; omega)
 refine key.mono ?_
 rintro e w' ⟨he, A', c', h4, h5, h6, h7⟩
 refine ⟨he, ⟨⟨A', c', h4, h6, h7⟩, (wrs_good _ _ _ h.good).2, ok_use hue, ?_, h.may, h.sin, ?_, h.n2, h.room, ?_⟩, h5⟩
 ·obtain ⟨_, _, _, _, _, _, e5, _⟩ := use_facts hue
  rw [e5]; exact h.top
 ·obtain ⟨_, _, _, _, _, _, _, _, _, e5, _⟩ := use_facts hue
  rw [e5]; exact h.dims
 ·have h8 := wrs_pend (splitL (genG xs i) (usedG xs i) bs) k (2 + (i : Int) * s.b + usedG xs i).toNat h.good
  rw [split_length, hbl] at h8
  have := h.pend
  unfold layK
  omega
theorem turn_lg (h : LgM w X l p d n s t k xs pe) (hX : ∀ b, X b → b < w.heap.size) (hpe : pe ≤ 900000) (hgm : s.g + 1 ≤ 18446744073709551615) :
 Calls Tryz.prog 48 #[.pointer (some ⟨l, 0, none⟩)] w fun e w' =>
  ((nxtR xs < 0 ∧ e = .returned (.int .i64 6) ∧ LgM w' X l p d n s t k xs pe) ∨
   (∃ i : Nat, nxtR xs = (i : Nat) ∧ e = .returned (.int .i64 0) ∧ LgM w' X l p d n (genS s) (nxt t) (begK k s t i) (openX (sealedX s.b xs) (s.g + 1)) 0)) ∧ Kept X w w' := by
 obtain ⟨A, c, h1, h2, h3⟩ := h.log
 have hz : sealedX s.b xs = if sealE s.b xs = 0 then sealX xs else xs := rfl
 obtain ⟨z1, z2, z3, z4, z5, z6, z7⟩ := seal_facts h.ok hz
 have hok : ∀ {P : Prop}, ¬ OkR s.b xs → P := fun hh => absurd h.ok hh
 have hop : nextE s.b xs = 0 → openE s.b (sealedX s.b xs) (s.g + 1) = 0 := fun hn => turn_open h.ok hz h.top (by
  unfold nextE at hn
  rw [if_neg (fun k => k h.ok)] at hn
  split at hn
  ·cases hn
  ·omega)
 have key := turn_good h1 hX h2 h3 h.good (by have := h.pend; omega) h.may h.sin hgm h.n2.1 h.n2.2 h.dims h.room hop
 refine key.mono ?_
 intro e w' ht
 rcases ht with ⟨hn, he, h4, h5⟩ | ⟨hn, he, v, hk, kk, ys, A', c', _, h4, h5, h6, h7, h8⟩
 ·have hne : nxtR xs < 0 ∧ nextE s.b xs = 6 := by
   unfold nextE at hn ⊢
   rw [if_neg (fun k => k h.ok)] at hn ⊢
   split at hn
   ·rename_i hh; exact ⟨hh, by rw [if_pos hh]⟩
   ·exact absurd rfl hn
  exact ⟨.inl ⟨hne.1, by rw [he, hne.2], ⟨A, c, h4, h2, h3⟩, h.good, h.ok, h.top, h.may, h.sin, h.dims, h.n2, h.room, h.pend⟩, h5⟩
 ·have hE := hop hn
  rcases h8 with ⟨h8, _⟩ | ⟨_, h8, h9⟩
  ·exact absurd hE h8
  subst h8 h9
  obtain ⟨i, i1, i2, i3, i4, i5, i6, i7, i8, i9, i10, i11⟩ := open_facts hE
  rw [z4] at i2
  have hnx : nxtR (sealedX s.b xs) = (i : Nat) := by rw [z4]; exact i2
  refine ⟨.inr ⟨i, i2, he, ⟨A', c', ?_, h6, h7⟩, ?_, i3, ?_, ?_, ?_, ?_, h.n2, h.room, ?_⟩, hk.trans h5 (fun b h => h)⟩
  ·rw [hnx] at h4; exact h4
  ·exact ((((h.good.put _ _).sync).put _ _).sync)
  ·rw [i6]; exact Int.le_refl _
  ·have := h.may
   exact ⟨this.1, this.2.1, this.2.2.1, this.2.2.2.1, by have := this.2.2.2.2; show s.r ≤ s.g + 1; omega⟩
  ·have := h.sin
   simp only [Sup.In, InS] at this ⊢
   omega
  ·rw [i10, z6]; exact h.dims
  ·have hgd : Good ((setK k s t).wr (Dk.put (2 + (i : Int) * s.b).toNat (hdrL (i : Int).toNat (s.g + 1)))) := ((h.good.put _ _).sync).put _ _
   have := hgd.pend_sync
   unfold begK
   rw [this]
   exact nR _
theorem turn_facts (h : LgM w X l p d n s t k xs pe) {i : Nat} (hi : nxtR xs = (i : Nat)) : opnR (openX (sealedX s.b xs) (s.g + 1)) = (i : Nat) ∧ genG (openX (sealedX s.b xs) (s.g + 1)) i = s.g + 1 ∧ usedG (openX (sealedX s.b xs) (s.g + 1)) i = 1 ∧ leftR s.b (openX (sealedX s.b xs) (s.g + 1)) = s.b - 1 := by
 have hz : sealedX s.b xs = if sealE s.b xs = 0 then sealX xs else xs := rfl
 obtain ⟨_, _, _, z4, _⟩ := seal_facts h.ok hz
 have hE := turn_open h.ok hz h.top (by omega)
 obtain ⟨j, _, j2, _, j4, _, _, j7, j8, j9, _⟩ := open_facts hE
 obtain rfl : j = i := by omega
 exact ⟨j4, j7, j8, j9⟩
theorem left_open {sec : Int} {xs : List Seg} {K : Int} (h : OkR sec xs) (hK : 1 ≤ K) (hl : K ≤ leftR sec xs) : ∃ i : Nat, opnR xs = (i : Nat) := by
 rcases opn_or h with ⟨e, _⟩ | ⟨i, _, e, _⟩
 ·unfold leftR at hl
  rw [e, if_neg (by omega)] at hl
  omega
 ·exact ⟨i, e⟩
end
end
section
open Go.RowKit
theorem rec_sectors (k f x s : Int) (A A' : Option Addr) (n c n' c' : Nat) (w : World) (h : May k f x s n n') (hn : n + n' ≤ 1000000) :
 Calls Tryz.prog 47 #[.agg #[.int .i64 k, .int .u32 f, .int .u32 x, .int .u64 s, .slice A n c, .slice A' n' c']] w fun e w' => e = .returned (.int .i64 (cntOf (21 + n + n'))) ∧ Below w.heap.size w w' := by
 have HB := hI ((Below.refl w.heap.size w).alloc (nR _) (.cells #[.int .i64 k, .int .u32 f, .int .u32 x, .int .u64 s, .slice A n c, .slice A' n' c'] 33))
 have HS := hI (fun v : World => size_yes k f x s A A' n c n' c' v h)
 obtain ⟨m, hm⟩ : ∃ m, 21 + n + n' = m := ⟨_, rfl⟩
 have h0 : 21 ≤ m := by omega
 have h1 : m ≤ 1000021 := by omega
 have h2 : (21 : Int) ≤ (m : Int) := by omega
 have h3 : (m : Int) ≤ 1000021 := by omega
 rw [hm] at HS
 rw [hm]
 have HV := hI (show ((m : Int) + 48 - 1) / 48 = ((cntOf m : Nat) : Int) by unfold cntOf; omega)
 clear h hm
 go_enter Tryz.func47, Tryz.ntmps47
 go_wp2_with fail
 refine (HS.out _).mono ?_
 rintro e w2 ⟨rfl, hb⟩
 have HB2 := hI (HB.out.trans (hb.mono HB.out.size))
 clear hb
 go_wp2_with fail
 go_ret
 rw [← HV.out]
 exact ⟨rfl, HB2.out⟩
end
section
open Go.RowKit
abbrev lp0 : Oper := ⟨some 28, .move (.tmp 0), 24, "log.go:51", #[], none⟩
abbrev lp1 : Oper := ⟨some 29, .nilCheck (.tmp 28), 0, "log.go:51", #[⟨0, .data⟩], none⟩
abbrev lp2 : Oper := ⟨some 30, .fieldAddr 103 (.tmp 29) 1, 0, "log.go:51", #[⟨1, .data⟩], none⟩
abbrev lp3 : Oper := ⟨some 31, .load 95 (.tmp 30), 95, "log.go:51", #[⟨2, .data⟩], none⟩
abbrev lp4 : Oper := ⟨some 32, .call { callee := .value (.func 46), args := #[.tmp 31], argTypes := #[95] }, 3, "log.go:51", #[⟨3, .data⟩], none⟩
abbrev lp5 : Oper := ⟨some 33, .load 33 (.tmp 3), 33, "log.go:51", #[], none⟩
abbrev lp6 : Oper := ⟨some 34, .call { callee := .value (.func 47), args := #[.tmp 33], argTypes := #[33] }, 3, "log.go:51", #[⟨5, .data⟩, ⟨4, .chain⟩], none⟩
abbrev lp7 : Oper := ⟨some 35, .binOp Go.BinOp.lss 3 (.tmp 32) (.tmp 34) 3, 4, "log.go:51", #[⟨4, .data⟩, ⟨6, .data⟩], none⟩
theorem size_rec9 : (Tryz.prog.info? 33).map (·.size) = some 6 := by kernel_rfl
section
variable {w w' : World} {X Y : Nat → Prop} {l p d n : Nat} {s : Sup} {t : Int} {k : Dk} {xs : List Seg} {pe : Nat}
def AppT (w : World) (X : Nat → Prop) (l p d n : Nat) (s : Sup) (t : Int) (k : Dk) (xs : List Seg) (pe K : Nat) (bs : List Int) (e : Ending) (w' : World) : Prop :=
 ((∃ i : Nat, opnR xs = (i : Nat) ∧ (K : Int) ≤ leftR s.b xs ∧ e = .returned (.tuple #[.agg #[.int .i64 (i : Int), .int .u64 (genG xs i), .int .i64 (usedG xs i)], .int .i64 0]) ∧ LgM w' X l p d n s t (layK k s xs i bs) (useX xs (K : Nat)) (pe + K)) ∨
  (leftR s.b xs < (K : Int) ∧ nxtR xs < 0 ∧ e = .returned (.tuple #[.agg #[.int .i64 0, .int .u64 0, .int .i64 0], .int .i64 6]) ∧ LgM w' X l p d n s t k xs pe) ∨
  (leftR s.b xs < (K : Int) ∧ ∃ i : Nat, nxtR xs = (i : Nat) ∧ e = .returned (.tuple #[.agg #[.int .i64 (i : Int), .int .u64 (s.g + 1), .int .i64 1], .int .i64 0]) ∧
    LgM w' X l p d n (genS s) (nxt t) (layK (begK k s t i) (genS s) (openX (sealedX s.b xs) (s.g + 1)) i bs) (useX (openX (sealedX s.b xs) (s.g + 1)) (K : Nat)) (0 + K))) ∧ Kept X w w'
theorem append_good (h : LgM w X l p d n s t k xs pe) (hX : ∀ b, X b → b < w.heap.size) (hpe : pe ≤ 900000) (hgm : s.g + 1 ≤ 18446744073709551615) {k1 f x s1 : Int} {A1 A2 : Option Addr} {n1 c1 n2 c2 : Nat} {us vs : List Int} (hm : May k1 f x s1 n1 n2) (hr : Rng f x s1)
 (hx : RowI .u8 w (· < w.heap.size) A1 n1 us) (hy : RowI .u8 w (· < w.heap.size) A2 n2 vs) (hn1 : A1 = none → c1 = 0) (hn2 : A2 = none → c2 = 0) (hbu : Bytes us) (hbv : Bytes vs) :
 Calls Tryz.prog 9 #[.pointer (some ⟨l, 0, none⟩), .agg #[.int .i64 k1, .int .u32 f, .int .u32 x, .int .u64 s1, .slice A1 n1 c1, .slice A2 n2 c2]] w fun e w' => AppT w X l p d n s t k xs pe (cntOf (21 + n1 + n2)) (recB k1 f x s1 us vs) e w' := by
 have HLG := hI h
 have hbs := recB_bytes (k := k1) (f := f) (x := x) (s := s1) (by have h9 := hm; unfold May at h9; omega) hbu hbv
 have HBS := hI hbs
 have HPE := hI hpe
 have HGM := hI hgm
 have hsecb := h.may.2.2
 obtain ⟨A, c, h, hmc, hnil⟩ := h.log
 have hlw : leftW s.b xs = leftR s.b xs := by unfold leftW; rw [if_pos HLG.out.ok]
 have HLW := hI hlw
 obtain ⟨m, hmm⟩ : ∃ m, xs.length = m := ⟨_, rfl⟩
 obtain ⟨sec, hsec⟩ : ∃ sec, s.b = sec := ⟨_, rfl⟩
 rw [hmm, hsec] at h
 rw [hsec] at HLW
 have HSEC := hI hsec
 have HSB := hI hsecb
 have hlen1 := hx.1
 have hlen2 := hy.1
 have HLEN := hI (And.intro hlen1 hlen2)
 have HL := hI h
 have HX := hI hX
 clear hmm hsec hlw hbs hbu hbv hmc hnil hpe hgm hsecb hlen1 hlen2
 have HM := hI hm
 have HB0 := hI (((Below.refl w.heap.size w).alloc (nR _) (.cells #[.int .i64 k1, .int .u32 f, .int .u32 x, .int .u64 s1, .slice A1 n1 c1, .slice A2 n2 c2] 33)).alloc (by simp) (.cells #[.int .i64 0, .int .u64 0, .int .i64 0] 35))
 have HK := hI (blk_new2 w (.cells #[.int .i64 k1, .int .u32 f, .int .u32 x, .int .u64 s1, .slice A1 n1 c1, .slice A2 n2 c2] 33) 35 #[.int .i64 0, .int .u64 0, .int .i64 0])
 have HRC := hI ((Blk.new w 33 #[.int .i64 k1, .int .u32 f, .int .u32 x, .int .u64 s1, .slice A1 n1 c1, .slice A2 n2 c2]).alloc (.cells #[.int .i64 0, .int .u64 0, .int .i64 0] 35))
 have HEN := hI (encode_yes k1 f x s1 A1 A2 n1 c1 n2 c2 us vs _ ((w.alloc (.cells #[.int .i64 k1, .int .u32 f, .int .u32 x, .int .u64 s1, .slice A1 n1 c1, .slice A2 n2 c2] 33)).alloc (.cells #[.int .i64 0, .int .u64 0, .int .i64 0] 35)) hm hr (hx.below HB0.out (fun b h => h)) (hy.below HB0.out (fun b h => h)) (fun b h => nL h HB0.out.size) hn1 hn2)
 have HL0 := hI (h.below HB0.out)
 clear h hX hm hr hx hy hn1 hn2
 go_enter Tryz.func9, Tryz.ntmps9
 go_wp2_with fail
 refine HEN.out.mono ?_
 rintro e v6 ⟨vb, rfl, hown, hb6⟩
 have HOWN := hI hown
 have HB6 := hI (HB0.out.trans (hb6.mono HB0.out.size))
 have HL6 := hI (HL.out.below HB6.out)
 have HK6 := hI (HK.out.below hb6 HK.out.lt)
 have HR6 := hI (HRC.out.below hb6 HRC.out.lt)
 obtain ⟨_, _, _, c3⟩ := log_cells HL6.out
 clear hown hb6
 go_upto_region 8 with fail
 clear c3
 go_cut [35] (fun t wy => t = .bool (decide (leftW sec xs < ((cntOf (21 + n1 + n2) : Nat) : Int))) ∧ Below v6.heap.size v6 wy)
 case first J KK hJ hKK =>
  have HOP := hI (show ∀ W, Below v6.heap.size v6 W → RowZ W (· < W.heap.size) A m xs from fun W hW => (HL6.out.below hW).now)
  have HL1 := hI (show ∀ W, Below v6.heap.size v6 W → W.rangeAt l 1 [.int .i64 sec, .slice A m c] from fun W hW q u hu => by
   have hb := HL6.out.1.below hW HL6.out.1.lt
   match q, hu with
   | 0, hu => exact (hb.cell 1).trans hu
   | 1, hu => exact (hb.cell 2).trans hu)
  have HR1 := hI (show ∀ W, Below v6.heap.size v6 W → W.rangeAt w.heap.size 0 [.int .i64 k1, .int .u32 f, .int .u32 x, .int .u64 s1, .slice A1 n1 c1, .slice A2 n2 c2] from fun W hW => (show Blk W w.heap.size 33 (List.toArray [.int .i64 k1, .int .u32 f, .int .u32 x, .int .u64 s1, .slice A1 n1 c1, .slice A2 n2 c2]) from HR6.out.below hW HR6.out.lt).rangeL)
  have hu35 := Tryz.underlying95
  have hu44 := Tryz.underlying33
  refine wp_region_noPanic ?_
  refine Tillst.region (fun W => Below v6.heap.size v6 W) [] (by kernel_rfl) (Below.refl _ _).drew (fun hė => ?_)
  refine Tillst.tk 0 lp0 (v := ?_) rfl (by kernel_rfl) (by rfl) ?_ hė ?_
  rotate_left
  ·intro W hSW; (try dsimp only at hSW); unfold lp0; go_simp; with_reducible rfl
  simp only [lp0, Act.put, sA, sZ, sS]
  refine Tillst.tk 1 lp1 (v := ?_) rfl (by kernel_rfl) (by rfl) ?_ hė ?_
  rotate_left
  ·intro W hSW; (try dsimp only at hSW); unfold lp1; go_simp; with_reducible rfl
  simp only [lp1, Act.put, sA, sZ, sS]
  refine Tillst.tk 2 lp2 (v := ?_) rfl (by kernel_rfl) (by rfl) ?_ hė ?_
  rotate_left
  ·intro W hSW; (try dsimp only at hSW); unfold lp2; go_simp; with_reducible rfl
  simp only [lp2, Act.put, sA, sZ, sS]
  refine Tillst.tk 3 lp3 (v := ?_) rfl (by kernel_rfl) (by rfl) ?_ hė ?_
  rotate_left
  ·intro W' hSW; refine exec_load_row (.tmp 30) 95 ?_ l 1 ?_ [.int .i64 sec, .slice A m c] _ hu35 rfl size_ring (HL1.out W' hSW) <;> rfl
  simp only [lp3, Act.put, sA, sZ, sS]
  refine Tillst.tk 5 lp5 (v := ?_) rfl (by kernel_rfl) (by rfl) ?_ hė ?_
  rotate_left
  ·intro W' hSW; refine exec_load_row (.tmp 3) 33 ?_ w.heap.size 0 ?_ [.int .i64 k1, .int .u32 f, .int .u32 x, .int .u64 s1, .slice A1 n1 c1, .slice A2 n2 c2] _ hu44 rfl size_rec9 (HR1.out W' hSW) <;> rfl
  simp only [lp5, Act.put, sA, sZ, sS]
  refine Tillst.one (i := 4) (o := lp4) (by kernel_rfl) rfl ?_
  intro K hK
  refine step_call 46 #[.tmp 31] #[95] rfl rfl Tryz.func46 rfl rfl [.agg #[.int .i64 sec, .slice A m c]] rfl ?_
  refine (left_ring (HOP.out _ hė) sec).mono ?_
  rintro e v8 ⟨rfl, hbn⟩
  have hS8 := hė.trans (hbn.mono hė.size)
  clear hbn
  refine ⟨_, rfl, ?_⟩
  simp only [lp4, Act.put, sA, sZ, sS]
  refine hK.out _ _ (fun _ => hS8) (fun hė => ?_)
  replace hė := hė (by decide)
  clear hK K hS8
  refine Tillst.one (i := 6) (o := lp6) (by kernel_rfl) rfl ?_
  intro K hK
  refine step_call 47 #[.tmp 33] #[33] rfl rfl Tryz.func47 rfl rfl [.agg #[.int .i64 k1, .int .u32 f, .int .u32 x, .int .u64 s1, .slice A1 n1 c1, .slice A2 n2 c2]] rfl ?_
  refine (rec_sectors k1 f x s1 A1 A2 n1 c1 n2 c2 _ HM.out (by obtain ⟨_, _, h1, h2, _⟩ := HM.out; omega)).mono ?_
  rintro e v9 ⟨rfl, hbn⟩
  have hS8 := hė.trans (hbn.mono hė.size)
  clear hbn
  refine ⟨_, rfl, ?_⟩
  simp only [lp6, Act.put, sA, sZ, sS]
  refine hK.out _ _ (fun _ => hS8) (fun hė => ?_)
  replace hė := hė (by decide)
  clear hK K hS8
  refine Tillst.tk 7 lp7 (v := ?_) rfl (by kernel_rfl) (by rfl) ?_ hė ?_
  rotate_left
  ·intro W hSW; (try dsimp only at hSW); unfold lp7; go_simp; with_reducible rfl
  simp only [lp7, Act.put, sA, sZ, sS]
  refine Tillst.done (by kernel_rfl) ?_ _
  refine NoPanic.normal ?_
  refine hKK _ _ (Met.intro (hJ _ _ ?_))
  (repeat apply Exists.intro)
  exact ⟨⟨rfl, hė⟩, rfl⟩
 case rest =>
  obtain ⟨rfl, hb⟩ := hcut
  have HB8 := hI (HB6.out.trans (hb.mono HB6.out.size))
  have HB68 := hI hb
  have HK8 := hI (HK6.out.below hb HK6.out.lt)
  have hkl := HK6.out.lt
  clear hb
  obtain ⟨B, hB⟩ : ∃ B, 21 + n1 + n2 = B := ⟨_, rfl⟩
  have HB17 := hI (show cntOf B ≤ 17 ∧ 1 ≤ cntOf B ∧ B ≤ 16384 by have h9 := HM.out; unfold May at h9; unfold cntOf; omega)
  have HBL := hI (show (recB k1 f x s1 us vs).length = B by rw [recB_length, HLEN.out.1, HLEN.out.2]; exact hB)
  rw [hB]
  obtain ⟨bs, hbse⟩ : ∃ bs, recB k1 f x s1 us vs = bs := ⟨_, rfl⟩
  rw [hbse] at HBS HOWN HBL
  have HBE := hI hbse
  have HBB := hI hB
  clear hB hbse
  have HG8 := hI (HLG.out.grow HB8.out)
  have HX8 := hI (grow_lt HX.out HB8.out.size)
  have hown := HOWN.out
  rw [HBL.out] at hown
  obtain ⟨A5, c5, rfl, hbc, hbn, hrow⟩ := rowG_own (mk := Value.int .u8) 0 hown
  have HROW := hI (show RowI .u8 wc (· < wc.heap.size) A5 B bs from (hrow.below HB68.out (fun b hb => hb.2.1)).more (fun b hb => nL hb.2.1 HB68.out.size))
  have HBN := hI (And.intro hbn hbc)
  have HXR := hI (show ∀ b, b < wc.heap.size ∧ w.heap.size + 2 ≤ b → (X b ∨ (w.heap.size ≤ b ∧ b < wc.heap.size)) from fun b hb => .inr ⟨by omega, hb.1⟩)
  have HROW2 := hI (show RowI .u8 wc (fun b => w.heap.size + 2 ≤ b ∧ b < wc.heap.size) A5 B bs from (hrow.below HB68.out (fun b hb => hb.2.1)).more (fun b hb => ⟨by have := hb.1; simp at this; omega, nL hb.2.1 HB68.out.size⟩))
  have hX1 := (show (fun b => X b ∨ (w.heap.size ≤ b ∧ b < wc.heap.size)) (w.heap.size + 1) from .inr ⟨by omega, HK8.out.lt⟩)
  have HX1 := hI hX1
  have hB17 := HB17.out
  have hleft := HLW.out
  rw [hleft]
  clear hown hrow hbn hbc hX1 hleft
  by_cases hlt : leftR sec xs < ((cntOf B : Nat) : Int)
  ·have HT := hI (turn_lg HG8.out HX8.out HPE.out HGM.out)
   have HLT := hI (show leftR s.b xs < ((cntOf (21 + n1 + n2) : Nat) : Int) by rw [HSEC.out, HBB.out]; exact hlt)
   rw [decide_eq_true hlt]
   clear hlt hB17
   go_wp2_with fail
   refine HT.out.mono ?_
   rintro e v9 ⟨ht, hk9⟩
   have HK9 := hI (HK8.out.kept hk9 HX1.out)
   have HKX9 := hI ((Kept.of_below HB8.out HX.out).trans hk9 (fun b h => .inl h))
   have HKZ9 := hI hk9
   clear hk9
   rcases ht with ⟨hn, rfl, hg9⟩ | ⟨i, hi, rfl, hg9⟩
   ·have HG9 := hI hg9
    have HN9 := hI hn
    have q0 := HK9.out.cell 0
    have q1 := HK9.out.cell 1
    have q2 := HK9.out.cell 2
    simp only [List.getElem?_toArray, List.getElem?_cons_zero, List.getElem?_cons_succ] at q0 q1 q2
    obtain ⟨g0, g1, g2⟩ := And.intro (HK9.out.frozen 0) (And.intro (HK9.out.frozen 1) (HK9.out.frozen 2))
    clear hg9 hn
    go_wp2_with (with_reducible refine halt_end ?_)
    have hso := HG9.out.setOff3 (X := X) HK9.out HX1.out (fun b h => .inl h) (fun b h => by have := HX.out b h; omega) (.int .i64 0) (.int .u64 0) (.int .i64 0)
    exact Halt.ret (results_row2 (p := 4) (u := 5) rfl _ _ (w.heap.size + 1) 35 #[.int .i64 0, .int .u64 0, .int .i64 0] _ rfl hso.2.1 Tryz.underlying35 rfl size_addr) rfl
     ⟨.inr (.inl ⟨HLT.out, HN9.out, rfl, hso.1⟩), hso.2.2 _ HKX9.out⟩
   ·obtain ⟨u1, u2, u3, u4⟩ := turn_facts HLG.out hi
    have HLY := hI (lay_lg (i := i) (c0 := c5) hg9 (fun b h => nL (HX8.out b h) HKZ9.out.size) (by omega) u1 (by show ((cntOf B : Nat) : Int) ≤ leftR s.b _; rw [u4]; have h8 := HSB.out; have h9 := HB17.out; omega) ((HROW2.out.kept HKZ9.out (fun b hb => HXR.out b ⟨hb.2, hb.1⟩)).more (fun b hb => nL hb.2 HKZ9.out.size)) HBN.out.1 HBN.out.2 HB17.out.2.2 HBS.out)
    rw [u2, u3] at HLY
    have HII := hI hi
    clear u1 u2 u3 u4 hi hg9
    go_wp2_with fail
    refine HLY.out.mono ?_
    rintro e v10 ⟨rfl, hg10, hk10⟩
    have HK10 := hI (HK9.out.kept hk10 HX1.out)
    have HKX10 := hI (HKX9.out.trans hk10 (fun b h => .inl h))
    have HG10 := hI hg10
    have q0 := HK10.out.cell 0
    have q1 := HK10.out.cell 1
    have q2 := HK10.out.cell 2
    simp only [List.getElem?_toArray, List.getElem?_cons_zero, List.getElem?_cons_succ] at q0 q1 q2
    obtain ⟨g0, g1, g2⟩ := And.intro (HK10.out.frozen 0) (And.intro (HK10.out.frozen 1) (HK10.out.frozen 2))
    clear hg10 hk10
    go_wp2_with (with_reducible refine halt_end ?_)
    have hso := HG10.out.setOff3 (X := X) HK10.out HX1.out (fun b h => .inl h) (fun b h => by have := HX.out b h; omega) (.int .i64 (i : Int)) (.int .u64 (s.g + 1)) (.int .i64 1)
    refine Halt.ret (results_row2 (p := 4) (u := 5) rfl _ _ (w.heap.size + 1) 35 #[.int .i64 (i : Int), .int .u64 (s.g + 1), .int .i64 1] _ rfl hso.2.1 Tryz.underlying35 rfl size_addr) rfl
     ⟨.inr (.inr ⟨HLT.out, i, HII.out, rfl, ?_⟩), hso.2.2 _ HKX10.out⟩
    rw [HBB.out, HBE.out]
    exact hso.1
  ·rw [decide_eq_false hlt]
   have HLT := hI (show ((cntOf (21 + n1 + n2) : Nat) : Int) ≤ leftR s.b xs by rw [HSEC.out, HBB.out]; omega)
   clear hlt hB17
   obtain ⟨i, hi⟩ := left_open HLG.out.ok (by rw [HBB.out]; have := HB17.out; omega) HLT.out
   have HLY := hI (lay_lg (i := i) (c0 := c5) HG8.out HX8.out HPE.out hi (by have h9 := HLT.out; rw [HBB.out] at h9; exact h9) HROW.out HBN.out.1 HBN.out.2 HB17.out.2.2 HBS.out)
   have HII := hI hi
   obtain ⟨gi, hgi⟩ : ∃ gi, genG xs i = gi := ⟨_, rfl⟩
   obtain ⟨ui, hui⟩ : ∃ ui, usedG xs i = ui := ⟨_, rfl⟩
   rw [hgi, hui] at HLY
   have HGU := hI (And.intro hgi hui)
   clear hi hgi hui
   go_wp2_with fail
   refine HLY.out.mono ?_
   rintro e v10 ⟨rfl, hg10, hk10⟩
   have HK10 := hI (HK8.out.kept hk10 HX1.out)
   have HKX10 := hI ((Kept.of_below HB8.out HX.out).trans hk10 (fun b h => .inl h))
   have HG10 := hI hg10
   have q0 := HK10.out.cell 0
   have q1 := HK10.out.cell 1
   have q2 := HK10.out.cell 2
   simp only [List.getElem?_toArray, List.getElem?_cons_zero, List.getElem?_cons_succ] at q0 q1 q2
   obtain ⟨g0, g1, g2⟩ := And.intro (HK10.out.frozen 0) (And.intro (HK10.out.frozen 1) (HK10.out.frozen 2))
   clear hg10 hk10
   go_wp2_with (with_reducible refine halt_end ?_)
   have hso := HG10.out.setOff3 (X := X) HK10.out HX1.out (fun b h => .inl h) (fun b h => by have := HX.out b h; omega) (.int .i64 (i : Int)) (.int .u64 gi) (.int .i64 ui)
   refine Halt.ret (results_row2 (p := 4) (u := 5) rfl _ _ (w.heap.size + 1) 35 #[.int .i64 (i : Int), .int .u64 gi, .int .i64 ui] _ rfl hso.2.1 Tryz.underlying35 rfl size_addr) rfl
    ⟨.inl ⟨i, HII.out, HLT.out, by rw [HGU.out.1, HGU.out.2]; rfl, ?_⟩, hso.2.2 _ HKX10.out⟩
   rw [HBB.out, HBE.out]
   exact hso.1
end
end
section
open Go.RowKit
structure StrM (W : World) (X : Nat → Prop) (gx gi p d n : Nat) (s : Sup) (t : Int) (k : Dk) (seg : Nat) : Prop where
 sto : StoS W X p d n s t k
 off : ∀ b, X b → b < W.heap.size
 bx : Blk W gx 45 #[.pointer (some ⟨p, 0, none⟩)]
 bi : Blk W gi 3 #[.int .i64 seg]
 xx : X gx
 xi : X gi
section
variable {W W' : World} {X Y : Nat → Prop} {gx gi p d n : Nat} {s : Sup} {t : Int} {k : Dk} {seg : Nat}
theorem StrM.grow (h : StrM W X gx gi p d n s t k seg) (hb : Below W.heap.size W W') : StrM W' (fun b => X b ∨ (W.heap.size ≤ b ∧ b < W'.heap.size)) gx gi p d n s t k seg :=
 ⟨StoreM.grow h.sto hb, grow_lt h.off hb.size, h.bx.below hb h.bx.lt, h.bi.below hb h.bi.lt, .inl h.xx, .inl h.xi⟩
theorem StrM.kept {S : Nat → Prop} {k2 : Dk} (h : StrM W Y gx gi p d n s t k seg) (hk : Kept S W W') (hs : StoS W' Y p d n s t k2) (hx : S gx) (hi : S gi) (hX : ∀ b, X b → Y b) (h1 : X gx) (h2 : X gi) : StrM W' X gx gi p d n s t k2 seg :=
 ⟨StoreM.kept (Z := fun _ => True) hs (Kept.refl _ _) (fun _ _ _ => trivial) (fun b _ h => hX b h), fun b hb => nL (h.off b (hX b hb)) hk.size, h.bx.kept hk hx, h.bi.kept hk hi, h1, h2⟩
def strV (k : Dk) (s : Sup) (seg i : Nat) : List Int := if (i : Int) < s.b then k.held.getD (2 + (seg : Int) * s.b + i).toNat [] else noughts 64
def strE (s : Sup) (i : Nat) : Int := if (i : Int) < s.b then 0 else 4
def strK (k : Dk) (s : Sup) (i : Nat) : Dk := if (i : Int) < s.b then k.rd else k
theorem run_field1 (a b g r v f : Int) (w : World) : (Instr.field 115 (.agg (supC a b g r v f)) 1).run Tryz.prog w = .ok (.int .i64 b) w := by
 unfold Instr.field
 simp [Sem.run_bind, run_underlying (Tryz.underlying115), asAgg, part, isAgg, run_underlying (Tryz.underlying3)]
theorem stored1_any (h : StrM W X gx gi p d n s t k seg) (hg : Good k) (hm : s.May) (hseg : (seg : Int) < s.a) (hroom : 2 + s.a * s.b ≤ (n : Int)) (hn : n ≤ 2048) (i : Nat) (hi : i ≤ 100000) (hlen : (strV k s seg i).length = 64) :
 Calls Tryz.prog 122 #[.int .i64 i, .pointer (some ⟨gx, 0, none⟩), .pointer (some ⟨gi, 0, none⟩)] W fun e W' =>
  e = .returned (.tuple #[.agg (cells8 (strV k s seg i)), .int .i64 (strE s i)]) ∧ StrM W' X gx gi p d n s t (strK k s i) seg ∧ Kept X W W' := by
 have HS := hI h
 have HG := hI hg
 obtain ⟨w1, hw1⟩ : ∃ w1, w1 = W.alloc (.cells (cells8 (noughts 64)) 186) := ⟨_, rfl⟩
 have HB1 := hI (show Below W.heap.size W w1 by rw [hw1]; exact (Below.refl _ W).alloc (nR _) _)
 have HR1 := hI (show ArrB w1 W.heap.size (noughts 64) by rw [hw1]; exact Blk.new W _ _)
 have HW1 := hI hw1
 have h1 := h.grow HB1.out
 have HS1 := hI h1
 have HBA := hI (sto_base h1.sto seg hseg hm.2.1 ⟨by have := hm.2.2.1; omega, hm.2.2.2.1⟩)
 have c0 := h1.bx.cell 0
 have c1 := h1.bi.cell 0
 have hb24 : 24 ≤ s.b := hm.2.2.1
 have hb64 : s.b ≤ 64 := hm.2.2.2.1
 have hx1 : 0 ≤ (seg : Int) * s.b ∧ (seg : Int) * s.b + s.b ≤ s.a * s.b := by
  refine ⟨Int.mul_nonneg (by omega) (by omega), ?_⟩
  have := Int.mul_le_mul_of_nonneg_right (show (seg : Int) + 1 ≤ s.a by omega) (show 0 ≤ s.b by omega)
  rw [Int.add_mul, Int.one_mul] at this
  exact this
 obtain ⟨M, hM⟩ : ∃ M : Int, (seg : Int) * s.b = M := ⟨_, rfl⟩
 rw [hM] at HBA hx1
 have HV := hI (show strV k s seg i = if (i : Int) < s.b then k.held.getD (2 + M + i).toNat [] else noughts 64 by unfold strV; rw [hM])
 have HLEN := hI hlen
 rw [hw1] at c0 c1
 clear h hg hm hseg hw1 h1 hM hlen
 go_enter Tryz.func122, Tryz.ntmps122
 go_wp2_with (refine wpList_alloc_blk rfl rfl ?_)
 rw [← HW1.out]
 refine HBA.out.mono ?_
 rintro e w2 ⟨rfl, rfl⟩
 clear c0 c1
 have HGT := hI (get_any HS1.out.sto)
 have c0 := HS1.out.bx.cell 0
 have c1 := HS1.out.bi.cell 0
 go_wp2_with fail
 unfold supC at HGT
 refine HGT.out.mono ?_
 rintro e w3 ⟨rfl, hb3⟩
 have HB3 := hI (HB1.out.trans (hb3.mono HB1.out.size))
 have HR3 := hI (HR1.out.below hb3 HR1.out.lt)
 have HS3 := hI (HS.out.grow HB3.out)
 have hr0 := HR1.out.lt
 have hs3 := hb3.size
 clear hb3 c0 c1
 have c0 := HS3.out.bx.cell 0
 have hfld := run_field1 s.a s.b s.g s.r s.v s.f w3
 by_cases hib : (i : Int) < s.b
 ·obtain ⟨j, hj⟩ : ∃ j : Nat, (2 : Int) + M + (i : Int) = (j : Nat) := ⟨(2 + M + i).toNat, by omega⟩
  have hjn : j < n := by omega
  have hib2 : ¬ ((i : Int) ≥ s.b) := by omega
  have hib3 : decide (s.b ≤ (i : Int)) = false := decide_eq_false (by omega)
  have HV2 := hI (show strV k s seg i = k.held.getD j [] by rw [HV.out, if_pos hib, hj]; simp)
  have HEK := hI (show strE s i = 0 ∧ strK k s i = k.rd by unfold strE strK; rw [if_pos hib, if_pos hib]; exact ⟨rfl, rfl⟩)
  have hrd := read_k HS3.out.sto.2.1 (fun b hb => by
   rcases hb with hb | hb
   ·exact HS3.out.off b hb
   ·rw [hb]; exact HS3.out.sto.1.lt) j hjn
  rw [HG.out.rde, HG.out.rdv] at hrd
  have HRD := hI hrd
  obtain ⟨ys, hys⟩ : ∃ ys, k.held.getD j [] = ys := ⟨_, rfl⟩
  rw [hys] at HRD HV2
  have HYL := hI (show ys.length = 64 by rw [← HV2.out]; exact HLEN.out)
  clear hrd hys
  go_wp2_with fail
  refine (sto_disk HS3.out.sto).mono ?_
  rintro e w4 ⟨rfl, rfl⟩
  go_wp2_with fail
  refine HRD.out.mono ?_
  rintro e w5 ⟨rfl, hd5, hk5⟩
  have HR5 := hI (show ArrB w5 W.heap.size (noughts 64) from Blk.kept HR3.out hk5 (.inl (.inr ⟨nR _, by omega⟩)))
  have HD5 := hI (show StoS w5 (fun b => X b ∨ (W.heap.size ≤ b ∧ b < w4.heap.size)) p d n s t k.rd from ⟨HS3.out.sto.1.kept hk5 (.inr rfl), hd5, HS3.out.sto.2.2⟩)
  have HK5 := hI hk5
  clear hd5 hk5 c0
  go_wp2_with (first | (with_reducible refine halt_end ?_) | (refine wpList_store_blk (.tmp 4) (.tmp 32) rfl rfl W.heap.size ys rfl rfl 186 (noughts 64) HR5.out (noughts_length 64) HYL.out ?_))
  have hks := (HK5.out.mono (S := fun b => X b ∨ (W.heap.size ≤ b ∧ b < w4.heap.size)) (fun b h => .inl h))
  have hkr := (Kept.refl (fun b => b ≠ W.heap.size) w5).setRow (g := W.heap.size) (fun h => h rfl) (cells8 ys)
  have hxn : ∀ b, X b → b ≠ W.heap.size := fun b hb => Nat.ne_of_lt (HS.out.off b hb)
  refine Halt.ret (results_blk2 rfl _ _ W.heap.size 186 ys rfl (setRow_heap _ _ _ _ _ _ HR5.out) HYL.out) rfl ⟨?_, ?_, ?_⟩
  ·rw [HV2.out, HEK.out.1]; rfl
  ·rw [HEK.out.2]
   refine ⟨StoreM.kept HD5.out hkr (fun b _ hx e => hx (.inr ⟨by omega, by omega⟩)) (fun b _ hb => .inl hb), fun b hb => ?_, (HS3.out.bx.kept hks (.inl HS.out.xx)).kept hkr (hxn _ HS.out.xx), (HS3.out.bi.kept hks (.inl HS.out.xi)).kept hkr (hxn _ HS.out.xi), HS.out.xx, HS.out.xi⟩
   have := HS.out.off b hb
   have := HB3.out.size
   have := HK5.out.size
   have := hkr.size
   omega
  ·exact ((Kept.of_below HB3.out HS.out.off).trans hks (fun b h => .inl h)).trans hkr hxn
 ·have hib2 : (i : Int) ≥ s.b := by omega
  have HV2 := hI (show strV k s seg i = noughts 64 by rw [HV.out, if_neg hib])
  have HEK := hI (show strE s i = 4 ∧ strK k s i = k by unfold strE strK; rw [if_neg hib, if_neg hib]; exact ⟨rfl, rfl⟩)
  clear c0
  go_wp2_with (first | (with_reducible refine halt_end ?_) | (refine wpList_build_blk rfl rfl ?_) | (refine wpList_store_blk (.tmp 4) (.tmp 25) rfl rfl W.heap.size (noughts 64) rfl rfl 186 (noughts 64) HR3.out (noughts_length 64) (noughts_length 64) ?_))
  have hkr := (Kept.refl (fun b => b ≠ W.heap.size) w3).setRow (g := W.heap.size) (fun h => h rfl) (cells8 (noughts 64))
  have hxn : ∀ b, X b → b ≠ W.heap.size := fun b hb => Nat.ne_of_lt (HS.out.off b hb)
  refine Halt.ret (results_blk2 rfl _ _ W.heap.size 186 (noughts 64) rfl (setRow_heap _ _ _ _ _ _ HR3.out) (noughts_length 64)) rfl ⟨?_, ?_, ?_⟩
  ·rw [HV2.out, HEK.out.1]; rfl
  ·rw [HEK.out.2]
   refine ⟨StoreM.kept HS3.out.sto hkr (fun b _ hx e => hx (.inr ⟨by omega, by omega⟩)) (fun b _ hb => .inl hb), fun b hb => ?_, HS3.out.bx.kept hkr (hxn _ HS.out.xx), HS3.out.bi.kept hkr (hxn _ HS.out.xi), HS.out.xx, HS.out.xi⟩
   have := HS.out.off b hb
   have := HB3.out.size
   have := hkr.size
   omega
  ·exact (Kept.of_below HB3.out HS.out.off).trans hkr hxn
end
theorem stored_any {w : World} {X : Nat → Prop} {p d n : Nat} {s : Sup} {t : Int} {k : Dk} (h : StoS w X p d n s t k) (hX : ∀ b, X b → b < w.heap.size) (seg : Nat) :
 Calls Tryz.prog 52 #[.pointer (some ⟨p, 0, none⟩), .int .i64 seg] w fun e w' => (∃ gx gi, e = .returned (.func (.func 122) #[] #[.pointer (some ⟨gx, 0, none⟩), .pointer (some ⟨gi, 0, none⟩)]) ∧
  StrM w' (fun b => X b ∨ (w.heap.size ≤ b ∧ b < w'.heap.size)) gx gi p d n s t k seg) ∧ Below w.heap.size w w' := by
 have HS := hI h
 have HX := hI hX
 have hb := (((Below.refl w.heap.size w).alloc (nR _) (.cells #[.pointer (some ⟨p, 0, none⟩)] 45)).alloc (by simp) (.cells #[.int .i64 seg] 3))
 have HB := hI hb
 have HK1 := hI ((Blk.new w 45 #[.pointer (some ⟨p, 0, none⟩)]).alloc (.cells #[.int .i64 seg] 3))
 have HK2 := hI (blk_new2 w (.cells #[.pointer (some ⟨p, 0, none⟩)] 45) 3 #[.int .i64 seg])
 clear h hX hb
 go_enter Tryz.func52, Tryz.ntmps52
 go_wp2
 go_ret
 exact ⟨⟨w.heap.size, w.heap.size + 1, rfl, StoreM.grow HS.out HB.out, grow_lt HX.out HB.out.size, HK1.out, HK2.out, .inr ⟨nR _, by simp; omega⟩, .inr ⟨by omega, by simp⟩⟩, HB.out⟩
end
section
open Go.RowKit
attribute [local go_sem] Oper.semAt_some
def usesB (xs : List Seg) (sg g sc : Int) : Bool := decide (0 ≤ sg ∧ sg < (xs.length : Nat)) && ((g == (xs.getD sg.toNat seg0).2.1) && (decide (1 ≤ sc) && decide (sc < (xs.getD sg.toNat seg0).2.2)))
section
variable {w : World} {X : Nat → Prop} {l p d n : Nat} {s : Sup} {t : Int} {k : Dk} {sec : Int} {A : Option Addr} {m c : Nat} {xs : List Seg} {br : Bool}
theorem uses_out {xs : List Seg} {sg g sc : Int} (h : ¬ (0 ≤ sg ∧ sg < (xs.length : Nat))) : usesB xs sg g sc = false := by
 unfold usesB; rw [decide_eq_false h]; rfl
theorem uses_in {xs : List Seg} {i : Nat} {g sc : Int} (h : i < xs.length) : usesB xs (i : Nat) g sc = ((g == (xs.getD i seg0).2.1) && (decide (1 ≤ sc) && decide (sc < (xs.getD i seg0).2.2))) := by
 unfold usesB; rw [decide_eq_true (by omega : 0 ≤ (i : Int) ∧ (i : Int) < (xs.length : Nat))]; rfl
theorem uses_any (h : LogM w X l p d n s t k sec A m c xs br) (hm : m ≤ 1000) (sg g sc : Int) :
 Calls Tryz.prog 58 #[.pointer (some ⟨l, 0, none⟩), .agg #[.int .i64 sg, .int .u64 g, .int .i64 sc]] w fun e w' => e = .returned (.bool (usesB xs sg g sc)) ∧ Below w.heap.size w w' := by
 obtain ⟨w1, hw1⟩ : ∃ w1, w1 = w.alloc (.cells #[.int .i64 sg, .int .u64 g, .int .i64 sc] 35) := ⟨_, rfl⟩
 have hb1 : Below w.heap.size w w1 := by rw [hw1]; exact (Below.refl _ w).alloc (nR _) _
 have HA := hI (show Blk w1 w.heap.size 35 #[.int .i64 sg, .int .u64 g, .int .i64 sc] by rw [hw1]; exact Blk.new w _ _)
 have hl1 := h.below hb1
 have HROW := hI hl1.now
 have hlen := hl1.now.1
 obtain ⟨l0, l1, l2, l3⟩ := log_cells hl1
 have a0 := HA.out.cell 0
 have a1 := HA.out.cell 1
 have a2 := HA.out.cell 2
 have HB1 := hI hb1
 have HW1 := hI hw1
 clear h hl1 hb1 hw1
 by_cases hin : 0 ≤ sg ∧ sg < (m : Nat)
 case neg =>
  have e := uses_out (xs := xs) (g := g) (sc := sc) (show ¬ (0 ≤ sg ∧ sg < (xs.length : Nat)) by rw [hlen]; exact hin)
  rw [e]
  clear e
  by_cases h0 : sg < 0
  ·clear hin
   go_enter Tryz.func58, Tryz.ntmps58
   go_upto_region 1 with fail
   rw [← HW1.out]
   go_quiet (fail)
   go_wp2
   go_ret
   exact ⟨rfl, below_drewN HB1.out _⟩
  ·have h1 : (m : Int) ≤ sg := by omega
   clear hin
   go_enter Tryz.func58, Tryz.ntmps58
   go_upto_region 1 with fail
   rw [← HW1.out]
   go_quiet (fail)
   go_wp2
   go_ret
   exact ⟨rfl, below_drewN HB1.out _⟩
 obtain ⟨i, rfl⟩ : ∃ i : Nat, sg = (i : Int) := ⟨sg.toNat, by omega⟩
 have him : i < m := by omega
 have e := uses_in (xs := xs) (i := i) (g := g) (sc := sc) (by rw [hlen]; exact him)
 rw [e]
 obtain ⟨b, off, rfl, _, hc⟩ := HROW.out.2 (by omega)
 have z0 := hc i him 0 _ rfl
 have z1 := hc i him 1 _ rfl
 have z2 := hc i him 2 _ rfl
 obtain ⟨⟨s0, s1, s2⟩, hs⟩ : ∃ s, xs.getD i seg0 = s := ⟨_, rfl⟩
 rw [hs] at z0 z1 z2 ⊢
 replace z0 : w1.cell? ⟨b, off + i * 3, none⟩ = some (.int .i64 s0) := z0
 replace z1 : w1.cell? ⟨b, off + i * 3 + 1, none⟩ = some (.int .u64 s1) := z1
 replace z2 : w1.cell? ⟨b, off + i * 3 + 2, none⟩ = some (.int .i64 s2) := z2
 have q0 : decide ((i : Int) < 0) = false := by simp
 have q1 : decide ((m : Int) ≤ (i : Int)) = false := by simp; omega
 have hz : ∀ (v : Nat) (q : Addr) (u : Value), w1.cell? q = some u → ((w1.drewN v).alloc (.cells #[.int .i64 0, .int .u64 0, .int .i64 0] 126)).cell? q = some u := fun v q u hq => by
  have hlt : q.block < w1.heap.size := by
   by_cases h : q.block < w1.heap.size
   ·exact h
   ·have : w1.heap[q.block]? = none := by simp; omega
    simp [World.cell?, this] at hq
  exact (World.cell?_alloc_lt (w1.drewN v) _ q (by simpa using hlt)).trans hq
 have y0 := fun v => hz v _ _ a0
 have y1 := fun v => hz v _ _ l2
 have y2 := fun v => hz v _ _ z0
 have y3 := fun v => hz v _ _ z1
 have y4 := fun v => hz v _ _ z2
 have hn : ∀ v, Blk ((w1.drewN v).alloc (.cells #[.int .i64 0, .int .u64 0, .int .i64 0] 126)) w1.heap.size 126 #[.int .i64 0, .int .u64 0, .int .i64 0] := fun v => Blk.new (w1.drewN v) _ _
 have n0 := fun v => (hn v).cell 0
 have n1 := fun v => (hn v).cell 1
 have n2 := fun v => (hn v).cell 2
 have f0 := fun v => (hn v).frozen 0
 have f1 := fun v => (hn v).frozen 1
 have f2 := fun v => (hn v).frozen 2
 simp only [List.getElem?_toArray, List.getElem?_cons_zero, List.getElem?_cons_succ] at n0 n1 n2
 have HN := hI hn
 clear hz hn
 clear hc hs e hin hlen HROW
 go_enter Tryz.func58, Tryz.ntmps58
 go_upto_region 1 with fail
 rw [← HW1.out]
 go_quiet (fail)
 go_upto_region 3 with fail
 go_region
 have HSG := hI ((HN.out (nq + 1)).set3 (.int .i64 s0) (.int .u64 s1) (.int .i64 s2))
 have HBZ := hI (((((below_drewN (Below.refl w1.heap.size w1) (nq + 1)).alloc (by simp) (.cells #[.int .i64 0, .int .u64 0, .int .i64 0] 126)).setCell (p := ⟨w1.heap.size, 0, none⟩) (nR _) (.int .i64 s0)).setCell (p := ⟨w1.heap.size, 1, none⟩) (nR _) (.int .u64 s1)).setCell (p := ⟨w1.heap.size, 2, none⟩) (nR _) (.int .i64 s2))
 generalize (((((w1.drewN (nq + 1)).alloc (.cells #[.int .i64 0, .int .u64 0, .int .i64 0] 126)).setCell ⟨w1.heap.size, 0, none⟩ (.int .i64 s0)).setCell ⟨w1.heap.size, 1, none⟩ (.int .u64 s1)).setCell ⟨w1.heap.size, 2, none⟩ (.int .i64 s2)) = wz at *
 have HAZ := HA.out.below HBZ.out HA.out.lt
 have p1 := HAZ.cell 1
 have p2 := HAZ.cell 2
 have r1 := HSG.out.cell 1
 have r2 := HSG.out.cell 2
 have HEND := hI (HB1.out.trans (HBZ.out.mono HB1.out.size))
 clear HAZ y0 y1 y2 y3 y4 n0 n1 n2 f0 f1 f2 z0 z1 z2 l0 l1 l2 l3 a0 a1 a2 HN HSG HBZ
 cases hb1 : (g == s1) <;> cases hb2 : decide (1 ≤ sc) <;> cases hb3 : decide (sc < s2)
 all_goals
  go_wp2
  go_ret
  exact ⟨by simp [hb1, hb2, hb3], HEND.out⟩
end
end
section
open Go.RowKit
def StrR (gx gi p d n : Nat) (s : Sup) (t : Int) (k0 : Dk) (seg : Nat) (X : Nat → Prop) (k : Dk) (W : World) : Prop := StrM W X gx gi p d n s t k seg ∧ Good k ∧ k.held = k0.held ∧ k.pend = k0.pend
section
variable {W W' : World} {X S X0 : Nat → Prop} {gx gi p d n seg : Nat} {s : Sup} {t : Int} {k k0 : Dk}
theorem strV_held (h : k.held = k0.held) (i : Nat) : strV k s seg i = strV k0 s seg i := by unfold strV; rw [h]
theorem Good.rd_held (h : Good k) : k.rd.held = k.held := by rw [h.rd]; rfl
theorem strK_good (h : Good k) (i : Nat) : Good (strK k s i) := by unfold strK; split; exact h.read; exact h
theorem strK_held (h : Good k) (i : Nat) : (strK k s i).held = k.held := by unfold strK; split; exact h.rd_held; rfl
theorem strK_pd (h : Good k) (i : Nat) : (strK k s i).pend = k.pend := by
 unfold strK
 split
 ·rw [h.rd]
 ·rfl
theorem StrM.put (h : StrM W X gx gi p d n s t k seg) (hk : Kept S W W') (hS : ∀ b, b < W.heap.size → ¬ S b → X b ∧ b ≠ gx ∧ b ≠ gi) : StrM W' (fun b => X b ∨ (W.heap.size ≤ b ∧ b < W'.heap.size)) gx gi p d n s t k seg := by
 have hs : ∀ b, b < W.heap.size → ¬ X b → S b := fun b h1 h2 => Classical.byContradiction fun h3 => h2 (hS b h1 h3).1
 have hgx : S gx := Classical.byContradiction fun h3 => (hS gx (h.off _ h.xx) h3).2.1 rfl
 have hgi : S gi := Classical.byContradiction fun h3 => (hS gi (h.off _ h.xi) h3).2.2 rfl
 refine ⟨StoreM.kept h.sto hk hs (fun b hb hy => ?_), grow_lt h.off hk.size, h.bx.kept hk hgx, h.bi.kept hk hgi, .inl h.xx, .inl h.xi⟩
 rcases hy with hy | hy
 ·exact hy
 ·omega
theorem StrM.back (h : StrM W X gx gi p d n s t k seg) (hx : ∀ b, X0 b → X b) (h1 : X0 gx) (h2 : X0 gi) : StrM W X0 gx gi p d n s t k seg :=
 ⟨StoreM.kept (Z := fun _ => True) h.sto (Kept.refl _ _) (fun _ _ _ => trivial) (fun b _ hb => hx b hb), fun b hb => h.off b (hx b hb), h.bx, h.bi, h1, h2⟩
theorem stored_held (hm : s.May) (hseg : (seg : Int) < s.a) (hroom : 2 + s.a * s.b ≤ (n : Int)) (hn : n ≤ 2048) (hk0 : k0.Ok n) (B : Nat) (h1 : X0 gx) (h2 : X0 gi) (hB : gx < B ∧ gi < B) :
 HeldC 122 [.pointer (some ⟨gx, 0, none⟩), .pointer (some ⟨gi, 0, none⟩)] B X0 (strV k0 s seg) (strE s) (fun k i => strK k s i) (StrR gx gi p d n s t k0 seg) := by
 have hx1 : 0 ≤ (seg : Int) * s.b ∧ (seg : Int) * s.b + s.b ≤ s.a * s.b := by
  have hb24 : 24 ≤ s.b := hm.2.2.1
  refine ⟨Int.mul_nonneg (by omega) (by omega), ?_⟩
  have := Int.mul_le_mul_of_nonneg_right (show (seg : Int) + 1 ≤ s.a by omega) (show 0 ≤ s.b by omega)
  rw [Int.add_mul, Int.one_mul] at this
  exact this
 have hlen : ∀ i, (strV k0 s seg i).length = 64 := fun i => by
  unfold strV
  split
  ·refine hk0.heldSecs.get _ ?_
   rw [hk0.heldLen]
   omega
  ·exact noughts_length 64
 refine ⟨fun X k W i h hi => ?_, fun X S k W W' h hk hS => ⟨h.1.put hk fun b hb hn => ⟨(hS b hb hn).1, fun e => ?_, fun e => ?_⟩, h.2⟩, fun X k W h => h.1.off, fun X k W h hx => ⟨h.1.back hx h1 h2, h.2⟩, hlen, fun i => ?_⟩
 ·refine (stored1_any h.1 h.2.1 hm hseg hroom hn i hi (by rw [strV_held h.2.2.1]; exact hlen i)).mono ?_
  rintro e W' ⟨rfl, hs, hk⟩
  rw [strV_held h.2.2.1]
  exact ⟨rfl, ⟨hs, strK_good h.2.1 i, (strK_held h.2.1 i).trans h.2.2.1, (strK_pd h.2.1 i).trans h.2.2.2⟩, hk⟩
 ·have := (hS b hb hn).2; omega
 ·have := (hS b hb hn).2; omega
 ·unfold strV
  split
  ·exact hk0.heldBytes _
  ·intro j
   unfold noughts
   simp only [List.getD, List.getElem?_replicate]
   split <;> simp
end
end
section
open Go.RowKit
structure RecOk (bs : List Int) : Prop where
 byt : Bytes bs
 may : MayB bs
 need : needOf bs = bs.length
theorem RecOk.len {bs : List Int} (h : RecOk bs) : 22 ≤ bs.length ∧ bs.length ≤ 783 := by
 have h1 := h.may
 have h2 := h.need
 unfold MayB May at h1
 unfold needOf at h2
 omega
theorem rec_ok {k f x s : Int} {us vs : List Int} (hm : May k f x s us.length vs.length) (hr : Rng f x s) (hu : Bytes us) (hv : Bytes vs) : RecOk (recB k f x s us vs) := by
 have hm2 := hm
 unfold May at hm2
 obtain ⟨f0, f1, x0, x1, s0, s1⟩ := hr
 have e : recB k f x s us vs = recB k f x s us vs ++ [] := by rw [List.append_nil]
 have e1 : kindOf (recB k f x s us vs) = k := by rw [e]; exact rec_kind
 have e2 : flagsOf (recB k f x s us vs) = f := by rw [e]; exact rec_flags (by omega) (by omega)
 have e3 : expOf (recB k f x s us vs) = x := by rw [e]; exact rec_exp (by omega) (by omega)
 have e4 : seqOf (recB k f x s us vs) = s := by rw [e]; exact rec_seq (by omega) (by omega)
 have e5 : klenOf (recB k f x s us vs) = us.length := by rw [e]; exact rec_klen (by omega)
 have e6 : vlenOf (recB k f x s us vs) = vs.length := by rw [e]; exact rec_vlen (by omega)
 refine ⟨recB_bytes (by omega) hu hv, ?_, ?_⟩
 ·unfold MayB; rw [e1, e2, e3, e4, e5, e6]; exact hm
 ·unfold needOf; rw [e5, e6, recB_length]
theorem rec_stands {V : Nat → List Int} {E : Nat → Int} {gen : Int} {at_ : Nat} {bs : List Int} (hr : RecOk bs) (hV : ∀ j, j < cntOf bs.length → V (at_ + j) = packL gen ((at_ : Int) + j) (partOf bs j)) (hE : ∀ j, j < cntOf bs.length → E (at_ + j) = 0)
 (hg : 1 ≤ gen ∧ gen ≤ 18446744073709551615) (hat : at_ ≤ 100000) :
 standE V E gen at_ = 0 ∧ beginsN (V at_) gen at_ = cntOf bs.length ∧ meants (secsAt V at_ (cntOf bs.length)) = bs := by
 have hl := hr.len
 have hc1 : 1 ≤ cntOf bs.length ∧ cntOf bs.length ≤ 17 := by unfold cntOf; omega
 have hsecs : secsAt V at_ (cntOf bs.length) = splitL gen at_ bs := by
  unfold secsAt splitL
  refine List.map_congr_left fun j hj => ?_
  exact hV j (List.mem_range.1 hj)
 have h0 : V at_ = (splitL gen (at_ : Int) bs).getD 0 [] := by
  rw [split_get gen _ bs 0 (by omega)]
  exact hV 0 (by omega)
 have hs := split_said (xs := bs) hg.1 hg.2 (pos := (at_ : Int)) (by omega) 0 (by omega) (by omega)
 rw [← h0] at hs
 obtain ⟨s1, s2, _, s4, s5⟩ := hs
 have hp : (partOf bs 0) = bs.take 48 := by unfold partOf; simp
 rw [hp] at s4
 have hmb : MayB (bs.take 48) := by
  unfold MayB
  rw [kind_take _ _ (by omega), flags_take _ _ (by omega), exp_take _ _ (by omega), seq_take _ _ (by omega), klen_take _ _ (by omega), vlen_take _ _ (by omega)]
  exact hr.may
 have hnd : needOf (bs.take 48) = bs.length := by
  unfold needOf
  rw [klen_take _ _ (by omega), vlen_take _ _ (by omega)]
  exact hr.need
 have h21 : 21 ≤ (bs.take 48).length := by rw [List.length_take]; omega
 have hb : beginsN (V at_) gen at_ = cntOf bs.length := by
  unfold beginsN
  rw [s4, show needE (bs.take 48) (bs.take 48).length = 0 from if_pos ⟨h21, hmb⟩, show needK (bs.take 48) (bs.take 48).length = bs.length from (if_pos ⟨h21, hmb⟩).trans hnd]
  rw [if_pos ⟨s5, s1, by rw [s2]; simp, rfl⟩]
 have hst : StandsIn (secsAt V at_ (beginsN (V at_) gen at_)) := by
  rw [hb, hsecs]
  have hme := split_meants (xs := bs) hg.1 hg.2 (pos := (at_ : Int)) (by omega) (by omega)
  refine ⟨split_chain hg.1 hg.2 (by omega) (by omega), ?_, ?_⟩
  ·rw [hme]; exact ⟨by omega, hr.may, by rw [hr.need]; exact nR _⟩
  ·rw [hme]; exact hr.need
 refine ⟨(stand_all (by have := hE 0 (by omega); simpa using this) (by omega) (fun q h1 h2 => hE q (by omega))).1 hst, hb, ?_⟩
 rw [hsecs]
 exact split_meants hg.1 hg.2 (by omega) (by omega)
def setL (H : List (List Int)) (i : Nat) : List (List Int) → List (List Int)
 | [] => H
 | y :: r => setL (H.set i y) (i + 1) r
theorem setL_get : ∀ (xss H : List (List Int)) (i j : Nat), i + xss.length ≤ H.length → (setL H i xss).getD j [] = if i ≤ j ∧ j < i + xss.length then xss.getD (j - i) [] else H.getD j []
 | [], H, i, j, _ => by
  unfold setL
  rw [if_neg (by simp)]
 | y :: r, H, i, j, h => by
  unfold setL
  simp only [List.length_cons] at h ⊢
  rw [setL_get r (H.set i y) (i + 1) j (by rw [List.length_set]; omega)]
  by_cases h1 : i = j
  ·subst h1
   rw [if_neg (by omega), if_pos (by omega)]
   have hi : i < H.length := by omega
   simp [List.getD, List.getElem?_set_self hi]
  ·by_cases h2 : i + 1 ≤ j ∧ j < i + 1 + r.length
   ·rw [if_pos h2, if_pos (by omega)]
    rw [show j - i = (j - (i + 1)) + 1 by omega]
    simp [List.getD]
   ·rw [if_neg h2, if_neg (by omega)]
    simp [List.getD, List.getElem?_set_ne h1]
theorem wrs_held : ∀ (xss : List (List Int)) (k : Dk) (i : Nat), Good k → (wrs k i xss).1.held = setL k.held i xss
 | [], k, i, h => rfl
 | ys :: r, k, i, h => by
  unfold wrs
  rw [if_pos h.wre, wrs_held r _ (i + 1) (h.put i ys), h.held_put]
  rfl
theorem pos_apart {b p q i j : Nat} (hi : i < b) (hj : j < b) (h : p * b + i = q * b + j) : p = q ∧ i = j := by
 rcases Nat.lt_trichotomy p q with h1 | h1 | h1
 ·have := Nat.mul_le_mul_right b (show p + 1 ≤ q by omega)
  rw [Nat.add_mul, Nat.one_mul] at this
  omega
 ·subst h1; omega
 ·have := Nat.mul_le_mul_right b (show q + 1 ≤ p by omega)
  rw [Nat.add_mul, Nat.one_mul] at this
  omega
theorem pos_in {b p a i n : Nat} (hp : p < a) (hi : i ≤ b) (hn : 2 + a * b ≤ n) : 2 + (p * b + i) ≤ n := by
 have := Nat.mul_le_mul_right b (show p + 1 ≤ a by omega)
 rw [Nat.add_mul, Nat.one_mul] at this
 omega
theorem pos_nat (i b u : Nat) : (2 + (i : Int) * (b : Int) + (u : Int)).toNat = 2 + (i * b + u) := by
 rw [← Int.natCast_mul]
 generalize i * b = M
 omega
section
variable {k : Dk} {s : Sup} {xs : List Seg} {n : Nat}
theorem lay_V {bs : List Int} (hg : Good k) {a b u i : Nat} (ha : s.a = a) (hb : s.b = b) (hu : usedG xs i = u) (hn : k.held.length = n) (hroom : 2 + a * b ≤ n) (hi : i < a) (hfit : u + cntOf bs.length ≤ b) (seg j : Nat) (hj : j < b) :
 strV (layK k s xs i bs) s seg j = if seg = i ∧ u ≤ j ∧ j < u + cntOf bs.length then packL (genG xs i) (j : Int) (partOf bs (j - u)) else strV k s seg j := by
 have hpos : (2 + (i : Int) * s.b + usedG xs i).toNat = 2 + (i * b + u) := by
  rw [hb, hu]
  exact pos_nat i b u
 have hp2 : (2 + (seg : Int) * s.b + (j : Int)).toNat = 2 + (seg * b + j) := by
  rw [hb]
  exact pos_nat seg b j
 have hw := pos_in hi (show u + cntOf bs.length ≤ b from hfit) hroom
 unfold strV
 rw [if_pos (by omega), hp2]
 unfold layK
 rw [wrs_held _ _ _ hg, hpos, setL_get _ _ _ _ (by rw [split_length, hn]; omega), split_length]
 by_cases h : 2 + (i * b + u) ≤ 2 + (seg * b + j) ∧ 2 + (seg * b + j) < 2 + (i * b + u) + cntOf bs.length
 ·obtain ⟨e1, e2⟩ := pos_apart (p := seg) (q := i) (i := j) (j := u + (seg * b + j - (i * b + u))) hj (by omega) (by omega)
  subst e1
  rw [if_pos h, if_pos ⟨rfl, by omega, by omega⟩, show 2 + (seg * b + j) - (2 + (seg * b + u)) = j - u by omega, split_get _ _ _ _ (by omega), hu, show (u : Int) + ((j - u : Nat) : Int) = (j : Int) by omega]
 ·rw [if_neg h, if_neg (fun h2 => h (by obtain ⟨rfl, h3, h4⟩ := h2; omega)), if_pos (show (j : Int) < s.b by omega)]
theorem sec_lt (t : Int) : secOf t < 2 := by unfold secOf; omega
theorem beg_V (hg : Good k) {b i : Nat} (hb : s.b = b) (t : Int) (seg j : Nat) (hj : j < b) (hj1 : 1 ≤ j ∨ seg ≠ i) : strV (begK k s t i) (genS s) seg j = strV k s seg j := by
 have hp1 : (2 + (i : Int) * s.b).toNat = 2 + (i * b + 0) := by
  rw [hb]
  have h9 := pos_nat i b 0
  simpa using h9
 have hp2 : (2 + (seg : Int) * s.b + (j : Int)).toNat = 2 + (seg * b + j) := by
  rw [hb]
  exact pos_nat seg b j
 have hs := sec_lt t
 have hne : ¬ (2 + (i * b + 0) = 2 + (seg * b + j)) := fun e => by
  obtain ⟨e1, e2⟩ := pos_apart (p := i) (q := seg) (i := 0) (j := j) (by omega) hj (by omega)
  omega
 unfold strV
 rw [if_pos (show (j : Int) < (genS s).b by show (j : Int) < s.b; omega), if_pos (by omega)]
 show (begK k s t i).held.getD (2 + (seg : Int) * s.b + j).toNat [] = _
 rw [hp2]
 unfold begK setK
 rw [((hg.put _ _).sync.put _ _).held_sync, (hg.put _ _).sync.held_put, (hg.put _ _).held_sync, hg.held_put, hp1]
 simp only [List.getD]
 rw [List.getElem?_set_ne hne, List.getElem?_set_ne (by omega)]
end
structure AtR (k : Dk) (s : Sup) (xs : List Seg) (a : Int × Int × Int) (bs : List Int) : Prop where
 rok : RecOk bs
 here : ∃ i c : Nat, a = ((i : Int), genG xs i, (c : Int)) ∧ i < xs.length ∧ 1 ≤ c ∧ (c : Int) + cntOf bs.length ≤ usedG xs i ∧ ∀ j, j < cntOf bs.length → strV k s i (c + j) = packL (genG xs i) ((c : Int) + j) (partOf bs j)
section
variable {k k' : Dk} {s : Sup} {xs : List Seg} {a : Int × Int × Int} {bs : List Int}
theorem AtR.held (h : AtR k s xs a bs) (hk : k'.held = k.held) : AtR k' s xs a bs := by
 obtain ⟨h1, i, c, e, h2, h3, h4, h5⟩ := h
 exact ⟨h1, i, c, e, h2, h3, h4, fun j hj => by rw [strV_held hk]; exact h5 j hj⟩
theorem used_free {sec : Int} {xs : List Seg} (h : OkR sec xs) {j : Nat} (hj : j < xs.length) (h0 : stG xs j = 0) : usedG xs j = 0 := by
 have hm := may_at h.2.1 hj
 unfold MayG at hm
 rw [if_pos h0] at hm
 exact hm.2
theorem used_le {sec : Int} {xs : List Seg} (h : OkR sec xs) {j : Nat} (hj : j < xs.length) : usedG xs j ≤ sec ∧ 24 ≤ sec ∧ sec ≤ 64 := by
 have hz := h.1
 unfold SizedR at hz
 refine ⟨?_, by omega, by omega⟩
 by_cases h0 : stG xs j = 0
 ·rw [used_free h hj h0]; omega
 ·exact (may_live (may_at h.2.1 hj) h0).2.2.2
theorem lay_at {n : Nat} (hg : Good k) (hok : OkR s.b xs) (hn : k.held.length = n) (hroom : 2 + s.a * s.b ≤ (n : Int)) (hdim : (xs.length : Int) = s.a) {i : Nat} (ho : opnR xs = (i : Nat)) {bs2 : List Int} (hr : RecOk bs2) (hfit : ((cntOf bs2.length : Nat) : Int) ≤ leftR s.b xs) :
 AtR (layK k s xs i bs2) s (useX xs ((cntOf bs2.length : Nat) : Int)) ((i : Int), genG xs i, usedG xs i) bs2 ∧
 ∀ a bs, AtR k s xs a bs → AtR (layK k s xs i bs2) s (useX xs ((cntOf bs2.length : Nat) : Int)) a bs ∧ a ≠ ((i : Int), genG xs i, usedG xs i) := by
 obtain ⟨o1, o2, o3, o4, o5, o6⟩ := opn_bounds hok ho
 have hE := use_zero hok (n := ((cntOf bs2.length : Nat) : Int)) (by omega) (by omega) hfit
 obtain ⟨i2, u1, u2, u3, u4, u5, u6, u7, u8, u9, u10, u11⟩ := use_facts hE
 obtain rfl : i2 = i := by omega
 have hc2 : 1 ≤ cntOf bs2.length := by unfold cntOf; omega
 obtain ⟨b, hb⟩ : ∃ b : Nat, s.b = b := ⟨s.b.toNat, by have hz := hok.1; unfold SizedR at hz; omega⟩
 obtain ⟨u, hu⟩ : ∃ u : Nat, usedG xs i2 = u := ⟨(usedG xs i2).toNat, by omega⟩
 have hroomN : 2 + xs.length * b ≤ n := by
  rw [← hdim, hb] at hroom
  have : ((xs.length * b : Nat) : Int) = (xs.length : Int) * (b : Int) := by push_cast; rfl
  omega
 have hV := fun seg j hj => lay_V (seg := seg) (j := j) (bs := bs2) hg (a := xs.length) (b := b) (u := u) (i := i2) hdim.symm hb hu hn hroomN u1 (by omega) hj
 have hused : ∀ j, j < xs.length → usedG xs j ≤ usedG (useX xs ((cntOf bs2.length : Nat) : Int)) j := fun j hj => by
  rw [u10, used_set9 u1]
  by_cases e : i2 = j
  ·subst e; rw [if_pos rfl]; show usedG xs i2 ≤ usedG xs i2 + _; omega
  ·rw [if_neg e]; omega
 have hgen : ∀ j, genG (useX xs ((cntOf bs2.length : Nat) : Int)) j = genG xs j := fun j => by
  rw [u10, gen_set u1]
  by_cases e : i2 = j
  ·subst e; rw [if_pos rfl]
  ·rw [if_neg e]
 refine ⟨⟨hr, i2, u, by rw [hgen, hu], by omega, by omega, by rw [u8, hu]; omega, fun j hj => ?_⟩, fun a bs h => ?_⟩
 ·rw [hV i2 (u + j) (by omega), if_pos ⟨rfl, by omega, by omega⟩, hgen, show u + j - u = j by omega]
  push_cast
  rfl
 ·obtain ⟨h1, j, c, e, h2, h3, h4, h5⟩ := h
  refine ⟨⟨h1, j, c, by rw [hgen]; exact e, by omega, h3, by have := hused j h2; omega, fun q hq => ?_⟩, fun e2 => ?_⟩
  ·have hub : usedG xs j ≤ b := by
    by_cases ej : j = i2
    ·subst ej; omega
    ·have := used_le hok h2; omega
   rw [hV j (c + q) (by omega), hgen]
   by_cases ej : j = i2
   ·subst ej
    rw [if_neg (by omega)]
    exact h5 q hq
   ·rw [if_neg (fun h => ej h.1)]
    exact h5 q hq
  ·rw [e] at e2
   injection e2 with e3 e4
   injection e4 with e5 e6
   have : j = i2 := by omega
   subst this
   have : 1 ≤ cntOf bs.length := by unfold cntOf; omega
   omega
theorem beg_at (hg : Good k) (hok : OkR s.b xs) (hdim : (xs.length : Int) = s.a) (t : Int) {i : Nat} (hi : nxtR xs = (i : Nat)) (hE : openE s.b (sealedX s.b xs) (s.g + 1) = 0) (h : AtR k s xs a bs) : AtR (begK k s t i) (genS s) (openX (sealedX s.b xs) (s.g + 1)) a bs := by
 have hz : sealedX s.b xs = if sealE s.b xs = 0 then sealX xs else xs := rfl
 obtain ⟨z1, z2, z3, z4, z5, z6, z7⟩ := seal_facts hok hz
 obtain ⟨j, j1, j2, j3, j4, j5, j6, j7, j8, j9, j10, j11⟩ := open_facts hE
 obtain rfl : j = i := by omega
 obtain ⟨b, hb⟩ : ∃ b : Nat, s.b = b := ⟨s.b.toNat, by have hz := hok.1; unfold SizedR at hz; omega⟩
 have hst : stG xs j = 0 := by
  rcases nxt_or xs with ⟨e, _⟩ | ⟨q, q1, q2, q3, _⟩
  ·omega
  ·rw [q2] at hi
   have : (latR xs + 1 + (q : Nat)).toNat % xs.length = j := by omega
   rw [this] at q3
   exact q3
 have hu0 := used_free hok (by omega) hst
 obtain ⟨h1, p, c, e, h2, h3, h4, h5⟩ := h
 have hc : 1 ≤ cntOf bs.length := by unfold cntOf; omega
 have hpj : p ≠ j := fun e => by subst e; omega
 have hub := used_le hok h2
 have hg2 : genG (openX (sealedX s.b xs) (s.g + 1)) p = genG xs p := by
  rw [j11, gen_set j1, if_neg (Ne.symm hpj)]; exact (z7 p).2.1
 have hu2 : usedG (openX (sealedX s.b xs) (s.g + 1)) p = usedG xs p := by
  rw [j11, used_set9 j1, if_neg (Ne.symm hpj)]; exact (z7 p).2.2
 refine ⟨h1, p, c, by rw [hg2]; exact e, by omega, h3, by rw [hu2]; exact h4, fun q hq => ?_⟩
 rw [hg2, beg_V hg hb t p (c + q) (by omega) (.inl (by omega))]
 exact h5 q hq
end
end
section
section
variable {P : Program} {ops : Array Oper} {Q : Exit → Act → World → Prop} {md : Region.Mode} {S : World → Prop} {st : List Nat}
def GoodL (md : Region.Mode) (ops : Array Oper) (l : Array Bool) : Prop := ∀ s o, ops[s]? = some o → l.getD s false = true → ∀ e ∈ o.after, Region.binds md e = true → l.getD e.on false = true
def goodB (md : Region.Mode) (ops : Array Oper) (l : Array Bool) : Bool := (List.range ops.size).all fun s => match ops[s]? with
 | none => true
 | some o => !(l.getD s false) || o.after.all fun e => !(Region.binds md e) || l.getD e.on false
theorem goodB_spec {l : Array Bool} (h : goodB md ops l = true) : GoodL md ops l := by
 intro s o ho hs e he hb
 have hlt : s < ops.size := (Array.getElem?_eq_some_iff.1 ho).1
 have h1 := List.all_eq_true.1 h s (List.mem_range.2 hlt)
 simp only [ho, hs, Bool.not_true, Bool.false_or] at h1
 have h2 := Array.all_eq_true'.1 h1 e he
 simpa [hb] using h2
theorem GoodL.set {l : Array Bool} {i : Nat} (h : GoodL md ops l) (hi : i ∈ Region.ready md ops l) : GoodL md ops (l.setIfInBounds i true) := by
 intro s o ho hs e he hb
 have key : l.getD e.on false = true := by
  obtain ⟨hun, oi, hoi, hall⟩ := mem_ready.1 hi
  by_cases hsi : i = s
  ·subst hsi
   rw [hoi] at ho
   injection ho with ho
   subst ho
   exact hall e he hb
  ·rw [getD_set_ne false hsi] at hs
   exact h s o ho hs e he hb
 by_cases hie : i = e.on
 ·rw [hie]
  have h1 := un_of_ready hi
  have hlt : e.on < l.size := by
   rcases Nat.lt_or_ge e.on l.size with h' | h'
   ·exact h'
   ·simp [Array.getElem?_eq_none h'] at key
  simp [hlt]
 ·rw [getD_set_ne false hie]
  exact key
def reaches (md : Region.Mode) (ops : Array Oper) : Nat → Nat → Nat → Bool
 | 0, _, _ => false
 | n + 1, s, i => match ops[s]? with
  | none => false
  | some o => o.after.any fun e => Region.binds md e && (e.on == i || reaches md ops n e.on i)
theorem reaches_listed {l : Array Bool} (hg : GoodL md ops l) {i : Nat} : ∀ (n s : Nat), (∀ o, ops[s]? = some o → ∀ e ∈ o.after, Region.binds md e = true → l.getD e.on false = true) → reaches md ops n s i = true → l.getD i false = true
 | 0, _, _, h => by cases h
 | n + 1, s, hs, h => by
  unfold reaches at h
  cases ho : ops[s]? with
  | none => simp only [ho] at h; cases h
  | some o =>
   simp only [ho] at h
   obtain ⟨e, he, hb⟩ := Array.any_eq_true'.1 h
   rw [Bool.and_eq_true] at hb
   have h1 := hs o ho e he hb.1
   rcases Bool.or_eq_true_iff.1 hb.2 with h2 | h2
   ·rw [beq_iff_eq] at h2
    rwa [h2] at h1
   ·exact reaches_listed hg n e.on (fun o' ho' e' he' hb' => hg e.on o' ho' h1 e' he' hb') h2
def waitsBy (md : Region.Mode) (ops : Array Oper) (st : List Nat) (l : Array Bool) (i : Nat) : Bool := st.all fun s => l.getD s false || reaches md ops ops.size s i
theorem waits_set {l : Array Bool} {i j : Nat} (hw : waitsBy md ops st l i = true) (hj : j < l.size) : waitsBy md ops st (l.setIfInBounds j true) i = true := by
 unfold waitsBy at *
 refine List.all_eq_true.2 fun s hs => ?_
 rcases Bool.or_eq_true_iff.1 (List.all_eq_true.1 hw s hs) with h | h
 ·refine Bool.or_eq_true_iff.2 (.inl ?_)
  by_cases e : j = s
  ·rw [e] at hj ⊢
   simp [hj]
  ·rw [getD_set_ne false e]
   exact h
 ·exact Bool.or_eq_true_iff.2 (.inr h)
theorem ready_lt {l : Array Bool} {j : Nat} (h : j ∈ Region.ready md ops l) : j < l.size := by
 have h0 := (mem_ready.1 h).1
 rcases Nat.lt_or_ge j l.size with h' | h'
 ·exact h'
 ·simp [Array.getElem?_eq_none h'] at h0
theorem not_lastG {l : Array Bool} {i s : Nat} (hg : GoodL md ops l) (hw : waitsBy md ops st l i = true) (hun : l.getD i false = false) (hs : s ∈ st) : s ∉ Region.ready md ops l := by
 intro h
 have hsun := un_of_ready h
 obtain ⟨_, o, ho, hall⟩ := mem_ready.1 h
 have h1 := List.all_eq_true.1 hw s hs
 rw [hsun, Bool.false_or] at h1
 have h2 := reaches_listed hg ops.size s (fun o' ho' e he hb => by rw [ho] at ho'; injection ho' with ho'; subst ho'; exact hall e he hb) h1
 rw [hun] at h2
 cases h2
theorem Tillst.firstG {i : Nat} {oi : Oper} {v : Value} (hi : ops[i]? = some oi) (hsel : ∀ (j : Nat) (o : Oper) cs b, ops[j]? = some o → o.op ≠ .select cs b) (hQ : ∀ c a w, Q (.panic c) (a.put oi.dst v) w → Q (.panic c) a w)
 : ∀ (k : Nat) (l : Array Bool) (a : Act) (w : World), GoodL md ops l → waitsBy md ops st l i = true →
  (∀ j oj, ops[j]? = some oj → j ≠ i → l.getD j true = false → (∀ e ∈ oj.after, Region.binds md e = true → e.on ≠ i) → oi.apart ops oj = true) →
  i ∈ Region.ready md ops l → YieldsIf P ops S oi v a → S w → Tillst P md ops Q S st k (l.setIfInBounds i true) (a.put oi.dst v) w → Tillst P md ops Q S st (k + 1) l a w := by
 intro k
 induction k with
 | zero =>
  intro l a w _ _ _ hr hy hS H
  refine ⟨fun h => (by rw [h] at hr; cases hr), fun j hj => ?_⟩
  by_cases e : j = i
  ·rw [e]
   exact hy.wpOp hi hS ⟨fun _ => hS, H⟩
  ·have := ready_mono hj e
   rw [H.1] at this
   cases this
 | succ k ih =>
  intro l a w hgd hw hfree hr hy hS H
  have hun := un_of_ready hr
  refine ⟨fun h => (by rw [h] at hr; cases hr), fun j hj => ?_⟩
  by_cases e : j = i
  ·rw [e]
   exact hy.wpOp hi hS ⟨fun _ => hS, H⟩
  have hjst : st.contains j = false := by
   rcases h : st.contains j with _ | _
   ·rfl
   ·exact absurd hj (not_lastG hgd hw hun (by simpa using h))
  obtain ⟨hjun, oj, hoj, hall⟩ := mem_ready.1 hj
  have hno : ∀ e ∈ oj.after, Region.binds md e = true → e.on ≠ i := fun e he hb heq => by
   have := hall e he hb
   rw [heq, hun] at this
   cases this
  have hput := wpOp_putIf hoj (hfree j oj hoj e hjun hno) (fun cs b => hsel i oi cs b hi) (fun cs b => hsel j oj cs b hoj) hQ hy (H.2 j (ready_mono hj e))
  refine wpOp_mono (fun b u g => ?_) hput
  have hSu := g.2.1 hjst
  refine ⟨fun _ => hSu, ih (l.setIfInBounds j true) b u (hgd.set hj) (waits_set hw (ready_lt hj)) (fun m om hm hmi hmun hmno => ?_) (ready_mono hr (Ne.symm e)) g.1 hSu ?_⟩
  ·refine hfree m om hm hmi ?_ hmno
   by_cases hjm : j = m
   ·rw [← hjm]; exact hjun
   ·rw [getD_set_ne true hjm] at hmun; exact hmun
  ·rw [Array.setIfInBounds_comm _ _ e]
   exact g.2.2
theorem Tillst.firstF {i : Nat} {oi : Oper} {v : Value} (hi : ops[i]? = some oi) (hsel : ∀ (j : Nat) (o : Oper) cs b, ops[j]? = some o → o.op ≠ .select cs b) (hQ : ∀ c a w, Q (.panic c) (a.put oi.dst v) w → Q (.panic c) a w)
 (hst : st.contains i = true) : ∀ (k : Nat) (l : Array Bool) (a : Act) (w : World),
  (∀ j oj, ops[j]? = some oj → j ≠ i → l.getD j true = false → (∀ e ∈ oj.after, Region.binds md e = true → e.on ≠ i) → oi.apart ops oj = true) →
  i ∈ Region.ready md ops l → YieldsIf P ops (fun _ => True) oi v a → Tillst P md ops Q S st k (l.setIfInBounds i true) (a.put oi.dst v) w → Tillst P md ops Q S st (k + 1) l a w := by
 intro k
 induction k with
 | zero =>
  intro l a w _ hr hy H
  refine ⟨fun h => (by rw [h] at hr; cases hr), fun j hj => ?_⟩
  by_cases e : j = i
  ·rw [e]
   exact hy.wpOp hi trivial ⟨fun h => (by rw [hst] at h; cases h), H⟩
  ·have := ready_mono hj e
   rw [H.1] at this
   cases this
 | succ k ih =>
  intro l a w hfree hr hy H
  have hun := un_of_ready hr
  refine ⟨fun h => (by rw [h] at hr; cases hr), fun j hj => ?_⟩
  by_cases e : j = i
  ·rw [e]
   exact hy.wpOp hi trivial ⟨fun h => (by rw [hst] at h; cases h), H⟩
  obtain ⟨hjun, oj, hoj, hall⟩ := mem_ready.1 hj
  have hno : ∀ e ∈ oj.after, Region.binds md e = true → e.on ≠ i := fun e he hb heq => by
   have := hall e he hb
   rw [heq, hun] at this
   cases this
  have hput := wpOp_putIf hoj (hfree j oj hoj e hjun hno) (fun cs b => hsel i oi cs b hi) (fun cs b => hsel j oj cs b hoj) hQ hy (H.2 j (ready_mono hj e))
  refine wpOp_mono (fun b u g => ?_) hput
  refine ⟨g.2.1, ih (l.setIfInBounds j true) b u (fun m om hm hmi hmun hmno => ?_) (ready_mono hr (Ne.symm e)) g.1 ?_⟩
  ·refine hfree m om hm hmi ?_ hmno
   by_cases hjm : j = m
   ·rw [← hjm]; exact hjun
   ·rw [getD_set_ne true hjm] at hmun; exact hmun
  ·rw [Array.setIfInBounds_comm _ _ e]
   exact g.2.2
theorem Tillst.takeF {i : Nat} {oi : Oper} {v : Value} {k : Nat} {l : Array Bool} {a : Act} {w : World} (hi : ops[i]? = some oi) (hs : Region.noSelect ops = true) (hf : Region.free md ops l i = true) (hr : (Region.ready md ops l).contains i = true)
 (hst : st.contains i = true) (hQ : ∀ c a w, Q (.panic c) (a.put oi.dst v) w → Q (.panic c) a w) (hgd : Region.wanted oi (yielded ops a.tmps) = true) (hy : ∀ w, (execOp a.eval oi).run P w = .ok (.value v) w)
 (h : Tillst P md ops Q S st k (l.setIfInBounds i true) (a.put oi.dst v) w) : Tillst P md ops Q S st (k + 1) l a w :=
 Tillst.firstF hi (Region.noSelect_spec hs) hQ hst k l a w (Region.free_spec hi hf) (by simpa using hr) (.inl ⟨hgd, fun w _ => hy w⟩) h
theorem Tillst.takeG {i : Nat} {oi : Oper} {v : Value} {k : Nat} {l : Array Bool} {a : Act} {w : World} (hi : ops[i]? = some oi) (hs : Region.noSelect ops = true) (hf : Region.free md ops l i = true) (hr : (Region.ready md ops l).contains i = true)
 (hg : goodB md ops l = true) (hw : waitsBy md ops st l i = true) (hQ : ∀ c a w, Q (.panic c) (a.put oi.dst v) w → Q (.panic c) a w) (hgd : Region.wanted oi (yielded ops a.tmps) = true) (hy : ∀ w, S w → (execOp a.eval oi).run P w = .ok (.value v) w) (hS : S w)
 (h : Tillst P md ops Q S st k (l.setIfInBounds i true) (a.put oi.dst v) w) : Tillst P md ops Q S st (k + 1) l a w :=
 Tillst.firstG hi (Region.noSelect_spec hs) hQ k l a w (goodB_spec hg) hw (Region.free_spec hi hf) (by simpa using hr) (.inl ⟨hgd, hy⟩) hS h
end
end
section
open Go.RowKit
attribute [local go_sem] Oper.semAt_some
abbrev rq0 : Oper := ⟨some 20, .move (.tmp 0), 24, "log.go:78", #[], none⟩
abbrev rq1 : Oper := ⟨some 21, .nilCheck (.tmp 20), 0, "log.go:78", #[⟨0, .data⟩], none⟩
abbrev rq2 : Oper := ⟨some 22, .fieldAddr 103 (.tmp 21) 0, 0, "log.go:78", #[⟨1, .data⟩], none⟩
abbrev rq3 : Oper := ⟨some 23, .load 45 (.tmp 22), 45, "log.go:78", #[⟨2, .data⟩], none⟩
abbrev rq4 : Oper := ⟨some 24, .fieldAddr 35 (.tmp 3) 0, 0, "log.go:78", #[], none⟩
abbrev rq5 : Oper := ⟨some 25, .load 3 (.tmp 24), 3, "log.go:78", #[⟨4, .data⟩], none⟩
abbrev rq6 : Oper := ⟨some 26, .call { callee := .value (.func 52), args := #[.tmp 23, .tmp 25], argTypes := #[45, 3] }, 110, "log.go:78", #[⟨3, .data⟩, ⟨5, .data⟩], none⟩
abbrev rq7 : Oper := ⟨some 27, .fieldAddr 35 (.tmp 3) 1, 0, "log.go:78", #[], none⟩
abbrev rq8 : Oper := ⟨some 28, .load 30 (.tmp 27), 30, "log.go:78", #[⟨7, .data⟩], none⟩
abbrev rq9 : Oper := ⟨some 29, .fieldAddr 35 (.tmp 3) 2, 0, "log.go:78", #[], none⟩
abbrev rq10 : Oper := ⟨some 30, .load 3 (.tmp 29), 3, "log.go:78", #[⟨9, .data⟩], none⟩
abbrev rq11 : Oper := ⟨some 31, .call { callee := .value (.func 55), args := #[.tmp 26, .tmp 28, .tmp 30], argTypes := #[110, 30, 3] }, 118, "log.go:78", #[⟨6, .data⟩, ⟨8, .data⟩, ⟨10, .data⟩, ⟨6, .chain⟩], none⟩
abbrev rq12 : Oper := ⟨some 19, .move (.tmp 31), 118, "log.go:78", #[⟨11, .data⟩], none⟩
abbrev rq13 : Oper := ⟨some 32, .extract (.tmp 19) 0, 33, "log.go:78", #[⟨12, .data⟩], none⟩
abbrev rq14 : Oper := ⟨some 33, .extract (.tmp 19) 1, 3, "log.go:78", #[⟨12, .data⟩, { on := 17, ground := Go.Ground.gcOnly Go.Departure.lateStores }], none⟩
abbrev rq15 : Oper := ⟨some 34, .extract (.tmp 19) 2, 36, "log.go:78", #[⟨12, .data⟩, { on := 18, ground := Go.Ground.gcOnly Go.Departure.lateStores }], none⟩
abbrev rq16 : Oper := ⟨some 6, .alloc 33, 0, "log.go:78", #[], none⟩
abbrev rq17 : Oper := ⟨none, .store 33 (.tmp 6) (.tmp 32), 0, "log.go:78", #[⟨16, .data⟩, ⟨13, .data⟩, ⟨11, .chain⟩, ⟨0, .phase⟩, ⟨1, .phase⟩, ⟨2, .phase⟩, ⟨3, .phase⟩, ⟨4, .phase⟩, ⟨5, .phase⟩, ⟨6, .phase⟩, ⟨7, .phase⟩, ⟨8, .phase⟩, ⟨9, .phase⟩, ⟨10, .phase⟩, ⟨11, .phase⟩, ⟨12, .phase⟩, ⟨13, .phase⟩, { on := 14, ground := Go.Ground.textOnly Go.Departure.lateStores }, { on := 15, ground := Go.Ground.textOnly Go.Departure.lateStores }, ⟨16, .phase⟩], none⟩
abbrev rq18 : Oper := ⟨some 7, .assign (.tmp 33), 3, "log.go:78", #[⟨14, .data⟩, ⟨17, .chain⟩, ⟨0, .phase⟩, ⟨1, .phase⟩, ⟨2, .phase⟩, ⟨3, .phase⟩, ⟨4, .phase⟩, ⟨5, .phase⟩, ⟨6, .phase⟩, ⟨7, .phase⟩, ⟨8, .phase⟩, ⟨9, .phase⟩, ⟨10, .phase⟩, ⟨11, .phase⟩, ⟨12, .phase⟩, ⟨13, .phase⟩, ⟨14, .phase⟩, { on := 15, ground := Go.Ground.textOnly Go.Departure.lateStores }, ⟨16, .phase⟩, ⟨17, .phase⟩], none⟩
abbrev rq19 : Oper := ⟨some 8, .assign (.tmp 34), 36, "log.go:78", #[⟨15, .data⟩, ⟨18, .chain⟩, ⟨0, .phase⟩, ⟨1, .phase⟩, ⟨2, .phase⟩, ⟨3, .phase⟩, ⟨4, .phase⟩, ⟨5, .phase⟩, ⟨6, .phase⟩, ⟨7, .phase⟩, ⟨8, .phase⟩, ⟨9, .phase⟩, ⟨10, .phase⟩, ⟨11, .phase⟩, ⟨12, .phase⟩, ⟨13, .phase⟩, ⟨14, .phase⟩, ⟨15, .phase⟩, ⟨16, .phase⟩, ⟨17, .phase⟩, ⟨18, .phase⟩], none⟩
theorem zero_rec9 (w : World) : (zeroValue 33).run Tryz.prog w = .ok (.agg zeroC) w := (Tryz.zeroValue33 w).trans rfl
def RdT (V : Nat → List Int) (E : Nat → Int) (gen : Int) (at_ : Nat) (B : Nat) (W : World) (rec : Array Value) (e : Int) : Prop :=
 (rec.size = 6 ∧ rec.all (·.oneCell') = true) ∧ e = standE V E gen at_ ∧ (e ≠ 0 → rec = zeroC) ∧
 (e = 0 → ∃ (xs : List Int) (b1 b2 : Nat), xs = meants (secsAt V at_ (beginsN (V at_) gen at_)) ∧ rec = recT9 xs b1 b2 ∧ B ≤ b1 ∧ B ≤ b2 ∧ b1 ≠ b2 ∧ ArrU W b1 (keyOf xs) ∧ ArrU W b2 (valOf xs))
theorem RdT.keep {V : Nat → List Int} {E : Nat → Int} {gen : Int} {at_ B : Nat} {W W' : World} {rec : Array Value} {e : Int} {S : Nat → Prop} (h : RdT V E gen at_ B W rec e) (hk : Kept S W W') (hS : ∀ b, B ≤ b → b < W.heap.size → S b) : RdT V E gen at_ B W' rec e := by
 obtain ⟨h1, h2, h3, h4⟩ := h
 refine ⟨h1, h2, h3, fun h0 => ?_⟩
 obtain ⟨xs, b1, b2, e1, e2, e3, e4, e5, e6, e7⟩ := h4 h0
 exact ⟨xs, b1, b2, e1, e2, e3, e4, e5, Blk.kept e6 hk (hS _ e3 (Blk.lt e6)), Blk.kept e7 hk (hS _ e4 (Blk.lt e7))⟩
theorem RdT.less {V : Nat → List Int} {E : Nat → Int} {gen : Int} {at_ B B' : Nat} {W : World} {rec : Array Value} {e : Int} (h : RdT V E gen at_ B W rec e) (hB : B' ≤ B) : RdT V E gen at_ B' W rec e := by
 obtain ⟨h1, h2, h3, h4⟩ := h
 refine ⟨h1, h2, h3, fun h0 => ?_⟩
 obtain ⟨xs, b1, b2, e1, e2, e3, e4, e5, e6, e7⟩ := h4 h0
 exact ⟨xs, b1, b2, e1, e2, by omega, by omega, e5, e6, e7⟩
theorem StandT.rd {σ : Type} {R : (Nat → Prop) → σ → World → Prop} {nx : σ → Nat → σ} {X0 : Nat → Prop} {st : σ} {V : Nat → List Int} {E : Nat → Int} {gen : Int} {at_ : Nat} {w : World} {e : Ending} {w' : World} (h : StandT R nx X0 st V E gen at_ w e w') :
 ∃ rec cnt er, e = .returned (.tuple #[.agg rec, .int .i64 cnt, .int .i64 er]) ∧ RdT V E gen at_ w.heap.size w' rec er ∧ R X0 (stR nx st at_ (standR V E gen at_)) w' ∧ Kept X0 w w' := by
 obtain ⟨h1, h2, h3, h4⟩ := h
 by_cases h0 : standE V E gen at_ = 0
 ·obtain ⟨xs, e1, b1, b2, e2, e3⟩ := h4 h0
  exact ⟨_, _, _, e2, ⟨⟨rfl, one_rec _ _ _ _ _ _ _ _ _ _⟩, h0.symm, fun h => absurd rfl h, fun _ => ⟨xs, b1, b2, e1, rfl, e3⟩⟩, h1, h2⟩
 ·exact ⟨_, _, _, h3 h0, ⟨⟨rfl, one_zero⟩, rfl, fun _ => rfl, fun h => absurd h h0⟩, h1, h2⟩
structure RdS (l p : Nat) (sec : Int) (A : Option Addr) (m c : Nat) (br : Bool) (xs : List Seg) (w : World) (X R : Nat → Prop) (ga gr : Nat) (ad : Array Value) (Z : Nat → Prop) (W : World) : Prop where
 lb : Blk W l 103 (logC p sec A m c br)
 row : RowZ W R A m xs
 ab : Blk W ga 35 ad
 rb : Blk W gr 33 zeroC
 zl : Z l
 za : Z ga
 zr : Z gr
 zx : ∀ b, X b ∨ R b → Z b
 zt : ∀ b, Z b → b < W.heap.size
 kx : Kept X w W
theorem RdS.keep {l p : Nat} {sec : Int} {A : Option Addr} {m c : Nat} {br : Bool} {xs : List Seg} {w : World} {X R : Nat → Prop} {ga gr : Nat} {ad : Array Value} {Z S : Nat → Prop} {W W' : World} (h : RdS l p sec A m c br xs w X R ga gr ad Z W) (hk : Kept S W W') (hS : ∀ b, Z b → S b) : RdS l p sec A m c br xs w X R ga gr ad Z W' :=
 ⟨h.lb.kept hk (hS _ h.zl), h.row.kept hk (fun b hb => hS b (h.zx b (.inr hb))), h.ab.kept hk (hS _ h.za), h.rb.kept hk (hS _ h.zr), h.zl, h.za, h.zr, h.zx, fun b hb => nL (h.zt b hb) hk.size, h.kx.trans hk (fun b hb => hS b (h.zx b (.inl hb)))⟩
theorem RdS.mem {l p : Nat} {sec : Int} {A : Option Addr} {m c : Nat} {br : Bool} {xs : List Seg} {w : World} {X R : Nat → Prop} {ga gr : Nat} {ad : Array Value} {Z : Nat → Prop} {W W' : World} (h : RdS l p sec A m c br xs w X R ga gr ad Z W) (hb : Below W.heap.size W W') : RdS l p sec A m c br xs w X R ga gr ad Z W' :=
 h.keep (Kept.of_below (S := fun b => b < W.heap.size) hb (fun b h => h)) h.zt
theorem RdS.cells {l p : Nat} {sec : Int} {A : Option Addr} {m c : Nat} {br : Bool} {xs : List Seg} {w : World} {X R : Nat → Prop} {ga gr : Nat} {ad : Array Value} {Z : Nat → Prop} {W : World} (h : RdS l p sec A m c br xs w X R ga gr ad Z W) : W.cell? ⟨l, 0, none⟩ = some (.pointer (some ⟨p, 0, none⟩)) ∧ W.cell? ⟨ga, 0, none⟩ = ad[0]? ∧ W.cell? ⟨ga, 1, none⟩ = ad[1]? ∧ W.cell? ⟨ga, 2, none⟩ = ad[2]? :=
 ⟨h.lb.cell 0, h.ab.cell 0, h.ab.cell 1, h.ab.cell 2⟩
section
variable {w : World} {X R Z X0 : Nat → Prop} {l p d n : Nat} {s : Sup} {t : Int} {k k' : Dk} {sec : Int} {A : Option Addr} {m c : Nat} {xs : List Seg} {br : Bool}
theorem rd_fin {ga gr gx gi g6 B seg at_ : Nat} {gen : Int} {ad rec : Array Value} {er : Int} {V V11 : World} {W : Nat → List Int} {E : Nat → Int} (hrds : RdS l p sec A m c br xs w X R ga gr ad Z V11) (hstr : StrM V11 X0 gx gi p d n s t k' seg) (hz : ∀ b, Z b → X0 b)
 (hrd : RdT W E gen at_ B V11 rec er) (h6 : ¬ Z g6) (hB : g6 < B ∨ V11.heap.size ≤ g6) (hx6 : X0 g6 ∨ V11.heap.size ≤ g6) (hb : Below V11.heap.size V11 V) (hb6 : Blk V g6 33 zeroC) (hgr : gr < B) (hgw : w.heap.size ≤ gr) (hl : l < w.heap.size) (hX : ∀ b, X b → b < w.heap.size) (hR : ∀ b, R b → b < w.heap.size ∧ b ≠ l ∧ ¬ X b) (hxl : ¬ X l) :
 Blk (V.setRow g6 rec) g6 33 rec ∧ Blk (V.setRow g6 rec) gr 33 zeroC ∧ Blk ((V.setRow g6 rec).setRow gr rec) gr 33 rec ∧ RdT W E gen at_ B ((V.setRow g6 rec).setRow gr rec) rec er ∧
 LogM ((V.setRow g6 rec).setRow gr rec) X l p d n s t k' sec A m c xs br ∧ Kept X w ((V.setRow g6 rec).setRow gr rec) := by
 have hne : gr ≠ g6 := fun e => h6 (e ▸ hrds.zr)
 have hk1 : Kept (fun b => b < V11.heap.size ∧ b ≠ g6) V11 (V.setRow g6 rec) := (Kept.of_below (S := fun b => b < V11.heap.size ∧ b ≠ g6) hb (fun b h => h.1)).setRow (g := g6) (fun h => h.2 rfl) rec
 have hk2 : Kept (fun b => b < V11.heap.size ∧ b ≠ g6 ∧ b ≠ gr) V11 ((V.setRow g6 rec).setRow gr rec) := (hk1.mono (S := fun b => b < V11.heap.size ∧ b ≠ g6 ∧ b ≠ gr) (fun b h => ⟨h.1, h.2.1⟩)).setRow (g := gr) (fun h => h.2.2 rfl) rec
 have hrb : Blk (V.setRow g6 rec) gr 33 zeroC := hrds.rb.kept hk1 ⟨hrds.zt _ hrds.zr, hne⟩
 have hlow : ∀ b, Z b → b < w.heap.size → b < V11.heap.size ∧ b ≠ g6 ∧ b ≠ gr := fun b h1 h2 => ⟨hrds.zt b h1, fun e => h6 (e ▸ h1), by omega⟩
 refine ⟨setRow_heap _ _ _ rec _ _ hb6, hrb, setRow_heap _ _ _ rec _ _ hrb, hrd.keep hk2 (fun b h1 h2 => ⟨h2, by omega, by omega⟩), ?_, hrds.kx.trans hk2 (fun b hb => hlow b (hrds.zx b (.inl hb)) (hX b hb))⟩
 have hz2 := hk2.size
 refine ⟨hrds.lb.kept hk2 (hlow l hrds.zl hl), hxl, R, ?_, hrds.row.kept hk2 (fun b hb => hlow b (hrds.zx b (.inr hb)) (hR b hb).1), fun b hb => ⟨?_, (hR b hb).2⟩⟩
 ·refine StoreM.kept hstr.sto hk2 (fun b h1 h2 => ⟨h1, fun e => ?_, fun e => h2 (hz b (e ▸ hrds.zr))⟩) (fun b _ h => ?_)
  ·subst e
   rcases hx6 with h | h
   ·exact h2 h
   ·omega
  ·rcases h with h | rfl | h
   ·exact hz b (hrds.zx b (.inl h))
   ·exact hz _ hrds.zl
   ·exact hz b (hrds.zx b (.inr h))
 ·have := (hlow b (hrds.zx b (.inr hb)) (hR b hb).1).1
  omega
end
def ReadT (w : World) (X : Nat → Prop) (l p d n : Nat) (s : Sup) (t : Int) (k : Dk) (sec : Int) (A : Option Addr) (m c : Nat) (xs : List Seg) (br : Bool) (seg : Nat) (g : Int) (at_ : Nat) (e : Ending) (w' : World) : Prop :=
 ∃ rec er, e = .returned (.tuple #[.agg rec, .int .i64 er]) ∧ RdT (strV k s seg) (strE s) g at_ w.heap.size w' rec er ∧
  LogM w' X l p d n s t (stR (fun k i => strK k s i) k at_ (standR (strV k s seg) (strE s) g at_)) sec A m c xs br ∧ Kept X w w'
section
variable {w : World} {X : Nat → Prop} {l p d n : Nat} {s : Sup} {t : Int} {k : Dk} {sec : Int} {A : Option Addr} {m c : Nat} {xs : List Seg} {br : Bool}
theorem read_used (h : LogM w X l p d n s t k sec A m c xs br) (hX : ∀ b, X b → b < w.heap.size) (hm : m ≤ 1000) (hma : s.May) (hg : Good k) (hok : k.Ok n) (seg : Nat) (hseg : (seg : Int) < s.a) (hroom : 2 + s.a * s.b ≤ (n : Int)) (hn : n ≤ 2048) (g : Int) (at_ : Nat) (hat : at_ ≤ 90000)
 (hu : usesB xs (seg : Nat) g (at_ : Nat) = true) :
 Calls Tryz.prog 13 #[.pointer (some ⟨l, 0, none⟩), .agg #[.int .i64 (seg : Nat), .int .u64 g, .int .i64 (at_ : Nat)]] w (ReadT w X l p d n s t k sec A m c xs br seg g at_) := by
 obtain ⟨w1, hw1⟩ : ∃ w1, w1 = (w.alloc (.cells #[.int .i64 (seg : Nat), .int .u64 g, .int .i64 (at_ : Nat)] 35)).alloc (.cells zeroC 33) := ⟨_, rfl⟩
 have hb1 : Below w.heap.size w w1 := by rw [hw1]; exact ((Below.refl _ w).alloc (nR _) _).alloc (by simp) _
 have hz1 : w1.heap.size = w.heap.size + 2 := by rw [hw1]; simp
 have HA1 := hI (show Blk w1 w.heap.size 35 #[.int .i64 (seg : Nat), .int .u64 g, .int .i64 (at_ : Nat)] by rw [hw1]; exact (Blk.new w _ _).alloc _)
 have HR1 := hI (show Blk w1 (w.heap.size + 1) 33 zeroC by rw [hw1]; exact blk_new2 w _ _ _)
 have HU := hI (fun (W : World) (hW : LogM W X l p d n s t k sec A m c xs br) => by have h2 := uses_any hW hm (seg : Int) g (at_ : Int); rw [hu] at h2; exact h2)
 have HW1 := hI hw1
 have HB1 := hI hb1
 have HL := hI h
 have HX := hI hX
 have HMA := hI hma
 have HG := hI hg
 have HOK := hI hok
 clear hw1 hb1 h hX hma hg hok hu
 have a0 := HA1.out.cell 0
 have a1 := HA1.out.cell 1
 have a2 := HA1.out.cell 2
 go_enter Tryz.func13, Tryz.ntmps13
 go_upto_region 1 with fail
 rw [← HW1.out]
 go_upto_region 5 with (go_at_call 58; refine (HU.out _ (HL.out.below HB1.out)).mono ?_; rintro e w2 ⟨rfl, hb2⟩)
 rename World => w2
 have HB2 := hI (HB1.out.trans (hb2.mono HB1.out.size)).drew
 have hsz2 : w1.heap.size ≤ w2.heap.size := hb2.size
 have HA2 := hI (HA1.out.below hb2 HA1.out.lt).drew
 have HR2 := hI (HR1.out.below hb2 HR1.out.lt).drew
 have hszd : w2.drew.heap.size = w2.heap.size := rfl
 obtain ⟨hlb, hxl, RR, hsto, hrow, hRR⟩ := HL.out
 obtain ⟨Z, hZ⟩ : ∃ Z : Nat → Prop, Z = (fun b => (X b ∨ b = l ∨ RR b) ∨ (w.heap.size ≤ b ∧ b < w2.drew.heap.size)) := ⟨_, rfl⟩
 have HSTO := hI (show StoS w2.drew Z p d n s t k by rw [hZ]; exact StoreM.grow hsto HB2.out)
 have HZT := hI (show ∀ b, Z b → b < w2.drew.heap.size by rw [hZ]; exact grow_lt (fun b hb => by rcases hb with h | rfl | h; exact HX.out b h; exact hlb.lt; exact (hRR b h).1) HB2.out.size)
 have HRD := hI (show RdS l p sec A m c br xs w X RR w.heap.size (w.heap.size + 1) #[.int .i64 (seg : Nat), .int .u64 g, .int .i64 (at_ : Nat)] Z w2.drew from
  ⟨hlb.below HB2.out hlb.lt, hrow.below HB2.out (fun b h => (hRR b h).1), HA2.out, HR2.out, by rw [hZ]; exact .inl (.inr (.inl rfl)), by rw [hZ]; exact .inr ⟨nR _, by omega⟩, by rw [hZ]; exact .inr ⟨by omega, by omega⟩, fun b hb => by rw [hZ]; rcases hb with h | h; exact .inl (.inl h); exact .inl (.inr (.inr h)), HZT.out, Kept.of_below HB2.out HX.out⟩)
 have HLT := hI hlb.lt
 have HRR := hI hRR
 clear hb2 hsto hrow hRR hlb hZ a0 a1 a2 HA1 HA2 HR1 HR2 HU
 refine wp_region_noPanic ?_
 refine Tillst.region (fun W => W.cell? ⟨l, 0, none⟩ = some (.pointer (some ⟨p, 0, none⟩)) ∧ W.cell? ⟨w.heap.size, 0, none⟩ = some (.int .i64 (seg : Nat)) ∧ W.cell? ⟨w.heap.size, 1, none⟩ = some (.int .u64 g) ∧ W.cell? ⟨w.heap.size, 2, none⟩ = some (.int .i64 (at_ : Nat))) [12, 13, 14, 15, 17, 18, 19] (by kernel_rfl) HRD.out.cells (fun hė => ?_)
 generalize w2.drew = vd at *
 refine Tillst.takeG (i := 0) (oi := rq0) (v := ?_) rfl (by kernel_rfl) (by kernel_rfl) (by kernel_rfl) (by kernel_rfl) (by kernel_rfl) (fun _ _ _ h => h) (by rfl) ?_ hė ?_
 rotate_left
 ·intro W hSW; (try dsimp only at hSW); unfold rq0; go_simp; with_reducible rfl
 simp only [rq0, Act.put, sA, sZ, sS]
 refine Tillst.takeG (i := 1) (oi := rq1) (v := ?_) rfl (by kernel_rfl) (by kernel_rfl) (by kernel_rfl) (by kernel_rfl) (by kernel_rfl) (fun _ _ _ h => h) (by rfl) ?_ hė ?_
 rotate_left
 ·intro W hSW; (try dsimp only at hSW); unfold rq1; go_simp; with_reducible rfl
 simp only [rq1, Act.put, sA, sZ, sS]
 refine Tillst.takeG (i := 2) (oi := rq2) (v := ?_) rfl (by kernel_rfl) (by kernel_rfl) (by kernel_rfl) (by kernel_rfl) (by kernel_rfl) (fun _ _ _ h => h) (by rfl) ?_ hė ?_
 rotate_left
 ·intro W hSW; (try dsimp only at hSW); unfold rq2; go_simp; with_reducible rfl
 simp only [rq2, Act.put, sA, sZ, sS]
 refine Tillst.takeG (i := 3) (oi := rq3) (v := ?_) rfl (by kernel_rfl) (by kernel_rfl) (by kernel_rfl) (by kernel_rfl) (by kernel_rfl) (fun _ _ _ h => h) (by rfl) ?_ hė ?_
 rotate_left
 ·intro W hSW; obtain ⟨y0, y1, y2, y3⟩ := hSW; unfold rq3; go_simp; with_reducible rfl
 simp only [rq3, Act.put, sA, sZ, sS]
 refine Tillst.takeG (i := 4) (oi := rq4) (v := ?_) rfl (by kernel_rfl) (by kernel_rfl) (by kernel_rfl) (by kernel_rfl) (by kernel_rfl) (fun _ _ _ h => h) (by rfl) ?_ hė ?_
 rotate_left
 ·intro W hSW; (try dsimp only at hSW); unfold rq4; go_simp; with_reducible rfl
 simp only [rq4, Act.put, sA, sZ, sS]
 refine Tillst.takeG (i := 5) (oi := rq5) (v := ?_) rfl (by kernel_rfl) (by kernel_rfl) (by kernel_rfl) (by kernel_rfl) (by kernel_rfl) (fun _ _ _ h => h) (by rfl) ?_ hė ?_
 rotate_left
 ·intro W hSW; obtain ⟨y0, y1, y2, y3⟩ := hSW; unfold rq5; go_simp; with_reducible rfl
 simp only [rq5, Act.put, sA, sZ, sS]
 refine Tillst.takeG (i := 7) (oi := rq7) (v := ?_) rfl (by kernel_rfl) (by kernel_rfl) (by kernel_rfl) (by kernel_rfl) (by kernel_rfl) (fun _ _ _ h => h) (by rfl) ?_ hė ?_
 rotate_left
 ·intro W hSW; (try dsimp only at hSW); unfold rq7; go_simp; with_reducible rfl
 simp only [rq7, Act.put, sA, sZ, sS]
 refine Tillst.takeG (i := 8) (oi := rq8) (v := ?_) rfl (by kernel_rfl) (by kernel_rfl) (by kernel_rfl) (by kernel_rfl) (by kernel_rfl) (fun _ _ _ h => h) (by rfl) ?_ hė ?_
 rotate_left
 ·intro W hSW; obtain ⟨y0, y1, y2, y3⟩ := hSW; unfold rq8; go_simp; with_reducible rfl
 simp only [rq8, Act.put, sA, sZ, sS]
 refine Tillst.takeG (i := 9) (oi := rq9) (v := ?_) rfl (by kernel_rfl) (by kernel_rfl) (by kernel_rfl) (by kernel_rfl) (by kernel_rfl) (fun _ _ _ h => h) (by rfl) ?_ hė ?_
 rotate_left
 ·intro W hSW; (try dsimp only at hSW); unfold rq9; go_simp; with_reducible rfl
 simp only [rq9, Act.put, sA, sZ, sS]
 refine Tillst.takeG (i := 10) (oi := rq10) (v := ?_) rfl (by kernel_rfl) (by kernel_rfl) (by kernel_rfl) (by kernel_rfl) (by kernel_rfl) (fun _ _ _ h => h) (by rfl) ?_ hė ?_
 rotate_left
 ·intro W hSW; obtain ⟨y0, y1, y2, y3⟩ := hSW; unfold rq10; go_simp; with_reducible rfl
 simp only [rq10, Act.put, sA, sZ, sS]
 refine Tillst.two (i := 6) (j := 16) (o := rq6) (o' := rq16) (by kernel_rfl) rfl rfl ?_ ?_
 ·intro K hK
  refine step_call 52 #[.tmp 23, .tmp 25] #[45, 3] rfl rfl Tryz.func52 rfl rfl [.pointer (some ⟨p, 0, none⟩), .int .i64 (seg : Nat)] rfl ?_
  refine (stored_any HSTO.out HZT.out seg).mono ?_
  rintro e v6 ⟨⟨gx, gi, rfl, hsm⟩, hb6⟩
  have HSM := hI hsm
  have HRD := hI (HRD.out.mem hb6)
  have hsz6 := hb6.size
  clear hsm hb6
  refine ⟨_, rfl, ?_⟩
  simp only [rq6, Act.put, sA, sZ, sS]
  refine hK.out _ _ (fun _ => HRD.out.cells) (fun hė => ?_)
  replace hė := hė (by decide)
  clear hK K
  have HZX := hI (show ∀ b, Z b → (Z b ∨ (vd.heap.size ≤ b ∧ b < v6.heap.size)) from fun b h => Or.inl h)
  refine Tillst.two (i := 11) (j := 16) (o := rq11) (o' := rq16) (by kernel_rfl) rfl rfl ?_ ?_
  ·intro K hK
   refine step_call 55 #[.tmp 26, .tmp 28, .tmp 30] #[110, 30, 3] rfl rfl Tryz.func55 rfl rfl [.func (.func 122) #[] #[.pointer (some ⟨gx, 0, none⟩), .pointer (some ⟨gi, 0, none⟩)], .int .u64 g, .int .i64 (at_ : Nat)] rfl ?_
   refine (standing_stored _ _ (stored_held HMA.out hseg hroom hn HOK.out (v6).heap.size HSM.out.xx HSM.out.xi ⟨HSM.out.bx.lt, HSM.out.bi.lt⟩) ⟨HSM.out, HG.out, rfl, rfl⟩ g at_ hat).mono ?_
   intro e v11 hst
   obtain ⟨rec, cnt, er, rfl, hrd, hr, hk⟩ := hst.rd
   have HTOLD := hI hrd
   have HKX := hI hk
   have HRD := hI (HRD.out.keep hk HZX.out)
   have HSM := hI hr.1
   have hsz11 := hk.size
   have HRS := hI hrd.1
   clear hst hrd hr hk
   refine ⟨_, rfl, ?_⟩
   simp only [rq11, Act.put, sA, sZ, sS]
   refine hK.out _ _ (fun _ => HRD.out.cells) (fun hė => ?_)
   replace hė := hė (by decide)
   clear hK K
   refine Tillst.takeF (i := 12) (oi := rq12) (v := ?_) rfl (by kernel_rfl) (by kernel_rfl) (by kernel_rfl) (by decide) (fun _ _ _ h => h) (by rfl) ?_ ?_
   rotate_left
   ·intro W; unfold rq12; go_simp; with_reducible rfl
   simp only [rq12, Act.put, sA, sZ, sS]
   refine Tillst.takeF (i := 13) (oi := rq13) (v := ?_) rfl (by kernel_rfl) (by kernel_rfl) (by kernel_rfl) (by decide) (fun _ _ _ h => h) (by rfl) ?_ ?_
   rotate_left
   ·intro W; unfold rq13; go_simp; with_reducible rfl
   simp only [rq13, Act.put, sA, sZ, sS]
   refine Tillst.takeF (i := 14) (oi := rq14) (v := ?_) rfl (by kernel_rfl) (by kernel_rfl) (by kernel_rfl) (by decide) (fun _ _ _ h => h) (by rfl) ?_ ?_
   rotate_left
   ·intro W; unfold rq14; go_simp; with_reducible rfl
   simp only [rq14, Act.put, sA, sZ, sS]
   refine Tillst.takeF (i := 15) (oi := rq15) (v := ?_) rfl (by kernel_rfl) (by kernel_rfl) (by kernel_rfl) (by decide) (fun _ _ _ h => h) (by rfl) ?_ ?_
   rotate_left
   ·intro W; unfold rq15; go_simp; with_reducible rfl
   simp only [rq15, Act.put, sA, sZ, sS]
   refine Tillst.one (i := 16) (o := rq16) (by kernel_rfl) rfl ?_
   intro K hK
   have hba := (Below.refl (v11).heap.size (v11)).alloc (nR _) (.cells zeroC 33)
   have HB6 := hI (show Blk ((v11).alloc (.cells zeroC 33)) (v11).heap.size 33 zeroC from Blk.new (v11) _ _)
   have hza : ((v11).alloc (.cells zeroC 33)).heap.size = (v11).heap.size + 1 := by simp
   have HRD11 := HRD
   have HRD := hI (HRD.out.mem hba)
   refine step_alloc_row 33 rfl rfl zeroC zero_rec9 ?_
   simp only [rq16, Act.put, sA, sZ, sS]
   refine hK.out _ _ (fun _ => HRD.out.cells) (fun hė => ?_)
   replace hė := hė (by decide)
   clear hK K
   have HRD := HRD11
   have HF := hI (rd_fin (V := v11.alloc (.cells zeroC 33)) (g6 := v11.heap.size) HRD.out HSM.out HZX.out HTOLD.out (fun h => by have := HRD.out.zt _ h; omega) (.inr (nR _)) (.inr (nR _)) hba HB6.out (by omega) (by omega) HLT.out HX.out HRR.out hxl)
   refine Tillst.one (i := 17) (o := rq17) (by kernel_rfl) rfl ?_
   intro K hK
   refine step_store_row (.tmp 6) (.tmp 32) 33 rfl rfl (v11.heap.size) rec rfl rfl 33 zeroC HB6.out (by rw [HRS.out.1]; exact size_rec) (by rw [HRS.out.1]; rfl) HRS.out.2 ?_
   simp only [rq17, Act.put, sA, sZ, sS]
   refine hK.out _ _ (fun h => absurd h (by decide)) (fun _ => ?_)
   clear hK K hė
   refine Tillst.one (i := 18) (o := rq18) (by kernel_rfl) rfl ?_
   intro K hK
   refine step_value ?_ rfl ?_ ?_
   rotate_left
   ·unfold rq18; go_simp; with_reducible rfl
   simp only [rq18, Act.put, sA, sZ, sS]
   refine hK.out _ _ (fun h => absurd h (by decide)) (fun _ => ?_)
   clear hK K
   refine Tillst.one (i := 19) (o := rq19) (by kernel_rfl) rfl ?_
   intro K hK
   refine step_value ?_ rfl ?_ ?_
   rotate_left
   ·unfold rq19; go_simp; with_reducible rfl
   simp only [rq19, Act.put, sA, sZ, sS]
   refine hK.out _ _ (fun h => absurd h (by decide)) (fun _ => ?_)
   clear hK K
   refine Tillst.done (by kernel_rfl) ?_ _
   refine NoPanic.normal ?_
   have HSZD := hI hszd
   clear hszd
   go_wp2_with (first | (with_reducible refine halt_end ?_) | (refine wpList_load_rowB (.tmp 6) 33 rfl rfl (v11.heap.size) rfl 33 rec.toList _ Tryz.underlying33 rfl (by simp only [Array.length_toList, HRS.out.1]; exact size_rec) HF.out.1 ?_) | (refine wpList_store_rowB (.tmp 4) (.tmp 35) 33 rfl rfl (w.heap.size + 1) rec rfl rfl 33 _ HF.out.2.1 (by rw [HRS.out.1]; exact size_rec) (by rw [HRS.out.1]; rfl) HRS.out.2 ?_))
   exact Halt.ret (results_row2 rfl _ _ (w.heap.size + 1) 33 rec _ rfl HF.out.2.2.1 Tryz.underlying33 rfl (by rw [HRS.out.1]; exact size_rec)) rfl ⟨rec, er, rfl, HF.out.2.2.2.1.less (by have := HSZD.out; omega), HF.out.2.2.2.2.1, HF.out.2.2.2.2.2⟩
  ·intro K hK
   have hba := (Below.refl (v6).heap.size (v6)).alloc (nR _) (.cells zeroC 33)
   have HB6 := hI (show Blk ((v6).alloc (.cells zeroC 33)) (v6).heap.size 33 zeroC from Blk.new (v6) _ _)
   have hza : ((v6).alloc (.cells zeroC 33)).heap.size = (v6).heap.size + 1 := by simp
   have HRD := hI (HRD.out.mem hba)
   have HSM := hI (HSM.out.grow hba)
   have HZX := hI (fun b (h : Z b) => Or.inl (b := v6.heap.size ≤ b ∧ b < (v6.alloc (.cells zeroC 33)).heap.size) (HZX.out b h))
   have hz6 := HZT.out
   clear hba
   refine step_alloc_row 33 rfl rfl zeroC zero_rec9 ?_
   simp only [rq16, Act.put, sA, sZ, sS]
   refine hK.out _ _ (fun _ => HRD.out.cells) (fun hė => ?_)
   replace hė := hė (by decide)
   clear hK K
   refine Tillst.one (i := 11) (o := rq11) (by kernel_rfl) rfl ?_
   intro K hK
   refine step_call 55 #[.tmp 26, .tmp 28, .tmp 30] #[110, 30, 3] rfl rfl Tryz.func55 rfl rfl [.func (.func 122) #[] #[.pointer (some ⟨gx, 0, none⟩), .pointer (some ⟨gi, 0, none⟩)], .int .u64 g, .int .i64 (at_ : Nat)] rfl ?_
   refine (standing_stored _ _ (stored_held HMA.out hseg hroom hn HOK.out (v6.alloc (.cells zeroC 33)).heap.size HSM.out.xx HSM.out.xi ⟨HSM.out.bx.lt, HSM.out.bi.lt⟩) ⟨HSM.out, HG.out, rfl, rfl⟩ g at_ hat).mono ?_
   intro e v11 hst
   obtain ⟨rec, cnt, er, rfl, hrd, hr, hk⟩ := hst.rd
   have HTOLD := hI hrd
   have HKX := hI hk
   have HRD := hI (HRD.out.keep hk HZX.out)
   have HSM := hI hr.1
   have hsz11 := hk.size
   have HRS := hI hrd.1
   clear hst hrd hr hk
   refine ⟨_, rfl, ?_⟩
   simp only [rq11, Act.put, sA, sZ, sS]
   refine hK.out _ _ (fun _ => HRD.out.cells) (fun hė => ?_)
   replace hė := hė (by decide)
   clear hK K
   refine Tillst.takeF (i := 12) (oi := rq12) (v := ?_) rfl (by kernel_rfl) (by kernel_rfl) (by kernel_rfl) (by decide) (fun _ _ _ h => h) (by rfl) ?_ ?_
   rotate_left
   ·intro W; unfold rq12; go_simp; with_reducible rfl
   simp only [rq12, Act.put, sA, sZ, sS]
   refine Tillst.takeF (i := 13) (oi := rq13) (v := ?_) rfl (by kernel_rfl) (by kernel_rfl) (by kernel_rfl) (by decide) (fun _ _ _ h => h) (by rfl) ?_ ?_
   rotate_left
   ·intro W; unfold rq13; go_simp; with_reducible rfl
   simp only [rq13, Act.put, sA, sZ, sS]
   refine Tillst.takeF (i := 14) (oi := rq14) (v := ?_) rfl (by kernel_rfl) (by kernel_rfl) (by kernel_rfl) (by decide) (fun _ _ _ h => h) (by rfl) ?_ ?_
   rotate_left
   ·intro W; unfold rq14; go_simp; with_reducible rfl
   simp only [rq14, Act.put, sA, sZ, sS]
   refine Tillst.takeF (i := 15) (oi := rq15) (v := ?_) rfl (by kernel_rfl) (by kernel_rfl) (by kernel_rfl) (by decide) (fun _ _ _ h => h) (by rfl) ?_ ?_
   rotate_left
   ·intro W; unfold rq15; go_simp; with_reducible rfl
   simp only [rq15, Act.put, sA, sZ, sS]
   have HB6 := hI (HB6.out.kept HKX.out (.inr ⟨nR _, by omega⟩))
   have HF := hI (rd_fin (V := v11) (g6 := v6.heap.size) HRD.out HSM.out HZX.out HTOLD.out (fun h => by have := hz6 _ h; omega) (.inl (by omega)) (.inl (.inr ⟨nR _, by omega⟩)) (Below.refl _ _) HB6.out (by omega) (by omega) HLT.out HX.out HRR.out hxl)
   refine Tillst.one (i := 17) (o := rq17) (by kernel_rfl) rfl ?_
   intro K hK
   refine step_store_row (.tmp 6) (.tmp 32) 33 rfl rfl (v6.heap.size) rec rfl rfl 33 zeroC HB6.out (by rw [HRS.out.1]; exact size_rec) (by rw [HRS.out.1]; rfl) HRS.out.2 ?_
   simp only [rq17, Act.put, sA, sZ, sS]
   refine hK.out _ _ (fun h => absurd h (by decide)) (fun _ => ?_)
   clear hK K hė
   refine Tillst.one (i := 18) (o := rq18) (by kernel_rfl) rfl ?_
   intro K hK
   refine step_value ?_ rfl ?_ ?_
   rotate_left
   ·unfold rq18; go_simp; with_reducible rfl
   simp only [rq18, Act.put, sA, sZ, sS]
   refine hK.out _ _ (fun h => absurd h (by decide)) (fun _ => ?_)
   clear hK K
   refine Tillst.one (i := 19) (o := rq19) (by kernel_rfl) rfl ?_
   intro K hK
   refine step_value ?_ rfl ?_ ?_
   rotate_left
   ·unfold rq19; go_simp; with_reducible rfl
   simp only [rq19, Act.put, sA, sZ, sS]
   refine hK.out _ _ (fun h => absurd h (by decide)) (fun _ => ?_)
   clear hK K
   refine Tillst.done (by kernel_rfl) ?_ _
   refine NoPanic.normal ?_
   have HSZD := hI hszd
   clear hszd
   go_wp2_with (first | (with_reducible refine halt_end ?_) | (refine wpList_load_rowB (.tmp 6) 33 rfl rfl (v6.heap.size) rfl 33 rec.toList _ Tryz.underlying33 rfl (by simp only [Array.length_toList, HRS.out.1]; exact size_rec) HF.out.1 ?_) | (refine wpList_store_rowB (.tmp 4) (.tmp 35) 33 rfl rfl (w.heap.size + 1) rec rfl rfl 33 _ HF.out.2.1 (by rw [HRS.out.1]; exact size_rec) (by rw [HRS.out.1]; rfl) HRS.out.2 ?_))
   exact Halt.ret (results_row2 rfl _ _ (w.heap.size + 1) 33 rec _ rfl HF.out.2.2.1 Tryz.underlying33 rfl (by rw [HRS.out.1]; exact size_rec)) rfl ⟨rec, er, rfl, HF.out.2.2.2.1.less (by have := HSZD.out; omega), HF.out.2.2.2.2.1, HF.out.2.2.2.2.2⟩
 ·intro K hK
  have hba := (Below.refl (vd).heap.size (vd)).alloc (nR _) (.cells zeroC 33)
  have HB6 := hI (show Blk ((vd).alloc (.cells zeroC 33)) (vd).heap.size 33 zeroC from Blk.new (vd) _ _)
  have hza : ((vd).alloc (.cells zeroC 33)).heap.size = (vd).heap.size + 1 := by simp
  have HRD := hI (HRD.out.mem hba)
  have HSTA := hI (StoreM.grow HSTO.out hba)
  have hz6 := HZT.out
  have HZTA := hI (grow_lt HZT.out hba.size)
  clear hba
  refine step_alloc_row 33 rfl rfl zeroC zero_rec9 ?_
  simp only [rq16, Act.put, sA, sZ, sS]
  refine hK.out _ _ (fun _ => HRD.out.cells) (fun hė => ?_)
  replace hė := hė (by decide)
  clear hK K
  refine Tillst.one (i := 6) (o := rq6) (by kernel_rfl) rfl ?_
  intro K hK
  refine step_call 52 #[.tmp 23, .tmp 25] #[45, 3] rfl rfl Tryz.func52 rfl rfl [.pointer (some ⟨p, 0, none⟩), .int .i64 (seg : Nat)] rfl ?_
  refine (stored_any HSTA.out HZTA.out seg).mono ?_
  rintro e v6 ⟨⟨gx, gi, rfl, hsm⟩, hb6⟩
  have HSM := hI hsm
  have HRD := hI (HRD.out.mem hb6)
  have hsz6 := hb6.size
  have HB6 := hI (HB6.out.below hb6 HB6.out.lt)
  clear hsm hb6
  refine ⟨_, rfl, ?_⟩
  simp only [rq6, Act.put, sA, sZ, sS]
  refine hK.out _ _ (fun _ => HRD.out.cells) (fun hė => ?_)
  replace hė := hė (by decide)
  clear hK K
  have HZX := hI (fun b (h : Z b) => Or.inl (b := (vd.alloc (.cells zeroC 33)).heap.size ≤ b ∧ b < v6.heap.size) (Or.inl (b := vd.heap.size ≤ b ∧ b < (vd.alloc (.cells zeroC 33)).heap.size) h))
  refine Tillst.one (i := 11) (o := rq11) (by kernel_rfl) rfl ?_
  intro K hK
  refine step_call 55 #[.tmp 26, .tmp 28, .tmp 30] #[110, 30, 3] rfl rfl Tryz.func55 rfl rfl [.func (.func 122) #[] #[.pointer (some ⟨gx, 0, none⟩), .pointer (some ⟨gi, 0, none⟩)], .int .u64 g, .int .i64 (at_ : Nat)] rfl ?_
  refine (standing_stored _ _ (stored_held HMA.out hseg hroom hn HOK.out (v6).heap.size HSM.out.xx HSM.out.xi ⟨HSM.out.bx.lt, HSM.out.bi.lt⟩) ⟨HSM.out, HG.out, rfl, rfl⟩ g at_ hat).mono ?_
  intro e v11 hst
  obtain ⟨rec, cnt, er, rfl, hrd, hr, hk⟩ := hst.rd
  have HTOLD := hI hrd
  have HKX := hI hk
  have HRD := hI (HRD.out.keep hk HZX.out)
  have HSM := hI hr.1
  have hsz11 := hk.size
  have HRS := hI hrd.1
  clear hst hrd hr hk
  refine ⟨_, rfl, ?_⟩
  simp only [rq11, Act.put, sA, sZ, sS]
  refine hK.out _ _ (fun _ => HRD.out.cells) (fun hė => ?_)
  replace hė := hė (by decide)
  clear hK K
  refine Tillst.takeF (i := 12) (oi := rq12) (v := ?_) rfl (by kernel_rfl) (by kernel_rfl) (by kernel_rfl) (by decide) (fun _ _ _ h => h) (by rfl) ?_ ?_
  rotate_left
  ·intro W; unfold rq12; go_simp; with_reducible rfl
  simp only [rq12, Act.put, sA, sZ, sS]
  refine Tillst.takeF (i := 13) (oi := rq13) (v := ?_) rfl (by kernel_rfl) (by kernel_rfl) (by kernel_rfl) (by decide) (fun _ _ _ h => h) (by rfl) ?_ ?_
  rotate_left
  ·intro W; unfold rq13; go_simp; with_reducible rfl
  simp only [rq13, Act.put, sA, sZ, sS]
  refine Tillst.takeF (i := 14) (oi := rq14) (v := ?_) rfl (by kernel_rfl) (by kernel_rfl) (by kernel_rfl) (by decide) (fun _ _ _ h => h) (by rfl) ?_ ?_
  rotate_left
  ·intro W; unfold rq14; go_simp; with_reducible rfl
  simp only [rq14, Act.put, sA, sZ, sS]
  refine Tillst.takeF (i := 15) (oi := rq15) (v := ?_) rfl (by kernel_rfl) (by kernel_rfl) (by kernel_rfl) (by decide) (fun _ _ _ h => h) (by rfl) ?_ ?_
  rotate_left
  ·intro W; unfold rq15; go_simp; with_reducible rfl
  simp only [rq15, Act.put, sA, sZ, sS]
  have HB6 := hI (HB6.out.kept HKX.out (.inl (.inr ⟨nR _, by omega⟩)))
  have HF := hI (rd_fin (V := v11) (g6 := vd.heap.size) HRD.out HSM.out HZX.out HTOLD.out (fun h => by have := hz6 _ h; omega) (.inl (by omega)) (.inl (.inl (.inr ⟨nR _, by omega⟩))) (Below.refl _ _) HB6.out (by omega) (by omega) HLT.out HX.out HRR.out hxl)
  refine Tillst.one (i := 17) (o := rq17) (by kernel_rfl) rfl ?_
  intro K hK
  refine step_store_row (.tmp 6) (.tmp 32) 33 rfl rfl (vd.heap.size) rec rfl rfl 33 zeroC HB6.out (by rw [HRS.out.1]; exact size_rec) (by rw [HRS.out.1]; rfl) HRS.out.2 ?_
  simp only [rq17, Act.put, sA, sZ, sS]
  refine hK.out _ _ (fun h => absurd h (by decide)) (fun _ => ?_)
  clear hK K hė
  refine Tillst.one (i := 18) (o := rq18) (by kernel_rfl) rfl ?_
  intro K hK
  refine step_value ?_ rfl ?_ ?_
  rotate_left
  ·unfold rq18; go_simp; with_reducible rfl
  simp only [rq18, Act.put, sA, sZ, sS]
  refine hK.out _ _ (fun h => absurd h (by decide)) (fun _ => ?_)
  clear hK K
  refine Tillst.one (i := 19) (o := rq19) (by kernel_rfl) rfl ?_
  intro K hK
  refine step_value ?_ rfl ?_ ?_
  rotate_left
  ·unfold rq19; go_simp; with_reducible rfl
  simp only [rq19, Act.put, sA, sZ, sS]
  refine hK.out _ _ (fun h => absurd h (by decide)) (fun _ => ?_)
  clear hK K
  refine Tillst.done (by kernel_rfl) ?_ _
  refine NoPanic.normal ?_
  have HSZD := hI hszd
  clear hszd
  go_wp2_with (first | (with_reducible refine halt_end ?_) | (refine wpList_load_rowB (.tmp 6) 33 rfl rfl (vd.heap.size) rfl 33 rec.toList _ Tryz.underlying33 rfl (by simp only [Array.length_toList, HRS.out.1]; exact size_rec) HF.out.1 ?_) | (refine wpList_store_rowB (.tmp 4) (.tmp 35) 33 rfl rfl (w.heap.size + 1) rec rfl rfl 33 _ HF.out.2.1 (by rw [HRS.out.1]; exact size_rec) (by rw [HRS.out.1]; rfl) HRS.out.2 ?_))
  exact Halt.ret (results_row2 rfl _ _ (w.heap.size + 1) 33 rec _ rfl HF.out.2.2.1 Tryz.underlying33 rfl (by rw [HRS.out.1]; exact size_rec)) rfl ⟨rec, er, rfl, HF.out.2.2.2.1.less (by have := HSZD.out; omega), HF.out.2.2.2.2.1, HF.out.2.2.2.2.2⟩
end
end
section
open Go.RowKit
attribute [local go_sem] Oper.semAt_some
section
variable {w : World} {X : Nat → Prop} {l p d n : Nat} {s : Sup} {t : Int} {k : Dk} {sec : Int} {A : Option Addr} {m c : Nat} {xs : List Seg} {br : Bool}
theorem read_unused (h : LogM w X l p d n s t k sec A m c xs br) (hm : m ≤ 1000) (sg g sc : Int) (hu : usesB xs sg g sc = false) :
 Calls Tryz.prog 13 #[.pointer (some ⟨l, 0, none⟩), .agg #[.int .i64 sg, .int .u64 g, .int .i64 sc]] w fun e w' => e = .returned (.tuple #[.agg zeroC, .int .i64 4]) ∧ Below w.heap.size w w' := by
 obtain ⟨w1, hw1⟩ : ∃ w1, w1 = (w.alloc (.cells #[.int .i64 sg, .int .u64 g, .int .i64 sc] 35)).alloc (.cells zeroC 33) := ⟨_, rfl⟩
 have hb1 : Below w.heap.size w w1 := by rw [hw1]; exact ((Below.refl _ w).alloc (nR _) _).alloc (by simp) _
 have HA1 := hI (show Blk w1 w.heap.size 35 #[.int .i64 sg, .int .u64 g, .int .i64 sc] by rw [hw1]; exact (Blk.new w _ _).alloc _)
 have HR1 := hI (show Blk w1 (w.heap.size + 1) 33 zeroC by rw [hw1]; exact blk_new2 w _ _ _)
 have HU := hI (by have h2 := uses_any (h.below hb1) hm sg g sc; rw [hu] at h2; exact h2)
 have HW1 := hI hw1
 have HB1 := hI hb1
 clear hw1 hb1 h hu
 have a0 := HA1.out.cell 0
 have a1 := HA1.out.cell 1
 have a2 := HA1.out.cell 2
 go_enter Tryz.func13, Tryz.ntmps13
 go_upto_region 1 with fail
 rw [← HW1.out]
 go_upto_region 4 with (go_at_call 58; refine HU.out.mono ?_; rintro e w2 ⟨rfl, hb2⟩)
 rename World => w2
 have HR2 := hI (HR1.out.below hb2 HR1.out.lt)
 have HB2 := hI (HB1.out.trans (hb2.mono HB1.out.size))
 clear hb2 a0 a1 a2
 go_wp2_with (first | (with_reducible refine halt_end ?_) | (refine wpList_store_rowB (.tmp 4) (.tmp 18) 33 rfl rfl (w.heap.size + 1) zeroC rfl rfl 33 _ HR2.out size_rec rfl one_zero ?_))
 exact Halt.ret (results_row2 rfl _ _ (w.heap.size + 1) 33 zeroC _ rfl (setRow_heap _ _ _ zeroC _ _ HR2.out) Tryz.underlying33 rfl size_rec) rfl ⟨rfl, below_setRow HB2.out (by omega) _⟩
end
end
section
open Go.RowKit
section
variable {w w' : World} {X Y : Nat → Prop} {l p d n m c : Nat} {s : Sup} {t : Int} {k : Dk} {sec : Int} {A : Option Addr} {xs : List Seg} {br : Bool}
theorem LogM.disk {v : World} {k2 : Dk} (h : LogM w X l p d n s t k sec A m c xs br) (hd : ∀ R : Nat → Prop, StoS w (fun b => X b ∨ b = l ∨ R b) p d n s t k → (∀ b, R b → b < w.heap.size) → StoS v (fun b => X b ∨ b = l ∨ R b) p d n s t k2 ∧ Kept (fun b => X b ∨ b = l ∨ R b) w v) : LogM v X l p d n s t k2 sec A m c xs br ∧ Kept X w v := by
 obtain ⟨h1, h2, R, h3, h4, h5⟩ := h
 obtain ⟨g1, g2⟩ := hd R h3 (fun b h => (h5 b h).1)
 exact ⟨⟨h1.kept g2 (.inr (.inl rfl)), h2, R, g1, h4.kept g2 (fun b h => .inr (.inr h)), fun b h => ⟨nL (h5 b h).1 g2.size, (h5 b h).2⟩⟩, g2.mono (fun b h => .inl h)⟩
end
end
end Go.Proofs.YtjmjhldjablfeaaGreat
