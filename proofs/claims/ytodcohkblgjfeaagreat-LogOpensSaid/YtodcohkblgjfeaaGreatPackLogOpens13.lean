/- Texts of LogOpens, packed. -/
import Derived.Test.YtodcohkblgjfeaaGreatPackLogOpens12
import Derived.BigQuiet
import Derived.Deep.DeepCutAuto
set_option linter.unusedVariables false
set_option linter.unusedSimpArgs false
namespace Go.Proofs.YtodcohkblgjfeaaGreat
set_option linter.unusedVariables false
set_option linter.unusedSimpArgs false
theorem opn_uniq {sec : Int} {xs : List Seg} (h : OkR sec xs) {i : Nat} (hi : i < xs.length) (h1 : stG xs i = 1) : opnR xs = i ∧ latR xs = i := by
  have hl := opn_lat h hi h1
  rcases opn_or h with ⟨_, hz⟩ | ⟨j, hj, e1, e2, _⟩
  · exact absurd h1 (hz i hi)
  · exact ⟨by omega, hl⟩
theorem used_set9 {xs : List Seg} {i j : Nat} {x : Seg} (hi : i < xs.length) : usedG (xs.set i x) j = if i = j then x.2.2 else usedG xs j := by
  unfold usedG
  by_cases e : i = j
  · subst e; simp [List.getD, List.getElem?_set_self hi]
  · simp [List.getD, List.getElem?_set_ne e, e]
theorem lat_congr {xs zs : List Seg} (h : ∀ j, (stG zs j = 0 ↔ stG xs j = 0) ∧ genG zs j = genG xs j) : ∀ k, latTo zs k = latTo xs k
  | 0 => rfl
  | k + 1 => by
    have ih := lat_congr h k
    unfold latTo
    rw [ih, (h k).2, (h (latTo xs k).toNat).2]
    by_cases e : stG xs k = 0
    · have e2 := (h k).1.2 e
      rw [if_neg (fun hh => hh.1 e2), if_neg (fun hh => hh.1 e)]
    · have e2 : stG zs k ≠ 0 := fun hh => e ((h k).1.1 hh)
      simp [e, e2]
theorem nxt_congr {xs zs : List Seg} (hl : zs.length = xs.length) (h : ∀ j, (stG zs j = 0 ↔ stG xs j = 0)) (a : Int) : ∀ k, nxtTo zs a k = nxtTo xs a k
  | 0 => rfl
  | k + 1 => by
    have ih := nxt_congr hl h a k
    unfold nxtTo
    rw [ih, hl]
    by_cases e : stG xs ((a + 1 + k).toNat % xs.length) = 0
    · rw [if_pos ((h _).2 e), if_pos e]
    · rw [if_neg (fun hh => e ((h _).1 hh)), if_neg e]
theorem seal_facts {sec : Int} {xs zs : List Seg} (h : OkR sec xs) (hz : zs = if sealE sec xs = 0 then sealX xs else xs) :
    OkR sec zs ∧ opnR zs = -1 ∧ latR zs = latR xs ∧ nxtR zs = nxtR xs ∧ topG zs = topG xs ∧ zs.length = xs.length ∧ ∀ j, (stG zs j = 0 ↔ stG xs j = 0) ∧ genG zs j = genG xs j ∧ usedG zs j = usedG xs j := by
  have key : OkR sec zs ∧ opnR zs = -1 ∧ zs.length = xs.length ∧ ∀ j, (stG zs j = 0 ↔ stG xs j = 0) ∧ genG zs j = genG xs j ∧ usedG zs j = usedG xs j := by
    rcases opn_or h with ⟨e1, hno⟩ | ⟨i, hi, e1, e2, hs⟩
    · have hE : sealE sec xs ≠ 0 := by unfold sealE; rw [if_neg (fun k => k h), if_pos (by omega)]; decide
      rw [if_neg hE] at hz
      subst hz
      exact ⟨h, e1, rfl, fun j => ⟨Iff.rfl, rfl, rfl⟩⟩
    · have hE : sealE sec xs = 0 := by unfold sealE; rw [if_neg (fun k => k h), if_neg (by omega)]
      rw [if_pos hE] at hz
      have hX : sealX xs = xs.set i (2, genG xs i, usedG xs i) := by unfold sealX; rw [e1]; rfl
      have hok := ok_seal hE
      rw [hX] at hz hok
      subst hz
      have hst : ∀ j, stG (xs.set i (2, genG xs i, usedG xs i)) j = if i = j then 2 else stG xs j := fun j => st_set hi
      refine ⟨hok, ?_, by simp, fun j => ⟨?_, ?_, ?_⟩⟩
      · rcases opn_or hok with ⟨e3, _⟩ | ⟨j, hj, e3, _, hs3⟩
        · exact e3
        · rw [hst] at hs3
          by_cases e : i = j
          · rw [if_pos e] at hs3; omega
          · rw [if_neg e] at hs3
            have := (opn_uniq h (by simpa using hj) hs3).1
            omega
      · rw [hst]
        by_cases e : i = j
        · subst e; simp [hs]
        · rw [if_neg e]
      · rw [gen_set hi]
        by_cases e : i = j
        · subst e; simp
        · rw [if_neg e]
      · rw [used_set9 hi]
        by_cases e : i = j
        · subst e; simp
        · rw [if_neg e]
  obtain ⟨k1, k2, k3, k4⟩ := key
  have hlat : latR zs = latR xs := by unfold latR; rw [k3]; exact lat_congr (fun j => ⟨(k4 j).1, (k4 j).2.1⟩) _
  refine ⟨k1, k2, hlat, ?_, ?_, k3, k4⟩
  · unfold nxtR; rw [hlat, k3]; exact nxt_congr k3 (fun j => (k4 j).1) _ _
  · unfold topG; rw [hlat, (k4 _).2.1]
theorem open_facts {sec : Int} {zs : List Seg} {g : Int} (hE : openE sec zs g = 0) : ∃ i, i < zs.length ∧ nxtR zs = (i : Nat) ∧ OkR sec (openX zs g) ∧ opnR (openX zs g) = (i : Nat) ∧ latR (openX zs g) = (i : Nat) ∧ topG (openX zs g) = g ∧ genG (openX zs g) i = g ∧ usedG (openX zs g) i = 1 ∧ leftR sec (openX zs g) = sec - 1 ∧
    (openX zs g).length = zs.length ∧ openX zs g = zs.set i (1, g, 1) := by
  have hok := ok_open hE
  unfold openE at hE
  split at hE
  · omega
  rename_i h0
  split at hE
  · omega
  split at hE
  · omega
  split at hE
  · omega
  rename_i hn
  have hk : OkR sec zs := Decidable.not_not.1 h0
  have hlen : 0 < zs.length := by have := hk.1.1; omega
  obtain ⟨i, hi, e1⟩ : ∃ i, i < zs.length ∧ nxtR zs = (i : Nat) := by
    rcases nxt_or zs with ⟨e, _⟩ | ⟨i, hi, e, _⟩
    · omega
    · exact ⟨_, Nat.mod_lt _ hlen, e⟩
  have hX : openX zs g = zs.set i (1, g, 1) := by unfold openX; rw [e1]; rfl
  rw [hX] at hok ⊢
  have hs : stG (zs.set i (1, g, 1)) i = 1 := by rw [st_set hi]; simp
  have hg : genG (zs.set i (1, g, 1)) i = g := by rw [gen_set hi]; simp
  have hu : usedG (zs.set i (1, g, 1)) i = 1 := by rw [used_set9 hi]; simp
  obtain ⟨e2, e3⟩ := opn_uniq hok (by simpa using hi) hs
  refine ⟨i, hi, e1, hok, e2, e3, ?_, hg, hu, ?_, by simp, rfl⟩
  · unfold topG; rw [e3, if_neg (by omega)]; exact hg
  · unfold leftR; rw [e2, if_pos (by omega)]; simp only [Int.toNat_natCast]; rw [hu]
theorem use_facts {sec : Int} {xs : List Seg} {n : Int} (hE : useE sec xs n = 0) : ∃ i, i < xs.length ∧ opnR xs = (i : Nat) ∧ OkR sec (useX xs n) ∧ opnR (useX xs n) = (i : Nat) ∧ latR (useX xs n) = (i : Nat) ∧ topG (useX xs n) = topG xs ∧ genG (useX xs n) i = genG xs i ∧ usedG (useX xs n) i = usedG xs i + n ∧
    (useX xs n).length = xs.length ∧ useX xs n = xs.set i (1, genG xs i, usedG xs i + n) ∧ 0 ≤ n ∧ n ≤ leftR sec xs := by
  have hok := ok_use hE
  unfold useE at hE
  split at hE
  · omega
  rename_i h0
  split at hE
  · omega
  rename_i h1
  split at hE
  · omega
  split at hE
  · omega
  have hk : OkR sec xs := Decidable.not_not.1 h0
  rcases opn_or hk with ⟨e1, _⟩ | ⟨i, hi, e1, e2, hs⟩
  · omega
  have hX : useX xs n = xs.set i (1, genG xs i, usedG xs i + n) := by unfold useX; rw [e1]; simp only [Int.toNat_natCast]; rw [hs]
  rw [hX] at hok ⊢
  have hs' : stG (xs.set i (1, genG xs i, usedG xs i + n)) i = 1 := by rw [st_set hi]; simp
  have hg : genG (xs.set i (1, genG xs i, usedG xs i + n)) i = genG xs i := by rw [gen_set hi]; simp
  have hu : usedG (xs.set i (1, genG xs i, usedG xs i + n)) i = usedG xs i + n := by rw [used_set9 hi]; simp
  obtain ⟨e3, e4⟩ := opn_uniq hok (by simpa using hi) hs'
  refine ⟨i, hi, e1, hok, e3, e4, ?_, hg, hu, by simp, rfl, by omega, by omega⟩
  unfold topG
  rw [e4, e2, if_neg (by omega), if_neg (by omega)]
  exact hg
theorem turn_open {sec : Int} {xs zs : List Seg} {g : Int} (h : OkR sec xs) (hz : zs = if sealE sec xs = 0 then sealX xs else xs) (hg : topG xs ≤ g) (hn : 0 ≤ nxtR xs) : openE sec zs (g + 1) = 0 := by
  obtain ⟨k1, k2, _, k4, k5, _⟩ := seal_facts h hz
  unfold openE
  rw [if_neg (fun k => k k1), if_neg (by omega), if_neg (by omega), if_neg (by omega)]
theorem use_zero {sec : Int} {xs : List Seg} (h : OkR sec xs) {n : Int} (h0 : 0 ≤ opnR xs) (h1 : 0 ≤ n) (h2 : n ≤ leftR sec xs) : useE sec xs n = 0 := by
  unfold useE
  rw [if_neg (fun k => k h), if_neg (by omega), if_neg (by omega), if_neg (by omega)]
theorem opn_bounds {sec : Int} {xs : List Seg} (h : OkR sec xs) {i : Nat} (ho : opnR xs = (i : Nat)) : i < xs.length ∧ 0 < genG xs i ∧ genG xs i = topG xs ∧ 1 ≤ usedG xs i ∧ usedG xs i + leftR sec xs = sec ∧ stG xs i = 1 := by
  rcases opn_or h with ⟨e1, _⟩ | ⟨j, hj, e1, e2, hs⟩
  · omega
  obtain rfl : j = i := by omega
  have hm := may_live (may_at h.2.1 hj) (by rw [show (xs.getD j seg0).1 = 1 from hs]; decide)
  refine ⟨hj, hm.2.1, ?_, hm.2.2.1, ?_, hs⟩
  · unfold topG; rw [e2, if_neg (by omega)]; rfl
  · unfold leftR; rw [e1, if_pos (by omega)]; simp only [Int.toNat_natCast]; omega
end Go.Proofs.YtodcohkblgjfeaaGreat

namespace Go.Proofs.YtodcohkblgjfeaaGreat
open Go.RowKit
set_option maxRecDepth 100000
set_option linter.unusedVariables false
set_option linter.unusedSimpArgs false
structure LgM (w : World) (X : Nat → Prop) (l p d n : Nat) (s : Sup) (t : Int) (k : Dk) (xs : List Seg) (pe : Nat) : Prop where
  log : ∃ A c, LogM w X l p d n s t k s.b A xs.length c xs false ∧ xs.length ≤ c ∧ (A = none → c = 0)
  good : Good k
  ok : OkR s.b xs
  top : topG xs ≤ s.g
  may : s.May
  sin : s.In
  dims : (xs.length : Int) = s.a
  n2 : 2 ≤ n ∧ n ≤ 2048
  room : 2 + s.a * s.b ≤ (n : Int)
  pend : k.pend.length ≤ pe
section
variable {w w' : World} {X Y : Nat → Prop} {l p d n m c : Nat} {s : Sup} {t : Int} {k : Dk} {A : Option Addr} {xs : List Seg} {pe : Nat}
theorem LgM.below (h : LgM w X l p d n s t k xs pe) (hb : Below w.heap.size w w') : LgM w' X l p d n s t k xs pe := by
  obtain ⟨A, c, h1, h2, h3⟩ := h.log
  exact ⟨⟨A, c, h1.below hb, h2, h3⟩, h.good, h.ok, h.top, h.may, h.sin, h.dims, h.n2, h.room, h.pend⟩
theorem LgM.grow (h : LgM w X l p d n s t k xs pe) (hb : Below w.heap.size w w') : LgM w' (fun b => X b ∨ (w.heap.size ≤ b ∧ b < w'.heap.size)) l p d n s t k xs pe := by
  obtain ⟨A, c, h1, h2, h3⟩ := h.log
  exact ⟨⟨A, c, h1.grow hb, h2, h3⟩, h.good, h.ok, h.top, h.may, h.sin, h.dims, h.n2, h.room, h.pend⟩
theorem LogM.less {sec : Int} {m c : Nat} {br : Bool} (h : LogM w Y l p d n s t k sec A m c xs br) (hX : ∀ b, X b → Y b) : LogM w X l p d n s t k sec A m c xs br := by
  obtain ⟨h1, h2, R, h3, h4, h5⟩ := h
  refine ⟨h1, fun e => h2 (hX _ e), R, ?_, h4, h5⟩
  exact StoreM.kept (Z := fun _ => True) h3 (Kept.refl _ _) (fun _ _ _ => trivial) (fun b _ h => by
    rcases h with h | h | h
    · exact .inl (hX b h)
    · exact .inr (.inl h)
    · exact .inr (.inr h))
theorem LgM.less (h : LgM w Y l p d n s t k xs pe) (hX : ∀ b, X b → Y b) : LgM w X l p d n s t k xs pe := by
  obtain ⟨A, c, h1, h2, h3⟩ := h.log
  exact ⟨⟨A, c, h1.less hX, h2, h3⟩, h.good, h.ok, h.top, h.may, h.sin, h.dims, h.n2, h.room, h.pend⟩
theorem wrs_pend : ∀ (xss : List (List Int)) (k : Dk) (i : Nat), Good k → (wrs k i xss).1.pend.length ≤ k.pend.length + xss.length
  | [], k, i, h => Nat.le_refl _
  | ys :: r, k, i, h => by
    unfold wrs
    rw [if_pos h.wre]
    have h1 := wrs_pend r (k.wr (Dk.put i ys)) (i + 1) (h.put i ys)
    have h2 : (k.wr (Dk.put i ys)).pend.length ≤ k.pend.length + 1 := by
      rw [h.wr]
      unfold Dk.put
      simp
    simp only [List.length_cons]
    omega
end
end Go.Proofs.YtodcohkblgjfeaaGreat

namespace Go.Proofs.YtodcohkblgjfeaaGreat
open Go.RowKit
set_option maxRecDepth 100000
set_option linter.unusedVariables false
set_option linter.unusedSimpArgs false
def layK (k : Dk) (s : Sup) (xs : List Seg) (i : Nat) (bs : List Int) : Dk := (wrs k (2 + (i : Int) * s.b + usedG xs i).toNat (splitL (genG xs i) (usedG xs i) bs)).1
section
variable {w w' : World} {X Y : Nat → Prop} {l p d n m c : Nat} {s : Sup} {t : Int} {k : Dk} {A : Option Addr} {xs : List Seg} {pe : Nat}
theorem LogM.setOff {sec : Int} {br : Bool} {q : Nat} {ty : TypeId} {cs : Array Value} (h : LogM w Y l p d n s t k sec A m c xs br) (hm : 2 ≤ m) (hq : Blk w q ty cs) (hsz : cs.size ≤ 3) (hY : Y q) (i : Nat) (v : Value) : LogM (w.setCell ⟨q, i, none⟩ v) Y l p d n s t k sec A m c xs br := by
  obtain ⟨h1, h2, R, h3, h4, h5⟩ := h
  obtain ⟨b, off, rfl, hR, hc⟩ := h4.2 (by omega)
  have hbq : b ≠ q := fun e => by
    subst e
    have h9 := hc (m - 1) (by omega) 2 _ rfl
    rw [hq.cell, Array.getElem?_eq_none (by omega)] at h9
    cases h9
  have hlq : l ≠ q := fun e => h2 (e ▸ hY)
  have hk := (Kept.refl (· ≠ q) w).setCell (p := ⟨q, i, none⟩) (fun h => h rfl) v
  refine ⟨h1.kept hk hlq, h2, (· = b), ?_, ⟨h4.1, fun _ => ⟨b, off, rfl, rfl, fun i2 hi2 j u hu => (hk.cell (p := ⟨b, _, none⟩) hbq).trans (hc i2 hi2 j u hu)⟩⟩, fun b2 e => by subst e; exact ⟨Nat.lt_of_lt_of_le (h5 _ hR).1 hk.size, (h5 _ hR).2⟩⟩
  exact StoreM.kept h3 hk (fun b2 _ hx e => hx (.inl (e ▸ hY))) (fun b2 _ hh => by
    rcases hh with hh | hh | hh
    · exact .inl hh
    · exact .inr (.inl hh)
    · exact .inr (.inr (hh ▸ hR)))
theorem LgM.setOff {q : Nat} {ty : TypeId} {cs : Array Value} (h : LgM w Y l p d n s t k xs pe) (hq : Blk w q ty cs) (hsz : cs.size ≤ 3) (hY : Y q) (i : Nat) (v : Value) : LgM (w.setCell ⟨q, i, none⟩ v) Y l p d n s t k xs pe := by
  obtain ⟨A, c, h1, h2, h3⟩ := h.log
  have := h.ok.1.1
  exact ⟨⟨A, c, h1.setOff (by omega) hq hsz hY i v, h2, h3⟩, h.good, h.ok, h.top, h.may, h.sin, h.dims, h.n2, h.room, h.pend⟩
theorem LgM.setOff3 {q : Nat} {ty : TypeId} {a0 a1 a2 : Value} (h : LgM w Y l p d n s t k xs pe) (hq : Blk w q ty #[a0, a1, a2]) (hY : Y q) (hX : ∀ b, X b → Y b) (hne : ∀ b, X b → b ≠ q) (b0 b1 b2 : Value) :
    LgM (((w.setCell ⟨q, 0, none⟩ b0).setCell ⟨q, 1, none⟩ b1).setCell ⟨q, 2, none⟩ b2) X l p d n s t k xs pe ∧ Blk (((w.setCell ⟨q, 0, none⟩ b0).setCell ⟨q, 1, none⟩ b1).setCell ⟨q, 2, none⟩ b2) q ty #[b0, b1, b2] ∧ ∀ V, Kept X V w → Kept X V (((w.setCell ⟨q, 0, none⟩ b0).setCell ⟨q, 1, none⟩ b1).setCell ⟨q, 2, none⟩ b2) := by
  have e0 := hq.set_ 0 b0
  have e1 := e0.set_ 1 b1
  have e2 := e1.set_ 2 b2
  have g0 := h.setOff hq (by simp) hY 0 b0
  have g1 := g0.setOff e0 (by simp) hY 1 b1
  have g2 := g1.setOff e1 (by simp) hY 2 b2
  exact ⟨g2.less hX, e2, fun V hV => ((hV.setCell (p := ⟨q, 0, none⟩) (fun hh => hne q hh rfl) _).setCell (p := ⟨q, 1, none⟩) (fun hh => hne q hh rfl) _).setCell (p := ⟨q, 2, none⟩) (fun hh => hne q hh rfl) _⟩
theorem lay_lg {i : Nat} {B : Option Addr} {n0 c0 : Nat} {bs : List Int} (h : LgM w X l p d n s t k xs pe) (hX : ∀ b, X b → b < w.heap.size) (hpe : pe ≤ 900000)
    (ho : opnR xs = (i : Nat)) (hfit : ((cntOf n0 : Nat) : Int) ≤ leftR s.b xs) (hb : RowI .u8 w (· < w.heap.size) B n0 bs) (hbn : B = none → c0 = 0) (hbc : n0 ≤ c0) (hn0 : n0 ≤ 16384) (hby : Bytes bs) :
    Calls Tryz.prog 51 #[.pointer (some ⟨l, 0, none⟩), .slice B n0 c0] w fun e w' =>
      e = .returned (.tuple #[.agg #[.int .i64 (i : Int), .int .u64 (genG xs i), .int .i64 (usedG xs i)], .int .i64 0]) ∧ LgM w' X l p d n s t (layK k s xs i bs) (useX xs ((cntOf n0 : Nat) : Int)) (pe + cntOf n0) ∧ Kept X w w' := by
  obtain ⟨A, c, h1, h2, h3⟩ := h.log
  obtain ⟨b1, b2, b3, b4, b5, b6⟩ := opn_bounds h.ok ho
  have hue := use_zero h.ok (n := ((cntOf n0 : Nat) : Int)) (by omega) (by omega) hfit
  have htop := h.top
  have hsin := h.sin
  have hmay := h.may
  have hg : genG xs i ≤ 18446744073709551615 := by
    have h9 : s.g ≤ 18446744073709551615 := by
      have := hsin
      simp only [Sup.In, InS] at this
      omega
    omega
  have hb64 : s.b ≤ 64 := hmay.2.2.2.1
  have hoe := opened_yes h.ok (by omega)
  have hbl : bs.length = n0 := hb.1
  have key := lay_good (i := i) (c0 := c0) h1 hX h2 h3 h.good hoe.1 (by rw [hoe.2, ho]) b1 hb hbn hbc hn0 ⟨by omega, hg⟩ ⟨by omega, by omega⟩ hue hby (by rw [← h.dims]; omega) h.may (by omega) h.room h.n2.2 (by have := h.pend; omega)
  refine key.mono ?_
  rintro e w' ⟨he, A', c', h4, h5, h6, h7⟩
  refine ⟨he, ⟨⟨A', c', h4, h6, h7⟩, (wrs_good _ _ _ h.good).2, ok_use hue, ?_, h.may, h.sin, ?_, h.n2, h.room, ?_⟩, h5⟩
  · obtain ⟨_, _, _, _, _, _, e5, _⟩ := use_facts hue
    rw [e5]; exact h.top
  · obtain ⟨_, _, _, _, _, _, _, _, _, e5, _⟩ := use_facts hue
    rw [e5]; exact h.dims
  · have h8 := wrs_pend (splitL (genG xs i) (usedG xs i) bs) k (2 + (i : Int) * s.b + usedG xs i).toNat h.good
    rw [split_length, hbl] at h8
    have := h.pend
    unfold layK
    omega
theorem turn_lg (h : LgM w X l p d n s t k xs pe) (hX : ∀ b, X b → b < w.heap.size) (hpe : pe ≤ 900000) (hgm : s.g + 1 ≤ 18446744073709551615) :
    Calls Tryz.prog 50 #[.pointer (some ⟨l, 0, none⟩)] w fun e w' =>
      ((nxtR xs < 0 ∧ e = .returned (.int .i64 6) ∧ LgM w' X l p d n s t k xs pe) ∨
       (∃ i : Nat, nxtR xs = (i : Nat) ∧ e = .returned (.int .i64 0) ∧ LgM w' X l p d n (genS s) (nxt t) (begK k s t i) (openX (sealedX s.b xs) (s.g + 1)) 0)) ∧ Kept X w w' := by
  obtain ⟨A, c, h1, h2, h3⟩ := h.log
  have hz : sealedX s.b xs = if sealE s.b xs = 0 then sealX xs else xs := rfl
  obtain ⟨z1, z2, z3, z4, z5, z6, z7⟩ := seal_facts h.ok hz
  have hok : ∀ {P : Prop}, ¬ OkR s.b xs → P := fun hh => absurd h.ok hh
  have hop : nextE s.b xs = 0 → openE s.b (sealedX s.b xs) (s.g + 1) = 0 := fun hn => turn_open h.ok hz h.top (by
    unfold nextE at hn
    rw [if_neg (fun k => k h.ok)] at hn
    split at hn
    · cases hn
    · omega)
  have key := turn_good h1 hX h2 h3 h.good (by have := h.pend; omega) h.may h.sin hgm h.n2.1 h.n2.2 h.dims h.room hop
  refine key.mono ?_
  intro e w' ht
  rcases ht with ⟨hn, he, h4, h5⟩ | ⟨hn, he, v, hk, kk, ys, A', c', _, h4, h5, h6, h7, h8⟩
  · have hne : nxtR xs < 0 ∧ nextE s.b xs = 6 := by
      unfold nextE at hn ⊢
      rw [if_neg (fun k => k h.ok)] at hn ⊢
      split at hn
      · rename_i hh; exact ⟨hh, by rw [if_pos hh]⟩
      · exact absurd rfl hn
    exact ⟨.inl ⟨hne.1, by rw [he, hne.2], ⟨A, c, h4, h2, h3⟩, h.good, h.ok, h.top, h.may, h.sin, h.dims, h.n2, h.room, h.pend⟩, h5⟩
  · have hE := hop hn
    rcases h8 with ⟨h8, _⟩ | ⟨_, h8, h9⟩
    · exact absurd hE h8
    subst h8 h9
    obtain ⟨i, i1, i2, i3, i4, i5, i6, i7, i8, i9, i10, i11⟩ := open_facts hE
    rw [z4] at i2
    have hnx : nxtR (sealedX s.b xs) = (i : Nat) := by rw [z4]; exact i2
    refine ⟨.inr ⟨i, i2, he, ⟨A', c', ?_, h6, h7⟩, ?_, i3, ?_, ?_, ?_, ?_, h.n2, h.room, ?_⟩, hk.trans h5 (fun b h => h)⟩
    · rw [hnx] at h4; exact h4
    · exact ((((h.good.put _ _).sync).put _ _).sync)
    · rw [i6]; exact Int.le_refl _
    · have := h.may
      exact ⟨this.1, this.2.1, this.2.2.1, this.2.2.2.1, by have := this.2.2.2.2; show s.r ≤ s.g + 1; omega⟩
    · have := h.sin
      simp only [Sup.In, InS] at this ⊢
      omega
    · rw [i10, z6]; exact h.dims
    · have hgd : Good ((setK k s t).wr (Dk.put (2 + (i : Int) * s.b).toNat (hdrL (i : Int).toNat (s.g + 1)))) := ((h.good.put _ _).sync).put _ _
      have := hgd.pend_sync
      unfold begK
      rw [this]
      exact Nat.le_refl _
theorem turn_facts (h : LgM w X l p d n s t k xs pe) {i : Nat} (hi : nxtR xs = (i : Nat)) : opnR (openX (sealedX s.b xs) (s.g + 1)) = (i : Nat) ∧ genG (openX (sealedX s.b xs) (s.g + 1)) i = s.g + 1 ∧ usedG (openX (sealedX s.b xs) (s.g + 1)) i = 1 ∧ leftR s.b (openX (sealedX s.b xs) (s.g + 1)) = s.b - 1 := by
  have hz : sealedX s.b xs = if sealE s.b xs = 0 then sealX xs else xs := rfl
  obtain ⟨_, _, _, z4, _⟩ := seal_facts h.ok hz
  have hE := turn_open h.ok hz h.top (by omega)
  obtain ⟨j, _, j2, _, j4, _, _, j7, j8, j9, _⟩ := open_facts hE
  obtain rfl : j = i := by omega
  exact ⟨j4, j7, j8, j9⟩
theorem left_open {sec : Int} {xs : List Seg} {K : Int} (h : OkR sec xs) (hK : 1 ≤ K) (hl : K ≤ leftR sec xs) : ∃ i : Nat, opnR xs = (i : Nat) := by
  rcases opn_or h with ⟨e, _⟩ | ⟨i, _, e, _⟩
  · unfold leftR at hl
    rw [e, if_neg (by omega)] at hl
    omega
  · exact ⟨i, e⟩
end
end Go.Proofs.YtodcohkblgjfeaaGreat

namespace Go.Proofs.YtodcohkblgjfeaaGreat
open Go.RowKit
set_option maxRecDepth 100000
set_option linter.unusedVariables false
set_option linter.unusedSimpArgs false
theorem rec_sectors (k f x s : Int) (A A' : Option Addr) (n c n' c' : Nat) (w : World) (h : May k f x s n n') (hn : n + n' ≤ 1000000) :
    Calls Tryz.prog 49 #[.agg #[.int .i64 k, .int .u32 f, .int .u32 x, .int .u64 s, .slice A n c, .slice A' n' c']] w fun e w' => e = .returned (.int .i64 (cntOf (21 + n + n'))) ∧ Below w.heap.size w w' := by
  have HB := Lib.hid ((Below.refl w.heap.size w).alloc (Nat.le_refl _) (.cells #[.int .i64 k, .int .u32 f, .int .u32 x, .int .u64 s, .slice A n c, .slice A' n' c'] 44))
  have HS := Lib.hid (fun v : World => size_yes k f x s A A' n c n' c' v h)
  obtain ⟨m, hm⟩ : ∃ m, 21 + n + n' = m := ⟨_, rfl⟩
  have h0 : 21 ≤ m := by omega
  have h1 : m ≤ 1000021 := by omega
  have h2 : (21 : Int) ≤ (m : Int) := by omega
  have h3 : (m : Int) ≤ 1000021 := by omega
  rw [hm] at HS
  rw [hm]
  have HV := Lib.hid (show ((m : Int) + 48 - 1) / 48 = ((cntOf m : Nat) : Int) by unfold cntOf; omega)
  clear h hm
  go_enter Tryz.func49, Tryz.ntmps49
  go_wp2_with fail
  refine (HS.out _).mono ?_
  rintro e w2 ⟨rfl, hb⟩
  have HB2 := Lib.hid (HB.out.trans (hb.mono HB.out.size))
  clear hb
  go_wp2_with fail
  go_ret
  rw [← HV.out]
  exact ⟨rfl, HB2.out⟩
end Go.Proofs.YtodcohkblgjfeaaGreat

namespace Go.Proofs.YtodcohkblgjfeaaGreat
open Go.RowKit
set_option maxRecDepth 100000
set_option linter.unusedVariables false
set_option linter.unusedSimpArgs false
abbrev lp0 : Oper := { dst := some 28, op := Go.Op.move (Go.Operand.tmp 0), type := 26, pos := "log.go:51", after := #[], guard := none }
abbrev lp1 : Oper := { dst := some 29, op := Go.Op.nilCheck (Go.Operand.tmp 28), type := 0, pos := "log.go:51", after := #[{ on := 0, ground := Go.Ground.data }], guard := none }
abbrev lp2 : Oper := { dst := some 30, op := Go.Op.fieldAddr 117 (Go.Operand.tmp 29) 1, type := 0, pos := "log.go:51", after := #[{ on := 1, ground := Go.Ground.data }], guard := none }
abbrev lp3 : Oper := { dst := some 31, op := Go.Op.load 35 (Go.Operand.tmp 30), type := 35, pos := "log.go:51", after := #[{ on := 2, ground := Go.Ground.data }], guard := none }
abbrev lp4 : Oper := { dst := some 32, op := Go.Op.call { callee := Go.Callee.value (Go.Operand.func 48), args := #[Go.Operand.tmp 31], argTypes := #[35] }, type := 3, pos := "log.go:51", after := #[{ on := 3, ground := Go.Ground.data }], guard := none }
abbrev lp5 : Oper := { dst := some 33, op := Go.Op.load 44 (Go.Operand.tmp 3), type := 44, pos := "log.go:51", after := #[], guard := none }
abbrev lp6 : Oper := { dst := some 34, op := Go.Op.call { callee := Go.Callee.value (Go.Operand.func 49), args := #[Go.Operand.tmp 33], argTypes := #[44] }, type := 3, pos := "log.go:51", after := #[{ on := 5, ground := Go.Ground.data }, { on := 4, ground := Go.Ground.chain }], guard := none }
abbrev lp7 : Oper := { dst := some 35, op := Go.Op.binOp Go.BinOp.lss 3 (Go.Operand.tmp 32) (Go.Operand.tmp 34) 3, type := 4, pos := "log.go:51", after := #[{ on := 4, ground := Go.Ground.data }, { on := 6, ground := Go.Ground.data }], guard := none }
theorem size_rec9 : (Tryz.prog.info? 44).map (·.size) = some 6 := by kernel_rfl
section
variable {w w' : World} {X Y : Nat → Prop} {l p d n : Nat} {s : Sup} {t : Int} {k : Dk} {xs : List Seg} {pe : Nat}
def AppT (w : World) (X : Nat → Prop) (l p d n : Nat) (s : Sup) (t : Int) (k : Dk) (xs : List Seg) (pe K : Nat) (bs : List Int) (e : Ending) (w' : World) : Prop :=
  ((∃ i : Nat, opnR xs = (i : Nat) ∧ (K : Int) ≤ leftR s.b xs ∧ e = .returned (.tuple #[.agg #[.int .i64 (i : Int), .int .u64 (genG xs i), .int .i64 (usedG xs i)], .int .i64 0]) ∧ LgM w' X l p d n s t (layK k s xs i bs) (useX xs (K : Nat)) (pe + K)) ∨
   (leftR s.b xs < (K : Int) ∧ nxtR xs < 0 ∧ e = .returned (.tuple #[.agg #[.int .i64 0, .int .u64 0, .int .i64 0], .int .i64 6]) ∧ LgM w' X l p d n s t k xs pe) ∨
   (leftR s.b xs < (K : Int) ∧ ∃ i : Nat, nxtR xs = (i : Nat) ∧ e = .returned (.tuple #[.agg #[.int .i64 (i : Int), .int .u64 (s.g + 1), .int .i64 1], .int .i64 0]) ∧
     LgM w' X l p d n (genS s) (nxt t) (layK (begK k s t i) (genS s) (openX (sealedX s.b xs) (s.g + 1)) i bs) (useX (openX (sealedX s.b xs) (s.g + 1)) (K : Nat)) (0 + K))) ∧ Kept X w w'
set_option maxHeartbeats 4000000 in
theorem append_good (h : LgM w X l p d n s t k xs pe) (hX : ∀ b, X b → b < w.heap.size) (hpe : pe ≤ 900000) (hgm : s.g + 1 ≤ 18446744073709551615) {k1 f x s1 : Int} {A1 A2 : Option Addr} {n1 c1 n2 c2 : Nat} {us vs : List Int} (hm : May k1 f x s1 n1 n2) (hr : Rng f x s1)
    (hx : RowI .u8 w (· < w.heap.size) A1 n1 us) (hy : RowI .u8 w (· < w.heap.size) A2 n2 vs) (hn1 : A1 = none → c1 = 0) (hn2 : A2 = none → c2 = 0) (hbu : Bytes us) (hbv : Bytes vs) :
    Calls Tryz.prog 12 #[.pointer (some ⟨l, 0, none⟩), .agg #[.int .i64 k1, .int .u32 f, .int .u32 x, .int .u64 s1, .slice A1 n1 c1, .slice A2 n2 c2]] w fun e w' => AppT w X l p d n s t k xs pe (cntOf (21 + n1 + n2)) (recB k1 f x s1 us vs) e w' := by
  have HLG := Lib.hid h
  have hbs := recB_bytes (k := k1) (f := f) (x := x) (s := s1) (by have h9 := hm; unfold May at h9; omega) hbu hbv
  have HBS := Lib.hid hbs
  have HPE := Lib.hid hpe
  have HGM := Lib.hid hgm
  have hsecb := h.may.2.2
  obtain ⟨A, c, h, hmc, hnil⟩ := h.log
  have hlw : leftW s.b xs = leftR s.b xs := by unfold leftW; rw [if_pos HLG.out.ok]
  have HLW := Lib.hid hlw
  obtain ⟨m, hmm⟩ : ∃ m, xs.length = m := ⟨_, rfl⟩
  obtain ⟨sec, hsec⟩ : ∃ sec, s.b = sec := ⟨_, rfl⟩
  rw [hmm, hsec] at h
  rw [hsec] at HLW
  have HSEC := Lib.hid hsec
  have HSB := Lib.hid hsecb
  have hlen1 := hx.1
  have hlen2 := hy.1
  have HLEN := Lib.hid (And.intro hlen1 hlen2)
  have HL := Lib.hid h
  have HX := Lib.hid hX
  clear hmm hsec hlw hbs hbu hbv hmc hnil hpe hgm hsecb hlen1 hlen2
  have HM := Lib.hid hm
  have HB0 := Lib.hid (((Below.refl w.heap.size w).alloc (Nat.le_refl _) (.cells #[.int .i64 k1, .int .u32 f, .int .u32 x, .int .u64 s1, .slice A1 n1 c1, .slice A2 n2 c2] 44)).alloc (by simp) (.cells #[.int .i64 0, .int .u64 0, .int .i64 0] 46))
  have HK := Lib.hid (blk_new2 w (.cells #[.int .i64 k1, .int .u32 f, .int .u32 x, .int .u64 s1, .slice A1 n1 c1, .slice A2 n2 c2] 44) 46 #[.int .i64 0, .int .u64 0, .int .i64 0])
  have HRC := Lib.hid ((Blk.new w 44 #[.int .i64 k1, .int .u32 f, .int .u32 x, .int .u64 s1, .slice A1 n1 c1, .slice A2 n2 c2]).alloc (.cells #[.int .i64 0, .int .u64 0, .int .i64 0] 46))
  have HEN := Lib.hid (encode_yes k1 f x s1 A1 A2 n1 c1 n2 c2 us vs _ ((w.alloc (.cells #[.int .i64 k1, .int .u32 f, .int .u32 x, .int .u64 s1, .slice A1 n1 c1, .slice A2 n2 c2] 44)).alloc (.cells #[.int .i64 0, .int .u64 0, .int .i64 0] 46)) hm hr (hx.below HB0.out (fun b h => h)) (hy.below HB0.out (fun b h => h)) (fun b h => Nat.lt_of_lt_of_le h HB0.out.size) hn1 hn2)
  have HL0 := Lib.hid (h.below HB0.out)
  clear h hX hm hr hx hy hn1 hn2
  go_enter Tryz.func12, Tryz.ntmps12
  go_wp2_with fail
  refine HEN.out.mono ?_
  rintro e v6 ⟨vb, rfl, hown, hb6⟩
  have HOWN := Lib.hid hown
  have HB6 := Lib.hid (HB0.out.trans (hb6.mono HB0.out.size))
  have HL6 := Lib.hid (HL.out.below HB6.out)
  have HK6 := Lib.hid (HK.out.below hb6 HK.out.lt)
  have HR6 := Lib.hid (HRC.out.below hb6 HRC.out.lt)
  obtain ⟨_, _, _, c3⟩ := log_cells HL6.out
  clear hown hb6
  go_upto_region 8 with fail
  clear c3
  go_cut [35] (fun t wy => t = .bool (decide (leftW sec xs < ((cntOf (21 + n1 + n2) : Nat) : Int))) ∧ Below v6.heap.size v6 wy)
  case first J KK hJ hKK =>
    have HOP := Lib.hid (show ∀ W, Below v6.heap.size v6 W → RowZ W (· < W.heap.size) A m xs from fun W hW => (HL6.out.below hW).now)
    have HL1 := Lib.hid (show ∀ W, Below v6.heap.size v6 W → W.rangeAt l 1 [.int .i64 sec, .slice A m c] from fun W hW q u hu => by
      have hb := HL6.out.1.below hW HL6.out.1.lt
      match q, hu with
      | 0, hu => exact (hb.cell 1).trans hu
      | 1, hu => exact (hb.cell 2).trans hu)
    have HR1 := Lib.hid (show ∀ W, Below v6.heap.size v6 W → W.rangeAt w.heap.size 0 [.int .i64 k1, .int .u32 f, .int .u32 x, .int .u64 s1, .slice A1 n1 c1, .slice A2 n2 c2] from fun W hW => (show Blk W w.heap.size 44 (List.toArray [.int .i64 k1, .int .u32 f, .int .u32 x, .int .u64 s1, .slice A1 n1 c1, .slice A2 n2 c2]) from HR6.out.below hW HR6.out.lt).rangeL)
    have hu35 := Tryz.underlying35
    have hu44 := Tryz.underlying44
    refine wp_region_noPanic ?_
    refine Tillst.region (fun W => Below v6.heap.size v6 W) [] (by kernel_rfl) (Below.refl _ _).drew (fun hHeld => ?_)
    refine Tillst.take (i := 0) (oi := lp0) (v := ?_) rfl (by kernel_rfl) (by kernel_rfl) (by kernel_rfl) (by kernel_rfl) (fun _ _ _ h => h) (by rfl) ?_ hHeld ?_
    rotate_left
    · intro W hSW; (try dsimp only at hSW); unfold lp0; go_simp; with_reducible rfl
    simp only [lp0, Act.put, List.setIfInBounds_toArray, List.set_cons_zero, List.set_cons_succ]
    refine Tillst.take (i := 1) (oi := lp1) (v := ?_) rfl (by kernel_rfl) (by kernel_rfl) (by kernel_rfl) (by kernel_rfl) (fun _ _ _ h => h) (by rfl) ?_ hHeld ?_
    rotate_left
    · intro W hSW; (try dsimp only at hSW); unfold lp1; go_simp; with_reducible rfl
    simp only [lp1, Act.put, List.setIfInBounds_toArray, List.set_cons_zero, List.set_cons_succ]
    refine Tillst.take (i := 2) (oi := lp2) (v := ?_) rfl (by kernel_rfl) (by kernel_rfl) (by kernel_rfl) (by kernel_rfl) (fun _ _ _ h => h) (by rfl) ?_ hHeld ?_
    rotate_left
    · intro W hSW; (try dsimp only at hSW); unfold lp2; go_simp; with_reducible rfl
    simp only [lp2, Act.put, List.setIfInBounds_toArray, List.set_cons_zero, List.set_cons_succ]
    refine Tillst.take (i := 3) (oi := lp3) (v := ?_) rfl (by kernel_rfl) (by kernel_rfl) (by kernel_rfl) (by kernel_rfl) (fun _ _ _ h => h) (by rfl) ?_ hHeld ?_
    rotate_left
    · intro W' hSW; refine exec_load_row (.tmp 30) 35 ?_ l 1 ?_ [.int .i64 sec, .slice A m c] _ hu35 rfl size_ring (HL1.out W' hSW) <;> rfl
    simp only [lp3, Act.put, List.setIfInBounds_toArray, List.set_cons_zero, List.set_cons_succ]
    refine Tillst.take (i := 5) (oi := lp5) (v := ?_) rfl (by kernel_rfl) (by kernel_rfl) (by kernel_rfl) (by kernel_rfl) (fun _ _ _ h => h) (by rfl) ?_ hHeld ?_
    rotate_left
    · intro W' hSW; refine exec_load_row (.tmp 3) 44 ?_ w.heap.size 0 ?_ [.int .i64 k1, .int .u32 f, .int .u32 x, .int .u64 s1, .slice A1 n1 c1, .slice A2 n2 c2] _ hu44 rfl size_rec9 (HR1.out W' hSW) <;> rfl
    simp only [lp5, Act.put, List.setIfInBounds_toArray, List.set_cons_zero, List.set_cons_succ]
    refine Tillst.one (i := 4) (o := lp4) (by kernel_rfl) rfl ?_
    intro K hK
    refine step_call 48 #[.tmp 31] #[35] rfl rfl Tryz.func48 rfl rfl [.agg #[.int .i64 sec, .slice A m c]] rfl ?_
    refine (left_ring (HOP.out _ hHeld) sec).mono ?_
    rintro e v8 ⟨rfl, hbn⟩
    have hS8 := hHeld.trans (hbn.mono hHeld.size)
    clear hbn
    refine ⟨_, rfl, ?_⟩
    simp only [lp4, Act.put, List.setIfInBounds_toArray, List.set_cons_zero, List.set_cons_succ]
    refine hK.out _ _ (fun _ => hS8) (fun hHeld => ?_)
    replace hHeld := hHeld (by decide)
    clear hK K hS8
    refine Tillst.one (i := 6) (o := lp6) (by kernel_rfl) rfl ?_
    intro K hK
    refine step_call 49 #[.tmp 33] #[44] rfl rfl Tryz.func49 rfl rfl [.agg #[.int .i64 k1, .int .u32 f, .int .u32 x, .int .u64 s1, .slice A1 n1 c1, .slice A2 n2 c2]] rfl ?_
    refine (rec_sectors k1 f x s1 A1 A2 n1 c1 n2 c2 _ HM.out (by obtain ⟨_, _, h1, h2, _⟩ := HM.out; omega)).mono ?_
    rintro e v9 ⟨rfl, hbn⟩
    have hS8 := hHeld.trans (hbn.mono hHeld.size)
    clear hbn
    refine ⟨_, rfl, ?_⟩
    simp only [lp6, Act.put, List.setIfInBounds_toArray, List.set_cons_zero, List.set_cons_succ]
    refine hK.out _ _ (fun _ => hS8) (fun hHeld => ?_)
    replace hHeld := hHeld (by decide)
    clear hK K hS8
    refine Tillst.take (i := 7) (oi := lp7) (v := ?_) rfl (by kernel_rfl) (by kernel_rfl) (by kernel_rfl) (by kernel_rfl) (fun _ _ _ h => h) (by rfl) ?_ hHeld ?_
    rotate_left
    · intro W hSW; (try dsimp only at hSW); unfold lp7; go_simp; with_reducible rfl
    simp only [lp7, Act.put, List.setIfInBounds_toArray, List.set_cons_zero, List.set_cons_succ]
    refine Tillst.done (by kernel_rfl) ?_ _
    refine NoPanic.normal ?_
    refine hKK _ _ (Met.intro (hJ _ _ ?_))
    (repeat apply Exists.intro)
    exact ⟨⟨rfl, hHeld⟩, rfl⟩
  case rest =>
    obtain ⟨rfl, hb⟩ := hcut
    have HB8 := Lib.hid (HB6.out.trans (hb.mono HB6.out.size))
    have HB68 := Lib.hid hb
    have HK8 := Lib.hid (HK6.out.below hb HK6.out.lt)
    have hkl := HK6.out.lt
    clear hb
    obtain ⟨B, hB⟩ : ∃ B, 21 + n1 + n2 = B := ⟨_, rfl⟩
    have HB17 := Lib.hid (show cntOf B ≤ 17 ∧ 1 ≤ cntOf B ∧ B ≤ 16384 by have h9 := HM.out; unfold May at h9; unfold cntOf; omega)
    have HBL := Lib.hid (show (recB k1 f x s1 us vs).length = B by rw [recB_length, HLEN.out.1, HLEN.out.2]; exact hB)
    rw [hB]
    obtain ⟨bs, hbse⟩ : ∃ bs, recB k1 f x s1 us vs = bs := ⟨_, rfl⟩
    rw [hbse] at HBS HOWN HBL
    have HBE := Lib.hid hbse
    have HBB := Lib.hid hB
    clear hB hbse
    have HG8 := Lib.hid (HLG.out.grow HB8.out)
    have HX8 := Lib.hid (grow_lt HX.out HB8.out.size)
    have hown := HOWN.out
    rw [HBL.out] at hown
    obtain ⟨A5, c5, rfl, hbc, hbn, hrow⟩ := rowG_own (mk := Value.int .u8) 0 hown
    have HROW := Lib.hid (show RowI .u8 wc (· < wc.heap.size) A5 B bs from (hrow.below HB68.out (fun b hb => hb.2.1)).more (fun b hb => Nat.lt_of_lt_of_le hb.2.1 HB68.out.size))
    have HBN := Lib.hid (And.intro hbn hbc)
    have HXR := Lib.hid (show ∀ b, b < wc.heap.size ∧ w.heap.size + 2 ≤ b → (X b ∨ (w.heap.size ≤ b ∧ b < wc.heap.size)) from fun b hb => .inr ⟨by omega, hb.1⟩)
    have HROW2 := Lib.hid (show RowI .u8 wc (fun b => w.heap.size + 2 ≤ b ∧ b < wc.heap.size) A5 B bs from (hrow.below HB68.out (fun b hb => hb.2.1)).more (fun b hb => ⟨by have := hb.1; simp at this; omega, Nat.lt_of_lt_of_le hb.2.1 HB68.out.size⟩))
    have hX1 := (show (fun b => X b ∨ (w.heap.size ≤ b ∧ b < wc.heap.size)) (w.heap.size + 1) from .inr ⟨by omega, HK8.out.lt⟩)
    have HX1 := Lib.hid hX1
    have hB17 := HB17.out
    have hleft := HLW.out
    rw [hleft]
    clear hown hrow hbn hbc hX1 hleft
    by_cases hlt : leftR sec xs < ((cntOf B : Nat) : Int)
    · have HT := Lib.hid (turn_lg HG8.out HX8.out HPE.out HGM.out)
      have HLT := Lib.hid (show leftR s.b xs < ((cntOf (21 + n1 + n2) : Nat) : Int) by rw [HSEC.out, HBB.out]; exact hlt)
      rw [decide_eq_true hlt]
      clear hlt hB17
      go_wp2_with fail
      refine HT.out.mono ?_
      rintro e v9 ⟨ht, hk9⟩
      have HK9 := Lib.hid (HK8.out.kept hk9 HX1.out)
      have HKX9 := Lib.hid ((Kept.of_below HB8.out HX.out).trans hk9 (fun b h => .inl h))
      have HKZ9 := Lib.hid hk9
      clear hk9
      rcases ht with ⟨hn, rfl, hg9⟩ | ⟨i, hi, rfl, hg9⟩
      · have HG9 := Lib.hid hg9
        have HN9 := Lib.hid hn
        have q0 := HK9.out.cell 0
        have q1 := HK9.out.cell 1
        have q2 := HK9.out.cell 2
        simp only [List.getElem?_toArray, List.getElem?_cons_zero, List.getElem?_cons_succ] at q0 q1 q2
        obtain ⟨g0, g1, g2⟩ := And.intro (HK9.out.frozen 0) (And.intro (HK9.out.frozen 1) (HK9.out.frozen 2))
        clear hg9 hn
        go_wp2_with (with_reducible refine halt_end ?_)
        have hso := HG9.out.setOff3 (X := X) HK9.out HX1.out (fun b h => .inl h) (fun b h => by have := HX.out b h; omega) (.int .i64 0) (.int .u64 0) (.int .i64 0)
        exact Halt.ret (results_row2 (p := 4) (u := 5) rfl _ _ (w.heap.size + 1) 46 #[.int .i64 0, .int .u64 0, .int .i64 0] _ rfl hso.2.1 Tryz.underlying46 rfl size_addr) rfl
          ⟨.inr (.inl ⟨HLT.out, HN9.out, rfl, hso.1⟩), hso.2.2 _ HKX9.out⟩
      · obtain ⟨u1, u2, u3, u4⟩ := turn_facts HLG.out hi
        have HLY := Lib.hid (lay_lg (i := i) (c0 := c5) hg9 (fun b h => Nat.lt_of_lt_of_le (HX8.out b h) HKZ9.out.size) (by omega) u1 (by show ((cntOf B : Nat) : Int) ≤ leftR s.b _; rw [u4]; have h8 := HSB.out; have h9 := HB17.out; omega) ((HROW2.out.kept HKZ9.out (fun b hb => HXR.out b ⟨hb.2, hb.1⟩)).more (fun b hb => Nat.lt_of_lt_of_le hb.2 HKZ9.out.size)) HBN.out.1 HBN.out.2 HB17.out.2.2 HBS.out)
        rw [u2, u3] at HLY
        have HII := Lib.hid hi
        clear u1 u2 u3 u4 hi hg9
        go_wp2_with fail
        refine HLY.out.mono ?_
        rintro e v10 ⟨rfl, hg10, hk10⟩
        have HK10 := Lib.hid (HK9.out.kept hk10 HX1.out)
        have HKX10 := Lib.hid (HKX9.out.trans hk10 (fun b h => .inl h))
        have HG10 := Lib.hid hg10
        have q0 := HK10.out.cell 0
        have q1 := HK10.out.cell 1
        have q2 := HK10.out.cell 2
        simp only [List.getElem?_toArray, List.getElem?_cons_zero, List.getElem?_cons_succ] at q0 q1 q2
        obtain ⟨g0, g1, g2⟩ := And.intro (HK10.out.frozen 0) (And.intro (HK10.out.frozen 1) (HK10.out.frozen 2))
        clear hg10 hk10
        go_wp2_with (with_reducible refine halt_end ?_)
        have hso := HG10.out.setOff3 (X := X) HK10.out HX1.out (fun b h => .inl h) (fun b h => by have := HX.out b h; omega) (.int .i64 (i : Int)) (.int .u64 (s.g + 1)) (.int .i64 1)
        refine Halt.ret (results_row2 (p := 4) (u := 5) rfl _ _ (w.heap.size + 1) 46 #[.int .i64 (i : Int), .int .u64 (s.g + 1), .int .i64 1] _ rfl hso.2.1 Tryz.underlying46 rfl size_addr) rfl
          ⟨.inr (.inr ⟨HLT.out, i, HII.out, rfl, ?_⟩), hso.2.2 _ HKX10.out⟩
        rw [HBB.out, HBE.out]
        exact hso.1
    · rw [decide_eq_false hlt]
      have HLT := Lib.hid (show ((cntOf (21 + n1 + n2) : Nat) : Int) ≤ leftR s.b xs by rw [HSEC.out, HBB.out]; omega)
      clear hlt hB17
      obtain ⟨i, hi⟩ := left_open HLG.out.ok (by rw [HBB.out]; have := HB17.out; omega) HLT.out
      have HLY := Lib.hid (lay_lg (i := i) (c0 := c5) HG8.out HX8.out HPE.out hi (by have h9 := HLT.out; rw [HBB.out] at h9; exact h9) HROW.out HBN.out.1 HBN.out.2 HB17.out.2.2 HBS.out)
      have HII := Lib.hid hi
      obtain ⟨gi, hgi⟩ : ∃ gi, genG xs i = gi := ⟨_, rfl⟩
      obtain ⟨ui, hui⟩ : ∃ ui, usedG xs i = ui := ⟨_, rfl⟩
      rw [hgi, hui] at HLY
      have HGU := Lib.hid (And.intro hgi hui)
      clear hi hgi hui
      go_wp2_with fail
      refine HLY.out.mono ?_
      rintro e v10 ⟨rfl, hg10, hk10⟩
      have HK10 := Lib.hid (HK8.out.kept hk10 HX1.out)
      have HKX10 := Lib.hid ((Kept.of_below HB8.out HX.out).trans hk10 (fun b h => .inl h))
      have HG10 := Lib.hid hg10
      have q0 := HK10.out.cell 0
      have q1 := HK10.out.cell 1
      have q2 := HK10.out.cell 2
      simp only [List.getElem?_toArray, List.getElem?_cons_zero, List.getElem?_cons_succ] at q0 q1 q2
      obtain ⟨g0, g1, g2⟩ := And.intro (HK10.out.frozen 0) (And.intro (HK10.out.frozen 1) (HK10.out.frozen 2))
      clear hg10 hk10
      go_wp2_with (with_reducible refine halt_end ?_)
      have hso := HG10.out.setOff3 (X := X) HK10.out HX1.out (fun b h => .inl h) (fun b h => by have := HX.out b h; omega) (.int .i64 (i : Int)) (.int .u64 gi) (.int .i64 ui)
      refine Halt.ret (results_row2 (p := 4) (u := 5) rfl _ _ (w.heap.size + 1) 46 #[.int .i64 (i : Int), .int .u64 gi, .int .i64 ui] _ rfl hso.2.1 Tryz.underlying46 rfl size_addr) rfl
        ⟨.inl ⟨i, HII.out, HLT.out, by rw [HGU.out.1, HGU.out.2]; rfl, ?_⟩, hso.2.2 _ HKX10.out⟩
      rw [HBB.out, HBE.out]
      exact hso.1
end
end Go.Proofs.YtodcohkblgjfeaaGreat

namespace Go.Proofs.YtodcohkblgjfeaaGreat
open Go.RowKit
set_option maxRecDepth 100000
set_option linter.unusedVariables false
set_option linter.unusedSimpArgs false
section
variable {w : World} {X : Nat → Prop} {l p d n m c : Nat} {s : Sup} {t : Int} {k : Dk} {sec : Int} {A : Option Addr} {xs : List Seg} {br : Bool}
set_option maxHeartbeats 1000000 in
theorem log_ring (h : LogM w X l p d n s t k sec A m c xs br) (hnil : A = none → c = 0) (hmc : m ≤ c) (hm : m ≤ 1000) :
    Calls Tryz.prog 29 #[.pointer (some ⟨l, 0, none⟩)] w fun e w' => (∃ A' c', e = .returned (ringV sec A' m c') ∧ OwnZ w' w.heap.size A' m c' xs) ∧ Below w.heap.size w w' := by
  have HB := Lib.hid ((Below.refl w.heap.size w).alloc (Nat.le_refl _) (.cells #[.int .i64 0, .slice none 0 0] 35))
  have HL := Lib.hid (h.below HB.out)
  have HK := Lib.hid (Blk.new w 35 #[.int .i64 0, .slice none 0 0])
  obtain ⟨_, c1, c2, _⟩ := log_cells HL.out
  have HC := Lib.hid (copied_ring HL.out.now hnil hmc hm sec)
  clear h
  go_enter Tryz.func29, Tryz.ntmps29
  go_wp2_with fail
  refine HC.out.mono ?_
  rintro e w3 ⟨⟨A', c', rfl, hown⟩, hb⟩
  have HK3 := Lib.hid (HK.out.below hb HK.out.lt)
  have HB3 := Lib.hid (HB.out.trans (hb.mono HB.out.size))
  have HO := Lib.hid (hown.base (m := w.heap.size + 1) (by simp))
  obtain ⟨f0, f1⟩ := And.intro (HK3.out.frozen 0) (HK3.out.frozen 1)
  obtain ⟨k0, k1⟩ := ring_cells HK3.out
  clear hb hown c1 c2
  go_wp2_with (with_reducible refine halt_end ?_)
  have hst := (HK3.out.set_ 0 (.int .i64 sec)).set_ 1 (.slice A' m c')
  have hown := (HO.out.far (p := ⟨w.heap.size, 0, none⟩) (by show w.heap.size < _; omega) (.int .i64 sec)).far (p := ⟨w.heap.size, 1, none⟩) (by show w.heap.size < _; omega) (.slice A' m c')
  have hbel := (HB3.out.setCell (p := ⟨w.heap.size, 0, none⟩) (Nat.le_refl _) (.int .i64 sec)).setCell (p := ⟨w.heap.size, 1, none⟩) (Nat.le_refl _) (.slice A' m c')
  exact Halt.ret (results_row1 (p := 2) rfl _ _ w.heap.size 35 #[.int .i64 sec, .slice A' m c'] _ rfl hst Tryz.underlying35 rfl size_ring) rfl ⟨⟨A', c', rfl, hown.base (by omega)⟩, hbel⟩
theorem ring_nil_l (w : World) : Calls Tryz.prog 29 #[.pointer none] w fun e w' => e = .returned (ringV 0 none 0 0) ∧ Below w.heap.size w w' := by
  have HB := Lib.hid ((Below.refl w.heap.size w).alloc (Nat.le_refl _) (.cells #[.int .i64 0, .slice none 0 0] 35))
  have HK := Lib.hid (Blk.new w 35 #[.int .i64 0, .slice none 0 0])
  go_enter Tryz.func29, Tryz.ntmps29
  go_wp2_with (with_reducible refine halt_end ?_)
  exact Halt.ret (results_row1 (p := 2) rfl _ _ w.heap.size 35 #[.int .i64 0, .slice none 0 0] _ rfl HK.out Tryz.underlying35 rfl size_ring) rfl ⟨rfl, HB.out⟩
theorem open_nil_l (A : Option Addr) (m c : Nat) (sec : Int) (w : World) : Calls Tryz.prog 33 #[.pointer none, ringV sec A m c] w fun e w' => e = .returned (.tuple #[.pointer none, .int .i64 1]) ∧ Below w.heap.size w w' := by
  have HB := Lib.hid ((Below.refl w.heap.size w).alloc (Nat.le_refl _) (.cells #[.int .i64 sec, .slice A m c] 35))
  go_enter Tryz.func33, Tryz.ntmps33
  go_wp2
  go_ret2
  exact ⟨rfl, HB.out⟩
end
def bornK (a b : Int) : Dk := (((Dk.fresh 1026).wr (Dk.put 0 (supL a b 0 0 0 0 0))).wr (Dk.put 1 (noughts 64))).wr Dk.sync
set_option maxHeartbeats 1000000 in
theorem born_any (a : Nat) (b : Int) (w : World) (ha : 4 ≤ a ∧ a ≤ 16) (hb : 24 ≤ b ∧ b ≤ 64) :
    Calls Tryz.prog 10 #[.int .i64 a, .int .i64 b] w fun e w' => ∃ l p d A c, e = .returned (.tuple #[.pointer (some ⟨l, 0, none⟩), .pointer (some ⟨d, 0, none⟩)]) ∧
      LogM w' (fun x => x < w.heap.size) l p d 1026 ⟨a, b, 0, 0, 0, 0⟩ 0 (bornK a b) b A a c (List.replicate a seg0) false ∧ a ≤ c ∧ (A = none → c = 0) ∧ Below w.heap.size w w' := by
  have hm : MayS a b 0 0 := ⟨by omega, by omega, by omega, by omega, by omega⟩
  have hz : SizedR a b := ⟨by omega, by omega, by omega, by omega⟩
  have hok := ok_new hz
  have hop : opnR (List.replicate a seg0) < 0 := by
    rcases opn_range (List.replicate a seg0) with h | ⟨i, hi, h⟩
    · omega
    · exfalso
      obtain ⟨j, hj, e1, e2⟩ := opn_nat hok (by omega)
      have : stG (List.replicate a seg0) j = 0 := by
        unfold stG
        rw [List.length_replicate] at hj
        simp [List.getD, hj, seg0]
      omega
  have HM := Lib.hid hm
  have HZ := Lib.hid hz
  have HOK := Lib.hid hok
  have HOP := Lib.hid hop
  have HAR := Lib.hid (area_in hm).2
  clear hm hz hok hop
  go_enter Tryz.func10, Tryz.ntmps10
  go_wp2_with fail
  refine (new_i w 1026 1026 rfl (by omega) (by omega)).mono ?_
  rintro e w1 ⟨d, rfl, hd, hb1⟩
  have HD1 := Lib.hid hd
  have HB1 := Lib.hid hb1
  clear hd hb1
  go_wp2_with fail
  refine (format_fresh HD1.out (fun c h => Nat.lt_of_lt_of_le h HB1.out.size) a b HM.out (by have := HAR.out; omega)).mono ?_
  rintro e w2 ⟨p, rfl, hst, hk⟩
  have HS2 := Lib.hid (show StoS w2 (fun x => x < w.heap.size) p d 1026 ⟨a, b, 0, 0, 0, 0⟩ 0 (bornK a b) from hst)
  have HB2 := Lib.hid (show Below w.heap.size w w2 from HB1.out.trans (hk.to_below (fun b h => h)))
  clear hst hk
  go_wp2_with fail
  refine (new_ok a b HZ.out).mono ?_
  rintro e w3 ⟨⟨A0, rfl, hr⟩, hb3⟩
  have hal := (Below.refl w3.heap.size w3).alloc (Nat.le_refl _) (.cells #[.int .i64 b, .slice A0 a a] 35)
  have HS3 := Lib.hid (StoreM.below HS2.out (hb3.trans (hal.mono hb3.size)))
  have HB3 := Lib.hid (HB2.out.trans ((hb3.trans (hal.mono hb3.size)).mono HB2.out.size))
  have HR3 := Lib.hid (row_now (hr.more (fun b h => h.2)) hal)
  have HK3 := Lib.hid (Blk.new w3 35 #[.int .i64 b, .slice A0 a a])
  have HA0 := Lib.hid (show A0 = none → a = 0 from fun e => by
    rcases Nat.eq_zero_or_pos a with h | h
    · exact h
    · obtain ⟨_, _, h2, _⟩ := hr.2 h
      rw [e] at h2; cases h2)
  obtain ⟨k0, k1⟩ := ring_cells HK3.out
  clear hr hb3 hal
  go_wp2_with fail
  refine (open_log_ok (s := ⟨a, b, 0, 0, 0, 0⟩) HS3.out (fun b h => Nat.lt_of_lt_of_le h HB3.out.size) HR3.out HA0.out (Nat.le_refl _) b HOK.out rfl rfl HOP.out).mono ?_
  rintro e w4 ⟨l, A, c, rfl, hl, hac, hnil, hsz, hb4⟩
  have HL := Lib.hid hl
  have HB4 := Lib.hid (HB3.out.trans (hb4.mono HB3.out.size))
  have HAC := Lib.hid (And.intro hac hnil)
  clear hl hb4 hac hnil k0 k1
  go_wp2_with fail
  go_ret2
  exact ⟨l, p, d, A, c, rfl, HL.out, HAC.out.1, HAC.out.2, HB4.out⟩
end Go.Proofs.YtodcohkblgjfeaaGreat

namespace Go.Proofs.YtodcohkblgjfeaaGreat
open Go.RowKit
set_option maxRecDepth 100000
set_option linter.unusedVariables false
set_option linter.unusedSimpArgs false
structure StrM (W : World) (X : Nat → Prop) (gx gi p d n : Nat) (s : Sup) (t : Int) (k : Dk) (seg : Nat) : Prop where
  sto : StoS W X p d n s t k
  off : ∀ b, X b → b < W.heap.size
  bx : Blk W gx 70 #[.pointer (some ⟨p, 0, none⟩)]
  bi : Blk W gi 3 #[.int .i64 seg]
  xx : X gx
  xi : X gi
section
variable {W W' : World} {X Y : Nat → Prop} {gx gi p d n : Nat} {s : Sup} {t : Int} {k : Dk} {seg : Nat}
theorem StrM.grow (h : StrM W X gx gi p d n s t k seg) (hb : Below W.heap.size W W') : StrM W' (fun b => X b ∨ (W.heap.size ≤ b ∧ b < W'.heap.size)) gx gi p d n s t k seg :=
  ⟨StoreM.grow h.sto hb, grow_lt h.off hb.size, h.bx.below hb h.bx.lt, h.bi.below hb h.bi.lt, .inl h.xx, .inl h.xi⟩
theorem StrM.kept {S : Nat → Prop} {k2 : Dk} (h : StrM W Y gx gi p d n s t k seg) (hk : Kept S W W') (hs : StoS W' Y p d n s t k2) (hx : S gx) (hi : S gi) (hX : ∀ b, X b → Y b) (h1 : X gx) (h2 : X gi) : StrM W' X gx gi p d n s t k2 seg :=
  ⟨StoreM.kept (Z := fun _ => True) hs (Kept.refl _ _) (fun _ _ _ => trivial) (fun b _ h => hX b h), fun b hb => Nat.lt_of_lt_of_le (h.off b (hX b hb)) hk.size, h.bx.kept hk hx, h.bi.kept hk hi, h1, h2⟩
def strV (k : Dk) (s : Sup) (seg i : Nat) : List Int := if (i : Int) < s.b then k.held.getD (2 + (seg : Int) * s.b + i).toNat [] else noughts 64
def strE (s : Sup) (i : Nat) : Int := if (i : Int) < s.b then 0 else 4
def strK (k : Dk) (s : Sup) (i : Nat) : Dk := if (i : Int) < s.b then k.rd else k
theorem run_field1 (a b g r v f : Int) (w : World) : (Instr.field 32 (.agg (supC a b g r v f)) 1).run Tryz.prog w = .ok (.int .i64 b) w := by
  unfold Instr.field
  simp [Sem.run_bind, run_underlying (Tryz.underlying32), asAgg, part, isAgg, run_underlying (Tryz.underlying3)]
set_option maxHeartbeats 4000000 in
theorem stored1_any (h : StrM W X gx gi p d n s t k seg) (hg : Good k) (hm : s.May) (hseg : (seg : Int) < s.a) (hroom : 2 + s.a * s.b ≤ (n : Int)) (hn : n ≤ 2048) (i : Nat) (hi : i ≤ 100000) (hlen : (strV k s seg i).length = 64) :
    Calls Tryz.prog 115 #[.int .i64 i, .pointer (some ⟨gx, 0, none⟩), .pointer (some ⟨gi, 0, none⟩)] W fun e W' =>
      e = .returned (.tuple #[.agg (cells8 (strV k s seg i)), .int .i64 (strE s i)]) ∧ StrM W' X gx gi p d n s t (strK k s i) seg ∧ Kept X W W' := by
  have HS := Lib.hid h
  have HG := Lib.hid hg
  obtain ⟨w1, hw1⟩ : ∃ w1, w1 = W.alloc (.cells (cells8 (noughts 64)) 84) := ⟨_, rfl⟩
  have HB1 := Lib.hid (show Below W.heap.size W w1 by rw [hw1]; exact (Below.refl _ W).alloc (Nat.le_refl _) _)
  have HR1 := Lib.hid (show ArrB w1 W.heap.size (noughts 64) by rw [hw1]; exact Blk.new W _ _)
  have HW1 := Lib.hid hw1
  have h1 := h.grow HB1.out
  have HS1 := Lib.hid h1
  have HBA := Lib.hid (sto_base h1.sto seg hseg hm.2.1 ⟨by have := hm.2.2.1; omega, hm.2.2.2.1⟩)
  have c0 := h1.bx.cell 0
  have c1 := h1.bi.cell 0
  have hb24 : 24 ≤ s.b := hm.2.2.1
  have hb64 : s.b ≤ 64 := hm.2.2.2.1
  have hx1 : 0 ≤ (seg : Int) * s.b ∧ (seg : Int) * s.b + s.b ≤ s.a * s.b := by
    refine ⟨Int.mul_nonneg (by omega) (by omega), ?_⟩
    have := Int.mul_le_mul_of_nonneg_right (show (seg : Int) + 1 ≤ s.a by omega) (show 0 ≤ s.b by omega)
    rw [Int.add_mul, Int.one_mul] at this
    exact this
  obtain ⟨M, hM⟩ : ∃ M : Int, (seg : Int) * s.b = M := ⟨_, rfl⟩
  rw [hM] at HBA hx1
  have HV := Lib.hid (show strV k s seg i = if (i : Int) < s.b then k.held.getD (2 + M + i).toNat [] else noughts 64 by unfold strV; rw [hM])
  have HLEN := Lib.hid hlen
  rw [hw1] at c0 c1
  clear h hg hm hseg hw1 h1 hM hlen
  go_enter Tryz.func115, Tryz.ntmps115
  go_wp2_with (refine wpList_alloc_blk rfl rfl ?_)
  rw [← HW1.out]
  refine HBA.out.mono ?_
  rintro e w2 ⟨rfl, rfl⟩
  clear c0 c1
  have HGT := Lib.hid (get_any HS1.out.sto)
  have c0 := HS1.out.bx.cell 0
  have c1 := HS1.out.bi.cell 0
  go_wp2_with fail
  unfold supC at HGT
  refine HGT.out.mono ?_
  rintro e w3 ⟨rfl, hb3⟩
  have HB3 := Lib.hid (HB1.out.trans (hb3.mono HB1.out.size))
  have HR3 := Lib.hid (HR1.out.below hb3 HR1.out.lt)
  have HS3 := Lib.hid (HS.out.grow HB3.out)
  have hr0 := HR1.out.lt
  have hs3 := hb3.size
  clear hb3 c0 c1
  have c0 := HS3.out.bx.cell 0
  have hfld := run_field1 s.a s.b s.g s.r s.v s.f w3
  by_cases hib : (i : Int) < s.b
  · obtain ⟨j, hj⟩ : ∃ j : Nat, (2 : Int) + M + (i : Int) = (j : Nat) := ⟨(2 + M + i).toNat, by omega⟩
    have hjn : j < n := by omega
    have hib2 : ¬ ((i : Int) ≥ s.b) := by omega
    have hib3 : decide (s.b ≤ (i : Int)) = false := decide_eq_false (by omega)
    have HV2 := Lib.hid (show strV k s seg i = k.held.getD j [] by rw [HV.out, if_pos hib, hj]; simp)
    have HEK := Lib.hid (show strE s i = 0 ∧ strK k s i = k.rd by unfold strE strK; rw [if_pos hib, if_pos hib]; exact ⟨rfl, rfl⟩)
    have hrd := read_k HS3.out.sto.2.1 (fun b hb => by
      rcases hb with hb | hb
      · exact HS3.out.off b hb
      · rw [hb]; exact HS3.out.sto.1.lt) j hjn
    rw [HG.out.rde, HG.out.rdv] at hrd
    have HRD := Lib.hid hrd
    obtain ⟨ys, hys⟩ : ∃ ys, k.held.getD j [] = ys := ⟨_, rfl⟩
    rw [hys] at HRD HV2
    have HYL := Lib.hid (show ys.length = 64 by rw [← HV2.out]; exact HLEN.out)
    clear hrd hys
    go_wp2_with fail
    refine (sto_disk HS3.out.sto).mono ?_
    rintro e w4 ⟨rfl, rfl⟩
    go_wp2_with fail
    refine HRD.out.mono ?_
    rintro e w5 ⟨rfl, hd5, hk5⟩
    have HR5 := Lib.hid (show ArrB w5 W.heap.size (noughts 64) from Blk.kept HR3.out hk5 (.inl (.inr ⟨Nat.le_refl _, by omega⟩)))
    have HD5 := Lib.hid (show StoS w5 (fun b => X b ∨ (W.heap.size ≤ b ∧ b < w4.heap.size)) p d n s t k.rd from ⟨HS3.out.sto.1.kept hk5 (.inr rfl), hd5, HS3.out.sto.2.2⟩)
    have HK5 := Lib.hid hk5
    clear hd5 hk5 c0
    go_wp2_with (first | (with_reducible refine halt_end ?_) | (refine wpList_store_blk (.tmp 4) (.tmp 32) rfl rfl W.heap.size ys rfl rfl 84 (noughts 64) HR5.out (noughts_length 64) HYL.out ?_))
    have hks := (HK5.out.mono (S := fun b => X b ∨ (W.heap.size ≤ b ∧ b < w4.heap.size)) (fun b h => .inl h))
    have hkr := (Kept.refl (fun b => b ≠ W.heap.size) w5).setRow (g := W.heap.size) (fun h => h rfl) (cells8 ys)
    have hxn : ∀ b, X b → b ≠ W.heap.size := fun b hb => Nat.ne_of_lt (HS.out.off b hb)
    refine Halt.ret (results_blk2 rfl _ _ W.heap.size 84 ys rfl (setRow_heap _ _ _ _ _ _ HR5.out) HYL.out) rfl ⟨?_, ?_, ?_⟩
    · rw [HV2.out, HEK.out.1]; rfl
    · rw [HEK.out.2]
      refine ⟨StoreM.kept HD5.out hkr (fun b _ hx e => hx (.inr ⟨by omega, by omega⟩)) (fun b _ hb => .inl hb), fun b hb => ?_, (HS3.out.bx.kept hks (.inl HS.out.xx)).kept hkr (hxn _ HS.out.xx), (HS3.out.bi.kept hks (.inl HS.out.xi)).kept hkr (hxn _ HS.out.xi), HS.out.xx, HS.out.xi⟩
      have := HS.out.off b hb
      have := HB3.out.size
      have := HK5.out.size
      have := hkr.size
      omega
    · exact ((Kept.of_below HB3.out HS.out.off).trans hks (fun b h => .inl h)).trans hkr hxn
  · have hib2 : (i : Int) ≥ s.b := by omega
    have HV2 := Lib.hid (show strV k s seg i = noughts 64 by rw [HV.out, if_neg hib])
    have HEK := Lib.hid (show strE s i = 4 ∧ strK k s i = k by unfold strE strK; rw [if_neg hib, if_neg hib]; exact ⟨rfl, rfl⟩)
    clear c0
    go_wp2_with (first | (with_reducible refine halt_end ?_) | (refine wpList_build_blk rfl rfl ?_) | (refine wpList_store_blk (.tmp 4) (.tmp 25) rfl rfl W.heap.size (noughts 64) rfl rfl 84 (noughts 64) HR3.out (noughts_length 64) (noughts_length 64) ?_))
    have hkr := (Kept.refl (fun b => b ≠ W.heap.size) w3).setRow (g := W.heap.size) (fun h => h rfl) (cells8 (noughts 64))
    have hxn : ∀ b, X b → b ≠ W.heap.size := fun b hb => Nat.ne_of_lt (HS.out.off b hb)
    refine Halt.ret (results_blk2 rfl _ _ W.heap.size 84 (noughts 64) rfl (setRow_heap _ _ _ _ _ _ HR3.out) (noughts_length 64)) rfl ⟨?_, ?_, ?_⟩
    · rw [HV2.out, HEK.out.1]; rfl
    · rw [HEK.out.2]
      refine ⟨StoreM.kept HS3.out.sto hkr (fun b _ hx e => hx (.inr ⟨by omega, by omega⟩)) (fun b _ hb => .inl hb), fun b hb => ?_, HS3.out.bx.kept hkr (hxn _ HS.out.xx), HS3.out.bi.kept hkr (hxn _ HS.out.xi), HS.out.xx, HS.out.xi⟩
      have := HS.out.off b hb
      have := HB3.out.size
      have := hkr.size
      omega
    · exact (Kept.of_below HB3.out HS.out.off).trans hkr hxn
end
set_option maxHeartbeats 1000000 in
theorem stored_any {w : World} {X : Nat → Prop} {p d n : Nat} {s : Sup} {t : Int} {k : Dk} (h : StoS w X p d n s t k) (hX : ∀ b, X b → b < w.heap.size) (seg : Nat) :
    Calls Tryz.prog 67 #[.pointer (some ⟨p, 0, none⟩), .int .i64 seg] w fun e w' => (∃ gx gi, e = .returned (.func (.func 115) #[] #[.pointer (some ⟨gx, 0, none⟩), .pointer (some ⟨gi, 0, none⟩)]) ∧
      StrM w' (fun b => X b ∨ (w.heap.size ≤ b ∧ b < w'.heap.size)) gx gi p d n s t k seg) ∧ Below w.heap.size w w' := by
  have HS := Lib.hid h
  have HX := Lib.hid hX
  have hb := (((Below.refl w.heap.size w).alloc (Nat.le_refl _) (.cells #[.pointer (some ⟨p, 0, none⟩)] 70)).alloc (by simp) (.cells #[.int .i64 seg] 3))
  have HB := Lib.hid hb
  have HK1 := Lib.hid ((Blk.new w 70 #[.pointer (some ⟨p, 0, none⟩)]).alloc (.cells #[.int .i64 seg] 3))
  have HK2 := Lib.hid (blk_new2 w (.cells #[.pointer (some ⟨p, 0, none⟩)] 70) 3 #[.int .i64 seg])
  clear h hX hb
  go_enter Tryz.func67, Tryz.ntmps67
  go_wp2
  go_ret
  exact ⟨⟨w.heap.size, w.heap.size + 1, rfl, StoreM.grow HS.out HB.out, grow_lt HX.out HB.out.size, HK1.out, HK2.out, .inr ⟨Nat.le_refl _, by simp; omega⟩, .inr ⟨by omega, by simp⟩⟩, HB.out⟩
end Go.Proofs.YtodcohkblgjfeaaGreat

namespace Go.Proofs.YtodcohkblgjfeaaGreat
open Go.RowKit
set_option maxRecDepth 100000
set_option linter.unusedVariables false
set_option linter.unusedSimpArgs false
def beginsN (ys : List Int) (gen : Int) (at_ : Int) : Nat :=
  if stamped ys = true ∧ genOf ys = gen ∧ posOf ys = at_ ∧ needE (meantOf ys) (meantOf ys).length = 0 then cntOf (needK (meantOf ys) (meantOf ys).length) else 0
theorem needK_le (xs : List Int) (n : Nat) : needK xs n ≤ 783 := by
  unfold needK
  split
  · rename_i h
    have h2 := h.2
    unfold MayB May at h2
    unfold needOf
    omega
  · omega
theorem begins_le (ys : List Int) (gen at_ : Int) : beginsN ys gen at_ ≤ 17 := by
  unfold beginsN
  split
  · have := needK_le (meantOf ys) (meantOf ys).length
    unfold cntOf
    omega
  · omega
set_option maxHeartbeats 2000000 in
theorem begins_any (ys : List Int) (gen : Int) (at_ : Nat) (w : World) (hl : ys.length = 64) (hb : Bytes ys) (hat : at_ ≤ 100000) :
    Calls Tryz.prog 112 #[.agg (cells8 ys), .int .u64 gen, .int .i64 at_] w fun e w' => e = .returned (.int .i64 (beginsN ys gen at_ : Nat)) ∧ Below w.heap.size w w' := by
  have HB0 := Lib.hid ((Below.refl w.heap.size w).alloc (Nat.le_refl _) (.cells (cells8 ys) 84))
  have HX0 := Lib.hid (show ArrB (w.alloc (.cells (cells8 ys) 84)) w.heap.size ys from Blk.new w _ _)
  have HL := Lib.hid hl
  have HBY := Lib.hid hb
  have hwr : IntKind.u32.wrap (at_ : Int) = (at_ : Int) := by rw [IntKind.wrap_u32]; omega
  cases hst : stamped ys with
  | false =>
    have HN := Lib.hid (show beginsN ys gen at_ = 0 by unfold beginsN; rw [if_neg (fun h => by rw [hst] at h; cases h.1)])
    have HRD := Lib.hid (fun (W : World) => read_bad ys W hl hb hst)
    clear hl hb hst
    go_enter Tryz.func112, Tryz.ntmps112
    go_wp2_with (refine wpList_load_blk (.tmp 3) rfl rfl w.heap.size 0 rfl ys HL.out HX0.out.range ?_)
    refine (HRD.out _).mono ?_
    rintro e w2 ⟨rfl, hb2⟩
    have HB2 := Lib.hid (HB0.out.trans (hb2.mono HB0.out.size))
    clear hb2
    go_wp2_with fail
    go_ret
    rw [HN.out]
    exact ⟨rfl, HB2.out.alloc HB2.out.size _⟩
  | true =>
    have HRD := Lib.hid (fun (W : World) => read_ok2 ys W hl hb hst)
    have HMB := Lib.hid (show Bytes (meantOf ys) by unfold meantOf; split; exact bytes_part hb 16 _; exact fun j => by simp)
    have hkk := needK_le (meantOf ys) (meantOf ys).length
    have hDEF : beginsN ys gen at_ = if genOf ys = gen ∧ posOf ys = (at_ : Int) ∧ needE (meantOf ys) (meantOf ys).length = 0 then cntOf (needK (meantOf ys) (meantOf ys).length) else 0 := by
      unfold beginsN
      simp [hst]
    have HDEF := Lib.hid hDEF
    obtain ⟨gg, hgg⟩ : ∃ g, genOf ys = g := ⟨_, rfl⟩
    obtain ⟨pp, hpp⟩ : ∃ g, posOf ys = g := ⟨_, rfl⟩
    obtain ⟨ff, hff⟩ : ∃ g, fillOf ys = g := ⟨_, rfl⟩
    have HND := Lib.hid (fun (A : Option Addr) (c : Nat) (W : World) (hx : RowI .u8 W (· < W.heap.size) A (meantOf ys).length (meantOf ys)) (hc : (meantOf ys).length ≤ c) => need_all A _ c (meantOf ys) _ W hx (fun b h => h) HMB.out hc)
    obtain ⟨ms, hms⟩ : ∃ g, meantOf ys = g := ⟨_, rfl⟩
    obtain ⟨nk, hnk⟩ : ∃ g, needK ms ms.length = g := ⟨_, rfl⟩
    obtain ⟨ne, hne⟩ : ∃ g, needE ms ms.length = g := ⟨_, rfl⟩
    unfold ReadTold2 at HRD
    rw [hgg, hpp, hff, hms] at HRD
    rw [hms, hnk, hne] at HND
    rw [hgg, hpp, hms, hnk, hne] at HDEF
    rw [hms, hnk] at hkk
    clear hl hb hst hDEF hgg hpp hff hms hnk hne
    go_enter Tryz.func112, Tryz.ntmps112
    go_wp2_with (refine wpList_load_blk (.tmp 3) rfl rfl w.heap.size 0 rfl ys HL.out HX0.out.range ?_)
    refine (HRD.out _).mono ?_
    rintro e w2 ⟨A, c, rfl, hrow, hb2, hnil, hcap⟩
    have HB2 := Lib.hid (HB0.out.trans (hb2.mono HB0.out.size))
    have HB3 := Lib.hid ((Below.refl w2.heap.size w2).alloc (Nat.le_refl _) (.cells #[.int .u64 gg, .int .u32 pp, .int .i64 (ff : Nat)] 147))
    have HROW := Lib.hid ((hrow.below HB3.out (fun b h => h.2)).more (T := (· < (w2.alloc (.cells #[.int .u64 gg, .int .u32 pp, .int .i64 (ff : Nat)] 147)).heap.size)) (fun b h => Nat.lt_of_lt_of_le h.2 HB3.out.size))
    have HCAP := Lib.hid hcap
    have hk := Blk.new w2 147 #[.int .u64 gg, .int .u32 pp, .int .i64 (ff : Nat)]
    have c0 := hk.cell 0
    have c1 := hk.cell 1
    simp only [List.getElem?_toArray, List.getElem?_cons_zero, List.getElem?_cons_succ] at c0 c1
    clear hrow hb2 hnil hcap hk
    by_cases hg : gg = gen
    · by_cases hp : pp = (at_ : Int)
      · have hN := HND.out A c _ HROW.out HCAP.out
        have HN := Lib.hid hN
        subst hg hp
        clear hN
        go_wp2_with fail
        refine HN.out.mono ?_
        rintro e w4 ⟨rfl, hb4⟩
        have HB4 := Lib.hid ((HB2.out.trans (HB3.out.mono HB2.out.size)).trans (hb4.mono (by have := HB2.out.size; have := HB3.out.size; omega)))
        clear hb4 c0 c1
        by_cases he : ne = 0
        · subst he
          have HSC := Lib.hid (sectors_any nk w4 (by omega))
          clear hkk
          go_wp2_with fail
          refine HSC.out.mono ?_
          rintro e w5 ⟨rfl, rfl⟩
          go_wp2
          go_ret
          rw [HDEF.out, if_pos (by simp)]
          exact ⟨rfl, HB4.out⟩
        · have HE := Lib.hid he
          have hneb : (ne != 0) = true := by simpa using he
          clear hkk he
          go_wp2
          go_ret
          rw [HDEF.out, if_neg (fun h => HE.out h.2.2)]
          exact ⟨rfl, HB4.out⟩
      · have HP := Lib.hid hp
        have hpb : (pp != (at_ : Int)) = true := by simpa using hp
        subst hg
        clear hp hkk
        go_wp2
        go_ret
        rw [HDEF.out, if_neg (fun h => HP.out h.2.1)]
        exact ⟨rfl, HB2.out.trans (HB3.out.mono HB2.out.size)⟩
    · have HGN := Lib.hid hg
      have hgb : (gg != gen) = true := by simpa using hg
      clear hg hkk
      go_wp2
      go_ret
      rw [HDEF.out, if_neg (fun h => HGN.out h.1)]
      exact ⟨rfl, HB2.out.trans (HB3.out.mono HB2.out.size)⟩
end Go.Proofs.YtodcohkblgjfeaaGreat

namespace Go.Proofs.YtodcohkblgjfeaaGreat
open Go.RowKit
attribute [local go_sem] Oper.semAt_some
set_option maxRecDepth 100000
set_option linter.unusedVariables false
set_option linter.unusedSimpArgs false
def JoinTold9 (xss : List (List Int)) (w : World) (e : Ending) (w' : World) : Prop :=
  ∃ A c, e = .returned (.tuple #[.slice A (meants xss).length c, .int .i64 0]) ∧ RowI .u8 w' (fun b => w.heap.size ≤ b ∧ b < w'.heap.size) A (meants xss).length (meants xss) ∧ Below w.heap.size w w' ∧ (meants xss).length ≤ c
def JoinAny9 (xss : List (List Int)) (w : World) (e : Ending) (w' : World) : Prop := (1 ≤ xss.length ∧ Chain xss → JoinTold9 xss w e w') ∧ (¬ (1 ≤ xss.length ∧ Chain xss) → JoinBad w e w')
theorem join_no9 {xss : List (List Int)} {w : World} {e : Ending} {w' : World} (h : ¬ (1 ≤ xss.length ∧ Chain xss)) (hb : JoinBad w e w') : JoinAny9 xss w e w' := ⟨fun k => absurd k h, fun _ => hb⟩
set_option maxHeartbeats 4000000 in
theorem join_any9 (A : Option Addr) (n c : Nat) (xss : List (List Int)) (S : Nat → Prop) (w : World) (hx : RowK w S A n xss) (hS : ∀ b, S b → b < w.heap.size) (hs : Secs xss) (hby : ∀ i, Bytes (xss.getD i [])) (hn : n ≤ 1000000) :
    Calls Tryz.prog 113 #[.slice A n c] w (JoinAny9 xss w) := by
  obtain ⟨i0, hi, hz0, hz1, hz2⟩ := info_parts info_u8
  have HX := Lib.hid hx
  have HL := Lib.hid hx.1
  have HS := Lib.hid hs
  have HBY := Lib.hid hby
  clear hx hs hby
  by_cases h0 : n = 0
  · subst h0
    have hno := Lib.hid (show ¬ (1 ≤ xss.length ∧ Chain xss) from fun h => by have := HL.out; omega)
    go_enter Tryz.func113, Tryz.ntmps113
    go_wp2
    go_ret2
    exact join_no9 hno.out ⟨rfl, Below.refl _ _⟩
  have e0 : ((n : Int) == 0) = false := by simp; omega
  have hn1 : 1 ≤ n := by omega
  clear h0
  go_enter Tryz.func113, Tryz.ntmps113
  go_wp2_with fail
  have HJ0 := Lib.hid (show Joining xss w (w.alloc (.cells #[.int .u64 0, .int .u32 0, .int .i64 0] 147)) (.slice none 0 0) 0 from
    ⟨World.ownsRow_nil _ _ _ _, Blk.new w _ _, (Below.refl _ _).alloc (Nat.le_refl _) _, fun i h => by omega⟩)
  go_loopw [4, 16] (fun o i wr => ∃ k : Nat, k ≤ n ∧ i = .int .i64 k ∧ Joining xss w wr o k) (fun _ i _ => n - (intOf i).toNat)
  case atStart => exact ⟨0, by omega, rfl, HJ0.out⟩
  case round =>
    obtain ⟨k, hk, rfl, hj⟩ := hrel
    by_cases hlt : k < n
    · obtain ⟨b, off, rfl, hb, hc⟩ := (HX.out.below hj.bel hS).2 (by omega)
      have hr := hc k hlt
      have hxl := HS.out.get k (by have := HL.out; omega)
      have hxb := HBY.out k
      have hbw := hS b hb
      have HJ := Lib.hid hj
      have HXK := Lib.hid (show xss.getD k [] = xss.getD k [] from rfl)
      obtain ⟨xs, hxs⟩ : ∃ xs, xs = xss.getD k [] := ⟨_, rfl⟩
      rw [← hxs] at hr hxl hxb
      have HXS := Lib.hid hxs
      have HR := Lib.hid hr
      have HXL := Lib.hid hxl
      have HXB := Lib.hid hxb
      obtain ⟨w1, hw1⟩ : ∃ w1, w1 = wr.alloc (.cells (cells8 xs) 84) := ⟨_, rfl⟩
      have HW1 := Lib.hid hw1
      have HX1 := Lib.hid (show ArrB w1 wr.heap.size xs by rw [hw1]; exact Blk.new wr _ _)
      have HB1 := Lib.hid (show Below wr.heap.size wr w1 by rw [hw1]; exact (Below.refl _ _).alloc (Nat.le_refl _) _)
      clear hc hj hxs hr hxl hxb hw1
      go_wp2_with (first
        | (refine wpList_load_blk (.tmp 19) rfl rfl b (off + k * 64) rfl xs HXL.out HR.out ?_)
        | (refine wpList_alloc_blk rfl rfl ?_)
        | (refine wpList_store_new (.tmp 7) (.tmp 20) rfl rfl wr xs rfl rfl (noughts 64) rfl (noughts_length 64) HXL.out ?_; rw [← HW1.out])
        | (refine wpList_load_blk (.tmp 7) rfl rfl wr.heap.size 0 rfl xs HXL.out HX1.out.range ?_))
      by_cases hst : stamped xs = true
      case neg =>
        have hst : stamped xs = false := by simpa using hst
        have hno := Lib.hid (not_chain (k := k) (xss := xss) (by have := HL.out; omega) (fun h => by have h := h.1; rw [← HXS.out, hst] at h; cases h))
        refine (read_bad xs w1 HXL.out HXB.out hst).mono ?_
        rintro e w2 ⟨rfl, hb2⟩
        have HB2 := Lib.hid ((HJ.out.bel.trans (HB1.out.mono HJ.out.bel.size)).trans (hb2.mono (Nat.le_trans HJ.out.bel.size HB1.out.size)))
        clear hst hb2
        go_wp2_with fail
        go_ret2
        exact join_no9 hno.out ⟨rfl, HB2.out.alloc HB2.out.size _⟩
      refine (read_ok_s5 xs w1 HXL.out HXB.out hst).mono ?_
      rintro e w2 ⟨A2, c2, rfl, hr2, hb2, hn2⟩
      have HN2 := Lib.hid hn2
      clear hn2
      have HST := Lib.hid hst
      have HR2 := Lib.hid hr2
      have HB2 := Lib.hid (HB1.out.trans (hb2.mono HB1.out.size))
      obtain ⟨w3, hw3⟩ : ∃ w3, w3 = w2.alloc (.cells #[.int .u64 (genOf xs), .int .u32 (posOf xs), .int .i64 (fillOf xs)] 147) := ⟨_, rfl⟩
      have hb3 : Below w2.heap.size w2 w3 := by rw [hw3]; exact (Below.refl _ _).alloc (Nat.le_refl _) _
      have HS3 := Lib.hid (show Blk w3 w2.heap.size 147 #[.int .u64 (genOf xs), .int .u32 (posOf xs), .int .i64 (fillOf xs)] by rw [hw3]; exact Blk.new w2 _ _)
      have HR3 := Lib.hid (HR2.out.below hb3 (fun b h => h.2))
      have HB3 := Lib.hid (HB2.out.trans (hb3.mono HB2.out.size))
      have HW3 := Lib.hid hw3
      clear hst hr2 hb2 hw3 hb3
      by_cases hk0 : k = 0
      · subst hk0
        have HCH := Lib.hid (show ChainAt xss 0 from ⟨by rw [← HXS.out]; exact HST.out, fun h => by omega⟩)
        have ho4 := own_below HJ.out.own HB3.out
        have HO4 := Lib.hid ho4
        have hlo := meants_length xss 0 (by have := HL.out; omega)
        have hml := meant_le xs
        have HLT := Lib.hid HJ.out.own.lt
        have hsz4 : w.heap.size + 1 ≤ w3.heap.size := by have := HJ.out.st.lt; have := HB3.out.size; omega
        clear ho4
        go_wp2_with (first
          | rw [← HW3.out]
          | (at_builtin; refine wpList_append_rowG rfl (.tmp 39) (.tmp 40) 42 rfl (w.heap.size + 1) 5 i0 (.int .u8 0) 1 Tryz.underlying42 hi hz0 hz1 hz2 rfl (fun _ => rfl) u4 _ _ rfl HO4.out _ A2 (meantOf xs).length c2 (meantOf xs) rfl HR3.out HN2.out (by unfold maxLen; omega) (by omega) hsz4 ?_; intro v' w5 hown' hgrow' _; have HO5 := Lib.hid hown'; have HG5 := Lib.hid hgrow'; clear hown' hgrow';
              have hs5 : Blk w5 w2.heap.size 147 #[.int .u64 (genOf xs), .int .u32 (posOf xs), .int .i64 (fillOf xs)] := HS3.out.grown HG5.out (fun e => by have := HLT.out _ e.symm; have := HB2.out.size; omega);
              have ha5 : Blk w5 w.heap.size 147 (aheadOf xss 0) := (HJ.out.st.below HB3.out HJ.out.st.lt).grown HG5.out (fun e => by have := HLT.out _ e.symm; omega);
              obtain ⟨a0, a1, a2, ha⟩ : ∃ a0 a1 a2 : Value, aheadOf xss 0 = #[a0, a1, a2] := by { unfold aheadOf; split <;> exact ⟨_, _, _, rfl⟩ };
              rw [ha] at ha5; clear ha;
              have p0 := hs5.cell 0; have p1 := hs5.cell 1; have p2 := hs5.cell 2; have q0 := ha5.cell 0; have q1 := ha5.cell 1; have q2 := ha5.cell 2; have y0 := ha5.frozen 0; have y1 := ha5.frozen 1; have y2 := ha5.frozen 2;
              simp only [List.getElem?_toArray, List.getElem?_cons_zero, List.getElem?_cons_succ] at p0 p1 p2 q0 q1 q2;
              clear hs5 ha5))
        go_roundw
        case rel => exact ⟨0 + 1, by omega, by go_num, HJ.out.next (by have := HL.out; omega) HXS.out HCH.out HB3.out HO5.out HG5.out⟩
        case measure => (simp [intOf] <;> omega)
      · have HA3 := Lib.hid (show Blk w3 w.heap.size 147 #[.int .u64 (genOf (xss.getD (k - 1) [])), .int .u32 (posOf (xss.getD (k - 1) [])), .int .i64 (fillOf (xss.getD (k - 1) []))] by
          have := HJ.out.st.below HB3.out HJ.out.st.lt
          unfold aheadOf at this
          rw [if_neg hk0] at this
          exact this)
        have hk1 : (0 : Int) < k := by omega
        have hpb := pos_bounds HXB.out HXL.out
        have hpl := HS.out.get (k - 1) (by have := HL.out; omega)
        have hpf := fill_lt (HBY.out (k - 1))
        obtain ⟨ps, hps⟩ : ∃ ps, ps = xss.getD (k - 1) [] := ⟨_, rfl⟩
        rw [← hps] at HA3 hpl hpf
        have HPS := Lib.hid hps
        have HK0 := Lib.hid hk0
        have hfol := fun W => follows_any (genOf ps) (posOf ps) (fillOf ps) (genOf xs) (posOf xs) (fillOf xs) W hpb.1 hpb.2 (by omega) (by omega)
        obtain ⟨lb, hlb⟩ : ∃ lb, linkB ps xs = lb := ⟨_, rfl⟩
        have hlb' : folB (genOf ps) (posOf ps) (fillOf ps) (genOf xs) (posOf xs) = lb := hlb
        rw [hlb'] at hfol
        have HFOL := Lib.hid hfol
        have HLB := Lib.hid hlb
        have g0 := HS3.out.cell 0
        have g1 := HS3.out.cell 1
        have g2 := HS3.out.cell 2
        have f0 := HA3.out.cell 0
        have f1 := HA3.out.cell 1
        have f2 := HA3.out.cell 2
        simp only [List.getElem?_toArray, List.getElem?_cons_zero, List.getElem?_cons_succ] at g0 g1 g2 f0 f1 f2
        clear hfol hlb hlb' hps hk0 hpl hpb
        cases lb with
        | false =>
          have hno := Lib.hid (not_chain (k := k) (xss := xss) (by have := HL.out; omega) (fun h => by have h := h.2 (by omega); rw [← HXS.out, ← HPS.out, HLB.out] at h; cases h))
          go_wp2_with (first
            | rw [← HW3.out]
            | (go_at_call 148; refine (HFOL.out _).mono ?_; rintro e w4 ⟨rfl, hb4⟩; have HB4 := Lib.hid hb4; clear hb4))
          go_ret2
          exact join_no9 hno.out ⟨rfl, (HJ.out.bel.trans (HB3.out.mono HJ.out.bel.size)).trans (HB4.out.mono (Nat.le_trans HJ.out.bel.size HB3.out.size))⟩
        | true =>
          have HCH := Lib.hid (show ChainAt xss k from ⟨by rw [← HXS.out]; exact HST.out, fun _ => by rw [← HXS.out, ← HPS.out]; exact HLB.out⟩)
          go_wp2_with (rw [← HW3.out])
          refine (HFOL.out _).mono ?_
          rintro e w4 ⟨rfl, hb4⟩
          have HB34 := Lib.hid (HB3.out.trans (hb4.mono HB3.out.size))
          have HR4 := Lib.hid (HR3.out.below hb4 (fun b h => by have := h.2; have := HS3.out.lt; omega))
          have HS4 := Lib.hid (HS3.out.below hb4 HS3.out.lt)
          clear hb4 g0 g1 g2 f0 f1 f2
          have ho4 := own_below HJ.out.own HB34.out
          have HO4 := Lib.hid ho4
          have hlo := meants_length xss k (by have := HL.out; omega)
          have hml := meant_le xs
          have HLT := Lib.hid HJ.out.own.lt
          have hsz4 : w.heap.size + 1 ≤ w4.heap.size := by have := HJ.out.st.lt; have := HB34.out.size; omega
          clear ho4
          go_wp2_with (first
            | (at_builtin; refine wpList_append_rowG rfl (.tmp 39) (.tmp 40) 42 rfl (w.heap.size + 1) 5 i0 (.int .u8 0) 1 Tryz.underlying42 hi hz0 hz1 hz2 rfl (fun _ => rfl) u4 _ _ rfl HO4.out _ A2 (meantOf xs).length c2 (meantOf xs) rfl HR4.out HN2.out (by unfold maxLen; omega) (by omega) hsz4 ?_; intro v' w5 hown' hgrow' _; have HO5 := Lib.hid hown'; have HG5 := Lib.hid hgrow'; clear hown' hgrow';
                have hs5 : Blk w5 w2.heap.size 147 #[.int .u64 (genOf xs), .int .u32 (posOf xs), .int .i64 (fillOf xs)] := HS4.out.grown HG5.out (fun e => by have := HLT.out _ e.symm; have := HB2.out.size; omega);
                have ha5 : Blk w5 w.heap.size 147 (aheadOf xss k) := (HJ.out.st.below HB34.out HJ.out.st.lt).grown HG5.out (fun e => by have := HLT.out _ e.symm; omega);
                obtain ⟨a0, a1, a2, ha⟩ : ∃ a0 a1 a2 : Value, aheadOf xss k = #[a0, a1, a2] := by { unfold aheadOf; split <;> exact ⟨_, _, _, rfl⟩ };
                rw [ha] at ha5; clear ha;
                have p0 := hs5.cell 0; have p1 := hs5.cell 1; have p2 := hs5.cell 2; have q0 := ha5.cell 0; have q1 := ha5.cell 1; have q2 := ha5.cell 2; have y0 := ha5.frozen 0; have y1 := ha5.frozen 1; have y2 := ha5.frozen 2;
                simp only [List.getElem?_toArray, List.getElem?_cons_zero, List.getElem?_cons_succ] at p0 p1 p2 q0 q1 q2;
                clear hs5 ha5))
          go_roundw
          case rel => exact ⟨k + 1, by omega, by go_num, HJ.out.next (by have := HL.out; omega) HXS.out HCH.out HB34.out HO5.out HG5.out⟩
          case measure => (simp [intOf] <;> omega)
    · obtain rfl : k = n := by omega
      have hch : Chain xss := fun i hi => hj.chain i (by have := HL.out; omega)
      have hmt : meants (xss.take k) = meants xss := by rw [List.take_of_length_le (by have := HL.out; omega)]
      have ho := hj.own
      rw [hmt] at ho
      obtain ⟨A2, c2, rfl, hc1, hc2, hr2⟩ := rowG_own 0 ho
      have HR2 := Lib.hid hr2
      have HCH := Lib.hid hch
      have HBEL := Lib.hid hj.bel
      have HC9 := Lib.hid hc1
      clear hch hmt ho hj hr2 hc1 hc2
      go_wp2
      go_ret2
      exact ⟨fun _ => ⟨_, _, rfl, HR2.out.more (fun b h => ⟨by omega, h.2.1⟩), HBEL.out, HC9.out⟩, fun h => absurd ⟨by have := HL.out; omega, HCH.out⟩ h⟩
end Go.Proofs.YtodcohkblgjfeaaGreat

namespace Go.Proofs.YtodcohkblgjfeaaGreat
open Go.RowKit
set_option maxRecDepth 100000
set_option linter.unusedVariables false
set_option linter.unusedSimpArgs false
structure HeldC {σ : Type} (f : Nat) (cs : List Value) (B : Nat) (X0 : Nat → Prop) (V : Nat → List Int) (E : Nat → Int) (nx : σ → Nat → σ) (R : (Nat → Prop) → σ → World → Prop) : Prop where
  call : ∀ (X : Nat → Prop) (st : σ) (W : World) (i : Nat), R X st W → i ≤ 100000 → Calls Tryz.prog f ((Value.int .i64 (i : Nat)) :: cs).toArray W fun e W' => e = .returned (.tuple #[.agg (cells8 (V i)), .int .i64 (E i)]) ∧ R X (nx st i) W' ∧ Kept X W W'
  put : ∀ (X S : Nat → Prop) (st : σ) (W W' : World), R X st W → Kept S W W' → (∀ b, b < W.heap.size → ¬ S b → X b ∧ B ≤ b) → R (fun b => X b ∨ (W.heap.size ≤ b ∧ b < W'.heap.size)) st W'
  lt : ∀ (X : Nat → Prop) (st : σ) (W : World), R X st W → ∀ b, X b → b < W.heap.size
  back : ∀ (X : Nat → Prop) (st : σ) (W : World), R X st W → (∀ b, X0 b → X b) → R X0 st W
  len : ∀ i, (V i).length = 64
  byt : ∀ i, Bytes (V i)
def stR {σ : Type} (nx : σ → Nat → σ) (st : σ) (at_ : Nat) : Nat → σ
  | 0 => st
  | j + 1 => nx (stR nx st at_ j) (at_ + j)
def badAt (E : Nat → Int) (at_ : Nat) : Nat → Nat → Nat
  | 0, j => j
  | f + 1, j => if E (at_ + j) = 0 then badAt E at_ f (j + 1) else j
theorem badAt_done (E : Nat → Int) (at_ : Nat) : ∀ (f j : Nat), (∀ q, j ≤ q → q < j + f → E (at_ + q) = 0) → badAt E at_ f j = j + f
  | 0, j, _ => rfl
  | f + 1, j, h => by
    unfold badAt
    rw [if_pos (h j (Nat.le_refl _) (by omega)), badAt_done E at_ f (j + 1) fun q h1 h2 => h q (by omega) (by omega)]
    omega
theorem badAt_hit (E : Nat → Int) (at_ : Nat) : ∀ (f j k : Nat), (∀ q, j ≤ q → q < k → E (at_ + q) = 0) → j ≤ k → k < j + f → E (at_ + k) ≠ 0 → badAt E at_ f j = k
  | 0, j, k, _, h1, h2, _ => by omega
  | f + 1, j, k, h, h1, h2, h3 => by
    unfold badAt
    by_cases e : j = k
    · subst e; rw [if_neg h3]
    · rw [if_pos (h j (Nat.le_refl _) (by omega))]
      exact badAt_hit E at_ f (j + 1) k (fun q h4 h5 => h q (by omega) h5) (by omega) (by omega) h3
def secsAt (V : Nat → List Int) (at_ c : Nat) : List (List Int) := (List.range c).map fun j => V (at_ + j)
theorem secsAt_length (V : Nat → List Int) (at_ c : Nat) : (secsAt V at_ c).length = c := by simp [secsAt]
theorem secsAt_succ (V : Nat → List Int) (at_ c : Nat) : secsAt V at_ (c + 1) = secsAt V at_ c ++ [V (at_ + c)] := by simp [secsAt, List.range_succ]
theorem secsAt_one (V : Nat → List Int) (at_ : Nat) : secsAt V at_ 1 = [V at_] := by simp [secsAt, List.range_succ]
theorem secsAt_secs {V : Nat → List Int} (h : ∀ i, (V i).length = 64) (at_ c : Nat) : Secs (secsAt V at_ c) := fun x hx => by
  obtain ⟨j, _, rfl⟩ := List.mem_map.1 hx
  exact h _
theorem bytes_nil9 : Bytes ([] : List Int) := fun j => by simp
theorem secsAt_bytes {V : Nat → List Int} (h : ∀ i, Bytes (V i)) (at_ c i : Nat) : Bytes ((secsAt V at_ c).getD i []) := by
  unfold secsAt
  simp only [List.getD, List.getElem?_map]
  cases (List.range c)[i]? with
  | none => exact bytes_nil9
  | some j => exact h _
def StandsIn (xss : List (List Int)) : Prop := Chain xss ∧ DecOk (meants xss) (meants xss).length ∧ needOf (meants xss) = (meants xss).length
noncomputable section
open Classical
def standE (V : Nat → List Int) (E : Nat → Int) (gen : Int) (at_ : Nat) : Int :=
  if E at_ ≠ 0 then E at_ else
  if beginsN (V at_) gen at_ = 0 then 4 else
  if badAt E at_ (beginsN (V at_) gen at_ - 1) 1 < beginsN (V at_) gen at_ then E (at_ + badAt E at_ (beginsN (V at_) gen at_ - 1) 1) else
  if StandsIn (secsAt V at_ (beginsN (V at_) gen at_)) then 0 else 4
def standR (V : Nat → List Int) (E : Nat → Int) (gen : Int) (at_ : Nat) : Nat :=
  if E at_ ≠ 0 then 1 else
  if beginsN (V at_) gen at_ = 0 then 1 else
  min (badAt E at_ (beginsN (V at_) gen at_ - 1) 1 + 1) (beginsN (V at_) gen at_)
def StandT {σ : Type} (R : (Nat → Prop) → σ → World → Prop) (nx : σ → Nat → σ) (X0 : Nat → Prop) (st : σ) (V : Nat → List Int) (E : Nat → Int) (gen : Int) (at_ : Nat) (w : World) (e : Ending) (w' : World) : Prop :=
  R X0 (stR nx st at_ (standR V E gen at_)) w' ∧ Kept X0 w w' ∧
  (standE V E gen at_ ≠ 0 → e = .returned (.tuple #[.agg #[.int .i64 0, .int .u32 0, .int .u32 0, .int .u64 0, .slice none 0 0, .slice none 0 0], .int .i64 0, .int .i64 (standE V E gen at_)])) ∧
  (standE V E gen at_ = 0 → ∃ xs : List Int, xs = meants (secsAt V at_ (beginsN (V at_) gen at_)) ∧ ∃ b1 b2, e = .returned (.tuple #[.agg #[.int .i64 (kindOf xs), .int .u32 (flagsOf xs), .int .u32 (expOf xs), .int .u64 (seqOf xs), .slice (some ⟨b1, 0, none⟩) (klenOf xs) (klenOf xs), .slice (some ⟨b2, 0, none⟩) (vlenOf xs) (vlenOf xs)], .int .i64 (beginsN (V at_) gen at_ : Nat), .int .i64 0]) ∧
    w.heap.size ≤ b1 ∧ w.heap.size ≤ b2 ∧ b1 ≠ b2 ∧ ArrU w' b1 (keyOf xs) ∧ ArrU w' b2 (valOf xs))
end
section
variable {V : Nat → List Int} {E : Nat → Int} {gen : Int} {at_ : Nat}
theorem stand_err (h : E at_ ≠ 0) : standE V E gen at_ = E at_ ∧ standR V E gen at_ = 1 := by
  unfold standE standR; rw [if_pos h, if_pos h]; exact ⟨rfl, rfl⟩
theorem stand_none (h : E at_ = 0) (h2 : beginsN (V at_) gen at_ = 0) : standE V E gen at_ = 4 ∧ standR V E gen at_ = 1 := by
  have hn : ¬ (E at_ ≠ 0) := fun k => k h
  unfold standE standR
  refine ⟨(if_neg hn).trans (if_pos h2), (if_neg hn).trans (if_pos h2)⟩
theorem stand_bad {k : Nat} (h : E at_ = 0) (h1 : 1 ≤ k) (h2 : k < beginsN (V at_) gen at_) (h3 : ∀ q, 1 ≤ q → q < k → E (at_ + q) = 0) (h4 : E (at_ + k) ≠ 0) : standE V E gen at_ = E (at_ + k) ∧ standR V E gen at_ = k + 1 := by
  have e := badAt_hit E at_ (beginsN (V at_) gen at_ - 1) 1 k h3 h1 (by omega) h4
  have hn : ¬ (E at_ ≠ 0) := fun k => k h
  have hb : ¬ (beginsN (V at_) gen at_ = 0) := by omega
  unfold standE standR
  rw [e]
  refine ⟨(if_neg hn).trans ((if_neg hb).trans (if_pos h2)), (if_neg hn).trans ((if_neg hb).trans ?_)⟩
  omega
theorem stand_all (h : E at_ = 0) (h2 : beginsN (V at_) gen at_ ≠ 0) (h3 : ∀ q, 1 ≤ q → q < beginsN (V at_) gen at_ → E (at_ + q) = 0) :
    (StandsIn (secsAt V at_ (beginsN (V at_) gen at_)) → standE V E gen at_ = 0) ∧ (¬ StandsIn (secsAt V at_ (beginsN (V at_) gen at_)) → standE V E gen at_ = 4) ∧ standR V E gen at_ = beginsN (V at_) gen at_ := by
  have e := badAt_done E at_ (beginsN (V at_) gen at_ - 1) 1 fun q h4 h5 => h3 q h4 (by omega)
  have hn : ¬ (E at_ ≠ 0) := fun k => k h
  have e2 : badAt E at_ (beginsN (V at_) gen at_ - 1) 1 = beginsN (V at_) gen at_ := by omega
  have hl : ¬ (beginsN (V at_) gen at_ < beginsN (V at_) gen at_) := Nat.lt_irrefl _
  unfold standE standR
  rw [e2]
  exact ⟨fun hs => (if_neg hn).trans ((if_neg h2).trans ((if_neg hl).trans (if_pos hs))), fun hs => (if_neg hn).trans ((if_neg h2).trans ((if_neg hl).trans (if_neg hs))), (if_neg hn).trans ((if_neg h2).trans (by omega))⟩
end
end Go.Proofs.YtodcohkblgjfeaaGreat

namespace Go.Proofs.YtodcohkblgjfeaaGreat
open Go.RowKit
set_option maxRecDepth 100000
set_option linter.unusedVariables false
set_option linter.unusedSimpArgs false
abbrev wkS : Sup := ⟨4, 24, 0, 0, 0, 0⟩
abbrev wkX : List Seg := List.replicate 4 seg0
def wkB : List Int := recB 1 0 0 1 [97] [120]
def wkK : Dk := layK (begK (bornK 4 24) wkS 0 0) (genS wkS) (openX wkX 1) 0 wkB
theorem wk_left : leftR 24 wkX < 1 := by decide +kernel
theorem wk_next : nxtR wkX = 0 := by decide +kernel
theorem wk_open : opnR wkX = -1 := by decide +kernel
theorem wk_sec : strV wkK (genS wkS) 0 1 = packL 1 1 wkB := by decide +kernel
theorem wk_begins : beginsN (packL 1 1 wkB) 1 1 = 1 := by decide +kernel
end Go.Proofs.YtodcohkblgjfeaaGreat

namespace Go.Proofs.YtodcohkblgjfeaaGreat
open Go.RowKit
attribute [local go_sem] Oper.semAt_some
set_option maxRecDepth 100000
set_option linter.unusedVariables false
set_option linter.unusedSimpArgs false
def usesB (xs : List Seg) (sg g sc : Int) : Bool := decide (0 ≤ sg ∧ sg < (xs.length : Nat)) && ((g == (xs.getD sg.toNat seg0).2.1) && (decide (1 ≤ sc) && decide (sc < (xs.getD sg.toNat seg0).2.2)))
section
variable {w : World} {X : Nat → Prop} {l p d n : Nat} {s : Sup} {t : Int} {k : Dk} {sec : Int} {A : Option Addr} {m c : Nat} {xs : List Seg} {br : Bool}
theorem uses_out {xs : List Seg} {sg g sc : Int} (h : ¬ (0 ≤ sg ∧ sg < (xs.length : Nat))) : usesB xs sg g sc = false := by
  unfold usesB; rw [decide_eq_false h]; rfl
theorem uses_in {xs : List Seg} {i : Nat} {g sc : Int} (h : i < xs.length) : usesB xs (i : Nat) g sc = ((g == (xs.getD i seg0).2.1) && (decide (1 ≤ sc) && decide (sc < (xs.getD i seg0).2.2))) := by
  unfold usesB; rw [decide_eq_true (by omega : 0 ≤ (i : Int) ∧ (i : Int) < (xs.length : Nat))]; rfl
set_option maxHeartbeats 4000000 in
theorem uses_any (h : LogM w X l p d n s t k sec A m c xs br) (hm : m ≤ 1000) (sg g sc : Int) :
    Calls Tryz.prog 65 #[.pointer (some ⟨l, 0, none⟩), .agg #[.int .i64 sg, .int .u64 g, .int .i64 sc]] w fun e w' => e = .returned (.bool (usesB xs sg g sc)) ∧ Below w.heap.size w w' := by
  obtain ⟨w1, hw1⟩ : ∃ w1, w1 = w.alloc (.cells #[.int .i64 sg, .int .u64 g, .int .i64 sc] 46) := ⟨_, rfl⟩
  have hb1 : Below w.heap.size w w1 := by rw [hw1]; exact (Below.refl _ w).alloc (Nat.le_refl _) _
  have HA := Lib.hid (show Blk w1 w.heap.size 46 #[.int .i64 sg, .int .u64 g, .int .i64 sc] by rw [hw1]; exact Blk.new w _ _)
  have hl1 := h.below hb1
  have HROW := Lib.hid hl1.now
  have hlen := hl1.now.1
  obtain ⟨l0, l1, l2, l3⟩ := log_cells hl1
  have a0 := HA.out.cell 0
  have a1 := HA.out.cell 1
  have a2 := HA.out.cell 2
  have HB1 := Lib.hid hb1
  have HW1 := Lib.hid hw1
  clear h hl1 hb1 hw1
  by_cases hin : 0 ≤ sg ∧ sg < (m : Nat)
  case neg =>
    have e := uses_out (xs := xs) (g := g) (sc := sc) (show ¬ (0 ≤ sg ∧ sg < (xs.length : Nat)) by rw [hlen]; exact hin)
    rw [e]
    clear e
    by_cases h0 : sg < 0
    · clear hin
      go_enter Tryz.func65, Tryz.ntmps65
      go_upto_region 1 with fail
      rw [← HW1.out]
      go_quiet (fail)
      go_wp2
      go_ret
      exact ⟨rfl, below_drewN HB1.out _⟩
    · have h1 : (m : Int) ≤ sg := by omega
      clear hin
      go_enter Tryz.func65, Tryz.ntmps65
      go_upto_region 1 with fail
      rw [← HW1.out]
      go_quiet (fail)
      go_wp2
      go_ret
      exact ⟨rfl, below_drewN HB1.out _⟩
  obtain ⟨i, rfl⟩ : ∃ i : Nat, sg = (i : Int) := ⟨sg.toNat, by omega⟩
  have him : i < m := by omega
  have e := uses_in (xs := xs) (i := i) (g := g) (sc := sc) (by rw [hlen]; exact him)
  rw [e]
  obtain ⟨b, off, rfl, _, hc⟩ := HROW.out.2 (by omega)
  have z0 := hc i him 0 _ rfl
  have z1 := hc i him 1 _ rfl
  have z2 := hc i him 2 _ rfl
  obtain ⟨⟨s0, s1, s2⟩, hs⟩ : ∃ s, xs.getD i seg0 = s := ⟨_, rfl⟩
  rw [hs] at z0 z1 z2 ⊢
  replace z0 : w1.cell? ⟨b, off + i * 3, none⟩ = some (.int .i64 s0) := z0
  replace z1 : w1.cell? ⟨b, off + i * 3 + 1, none⟩ = some (.int .u64 s1) := z1
  replace z2 : w1.cell? ⟨b, off + i * 3 + 2, none⟩ = some (.int .i64 s2) := z2
  have q0 : decide ((i : Int) < 0) = false := by simp
  have q1 : decide ((m : Int) ≤ (i : Int)) = false := by simp; omega
  have hz : ∀ (v : Nat) (q : Addr) (u : Value), w1.cell? q = some u → ((w1.drewN v).alloc (.cells #[.int .i64 0, .int .u64 0, .int .i64 0] 128)).cell? q = some u := fun v q u hq => by
    have hlt : q.block < w1.heap.size := by
      by_cases h : q.block < w1.heap.size
      · exact h
      · have : w1.heap[q.block]? = none := by simp; omega
        simp [World.cell?, this] at hq
    exact (World.cell?_alloc_lt (w1.drewN v) _ q (by simpa using hlt)).trans hq
  have y0 := fun v => hz v _ _ a0
  have y1 := fun v => hz v _ _ l2
  have y2 := fun v => hz v _ _ z0
  have y3 := fun v => hz v _ _ z1
  have y4 := fun v => hz v _ _ z2
  have hn : ∀ v, Blk ((w1.drewN v).alloc (.cells #[.int .i64 0, .int .u64 0, .int .i64 0] 128)) w1.heap.size 128 #[.int .i64 0, .int .u64 0, .int .i64 0] := fun v => Blk.new (w1.drewN v) _ _
  have n0 := fun v => (hn v).cell 0
  have n1 := fun v => (hn v).cell 1
  have n2 := fun v => (hn v).cell 2
  have f0 := fun v => (hn v).frozen 0
  have f1 := fun v => (hn v).frozen 1
  have f2 := fun v => (hn v).frozen 2
  simp only [List.getElem?_toArray, List.getElem?_cons_zero, List.getElem?_cons_succ] at n0 n1 n2
  have HN := Lib.hid hn
  clear hz hn
  clear hc hs e hin hlen HROW
  go_enter Tryz.func65, Tryz.ntmps65
  go_upto_region 1 with fail
  rw [← HW1.out]
  go_quiet (fail)
  go_upto_region 3 with fail
  go_region
  have HSG := Lib.hid ((HN.out (nq + 1)).set3 (.int .i64 s0) (.int .u64 s1) (.int .i64 s2))
  have HBZ := Lib.hid (((((below_drewN (Below.refl w1.heap.size w1) (nq + 1)).alloc (by simp) (.cells #[.int .i64 0, .int .u64 0, .int .i64 0] 128)).setCell (p := ⟨w1.heap.size, 0, none⟩) (Nat.le_refl _) (.int .i64 s0)).setCell (p := ⟨w1.heap.size, 1, none⟩) (Nat.le_refl _) (.int .u64 s1)).setCell (p := ⟨w1.heap.size, 2, none⟩) (Nat.le_refl _) (.int .i64 s2))
  generalize (((((w1.drewN (nq + 1)).alloc (.cells #[.int .i64 0, .int .u64 0, .int .i64 0] 128)).setCell ⟨w1.heap.size, 0, none⟩ (.int .i64 s0)).setCell ⟨w1.heap.size, 1, none⟩ (.int .u64 s1)).setCell ⟨w1.heap.size, 2, none⟩ (.int .i64 s2)) = wz at *
  have HAZ := HA.out.below HBZ.out HA.out.lt
  have p1 := HAZ.cell 1
  have p2 := HAZ.cell 2
  have r1 := HSG.out.cell 1
  have r2 := HSG.out.cell 2
  have HEND := Lib.hid (HB1.out.trans (HBZ.out.mono HB1.out.size))
  clear HAZ y0 y1 y2 y3 y4 n0 n1 n2 f0 f1 f2 z0 z1 z2 l0 l1 l2 l3 a0 a1 a2 HN HSG HBZ
  cases hb1 : (g == s1) <;> cases hb2 : decide (1 ≤ sc) <;> cases hb3 : decide (sc < s2)
  all_goals
    go_wp2
    go_ret
    exact ⟨by simp [hb1, hb2, hb3], HEND.out⟩
end
end Go.Proofs.YtodcohkblgjfeaaGreat

namespace Go.Proofs.YtodcohkblgjfeaaGreat
open Go.RowKit
set_option maxRecDepth 100000
set_option linter.unusedVariables false
set_option linter.unusedSimpArgs false
theorem wk_chain : Chain [packL 1 1 wkB] := by
  intro i hi
  obtain rfl : i = 0 := by simpa using hi
  exact ⟨by decide +kernel, fun h => absurd h (by decide)⟩
theorem wk_meants : meants [packL 1 1 wkB] = wkB := by decide +kernel
theorem wk_dec : DecOk wkB wkB.length := by
  refine ⟨by decide +kernel, ?_, by decide +kernel⟩
  unfold MayB May
  decide +kernel
theorem wk_need : needOf wkB = wkB.length := by decide +kernel
theorem wk_val : valOf wkB = [120] := by decide +kernel
theorem wk_vlen : vlenOf wkB = 1 := by decide +kernel
theorem wk_E : strE (genS wkS) 1 = 0 := by decide +kernel
theorem wk_stands : standE (strV wkK (genS wkS) 0) (strE (genS wkS)) 1 1 = 0 ∧ beginsN (strV wkK (genS wkS) 0 1) 1 1 = 1 := by
  have hb : beginsN (strV wkK (genS wkS) 0 1) 1 ((1 : Nat) : Int) = 1 := by rw [wk_sec]; exact wk_begins
  have h := stand_all (V := strV wkK (genS wkS) 0) (E := strE (genS wkS)) (gen := 1) (at_ := 1) wk_E (by rw [hb]; decide) (fun q h1 h2 => by rw [hb] at h2; omega)
  rw [hb] at h
  refine ⟨h.1 ?_, hb⟩
  have e : secsAt (strV wkK (genS wkS) 0) 1 1 = [packL 1 1 wkB] := by rw [secsAt_one, wk_sec]
  rw [e]
  exact ⟨wk_chain, by rw [wk_meants]; exact wk_dec, by rw [wk_meants]; exact wk_need⟩
theorem wk_uses : usesB (useX (openX wkX 1) (1 : Nat)) 0 1 1 = true := by decide +kernel
end Go.Proofs.YtodcohkblgjfeaaGreat
