/- Rings as data: the live segments stand side by side, whatever one does in order. -/
import Derived.Test.YtbnioceednkjcaaRoundR
import Derived.Test.YtbnioceednkjcaaOkB
namespace Go.Proofs.Ytbnioceednkjcaa
open Go.RowKit
set_option linter.unusedVariables false
set_option linter.unusedSimpArgs false

def posR (n s k : Nat) : Nat := if s + k < n then s + k else s + k - n
theorem pos_lt {n s k : Nat} (hs : s < n) (hk : k ≤ n) : posR n s k < n := by unfold posR; split <;> omega
theorem pos_inj {n s a b : Nat} (hs : s < n) (ha : a < n) (hb : b < n) (h : posR n s a = posR n s b) : a = b := by
  unfold posR at h
  split at h <;> split at h <;> omega
theorem pos_onto {n s j : Nat} (hs : s < n) (hj : j < n) : ∃ k, k < n ∧ posR n s k = j := by
  refine ⟨if s ≤ j then j - s else j + n - s, ?_, ?_⟩
  · split <;> omega
  · unfold posR
    split <;> split <;> omega
theorem pos_mod {n s k : Nat} (hs : s < n) (hk : k < n) : (s + k) % n = posR n s k := by
  unfold posR
  split
  case isTrue h => exact Nat.mod_eq_of_lt h
  case isFalse h => rw [Nat.mod_eq_sub_mod (by omega), Nat.mod_eq_of_lt (by omega)]
theorem pos_step {n s k : Nat} (hs : s < n) (hk : k < n) : (posR n s k + 1) % n = posR n s (k + 1) := by
  unfold posR
  by_cases h : s + k < n
  · rw [if_pos h]
    by_cases h2 : s + (k + 1) < n
    · rw [if_pos h2, Nat.mod_eq_of_lt (by omega)]; omega
    · rw [if_neg h2, show s + k + 1 = n by omega, Nat.mod_self]; omega
  · rw [if_neg h, if_neg (by omega), Nat.mod_eq_of_lt (by omega)]; omega

structure Arc (n : Nat) (xs : List Seg) (s c : Nat) : Prop where
  len : xs.length = n
  hs : s < n
  hc : c ≤ n
  live : ∀ k, k < n → (stG xs (posR n s k) ≠ 0 ↔ k < c)
  mids : ∀ k, k + 1 < c → stG xs (posR n s k) = 2
  rise : ∀ k, k + 1 < c → genG xs (posR n s k) < genG xs (posR n s (k + 1))
section
variable {n s c : Nat} {xs : List Seg} {sec : Int}
theorem Arc.rises (h : Arc n xs s c) (a : Nat) : ∀ d, a + d + 1 < c → genG xs (posR n s a) < genG xs (posR n s (a + d + 1))
  | 0, hd => h.rise a hd
  | d + 1, hd => Int.lt_trans (h.rises a d (by omega)) (h.rise (a + d + 1) (by omega))
theorem Arc.less (h : Arc n xs s c) {a b : Nat} (hab : a < b) (hb : b < c) : genG xs (posR n s a) < genG xs (posR n s b) := by
  have := h.rises a (b - a - 1) (by omega)
  rwa [show a + (b - a - 1) + 1 = b by omega] at this
theorem Arc.lat (h : Arc n xs s c) (h0 : 0 < c) : latR xs = (posR n s (c - 1) : Nat) := by
  have hc := h.hc
  rcases lat_or xs with ⟨_, hz⟩ | ⟨i, hi, e, hs, hm⟩
  · exact absurd (hz _ (by rw [h.len]; exact pos_lt h.hs (k := 0) (by omega))) ((h.live 0 (by omega)).2 h0)
  · rw [h.len] at hi
    obtain ⟨k, hk, rfl⟩ := pos_onto h.hs hi
    have hkc := (h.live k hk).1 hs
    by_cases he : k = c - 1
    · rw [e, he]
    · have h1 := h.less (a := k) (b := c - 1) (by omega) (by omega)
      have h2 := hm _ (by rw [h.len]; exact pos_lt h.hs (k := c - 1) (by omega)) ((h.live (c - 1) (by omega)).2 (by omega))
      omega
theorem Arc.lat0 (h : Arc n xs s 0) : latR xs = -1 ∧ ∀ j, j < n → stG xs j = 0 := by
  have hz : ∀ j, j < n → stG xs j = 0 := fun j hj => by
    obtain ⟨k, hk, rfl⟩ := pos_onto h.hs hj
    by_cases h0 : stG xs (posR n s k) = 0
    · exact h0
    · exact absurd ((h.live k hk).1 h0) (by omega)
  refine ⟨?_, hz⟩
  rcases lat_or xs with ⟨e, _⟩ | ⟨i, hi, e, hs, hm⟩
  · exact e
  · exact absurd (hz i (by rw [← h.len]; exact hi)) hs
theorem Arc.next (h : Arc n xs s c) (h0 : 0 < c) (hc : c < n) : nxtR xs = (posR n s c : Nat) := by
  have hl := h.lat h0
  have hf : stG xs (posR n s c) = 0 := by
    by_cases h0 : stG xs (posR n s c) = 0
    · exact h0
    · exact absurd ((h.live c hc).1 h0) (by omega)
  have hp : ((latR xs + 1 + ((0 : Nat) : Int)).toNat % xs.length) = posR n s c := by
    rw [hl, h.len, show ((posR n s (c - 1) : Nat) : Int) + 1 + ((0 : Nat) : Int) = ((posR n s (c - 1) + 1 : Nat) : Int) by omega, Int.toNat_natCast, pos_step h.hs (by omega), show c - 1 + 1 = c by omega]
  rcases nxt_or xs with ⟨_, hz⟩ | ⟨i, hi, e, hs, hq⟩
  · have := hz 0 (by rw [h.len]; omega)
    rw [hp] at this
    exact absurd hf this
  · rcases Nat.eq_zero_or_pos i with rfl | hi0
    · rw [e, hp]
    · have := hq 0 hi0
      rw [hp] at this
      exact absurd hf this
theorem Arc.next0 (h : Arc n xs s 0) : nxtR xs = 0 := by
  have hn := h.hs
  have hl := h.lat0
  have hp : ((latR xs + 1 + ((0 : Nat) : Int)).toNat % xs.length) = 0 := by rw [hl.1]; simp
  have hf := hl.2 0 (by omega)
  rcases nxt_or xs with ⟨_, hz⟩ | ⟨i, hi, e, hs, hq⟩
  · have := hz 0 (by rw [h.len]; omega)
    rw [hp] at this
    exact absurd hf this
  · rcases Nat.eq_zero_or_pos i with rfl | hi0
    · rw [e, hp]; rfl
    · have := hq 0 hi0
      rw [hp] at this
      exact absurd hf this
theorem st_set {i j : Nat} {x : Seg} (hi : i < xs.length) : stG (xs.set i x) j = if i = j then x.1 else stG xs j := by
  simp only [stG, getD_set xs i j x hi]; split <;> rfl
theorem gen_set {i j : Nat} {x : Seg} (hi : i < xs.length) : genG (xs.set i x) j = if i = j then x.2.1 else genG xs j := by
  simp only [genG, getD_set xs i j x hi]; split <;> rfl

theorem arc_new (n : Nat) (h : 0 < n) : Arc n (List.replicate n seg0) 0 0 := by
  have hz : ∀ j, stG (List.replicate n seg0) j = 0 := fun j => by
    simp [stG, List.getD, List.getElem?_replicate]
    split <;> rfl
  exact ⟨List.length_replicate, h, Nat.zero_le _, fun k _ => ⟨fun h => absurd (hz _) h, fun h => by omega⟩, fun k h => by omega, fun k h => by omega⟩
theorem arc_open (h : Arc n xs s c) {g : Int} (he : openE sec xs g = 0) : ∃ s' c', Arc n (openX xs g) s' c' := by
  obtain ⟨hk, hno, htop, i, hi, e, hfree⟩ := open_zero he
  rw [h.len] at hi
  have hi' : i < xs.length := by rw [h.len]; exact hi
  obtain ⟨k, hkn, hki⟩ := pos_onto h.hs hi
  have hcn : c < n := by
    by_cases hlt : k < c
    · exact absurd (show stG xs (posR n s k) = 0 by rw [hki]; exact hfree) ((h.live k hkn).2 hlt)
    · omega
  have hX : openX xs g = xs.set i (1, g, 1) := by unfold openX; rw [e, Int.toNat_natCast]
  rw [hX]
  rcases Nat.eq_zero_or_pos c with rfl | h0
  · have e0 := h.next0
    obtain rfl : i = 0 := by omega
    have hz := h.lat0.2
    refine ⟨0, 1, by rw [List.length_set]; exact h.len, by omega, by omega, fun q hq => ?_, fun q hq => by omega, fun q hq => by omega⟩
    rw [st_set hi', show posR n 0 q = q by unfold posR; rw [if_pos (by omega)]; omega]
    by_cases hq0 : q = 0
    · rw [if_pos hq0.symm]; exact ⟨fun _ => by omega, fun _ => (show (1 : Int) ≠ 0 by decide)⟩
    · rw [if_neg (fun e => hq0 e.symm)]; exact ⟨fun k => absurd (hz q hq) k, fun k => by omega⟩
  · have e1 := h.next h0 hcn
    obtain rfl : i = posR n s c := by omega
    have hl := h.lat h0
    have ht : genG xs (posR n s (c - 1)) < g := by
      unfold topG at htop
      rw [hl, if_neg (by omega), Int.toNat_natCast] at htop
      exact htop
    have hlast : stG xs (posR n s (c - 1)) = 2 := by
      have hp := pos_lt h.hs (k := c - 1) (by omega)
      have h1 := no_open hk hno (j := posR n s (c - 1)) (by rw [h.len]; exact hp)
      have h2 := (h.live (c - 1) (by omega)).2 (by omega)
      rcases (may_live (may_at hk.2.1 (by rw [h.len]; exact hp)) h2).1 with h3 | h3
      · exact absurd h3 h1
      · exact h3
    refine ⟨s, c + 1, by rw [List.length_set]; exact h.len, h.hs, by omega, fun q hq => ?_, fun q hq => ?_, fun q hq => ?_⟩
    · rw [st_set hi']
      by_cases hqc : q = c
      · subst hqc; rw [if_pos rfl]; exact ⟨fun _ => by omega, fun _ => (show (1 : Int) ≠ 0 by decide)⟩
      · rw [if_neg (fun e => hqc (pos_inj h.hs hcn hq e).symm), h.live q hq]; omega
    · rw [st_set hi', if_neg (fun e => by have := pos_inj h.hs hcn (by omega) e; omega)]
      by_cases hqc : q = c - 1
      · rw [hqc]; exact hlast
      · exact h.mids q (by omega)
    · rw [gen_set hi', gen_set hi', if_neg (fun e => by have := pos_inj h.hs hcn (by omega) e; omega)]
      by_cases hqc : q + 1 = c
      · rw [hqc, if_pos rfl, show q = c - 1 by omega]; exact ht
      · rw [if_neg (fun e => by have := pos_inj h.hs hcn (by omega) e; omega)]
        exact h.rise q (by omega)
/-- A live segment's state or sectors are turned, its generation stays; a sealed one stays sealed. -/
theorem arc_keep (h : Arc n xs s c) {i : Nat} (hi : i < xs.length) (x : Seg) (hx : x.1 ≠ 0) (h0 : stG xs i ≠ 0) (hg : x.2.1 = genG xs i) (h2 : stG xs i = 2 → x.1 = 2) : Arc n (xs.set i x) s c := by
  have hgen : ∀ j, genG (xs.set i x) j = genG xs j := fun j => by
    rw [gen_set hi]
    split
    case isTrue e => rw [← e]; exact hg
    case isFalse e => rfl
  refine ⟨by rw [List.length_set]; exact h.len, h.hs, h.hc, fun k hk => ?_, fun k hk => ?_, fun k hk => ?_⟩
  · rw [← h.live k hk, st_set hi]
    split
    case isTrue e => rw [← e]; exact ⟨fun _ => h0, fun _ => hx⟩
    case isFalse e => exact Iff.rfl
  · have h3 := h.mids k hk
    rw [st_set hi]
    split
    case isTrue e => rw [← e] at h3; exact h2 h3
    case isFalse e => exact h3
  · rw [hgen, hgen]
    exact h.rise k hk
theorem arc_use (h : Arc n xs s c) {v : Int} (he : useE sec xs v = 0) : Arc n (useX xs v) s c := by
  have hs : sealE sec xs = 0 := by
    by_cases h1 : sealE sec xs = 0
    · exact h1
    · rw [use_seal h1] at he; exact absurd he h1
  obtain ⟨hk, h1⟩ := seal_yes hs
  obtain ⟨i, hi, e, hst⟩ := opn_nat hk h1
  unfold useX
  rw [e, Int.toNat_natCast]
  exact arc_keep h hi _ (by show stG xs i ≠ 0; rw [hst]; decide) (by rw [hst]; decide) rfl (fun h => h)
theorem arc_seal (h : Arc n xs s c) (he : sealE sec xs = 0) : Arc n (sealX xs) s c := by
  obtain ⟨hk, h1⟩ := seal_yes he
  obtain ⟨i, hi, e, hst⟩ := opn_nat hk h1
  unfold sealX
  rw [e, Int.toNat_natCast]
  exact arc_keep h hi _ (show (2 : Int) ≠ 0 by decide) (by rw [hst]; decide) rfl (fun _ => rfl)
theorem Arc.old (h : Arc n xs s c) {o : Nat} (ho : oldR xs = o) : o = s ∧ 0 < c := by
  rcases old_or xs with ⟨e, _⟩ | ⟨i, hi, e, hst, hm⟩
  · omega
  · obtain rfl : o = i := by omega
    rw [h.len] at hi
    obtain ⟨k, hk, hki⟩ := pos_onto h.hs hi
    have hkc := (h.live k hk).1 (by rw [hki, hst]; decide)
    have hp0 : posR n s 0 = s := by unfold posR; rw [if_pos (by have := h.hs; omega)]; rfl
    refine ⟨?_, by omega⟩
    rcases Nat.eq_zero_or_pos k with rfl | hk0
    · omega
    · have h1 := h.less hk0 hkc
      have h2 := hm _ (by rw [h.len]; exact pos_lt h.hs (k := 0) (by omega)) (h.mids 0 (by omega))
      rw [hki] at h1
      omega
theorem arc_free (h : Arc n xs s c) {o : Nat} (ho : oldR xs = o) : ∃ s' c', Arc n (freeX xs o) s' c' := by
  obtain ⟨rfl, h0⟩ := h.old ho
  have hs := h.hs
  have hcn := h.hc
  have hi : o < xs.length := by rw [h.len]; exact h.hs
  have hp0 : posR n o 0 = o := by unfold posR; rw [if_pos (by omega)]; rfl
  have hn1 : 1 < n ∨ n = 1 := by omega
  have hsh : ∀ q, q < n → posR n (posR n o 1) q = if q + 1 < n then posR n o (q + 1) else o := fun q hq => by
    unfold posR
    split <;> split <;> (try split) <;> (try split) <;> omega
  refine ⟨posR n o 1, c - 1, by unfold freeX; rw [List.length_set]; exact h.len, pos_lt hs (by omega), by omega, fun q hq => ?_, fun q hq => ?_, fun q hq => ?_⟩
  · unfold freeX
    rw [Int.toNat_natCast, st_set hi, hsh q hq]
    by_cases hq1 : q + 1 < n
    · rw [if_pos hq1, if_neg (fun e => by have := pos_inj hs (by omega) hq1 (hp0.trans e); omega), h.live (q + 1) hq1]; omega
    · rw [if_neg hq1, if_pos rfl]; exact ⟨fun k => absurd rfl k, fun k => by omega⟩
  · unfold freeX
    rw [Int.toNat_natCast, st_set hi, (hsh q (by omega)).trans (if_pos (by omega)), if_neg (fun e => by have := pos_inj hs (by omega) (by omega) (hp0.trans e); omega)]
    exact h.mids (q + 1) (by omega)
  · unfold freeX
    rw [Int.toNat_natCast, gen_set hi, gen_set hi, (hsh q (by omega)).trans (if_pos (by omega)), (hsh (q + 1) (by omega)).trans (if_pos (by omega)), if_neg (fun e => by have := pos_inj hs (by omega) (by omega) (hp0.trans e); omega), if_neg (fun e => by have := pos_inj hs (by omega) (by omega) (hp0.trans e); omega)]
    exact h.rise (q + 1) (by omega)

def cntF (f : Nat → Nat) : Nat → Nat
  | 0 => 0
  | k + 1 => cntF f k + f k
theorem cnt_add (f : Nat → Nat) (a : Nat) : ∀ b, cntF f (a + b) = cntF f a + cntF (fun i => f (a + i)) b
  | 0 => rfl
  | b + 1 => by
    show cntF f (a + b) + f (a + b) = _
    rw [cnt_add f a b]
    show _ = cntF f a + (cntF (fun i => f (a + i)) b + f (a + b))
    omega
theorem cnt_congr {f g : Nat → Nat} : ∀ {m : Nat}, (∀ k, k < m → f k = g k) → cntF f m = cntF g m
  | 0, _ => rfl
  | m + 1, h => by
    show cntF f m + f m = cntF g m + g m
    rw [cnt_congr (fun k hk => h k (by omega)), h m (by omega)]
theorem cnt_rot (f : Nat → Nat) {n s : Nat} (hs : s < n) : cntF (fun k => f (posR n s k)) n = cntF f n := by
  have e1 : n = (n - s) + s := by omega
  have e2 : n = s + (n - s) := by omega
  have h1 : cntF (fun k => f (posR n s k)) ((n - s) + s) = cntF (fun k => f (posR n s k)) (n - s) + cntF (fun i => f (posR n s (n - s + i))) s := cnt_add _ _ _
  have h2 : cntF f (s + (n - s)) = cntF f s + cntF (fun i => f (s + i)) (n - s) := cnt_add _ _ _
  have h3 : cntF (fun k => f (posR n s k)) (n - s) = cntF (fun i => f (s + i)) (n - s) := cnt_congr fun k hk => by
    show f (posR n s k) = f (s + k)
    unfold posR; rw [if_pos (by omega)]
  have h4 : cntF (fun i => f (posR n s (n - s + i))) s = cntF f s := cnt_congr fun k hk => by
    show f (posR n s (n - s + k)) = f k
    unfold posR; rw [if_neg (by omega), show s + (n - s + k) - n = k by omega]
  rw [← e1] at h1
  rw [← e2] at h2
  omega
theorem cnt_le (f : Nat → Nat) (h1 : ∀ k, f k ≤ 1) {b : Nat} : ∀ m, (∀ k, b ≤ k → k < m → f k = 0) → cntF f m ≤ b
  | 0, _ => Nat.zero_le _
  | m + 1, h => by
    show cntF f m + f m ≤ b
    have ih := cnt_le f h1 m (fun k hb hk => h k hb (by omega))
    by_cases hb : b ≤ m
    · rw [h m hb (by omega)]; exact ih
    · have : ∀ m, cntF f m ≤ m := fun m => by
        induction m with
        | zero => exact Nat.le_refl _
        | succ m ih => show cntF f m + f m ≤ m + 1; have := h1 m; omega
      have h2 := this m
      have h3 := h1 m
      omega
theorem seal_cnt (xs : List Seg) : ∀ m, sealTo xs m = cntF (fun j => if stG xs j = 2 then 1 else 0) m
  | 0 => rfl
  | m + 1 => by
    show sealTo xs m + _ = cntF _ m + _
    rw [seal_cnt xs m]
theorem Arc.side (h : Arc n xs s c) (hk : OkR sec xs) {o : Nat} (ho : oldR xs = o) : SideBy xs n o (sealTo xs n) (fun k => if k = 0 then 0 else genG xs (posR n s (k - 1))) := by
  obtain ⟨rfl, h0⟩ := h.old ho
  have hsl := seal_le xs n
  refine ⟨rfl, fun k hkn => ?_⟩
  rw [pos_mod h.hs (by omega)]
  have h2 : stG xs (posR n o k) = 2 := by
    by_cases e : stG xs (posR n o k) = 2
    · exact e
    · exfalso
      have hle : sealTo xs n ≤ k := by
        rw [seal_cnt, ← cnt_rot _ h.hs]
        refine cnt_le _ (fun q => by split <;> omega) n (fun q hq hqn => ?_)
        rw [if_neg]
        intro h3
        have h4 := (h.live q hqn).1 (by rw [h3]; decide)
        by_cases e2 : q = k
        · rw [e2] at h3; exact e h3
        · exact e (h.mids k (by omega))
      omega
  have hkc := (h.live k (by omega)).1 (by rw [h2]; decide)
  refine ⟨h2, ?_, by simp⟩
  show (if k = 0 then (0 : Int) else genG xs (posR n o (k - 1))) < _
  by_cases e : k = 0
  · rw [if_pos e]
    have := (may_live (may_at hk.2.1 (i := posR n o k) (by rw [h.len]; exact pos_lt h.hs (by omega))) (by show stG xs _ ≠ 0; rw [h2]; decide)).2.1
    simp only [genG]
    omega
  · rw [if_neg e]
    exact h.less (a := k - 1) (b := k) (by omega) hkc
end
end Go.Proofs.Ytbnioceednkjcaa
