/- The law's agree. MADE by mkagree.py. -/
import Derived.Test.YthegbimolbhikaaSame12
import Derived.Test.YthegbimolbhikaaTurnsW12
import Derived.Test.YthegbimolbhikaaR15
namespace Go.Proofs.Ythegbimolbhikaa
open Go.RowKit
attribute [local go_sem] Oper.semAt_some
set_option linter.unusedVariables false
set_option linter.unusedSimpArgs false
set_option maxRecDepth 100000
/-- Both kinds of lists, and the block of the document's. -/
structure AgS (w : World) (x p n : Nat) (A : Option Addr) (c : Nat) (ds : List RowD) (xs : List (List Nat)) (W : World) : Prop where
  blk : Blk W w.heap.size 31 #[.int .i64 (n : Nat), .slice A xs.length c]
  l : LrV W x p n xs
  r : RefX W (· < W.heap.size) A xs.length ds xs
  bel : Below w.heap.size w W
theorem AgS.new {w : World} {x p n c : Nat} {A : Option Addr} {ds : List RowD} {xs : List (List Nat)} (hl : LrV w x p n xs) (hx : RefX w (· < w.heap.size) A xs.length ds xs) :
    AgS w x p n A c ds xs (w.alloc (.cells #[.int .i64 (n : Nat), .slice A xs.length c] 31)) := by
  have hb := (Below.refl w.heap.size w).alloc (Nat.le_refl _) (.cells #[.int .i64 (n : Nat), .slice A xs.length c] 31)
  exact ⟨Blk.new w _ _, hl.below hb hl.lt.1 hl.lt.2, hx.size hb, hb⟩
theorem AgS.next {w W V : World} {x p n c : Nat} {A : Option Addr} {ds : List RowD} {xs : List (List Nat)} (h : AgS w x p n A c ds xs W) (hb : Below W.heap.size W V) : AgS w x p n A c ds xs V :=
  ⟨h.blk.below hb h.blk.lt, h.l.below hb h.l.lt.1 h.l.lt.2, h.r.size hb, h.bel.trans (hb.mono h.bel.size)⟩
theorem AgS.cells {w W : World} {x p n c : Nat} {A : Option Addr} {ds : List RowD} {xs : List (List Nat)} (h : AgS w x p n A c ds xs W) : W.cell? ⟨w.heap.size, 0, none⟩ = some (.int .i64 (n : Nat)) ∧ W.cell? ⟨w.heap.size, 1, none⟩ = some (.slice A xs.length c) :=
  ⟨h.blk.cell 0, h.blk.cell 1⟩
theorem wh_bad {n : Nat} {xs : List (List Nat)} {k : Int} (h : ¬ hasN n k) : outE n xs k = 2 ∧ whV n xs k = 0 := by
  have e : outE n xs k = 2 := by unfold outE; rw [if_pos h]
  exact ⟨e, by unfold whV; rw [e, if_neg (by decide)]⟩
theorem wh_none {n k : Nat} {xs : List (List Nat)} (h : k < n) (h0 : whX xs k = 0) : outE n xs (k : Int) = 4 ∧ whV n xs (k : Int) = 0 := by
  have e : outE n xs (k : Int) = 4 := by unfold outE; rw [if_neg (by have : hasN n (k : Int) := ⟨by omega, by omega⟩; simp [this]), Int.toNat_natCast, if_pos h0]
  exact ⟨e, by unfold whV; rw [e, if_neg (by decide)]⟩
theorem wh_some {n k wi : Nat} {xs : List (List Nat)} (h : k < n) (h0 : whX xs k = wi + 1) : outE n xs (k : Int) = 0 ∧ whV n xs (k : Int) = (wi : Nat) := by
  have e : outE n xs (k : Int) = 0 := by unfold outE; rw [if_neg (by have : hasN n (k : Int) := ⟨by omega, by omega⟩; simp [this]), Int.toNat_natCast, if_neg (by omega)]
  exact ⟨e, by unfold whV; rw [e, if_pos rfl, Int.toNat_natCast, h0]; omega⟩
set_option maxHeartbeats 8000000 in
theorem agree_low {x p n c : Nat} {A : Option Addr} {ds : List RowD} {xs : List (List Nat)} {w : World} (hl : LrV w x p n xs) (hx : RefX w (· < w.heap.size) A xs.length ds xs) (i k : Int) (hi : i < 0) :
    Calls Try.prog 19 #[.pointer (some ⟨x, 0, none⟩), refV n A xs.length c, .int .i64 i, .int .i64 k] w fun e w' => e = .returned (.bool true) ∧ Below w.heap.size w w' := by
  have hnums := hl.nums
  obtain ⟨-, hn2, -, hl2⟩ := hnums
  have HBIG := Lib.hid (fun j => Nat.le_trans (hl.len j) (show n ≤ 100000 by omega))
  have HLEN := Lib.hid (hl.ofLen i)
  have HS := Lib.hid (AgS.new (c := c) hl hx)
  obtain ⟨w1, hw1⟩ : ∃ w1, w1 = w.alloc (.cells #[.int .i64 (n : Nat), .slice A xs.length c] 31) := ⟨_, rfl⟩
  rw [← hw1] at HS
  have HOF := Lib.hid (fun (V : World) (hV : RefX V (· < V.heap.size) A xs.length ds xs) => of_ref (c := c) n i hV)
  have HTD := Lib.hid (fun (V : World) (hV : LrV V x p n xs) => told_lr hV i)
  have HLN := Lib.hid (fun (V : World) (hV : LrV V x p n xs) => len_any hV i)
  have HOL := Lib.hid (fun (V : World) (hV : LrV V x p n xs) => oldest_lr hV i)
  have HNE := Lib.hid (fun (V : World) (hV : LrV V x p n xs) => newest_lr hV i)
  have HWH := Lib.hid (fun (V : World) (hV : LrV V x p n xs) => where_any hV k)
  have HN1 := Lib.hid (fun (V : World) (A1 : Option Addr) (c1 : Nat) (hV : RowK12 V (· < V.heap.size) A1 (ofX xs i).length (ofX xs i)) => number_old (c := c1) i hV (by have := HLEN.out; omega))
  have HN2 := Lib.hid (fun (V : World) (A1 : Option Addr) (c1 : Nat) (hV : RowK12 V (· < V.heap.size) A1 (ofX xs i).length (ofX xs i)) => number_new (c := c1) i hV (by have := HLEN.out; omega))
  rw [decide_eq_false (show ¬ hasL xs i from fun h => by have := h.1; omega)] at HN1 HN2

  clear hl hx
  obtain ⟨L, hL⟩ : ∃ L, ofX xs i = L := ⟨_, rfl⟩
  obtain ⟨m, hm⟩ : ∃ m, L.length = m := ⟨_, rfl⟩
  obtain ⟨so, hso⟩ : ∃ v, someE xs i = v := ⟨_, rfl⟩
  obtain ⟨ov, hov⟩ : ∃ v, oldV xs i = v := ⟨_, rfl⟩
  obtain ⟨nv, hnv⟩ : ∃ v, newV xs i = v := ⟨_, rfl⟩
  rw [hso, hov] at HOL HN1
  rw [hso, hnv] at HNE HN2
  rw [hL, hm] at HN1 HN2 HOF HLN
  rw [hL, hm] at HLEN
  rw [hL] at HTD
  have hm6 : m ≤ 65536 := HLEN.out
  have HMM := Lib.hid hm
  clear hL hm hso hov hnv HLEN
  have hmm : ((m : Int) != (m : Int)) = false := by simp
  have k01 := HS.out.cells
  obtain ⟨k0, k1⟩ := k01
  go_enter Try.func19, Try.ntmps19
  go_upto_region 1 with fail
  rw [← hw1]
  clear hw1
  go_upto_region 2 with (go_at_call 39; refine (HOF.out _ HS.out.r).mono ?_; rintro e v ⟨⟨A1, c1, rfl, hr⟩, hb⟩; have HR := Lib.hid hr; have HS := Lib.hid (HS.out.next hb); obtain ⟨k0, k1⟩ := HS.out.cells; clear hb hr)
  go_upto_region 3 with (go_at_call 26; refine (HTD.out _ HS.out.l).mono ?_; rintro e v2 ⟨v0, rfl, hv, hb⟩; obtain ⟨A5, c5, e5, _, _, hr5⟩ := rowG_own (mk := mkN) 0 hv; subst e5; rw [HMM.out] at hr5 ⊢; have HR5 := Lib.hid (hr5.more (T := fun b => b < v2.heap.size) (fun b hb => hb.2.1)); have HR := Lib.hid ((HR.out.below hb (fun b h => h)).more (T := fun b => b < v2.heap.size) (fun b h => Nat.lt_of_lt_of_le h hb.size)); have HS := Lib.hid (HS.out.next hb); obtain ⟨k0, k1⟩ := HS.out.cells; clear hb hv hr5)
  go_upto_region 10 with (first | (go_at_call 40; refine (same_any12 HR5.out HR.out (by omega)).mono ?_; rintro e v3 ⟨rfl, hb⟩; have HR := Lib.hid ((HR.out.below hb (fun b h => h)).more (T := fun b => b < v3.heap.size) (fun b h => Nat.lt_of_lt_of_le h hb.size)); have HS := Lib.hid (HS.out.next hb); obtain ⟨k0, k1⟩ := HS.out.cells; clear hb HR5) | (go_at_call 21; refine (HLN.out _ HS.out.l).mono ?_; rintro e v ⟨rfl, rfl⟩) | (go_at_call 23; refine (HOL.out _ HS.out.l).mono ?_; rintro e v ⟨rfl, rfl⟩) | (go_at_call 24; refine (HNE.out _ HS.out.l).mono ?_; rintro e v ⟨rfl, rfl⟩) | (go_at_call 41; (with_reducible refine (HN1.out _ _ _ HR.out).mono ?_); rintro e v ⟨rfl, rfl⟩) | (go_at_call 41; (with_reducible refine (HN2.out _ _ _ HR.out).mono ?_); rintro e v ⟨rfl, rfl⟩))
  by_cases hk : hasN n k
  · obtain ⟨k, rfl⟩ : ∃ m : Nat, k = (m : Int) := ⟨k.toNat, by have := hk.1; omega⟩
    have hkn : k < n := by have := hk.2; omega
    have r1 : decide ((k : Int) < 0) = false := by simp
    have r2 : decide ((n : Int) ≤ (k : Int)) = false := by simp; omega
    have HRW := Lib.hid (fun (V : World) (hV : RefX V (· < V.heap.size) A xs.length ds xs) => rwhere_any (c := c) n k hV (fun b h => h) hl2 HBIG.out)
    by_cases h0 : whX xs k = 0
    · obtain ⟨e1, e2⟩ := wh_none hkn h0
      rw [e1, e2] at HWH
      rw [h0] at HRW
      clear e1 e2 h0 hk
      go_wp2_with (first | (go_at_call 25; refine (HWH.out _ HS.out.l).mono ?_; rintro e v ⟨rfl, rfl⟩) | (go_at_call 35; refine (HRW.out _ HS.out.r).mono ?_; rintro e v ⟨rfl, hb⟩; have HS := Lib.hid (HS.out.next hb); obtain ⟨k0, k1⟩ := HS.out.cells; clear hb))
      go_ret
      exact ⟨rfl, HS.out.bel⟩
    · obtain ⟨wi, hwi⟩ : ∃ v, whX xs k = v + 1 := ⟨whX xs k - 1, by omega⟩
      obtain ⟨e1, e2⟩ := wh_some hkn hwi
      have hw64 : wi < 64 := by have h1 := (whX_some (xs := xs) (x := k) h0).1; omega
      rw [e1, e2] at HWH
      rw [hwi, show ((wi + 1 : Nat) : Int) - 1 = (wi : Int) by omega] at HRW
      have r3 : decide ((wi : Int) < 0) = false := by simp
      have r4 : ((wi : Int) == (wi : Int)) = true := by simp
      clear e1 e2 h0 hwi hk
      go_wp2_with (first | (go_at_call 25; refine (HWH.out _ HS.out.l).mono ?_; rintro e v ⟨rfl, rfl⟩) | (go_at_call 35; refine (HRW.out _ HS.out.r).mono ?_; rintro e v ⟨rfl, hb⟩; have HS := Lib.hid (HS.out.next hb); obtain ⟨k0, k1⟩ := HS.out.cells; clear hb))
      go_ret
      exact ⟨rfl, HS.out.bel⟩
  · obtain ⟨e1, e2⟩ := wh_bad (xs := xs) hk
    rw [e1, e2] at HWH
    clear e1 e2
    by_cases hk0 : k < 0
    · go_wp2_with (go_at_call 25; refine (HWH.out _ HS.out.l).mono ?_; rintro e v ⟨rfl, rfl⟩)
      go_ret
      exact ⟨rfl, HS.out.bel⟩
    · have hkn : (n : Int) ≤ k := by unfold hasN at hk; omega
      clear hk
      go_wp2_with (go_at_call 25; refine (HWH.out _ HS.out.l).mono ?_; rintro e v ⟨rfl, rfl⟩)
      go_ret
      exact ⟨rfl, HS.out.bel⟩
set_option maxHeartbeats 8000000 in
theorem agree_high {x p n c : Nat} {A : Option Addr} {ds : List RowD} {xs : List (List Nat)} {w : World} (hl : LrV w x p n xs) (hx : RefX w (· < w.heap.size) A xs.length ds xs) (i k : Int) (hi : (xs.length : Int) ≤ i) :
    Calls Try.prog 19 #[.pointer (some ⟨x, 0, none⟩), refV n A xs.length c, .int .i64 i, .int .i64 k] w fun e w' => e = .returned (.bool true) ∧ Below w.heap.size w w' := by
  have hnums := hl.nums
  obtain ⟨-, hn2, -, hl2⟩ := hnums
  have HBIG := Lib.hid (fun j => Nat.le_trans (hl.len j) (show n ≤ 100000 by omega))
  have HLEN := Lib.hid (hl.ofLen i)
  have HS := Lib.hid (AgS.new (c := c) hl hx)
  obtain ⟨w1, hw1⟩ : ∃ w1, w1 = w.alloc (.cells #[.int .i64 (n : Nat), .slice A xs.length c] 31) := ⟨_, rfl⟩
  rw [← hw1] at HS
  have HOF := Lib.hid (fun (V : World) (hV : RefX V (· < V.heap.size) A xs.length ds xs) => of_ref (c := c) n i hV)
  have HTD := Lib.hid (fun (V : World) (hV : LrV V x p n xs) => told_lr hV i)
  have HLN := Lib.hid (fun (V : World) (hV : LrV V x p n xs) => len_any hV i)
  have HOL := Lib.hid (fun (V : World) (hV : LrV V x p n xs) => oldest_lr hV i)
  have HNE := Lib.hid (fun (V : World) (hV : LrV V x p n xs) => newest_lr hV i)
  have HWH := Lib.hid (fun (V : World) (hV : LrV V x p n xs) => where_any hV k)
  have HN1 := Lib.hid (fun (V : World) (A1 : Option Addr) (c1 : Nat) (hV : RowK12 V (· < V.heap.size) A1 (ofX xs i).length (ofX xs i)) => number_old (c := c1) i hV (by have := HLEN.out; omega))
  have HN2 := Lib.hid (fun (V : World) (A1 : Option Addr) (c1 : Nat) (hV : RowK12 V (· < V.heap.size) A1 (ofX xs i).length (ofX xs i)) => number_new (c := c1) i hV (by have := HLEN.out; omega))
  rw [decide_eq_false (show ¬ hasL xs i from fun h => by have := h.2; omega)] at HN1 HN2
  have hi0 : 0 ≤ i := by omega
  have q9 : decide (i < (xs.length : Nat)) = false := by simp; omega

  clear hl hx
  obtain ⟨L, hL⟩ : ∃ L, ofX xs i = L := ⟨_, rfl⟩
  obtain ⟨m, hm⟩ : ∃ m, L.length = m := ⟨_, rfl⟩
  obtain ⟨so, hso⟩ : ∃ v, someE xs i = v := ⟨_, rfl⟩
  obtain ⟨ov, hov⟩ : ∃ v, oldV xs i = v := ⟨_, rfl⟩
  obtain ⟨nv, hnv⟩ : ∃ v, newV xs i = v := ⟨_, rfl⟩
  rw [hso, hov] at HOL HN1
  rw [hso, hnv] at HNE HN2
  rw [hL, hm] at HN1 HN2 HOF HLN
  rw [hL, hm] at HLEN
  rw [hL] at HTD
  have hm6 : m ≤ 65536 := HLEN.out
  have HMM := Lib.hid hm
  clear hL hm hso hov hnv HLEN
  have hmm : ((m : Int) != (m : Int)) = false := by simp
  have k01 := HS.out.cells
  obtain ⟨k0, k1⟩ := k01
  go_enter Try.func19, Try.ntmps19
  go_upto_region 1 with fail
  rw [← hw1]
  clear hw1
  go_upto_region 2 with (go_at_call 39; refine (HOF.out _ HS.out.r).mono ?_; rintro e v ⟨⟨A1, c1, rfl, hr⟩, hb⟩; have HR := Lib.hid hr; have HS := Lib.hid (HS.out.next hb); obtain ⟨k0, k1⟩ := HS.out.cells; clear hb hr)
  go_upto_region 3 with (go_at_call 26; refine (HTD.out _ HS.out.l).mono ?_; rintro e v2 ⟨v0, rfl, hv, hb⟩; obtain ⟨A5, c5, e5, _, _, hr5⟩ := rowG_own (mk := mkN) 0 hv; subst e5; rw [HMM.out] at hr5 ⊢; have HR5 := Lib.hid (hr5.more (T := fun b => b < v2.heap.size) (fun b hb => hb.2.1)); have HR := Lib.hid ((HR.out.below hb (fun b h => h)).more (T := fun b => b < v2.heap.size) (fun b h => Nat.lt_of_lt_of_le h hb.size)); have HS := Lib.hid (HS.out.next hb); obtain ⟨k0, k1⟩ := HS.out.cells; clear hb hv hr5)
  go_upto_region 10 with (first | (go_at_call 40; refine (same_any12 HR5.out HR.out (by omega)).mono ?_; rintro e v3 ⟨rfl, hb⟩; have HR := Lib.hid ((HR.out.below hb (fun b h => h)).more (T := fun b => b < v3.heap.size) (fun b h => Nat.lt_of_lt_of_le h hb.size)); have HS := Lib.hid (HS.out.next hb); obtain ⟨k0, k1⟩ := HS.out.cells; clear hb HR5) | (go_at_call 21; refine (HLN.out _ HS.out.l).mono ?_; rintro e v ⟨rfl, rfl⟩) | (go_at_call 23; refine (HOL.out _ HS.out.l).mono ?_; rintro e v ⟨rfl, rfl⟩) | (go_at_call 24; refine (HNE.out _ HS.out.l).mono ?_; rintro e v ⟨rfl, rfl⟩) | (go_at_call 41; (with_reducible refine (HN1.out _ _ _ HR.out).mono ?_); rintro e v ⟨rfl, rfl⟩) | (go_at_call 41; (with_reducible refine (HN2.out _ _ _ HR.out).mono ?_); rintro e v ⟨rfl, rfl⟩))
  by_cases hk : hasN n k
  · obtain ⟨k, rfl⟩ : ∃ m : Nat, k = (m : Int) := ⟨k.toNat, by have := hk.1; omega⟩
    have hkn : k < n := by have := hk.2; omega
    have r1 : decide ((k : Int) < 0) = false := by simp
    have r2 : decide ((n : Int) ≤ (k : Int)) = false := by simp; omega
    have HRW := Lib.hid (fun (V : World) (hV : RefX V (· < V.heap.size) A xs.length ds xs) => rwhere_any (c := c) n k hV (fun b h => h) hl2 HBIG.out)
    by_cases h0 : whX xs k = 0
    · obtain ⟨e1, e2⟩ := wh_none hkn h0
      rw [e1, e2] at HWH
      rw [h0] at HRW
      clear e1 e2 h0 hk
      go_wp2_with (first | (go_at_call 25; refine (HWH.out _ HS.out.l).mono ?_; rintro e v ⟨rfl, rfl⟩) | (go_at_call 35; refine (HRW.out _ HS.out.r).mono ?_; rintro e v ⟨rfl, hb⟩; have HS := Lib.hid (HS.out.next hb); obtain ⟨k0, k1⟩ := HS.out.cells; clear hb))
      go_ret
      exact ⟨rfl, HS.out.bel⟩
    · obtain ⟨wi, hwi⟩ : ∃ v, whX xs k = v + 1 := ⟨whX xs k - 1, by omega⟩
      obtain ⟨e1, e2⟩ := wh_some hkn hwi
      have hw64 : wi < 64 := by have h1 := (whX_some (xs := xs) (x := k) h0).1; omega
      rw [e1, e2] at HWH
      rw [hwi, show ((wi + 1 : Nat) : Int) - 1 = (wi : Int) by omega] at HRW
      have r3 : decide ((wi : Int) < 0) = false := by simp
      have r4 : ((wi : Int) == (wi : Int)) = true := by simp
      clear e1 e2 h0 hwi hk
      go_wp2_with (first | (go_at_call 25; refine (HWH.out _ HS.out.l).mono ?_; rintro e v ⟨rfl, rfl⟩) | (go_at_call 35; refine (HRW.out _ HS.out.r).mono ?_; rintro e v ⟨rfl, hb⟩; have HS := Lib.hid (HS.out.next hb); obtain ⟨k0, k1⟩ := HS.out.cells; clear hb))
      go_ret
      exact ⟨rfl, HS.out.bel⟩
  · obtain ⟨e1, e2⟩ := wh_bad (xs := xs) hk
    rw [e1, e2] at HWH
    clear e1 e2
    by_cases hk0 : k < 0
    · go_wp2_with (go_at_call 25; refine (HWH.out _ HS.out.l).mono ?_; rintro e v ⟨rfl, rfl⟩)
      go_ret
      exact ⟨rfl, HS.out.bel⟩
    · have hkn : (n : Int) ≤ k := by unfold hasN at hk; omega
      clear hk
      go_wp2_with (go_at_call 25; refine (HWH.out _ HS.out.l).mono ?_; rintro e v ⟨rfl, rfl⟩)
      go_ret
      exact ⟨rfl, HS.out.bel⟩
set_option maxHeartbeats 8000000 in
theorem agree_mid {x p n c : Nat} {A : Option Addr} {ds : List RowD} {xs : List (List Nat)} {w : World} (hl : LrV w x p n xs) (hx : RefX w (· < w.heap.size) A xs.length ds xs) (i k : Int) (hi : 0 ≤ i) (hi2 : i < (xs.length : Nat)) :
    Calls Try.prog 19 #[.pointer (some ⟨x, 0, none⟩), refV n A xs.length c, .int .i64 i, .int .i64 k] w fun e w' => e = .returned (.bool true) ∧ Below w.heap.size w w' := by
  have hnums := hl.nums
  obtain ⟨-, hn2, -, hl2⟩ := hnums
  have HBIG := Lib.hid (fun j => Nat.le_trans (hl.len j) (show n ≤ 100000 by omega))
  have HLEN := Lib.hid (hl.ofLen i)
  have HS := Lib.hid (AgS.new (c := c) hl hx)
  obtain ⟨w1, hw1⟩ : ∃ w1, w1 = w.alloc (.cells #[.int .i64 (n : Nat), .slice A xs.length c] 31) := ⟨_, rfl⟩
  rw [← hw1] at HS
  have HOF := Lib.hid (fun (V : World) (hV : RefX V (· < V.heap.size) A xs.length ds xs) => of_ref (c := c) n i hV)
  have HTD := Lib.hid (fun (V : World) (hV : LrV V x p n xs) => told_lr hV i)
  have HLN := Lib.hid (fun (V : World) (hV : LrV V x p n xs) => len_any hV i)
  have HOL := Lib.hid (fun (V : World) (hV : LrV V x p n xs) => oldest_lr hV i)
  have HNE := Lib.hid (fun (V : World) (hV : LrV V x p n xs) => newest_lr hV i)
  have HWH := Lib.hid (fun (V : World) (hV : LrV V x p n xs) => where_any hV k)
  have HN1 := Lib.hid (fun (V : World) (A1 : Option Addr) (c1 : Nat) (hV : RowK12 V (· < V.heap.size) A1 (ofX xs i).length (ofX xs i)) => number_old (c := c1) i hV (by have := HLEN.out; omega))
  have HN2 := Lib.hid (fun (V : World) (A1 : Option Addr) (c1 : Nat) (hV : RowK12 V (· < V.heap.size) A1 (ofX xs i).length (ofX xs i)) => number_new (c := c1) i hV (by have := HLEN.out; omega))
  rw [decide_eq_true (show hasL xs i from ⟨hi, hi2⟩)] at HN1 HN2
  have q9 : decide (i < (xs.length : Nat)) = true := by simp; omega

  clear hl hx
  obtain ⟨L, hL⟩ : ∃ L, ofX xs i = L := ⟨_, rfl⟩
  obtain ⟨m, hm⟩ : ∃ m, L.length = m := ⟨_, rfl⟩
  obtain ⟨so, hso⟩ : ∃ v, someE xs i = v := ⟨_, rfl⟩
  obtain ⟨ov, hov⟩ : ∃ v, oldV xs i = v := ⟨_, rfl⟩
  obtain ⟨nv, hnv⟩ : ∃ v, newV xs i = v := ⟨_, rfl⟩
  rw [hso, hov] at HOL HN1
  rw [hso, hnv] at HNE HN2
  rw [hL, hm] at HN1 HN2 HOF HLN
  rw [hL, hm] at HLEN
  rw [hL] at HTD
  have hm6 : m ≤ 65536 := HLEN.out
  have HMM := Lib.hid hm
  clear hL hm hso hov hnv HLEN
  have hmm : ((m : Int) != (m : Int)) = false := by simp
  have k01 := HS.out.cells
  obtain ⟨k0, k1⟩ := k01
  go_enter Try.func19, Try.ntmps19
  go_upto_region 1 with fail
  rw [← hw1]
  clear hw1
  go_upto_region 2 with (go_at_call 39; refine (HOF.out _ HS.out.r).mono ?_; rintro e v ⟨⟨A1, c1, rfl, hr⟩, hb⟩; have HR := Lib.hid hr; have HS := Lib.hid (HS.out.next hb); obtain ⟨k0, k1⟩ := HS.out.cells; clear hb hr)
  go_upto_region 3 with (go_at_call 26; refine (HTD.out _ HS.out.l).mono ?_; rintro e v2 ⟨v0, rfl, hv, hb⟩; obtain ⟨A5, c5, e5, _, _, hr5⟩ := rowG_own (mk := mkN) 0 hv; subst e5; rw [HMM.out] at hr5 ⊢; have HR5 := Lib.hid (hr5.more (T := fun b => b < v2.heap.size) (fun b hb => hb.2.1)); have HR := Lib.hid ((HR.out.below hb (fun b h => h)).more (T := fun b => b < v2.heap.size) (fun b h => Nat.lt_of_lt_of_le h hb.size)); have HS := Lib.hid (HS.out.next hb); obtain ⟨k0, k1⟩ := HS.out.cells; clear hb hv hr5)
  go_upto_region 10 with (first | (go_at_call 40; refine (same_any12 HR5.out HR.out (by omega)).mono ?_; rintro e v3 ⟨rfl, hb⟩; have HR := Lib.hid ((HR.out.below hb (fun b h => h)).more (T := fun b => b < v3.heap.size) (fun b h => Nat.lt_of_lt_of_le h hb.size)); have HS := Lib.hid (HS.out.next hb); obtain ⟨k0, k1⟩ := HS.out.cells; clear hb HR5) | (go_at_call 21; refine (HLN.out _ HS.out.l).mono ?_; rintro e v ⟨rfl, rfl⟩) | (go_at_call 23; refine (HOL.out _ HS.out.l).mono ?_; rintro e v ⟨rfl, rfl⟩) | (go_at_call 24; refine (HNE.out _ HS.out.l).mono ?_; rintro e v ⟨rfl, rfl⟩) | (go_at_call 41; (with_reducible refine (HN1.out _ _ _ HR.out).mono ?_); rintro e v ⟨rfl, rfl⟩) | (go_at_call 41; (with_reducible refine (HN2.out _ _ _ HR.out).mono ?_); rintro e v ⟨rfl, rfl⟩))
  by_cases hk : hasN n k
  · obtain ⟨k, rfl⟩ : ∃ m : Nat, k = (m : Int) := ⟨k.toNat, by have := hk.1; omega⟩
    have hkn : k < n := by have := hk.2; omega
    have r1 : decide ((k : Int) < 0) = false := by simp
    have r2 : decide ((n : Int) ≤ (k : Int)) = false := by simp; omega
    have HRW := Lib.hid (fun (V : World) (hV : RefX V (· < V.heap.size) A xs.length ds xs) => rwhere_any (c := c) n k hV (fun b h => h) hl2 HBIG.out)
    by_cases h0 : whX xs k = 0
    · obtain ⟨e1, e2⟩ := wh_none hkn h0
      rw [e1, e2] at HWH
      rw [h0] at HRW
      clear e1 e2 h0 hk
      go_wp2_with (first | (go_at_call 25; refine (HWH.out _ HS.out.l).mono ?_; rintro e v ⟨rfl, rfl⟩) | (go_at_call 35; refine (HRW.out _ HS.out.r).mono ?_; rintro e v ⟨rfl, hb⟩; have HS := Lib.hid (HS.out.next hb); obtain ⟨k0, k1⟩ := HS.out.cells; clear hb))
      go_ret
      exact ⟨rfl, HS.out.bel⟩
    · obtain ⟨wi, hwi⟩ : ∃ v, whX xs k = v + 1 := ⟨whX xs k - 1, by omega⟩
      obtain ⟨e1, e2⟩ := wh_some hkn hwi
      have hw64 : wi < 64 := by have h1 := (whX_some (xs := xs) (x := k) h0).1; omega
      rw [e1, e2] at HWH
      rw [hwi, show ((wi + 1 : Nat) : Int) - 1 = (wi : Int) by omega] at HRW
      have r3 : decide ((wi : Int) < 0) = false := by simp
      have r4 : ((wi : Int) == (wi : Int)) = true := by simp
      clear e1 e2 h0 hwi hk
      go_wp2_with (first | (go_at_call 25; refine (HWH.out _ HS.out.l).mono ?_; rintro e v ⟨rfl, rfl⟩) | (go_at_call 35; refine (HRW.out _ HS.out.r).mono ?_; rintro e v ⟨rfl, hb⟩; have HS := Lib.hid (HS.out.next hb); obtain ⟨k0, k1⟩ := HS.out.cells; clear hb))
      go_ret
      exact ⟨rfl, HS.out.bel⟩
  · obtain ⟨e1, e2⟩ := wh_bad (xs := xs) hk
    rw [e1, e2] at HWH
    clear e1 e2
    by_cases hk0 : k < 0
    · go_wp2_with (go_at_call 25; refine (HWH.out _ HS.out.l).mono ?_; rintro e v ⟨rfl, rfl⟩)
      go_ret
      exact ⟨rfl, HS.out.bel⟩
    · have hkn : (n : Int) ≤ k := by unfold hasN at hk; omega
      clear hk
      go_wp2_with (go_at_call 25; refine (HWH.out _ HS.out.l).mono ?_; rintro e v ⟨rfl, rfl⟩)
      go_ret
      exact ⟨rfl, HS.out.bel⟩
theorem agree_any {x p n c : Nat} {A : Option Addr} {ds : List RowD} {xs : List (List Nat)} {w : World} (hl : LrV w x p n xs) (hx : RefX w (· < w.heap.size) A xs.length ds xs) (i k : Int) :
    Calls Try.prog 19 #[.pointer (some ⟨x, 0, none⟩), refV n A xs.length c, .int .i64 i, .int .i64 k] w fun e w' => e = .returned (.bool true) ∧ Below w.heap.size w w' := by
  by_cases h1 : i < 0
  · exact agree_low hl hx i k h1
  · by_cases h2 : i < (xs.length : Nat)
    · exact agree_mid hl hx i k (by omega) h2
    · exact agree_high hl hx i k (by omega)
end Go.Proofs.Ythegbimolbhikaa
