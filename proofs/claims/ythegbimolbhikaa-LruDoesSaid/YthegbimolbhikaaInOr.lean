/- The iterators of package lru: inOrder's, All's. -/
import Derived.Test.YthegbimolbhikaaLrN
import Derived.Test.YthegbimolbhikaaRangeBy
import Derived.Test.YthegbimolbhikaaInRound
import Derived.Test.YthegbimolbhikaaOwn10
import Derived.Test.YthegbimolbhikaaOctet
import Derived.Shelf.Abstract
import Derived.Shelf.RegionOpen
import Derived.WalkKit
import Derived.OwnWalkIn
import Derived.TacticsInMore
import Derived.LoopNIn
import Derived.LoopIn
import Derived.Scope
import Derived.ControlIn
import Derived.Sort.QuietIn
namespace Go.Proofs.Ythegbimolbhikaa
open Go.RowKit Go.Shelf
attribute [local go_sem] Oper.semAt_some
set_option linter.unusedVariables false
set_option linter.unusedSimpArgs false
set_option maxRecDepth 100000

theorem grown_drewN (w : World) (n : Nat) : w.grownBy (w.drewN n) none := ⟨rfl, rfl, rfl, Nat.le_refl _, fun _ _ _ => rfl⟩
theorem ch_get {A B : Nat → Nat} : ∀ {ps : List Nat} {j : Nat}, Ch A B ps → j + 1 < ps.length → B (ps.getD j 0) = ps.getD (j + 1) 0
  | [], j, _, h => by simp at h
  | [_], j, _, h => by simp at h
  | u :: v :: t, 0, h, _ => by simpa using h.1
  | u :: v :: t, j + 1, h, hj => by
    have := ch_get (ps := v :: t) (j := j) h.2.2 (by simp at hj ⊢; omega)
    simpa using this
/-- The places that are gone through: the list's own one first and last. -/
theorem next_lr {w : World} {x p n : Nat} {xs : List (List Nat)} (h : LrV w x p n xs) {i j : Nat} (hi : i < xs.length) (hj : j ≤ (xs.getD i []).length) :
    (cir (n + i) (xs.getD i [])).getD j 0 < n + xs.length ∧ w.cell? ⟨p, aC ((cir (n + i) (xs.getD i [])).getD j 0) + 64, none⟩ = some (.int .i64 ((cir (n + i) (xs.getD i [])).getD (j + 1) 0 : Nat)) := by
  obtain ⟨A, B, C, len, hM, hR⟩ := h
  have hch := hR.ch i hi
  have hsm := hR.lt i
  generalize xs.getD i [] = L at *
  have hl : j + 1 < (cir (n + i) L).length := by simp only [cir, List.length_cons, List.length_append, List.length_nil]; omega
  have hg := ch_get hch (j := j) hl
  have hlt : (cir (n + i) L).getD j 0 < n + xs.length := by
    have hm : (cir (n + i) L).getD j 0 ∈ cir (n + i) L := by
      have hl2 : j < (cir (n + i) L).length := by omega
      have e : (cir (n + i) L).getD j 0 = (cir (n + i) L)[j] := by simp only [List.getD, List.getElem?_eq_getElem hl2, Option.getD_some]
      rw [e]
      exact List.getElem_mem hl2
    generalize (cir (n + i) L).getD j 0 = v at *
    simp only [cir, List.mem_cons, List.mem_append, List.not_mem_nil, or_false] at hm
    rcases hm with h | h | h
    · omega
    · have := hsm _ h; omega
    · omega
  exact ⟨hlt, by rw [← hg]; exact hM.cb hlt⟩
theorem end_lr {w : World} {x p n : Nat} {xs : List (List Nat)} (h : LrV w x p n xs) (i : Nat) (hi : i < xs.length) : Calls Try.prog 28 #[.pointer (some ⟨x, 0, none⟩), .int .i64 (i : Nat)] w fun e w' => e = .returned (.int .i64 ((n + i : Nat) : Int)) ∧ w' = w := by
  obtain ⟨A, B, C, len, hM, hR⟩ := h
  exact end_any hM i hi
theorem behind_lr {w : World} {x p n : Nat} {xs : List (List Nat)} (h : LrV w x p n xs) (a : Nat) (ha : a < n + xs.length) : Calls Try.prog 46 #[.pointer (some ⟨x, 0, none⟩), .int .i64 (a : Nat)] w fun e w' => e = .returned (.pointer (some ⟨p, aC a + 64, none⟩)) ∧ w' = w := by
  obtain ⟨A, B, C, len, hM, hR⟩ := h
  exact behind_any hM a ha
theorem hasList_lr {w : World} {x p n : Nat} {xs : List (List Nat)} (h : LrV w x p n xs) (i : Int) : Calls Try.prog 29 #[.pointer (some ⟨x, 0, none⟩), .int .i64 i] w fun e w' => e = .returned (.bool (decide (hasL xs i))) ∧ w' = w := by
  obtain ⟨A, B, C, len, hM, hR⟩ := h
  exact hasList_any hM i
theorem idx_l {L : List Nat} {e k : Nat} (hn : L.Nodup) (he : e ∉ L) (hk : k ≤ L.length) : L.idxOf ((L ++ [e]).getD k 0) = k := by
  by_cases h : k < L.length
  · simp [List.getD, List.getElem?_append_left h, List.getElem?_eq_getElem h, List.Nodup.idxOf_getElem hn]
  · obtain rfl : k = L.length := by omega
    simp [List.getD, List.idxOf_eq_length he]

set_option maxHeartbeats 4000000 in
theorem order_lr (n gx gi x p nn : Nat) (i : Int) (xs : List (List Nat)) (M : Nat → World → Prop) (hM : ∀ j V, M j V → Blk V gx 25 #[.pointer (some ⟨x, 0, none⟩)] ∧ Blk V gi 3 #[.int .i64 i] ∧ LrV V x p nn xs) :
    SeqM Fence.wide n Try.prog 47 #[.pointer (some ⟨gx, 0, none⟩), .pointer (some ⟨gi, 0, none⟩)] (fun j => #[.int .i64 ((ofX xs i).getD j 0 : Nat)]) (ofX xs i).length M := by
  intro l J Jx W hJ hJx hJM hY h0
  refine callsIn_of_wp Try.func47 rfl trivial ?_ rfl
  simp only [Try.ntmps47, List.size_toArray, List.length_cons, List.length_nil, Nat.reduceAdd, Nat.reduceSub, Array.replicate_succ, Array.replicate_zero, List.push_toArray, List.append_toArray, List.nil_append, List.cons_append]
  obtain ⟨b1, b2, hV⟩ := hM _ _ (hJM 0 W h0)
  have k1 := b1.cell 0
  have k2 := b2.cell 0
  have HH := Lib.hid (hasList_lr hV i)
  by_cases hi : hasL xs i
  · obtain ⟨i, rfl⟩ : ∃ m : Nat, i = (m : Int) := ⟨i.toNat, by have := hi.1; omega⟩
    have hi2 : i < xs.length := by have := hi.2; omega
    have eL : ofX xs (i : Int) = xs.getD i [] := by unfold ofX; rw [if_pos hi]; simp
    rw [eL] at hY ⊢
    rw [decide_eq_true hi] at HH
    have hnd := hV.nd i
    have hsm := fun (a : Nat) (ha : a ∈ xs.getD i []) => hV.small ha
    have hE := fun (V : World) (h : LrV V x p nn xs) => end_lr h i hi2
    have hB := fun (V : World) (a : Nat) (h : LrV V x p nn xs) (ha : a < nn + xs.length) => behind_lr h a ha
    have hnx := fun (V : World) (j : Nat) (h : LrV V x p nn xs) (hj : j ≤ (xs.getD i []).length) => next_lr h hi2 hj
    clear eL hi
    have hn0 := hnx W 0 hV (Nat.zero_le _)
    have he : nn + i ∉ xs.getD i [] := fun hm => by have := hsm _ hm; omega
    generalize xs.getD i [] = L at *
    obtain ⟨en, hen⟩ : ∃ en, nn + i = en := ⟨_, rfl⟩
    rw [hen] at he hn0
    simp only [hen] at hE hnx
    have HND := Lib.hid hnd
    have HE := Lib.hid hE
    have HB := Lib.hid hB
    have HNX := Lib.hid hnx
    have HNE := Lib.hid he
    have HV := Lib.hid hV
    obtain ⟨hn1, hn2⟩ := hn0
    have z0 : (cir en L).getD 0 0 = en := rfl
    have z1 : ∀ j, (cir en L).getD (j + 1) 0 = (L ++ [en]).getD j 0 := fun j => rfl
    rw [z0] at hn1 hn2
    rw [z1] at hn2
    have HZ := Lib.hid z1
    have HXD := Lib.hid (fun (m : Nat) => HV.out.drewN m)
    have HN1 := Lib.hid hn1
    have HSM := Lib.hid (fun (k : Nat) (hk : k < L.length) => (show (L ++ [en]).getD k 0 = L.getD k 0 ∧ L.getD k 0 ≠ en from ⟨by simp [List.getD, List.getElem?_append_left hk], fun e => he (by rw [← e]; simp [List.getD, List.getElem?_eq_getElem hk])⟩))
    have HLE := Lib.hid (show (L ++ [en]).getD L.length 0 = en by simp [List.getD])
    obtain ⟨s0, hs0⟩ : ∃ s0, (L ++ [en]).getD 0 0 = s0 := ⟨_, rfl⟩
    rw [hs0] at hn2
    have HS0 := Lib.hid hs0
    clear hnd hsm hE hB hnx he hV z0 z1 b1 b2 hen hn1 hs0
    gi_wp2
    refine ⟨trivial, (fun h => by cases h), (callsIn_wide.2 HH.out).mono ?_⟩
    rintro e w5 ⟨rfl, rfl⟩
    gi_wp2
    refine wpIn_wide.2 ?_
    go_quiet (first | (go_at_call 28; exact Calls.quiet_of_same (HE.out _ (HXD.out _))) | (go_at_call 46; exact Calls.quiet_of_same (HB.out _ _ (HXD.out _) HN1.out)))
    gi_wp2
    gi_loopw [4] (fun v wr => ∃ (k : Nat), v = .int .i64 ((L ++ [en]).getD k 0 : Nat) ∧ k ≤ L.length ∧ J k wr)
      (fun v _ => L.length - L.idxOf (intOf v).toNat)
    case atStart => exact ⟨0, by rw [HS0.out], Nat.zero_le _, hJ 0 _ _ none h0 (grown_drewN _ nq) (fun r e => by cases e)⟩
    case round =>
      obtain ⟨k, rfl, hk, hJk⟩ := hrel
      obtain ⟨b1, b2, hV⟩ := hM _ _ (hJM _ _ hJk)
      have k1 := b1.cell 0
      have k2 := b2.cell 0
      have HEK := Lib.hid (HE.out _ hV)
      have hid := idx_l HND.out HNE.out hk
      by_cases hs : k = L.length
      · obtain rfl := hs
        rw [HLE.out] at hid ⊢
        clear b1 b2 hV
        gi_wp2
        refine ⟨trivial, (fun h => by cases h), (callsIn_wide.2 HEK.out).mono ?_⟩
        rintro e w6 ⟨rfl, rfl⟩
        gi_wp2
        go_end0
        exact ⟨⟨_, rfl⟩, .inl hJk⟩
      · have hlt : k < L.length := by omega
        have hid2 := idx_l HND.out HNE.out (k := k + 1) (by omega)
        obtain ⟨e1, e2⟩ := HSM.out k hlt
        obtain ⟨fn, tmps, assign, body, hy, hR⟩ := hY k _ hlt hJk
        have hnxt := fun (V : World) (h : LrV V x p nn xs) => HNX.out V (k + 1) h (by omega)
        simp only [HZ.out] at hnxt
        rw [e1] at hid hnxt ⊢
        obtain ⟨v, hv⟩ : ∃ v, L.getD k 0 = v := ⟨_, rfl⟩
        obtain ⟨v2, hv2⟩ : ∃ v, (L ++ [en]).getD (k + 1) 0 = v := ⟨_, rfl⟩
        rw [hv] at e2 hid hnxt hy ⊢
        rw [hv2] at hid2 hnxt
        have HV2 := Lib.hid hv2
        have HNXT := Lib.hid hnxt
        have q1 : ((v : Int) != (en : Int)) = true := by simp; omega
        clear hv hv2 e1 e2 hnxt b1 b2 hV
        gi_wp2
        refine ⟨trivial, (fun h => by cases h), (callsIn_wide.2 HEK.out).mono ?_⟩
        rintro e w6 ⟨rfl, rfl⟩
        gi_wp2
        refine ⟨(fun h => by cases h), hR.mono ?_⟩
        rintro e V (⟨rfl, hJ2⟩ | ⟨rfl, hJ2⟩)
        · obtain ⟨b3, b4, hV3⟩ := hM _ _ (hJM _ _ hJ2)
          have k3 := b3.cell 0
          obtain ⟨n3, n4⟩ := HNXT.out _ hV3
          have HB3 := Lib.hid (HB.out _ _ hV3 n3)
          clear b3 b4 hV3 n3
          gi_wp2
          refine ⟨trivial, (fun h => by cases h), (callsIn_wide.2 HB3.out).mono ?_⟩
          rintro e w6 ⟨rfl, rfl⟩
          gi_wp2
          go_roundw
          case rel => exact ⟨k + 1, by rw [HV2.out], by omega, hJ2⟩
          case measure => show L.length - L.idxOf (Int.toNat (v2 : Int)) < L.length - L.idxOf (Int.toNat (v : Int)); rw [Int.toNat_natCast, Int.toNat_natCast, hid, hid2]; omega
        · gi_wp2
          exact ⟨rfl, _, results_none rfl _ _ _, ⟨_, rfl⟩, .inr ⟨k, hlt, hJ2⟩⟩
  · have eL : ofX xs i = [] := by unfold ofX; rw [if_neg hi]
    rw [eL] at hY ⊢
    rw [decide_eq_false hi] at HH
    clear b1 b2 hV
    gi_wp2
    refine ⟨trivial, (fun h => by cases h), (callsIn_wide.2 HH.out).mono ?_⟩
    rintro e w5 ⟨rfl, rfl⟩
    gi_wp2
    exact ⟨rfl, _, results_none rfl _ _ _, ⟨_, rfl⟩, .inl h0⟩
/-- Of a nil one: nothing. -/
theorem order_lr_nil (n gx gi : Nat) (i : Int) (encs : Nat → Array Value) (M : Nat → World → Prop) (hM : ∀ j V, M j V → Blk V gx 25 #[.pointer none] ∧ Blk V gi 3 #[.int .i64 i]) :
    SeqM Fence.wide n Try.prog 47 #[.pointer (some ⟨gx, 0, none⟩), .pointer (some ⟨gi, 0, none⟩)] encs 0 M := by
  intro l J Jx W hJ hJx hJM hY h0
  refine callsIn_of_wp Try.func47 rfl trivial ?_ rfl
  simp only [Try.ntmps47, List.size_toArray, List.length_cons, List.length_nil, Nat.reduceAdd, Nat.reduceSub, Array.replicate_succ, Array.replicate_zero, List.push_toArray, List.append_toArray, List.nil_append, List.cons_append]
  obtain ⟨b1, b2⟩ := hM _ _ (hJM 0 W h0)
  have k1 := b1.cell 0
  have k2 := b2.cell 0
  have HH := Lib.hid (hasList_nil W i)
  clear b1 b2
  gi_wp2
  refine ⟨trivial, (fun h => by cases h), (callsIn_wide.2 HH.out).mono ?_⟩
  rintro e w5 ⟨rfl, rfl⟩
  gi_wp2
  exact ⟨rfl, _, results_none rfl _ _ _, ⟨_, rfl⟩, .inl h0⟩
def Two12 (w : World) (gx gi : Nat) (w' : World) : Prop := w.heap.size ≤ gx ∧ w.heap.size ≤ gi ∧ gx < w'.heap.size ∧ gi < w'.heap.size
theorem inOrder_lr (A : Option Addr) (i : Int) (w : World) :
    Calls Try.prog 42 #[.pointer A, .int .i64 i] w fun e w' => ∃ gx gi, Two12 w gx gi w' ∧ e = .returned (.func (.func 47) #[] #[.pointer (some ⟨gx, 0, none⟩), .pointer (some ⟨gi, 0, none⟩)]) ∧
      Blk w' gx 25 #[.pointer A] ∧ Blk w' gi 3 #[.int .i64 i] ∧ Below w.heap.size w w' := by
  have HK := Lib.hid (show Blk ((w.alloc (.cells #[.pointer A] 25)).alloc (.cells #[.int .i64 i] 3)) w.heap.size 25 #[.pointer A] from (Blk.new w _ _).alloc _)
  have HI := Lib.hid (show Blk ((w.alloc (.cells #[.pointer A] 25)).alloc (.cells #[.int .i64 i] 3)) (w.heap.size + 1) 3 #[.int .i64 i] by have h := Blk.new (w.alloc (.cells #[.pointer A] 25)) 3 #[.int .i64 i]; simpa using h)
  go_enter Try.func42, Try.ntmps42
  go_wp2
  go_ret
  exact ⟨_, _, ⟨Nat.le_refl _, Nat.le_succ _, by simp; omega, by simp⟩, rfl, HK.out, HI.out, ((Below.refl _ w).alloc (Nat.le_refl _) _).alloc (by simp) _⟩
end Go.Proofs.Ythegbimolbhikaa
