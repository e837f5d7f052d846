/- The iterators of package index. -/
import Derived.Test.YtfgmbkflpdobcaaIx2
import Derived.Test.YtfgmbkflpdobcaaLk
import Derived.Test.YtfgmbkflpdobcaaRangeBy
import Derived.Shelf.Abstract
import Derived.Shelf.RegionOpen
import Derived.WalkKit
import Derived.OwnWalkIn
import Derived.TacticsInMore
import Derived.LoopNIn
import Derived.LoopIn
import Derived.Scope
import Derived.ControlIn
import Derived.Sort.QuietIn
namespace Go.Proofs.Ytfgmbkflpdobcaa
open Go.RowKit Go.Shelf
attribute [local go_sem] Oper.semAt_some
set_option linter.unusedVariables false
set_option linter.unusedSimpArgs false

theorem grown_drewN (w : World) (n : Nat) : w.grownBy (w.drewN n) none := ⟨rfl, rfl, rfl, Nat.le_refl _, fun _ _ _ => rfl⟩
set_option maxRecDepth 100000 in
set_option maxHeartbeats 2000000 in
/-- having: of an index whose chain of the finger stands from cell 5127 + g on: those of that finger, one by one. -/
theorem having_seq (n gx gf x f g : Nat) (c : Nat → Int) (C T : List Nat) (hg : f % 1024 = g) (hC : Lk 4102 c (c (5127 + g)) C) (hT : T = C.filter (fun k => c (2 + k) = (f : Int)))
    (M : Nat → World → Prop) (hM : ∀ i V, M i V → IxM V x c ∧ V.cell? ⟨gx, 0, none⟩ = some (.pointer (some ⟨x, 0, none⟩)) ∧ V.cell? ⟨gf, 0, none⟩ = some (.int .u32 f)) :
    SeqM Fence.wide n Try.prog 36 #[.pointer (some ⟨gx, 0, none⟩), .pointer (some ⟨gf, 0, none⟩)] (fun i => #[.int .i64 (T.getD i 0)]) T.length M := by
  intro l J Jx W hJ hJx hJM hY h0
  have hg' : g < 1024 := by omega
  have HH := Lib.hid (fun (W : World) => by have := home_any f W; rw [hg] at this; exact this)
  refine callsIn_of_wp Try.func36 rfl trivial ?_ rfl
  simp only [Try.ntmps36, List.size_toArray, List.length_cons, List.length_nil, Nat.reduceAdd, Nat.reduceSub, Array.replicate_succ, Array.replicate_zero, List.push_toArray, List.append_toArray, List.nil_append, List.cons_append]
  obtain ⟨k0, k1, k2⟩ := hM _ _ (hJM 0 W h0)
  have HT := Lib.hid hT
  have HC := Lib.hid hC
  have HX0 := Lib.hid k0
  have hcc := k0.hi (i := 5127 + g) (by omega) (by omega)
  obtain ⟨s0, hs0⟩ : ∃ s0, c (5127 + g) = s0 := ⟨_, rfl⟩
  rw [hs0] at hcc
  have HS0 := Lib.hid hs0
  clear k0 hT hC hg hs0
  refine wpIn_wide.2 (wp_scope_straight ((wpIn_wide (n := n)).1 ?_))
  gi_wp2
  refine wpIn_label ?_
  gi_wp2
  refine wpIn_wide.2 ?_
  go_quiet ((go_at_call 37; exact Calls.quiet_of_same (HH.out _)))
  gi_wp2
  gi_loopw [4] (fun i wr => ∃ (s : Int) (r : List Nat) (k : Nat), i = .int .i64 s ∧ Lk 4102 c s r ∧ k ≤ T.length ∧ T.drop k = r.filter (fun k => c (2 + k) = (f : Int)) ∧ J k wr)
    (fun i _ => lenK 4102 c (intOf i))
  case atStart => exact ⟨s0, C, 0, rfl, by rw [← HS0.out]; exact HC.out, Nat.zero_le _, by rw [List.drop_zero]; exact HT.out, hJ 0 W _ none h0 (grown_drewN W nq) (fun r e => by cases e)⟩
  case round =>
    obtain ⟨s, r, k, rfl, hL, hk, hd, hJk⟩ := hrel
    have hlen := hL.len
    obtain ⟨q0, q1, q2⟩ := hM _ _ (hJM _ _ hJk)
    by_cases hs : s = 0
    · obtain rfl := hs
      obtain rfl := hL.zero
      have e : k = T.length := by
        have := congrArg List.length hd
        simp at this
        omega
      subst e
      clear hd hL
      gi_wp2
      rw [Exit.noGoto_normal]
      go_end0
      exact ⟨⟨_, rfl⟩, .inl hJk⟩
    · obtain ⟨k0, m, rfl, rfl, hk1, hk2, hL2⟩ := hL.next hs
      have hlen2 := hL2.len
      have a1 := q0.fing hk2
      have a2 := q0.hi (i := 4102 + k0) (by omega) (by omega)
      obtain ⟨s2, hs2⟩ : ∃ s2, c (4102 + k0) = s2 := ⟨_, rfl⟩
      rw [hs2] at a2 hL2 hlen2
      have HS2 := Lib.hid hs2
      clear hs2
      by_cases hv : c (2 + k0) = (f : Int)
      · rw [hv] at a1
        have hd2 : T.drop k = k0 :: m.filter (fun k => c (2 + k) = (f : Int)) := by rw [hd, List.filter_cons_of_pos (by simpa using hv)]
        have hlt : k < T.length := by
          have := congrArg List.length hd2
          simp at this
          omega
        have hT2 : T.getD k 0 = k0 := by
          rw [List.drop_eq_getElem_cons hlt] at hd2
          have e := (List.cons.inj hd2).1
          simp [List.getD, List.getElem?_eq_getElem hlt, e]
        have hd3 : T.drop (k + 1) = m.filter (fun k => c (2 + k) = (f : Int)) := by
          rw [List.drop_eq_getElem_cons hlt] at hd2
          injection hd2
        have HD := Lib.hid hd3
        clear hd hd2 hv hd3
        gi_wp2
        refine wpIn_wide.2 ?_
        go_quiet (fail)
        have hJk2 := hJ k wr _ none hJk (grown_drewN wr nq) (fun r e => by cases e)
        obtain ⟨fn, tmps, assign, body, hy, hR⟩ := hY k _ hlt hJk2
        rw [hT2] at hy
        clear hJk2
        gi_wp2
        refine ⟨(fun h => by cases h), hR.mono ?_⟩
        rintro e V (⟨rfl, hJ2⟩ | ⟨rfl, hJ2⟩)
        · obtain ⟨v0, v1, v2⟩ := hM _ _ (hJM _ _ hJ2)
          have b2 := v0.hi (i := 4102 + k0) (by omega) (by omega)
          rw [HS2.out] at b2
          gi_wp2
          go_roundw
          case rel => exact ⟨s2, m, k + 1, rfl, hL2, by omega, HD.out, hJ2⟩
          case measure => show lenK 4102 c s2 < lenK 4102 c (k0 : Int); rw [hlen2, hlen]; simp
        · gi_wp2
          rw [Exit.noGoto_normal]
          go_end0
          exact ⟨⟨_, rfl⟩, .inr ⟨k, hlt, hJ2⟩⟩
      · have hd2 : T.drop k = m.filter (fun k => c (2 + k) = (f : Int)) := by rw [hd, List.filter_cons_of_neg (by simpa using hv)]
        obtain ⟨v, hv2⟩ : ∃ v, c (2 + k0) = v := ⟨_, rfl⟩
        rw [hv2] at a1 hv
        have dv : (v != (f : Int)) = true := by simpa using hv
        have HD := Lib.hid hd2
        clear hd hd2 hv2
        gi_wp2
        refine wpIn_wide.2 ?_
        go_quiet (fail)
        have hJk2 := hJ k wr _ none hJk (grown_drewN wr nq) (fun r e => by cases e)
        gi_wp2
        go_roundw
        case rel => exact ⟨s2, m, k, rfl, hL2, hk, HD.out, hJk2⟩
        case measure => show lenK 4102 c s2 < lenK 4102 c (k0 : Int); rw [hlen2, hlen]; simp
end Go.Proofs.Ytfgmbkflpdobcaa
