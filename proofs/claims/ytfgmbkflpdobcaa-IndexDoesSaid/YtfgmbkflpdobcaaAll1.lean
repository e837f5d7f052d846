/- All's function: tells the entries that All has gathered. -/
import Derived.Test.YtfgmbkflpdobcaaAll
import Derived.Test.YtfgmbkflpdobcaaSameA
namespace Go.Proofs.Ytfgmbkflpdobcaa
open Go.RowKit Go.Shelf
attribute [local go_sem] Oper.semAt_some
set_option linter.unusedVariables false
set_option linter.unusedSimpArgs false
set_option maxRecDepth 100000 in
set_option maxHeartbeats 4000000 in
theorem all1_seq (n g1 g2 N : Nat) (A1 A2 : Option Addr) (c1 c2 : Nat) (fs : List Int) (ads : List Seg) (hN : N ≤ 1024) {S1 S2 : Nat → Prop}
    (M : Nat → World → Prop) (hM : ∀ i V, M i V → V.cell? ⟨g1, 0, none⟩ = some (.slice A1 N c1) ∧ V.cell? ⟨g2, 0, none⟩ = some (.slice A2 N c2) ∧ RowG (Value.int .u32) 0 V S1 A1 N fs ∧ RowZ V S2 A2 N ads) :
    SeqM Fence.wide n Try.prog 33 #[.pointer (some ⟨g1, 0, none⟩), .pointer (some ⟨g2, 0, none⟩)] (fun i => #[.int .u32 (fs.getD i 0), .agg (segC (ads.getD i seg0)).toArray]) N M := by
  intro l J Jx W hJ hJx hJM hY h0
  refine callsIn_of_wp Try.func33 rfl trivial ?_ rfl
  simp only [Try.ntmps33, List.size_toArray, List.length_cons, List.length_nil, Nat.reduceAdd, Nat.reduceSub, Array.replicate_succ, Array.replicate_zero, List.push_toArray, List.append_toArray, List.nil_append, List.cons_append]
  obtain ⟨k1, -⟩ := hM _ _ (hJM 0 W h0)
  gi_wp2
  gi_loopw [8] (fun i wr => ∃ j : Nat, i = .int .i64 j ∧ j ≤ N ∧ J j wr) (fun i _ => N - (intOf i).toNat)
  case atStart => exact ⟨0, rfl, Nat.zero_le _, h0⟩
  case round =>
    obtain ⟨j, rfl, hj, hJj⟩ := hrel
    obtain ⟨q1, q2, q3, q4⟩ := hM _ _ (hJM _ _ hJj)
    by_cases hjn : j < N
    · obtain ⟨b1, o1, rfl, _, hc1⟩ := q3.2 (by omega)
      have z0 := hc1 j hjn
      obtain ⟨b2, o2, rfl, z1, z2, z3⟩ := row_cells q4 hjn
      obtain ⟨fn, tmps, assign, body, hy, hR⟩ := hY j _ hjn hJj
      obtain ⟨⟨s0, s1, s2⟩, hs⟩ : ∃ s, ads.getD j seg0 = s := ⟨_, rfl⟩
      obtain ⟨fv, hfv⟩ : ∃ f, fs.getD j 0 = f := ⟨_, rfl⟩
      rw [hs] at z1 z2 z3 hy
      rw [hfv] at z0 hy
      clear q3 q4 hc1 hs hfv
      gi_wp2
      refine ⟨(fun h => by cases h), hR.mono ?_⟩
      rintro e V (⟨rfl, hJ2⟩ | ⟨rfl, hJ2⟩)
      · gi_wp2
        go_roundw
        case rel => exact ⟨j + 1, by simp, by omega, hJ2⟩
        case measure => show N - (Int.toNat ((j : Int) + 1)) < N - (Int.toNat (j : Int)); omega
      · gi_wp2
        exact ⟨rfl, _, results_none rfl _ _ _, ⟨_, rfl⟩, .inr ⟨j, hjn, hJ2⟩⟩
    · obtain rfl : j = N := by omega
      gi_wp2
      go_end0
      exact ⟨⟨_, rfl⟩, .inl hJj⟩
end Go.Proofs.Ytfgmbkflpdobcaa
