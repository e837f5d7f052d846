/- The iterator over the pages of a class. -/
import Derived.Test.YtgipkdkfecegkaaDoorTake
import Derived.Test.YtgipkdkfecegkaaDoorRangeBy
import Derived.OwnWalkIn
import Derived.TacticsInMore
import Derived.LoopNIn
import Derived.LoopIn
import Derived.Scope
import Derived.ControlIn
import Derived.Sort.QuietIn
namespace Go.Proofs.YtgipkdkfecegkaaDoor
open Go.RowKit Go.Shelf PgM
attribute [local go_sem] Oper.semAt_some
set_option linter.unusedVariables false
set_option linter.unusedSimpArgs false
def hasZ (c : Int) (p : Pg) : Bool := !(decide (p.2 = 0)) && decide ((p.1 : Int) = c)
theorem hasZ_nat (k : Nat) : hasZ (k : Int) = hasP k := by
  funext p
  unfold hasZ hasP
  congr 1
  by_cases h : p.1 = k
  · subst h; simp
  · rw [decide_eq_false h, decide_eq_false (by omega)]
theorem below_grown {w w' : World} (h : Below w.heap.size w w') : w.grownBy w' none := ⟨h.os, h.tape, h.output, h.size, fun k hk _ => h.block k hk⟩
set_option maxRecDepth 100000 in
set_option maxHeartbeats 4000000 in
theorem having_seq (n gx gc x g : Nat) (c : Int) (ps T : List Pg) (hl : ps.length ≤ 256) (hT : T = ps.filter (hasZ c))
    (M : Nat → World → Prop) (hM : ∀ i V, M i V → V.cell? ⟨gx, 0, none⟩ = some (.pointer (some ⟨x, 0, none⟩)) ∧ V.cell? ⟨gc, 0, none⟩ = some (.int .i64 c) ∧ (∃ cap, V.cell? ⟨x, 0, none⟩ = some (.slice (some ⟨g, 0, none⟩) ps.length cap)) ∧
      (∀ j, j < ps.length → V.cell? ⟨g, j * 2, none⟩ = some (.int .i64 ((ps.getD j pg0).1 : Nat)) ∧ V.cell? ⟨g, j * 2 + 1, none⟩ = some (.int .u32 ((ps.getD j pg0).2 : Nat)))) :
    SeqM Fence.wide n Tryd.prog 42 #[.pointer (some ⟨gx, 0, none⟩), .pointer (some ⟨gc, 0, none⟩)] (fun i => #[pgV (T.getD i pg0)]) T.length M := by
  intro l J Jx W hJ hJx hJM hY h0
  refine callsIn_of_wp Tryd.func42 rfl trivial ?_ rfl
  simp only [Tryd.ntmps42, List.size_toArray, List.length_cons, List.length_nil, Nat.reduceAdd, Nat.reduceSub, Array.replicate_succ, Array.replicate_zero, List.push_toArray, List.append_toArray, List.nil_append, List.cons_append]
  obtain ⟨k0, k1, ⟨cap, k2⟩, -⟩ := hM _ _ (hJM 0 W h0)
  obtain ⟨m, hm⟩ : ∃ m, ps.length = m := ⟨_, rfl⟩
  rw [hm] at k2 hl
  have HM := Lib.hid hm
  have HT := Lib.hid hT
  clear hm hT
  gi_wp2
  gi_loopw [13] (fun i wr => ∃ (j k : Nat), i = .int .i64 j ∧ j ≤ m ∧ k ≤ T.length ∧ T.drop k = (ps.drop j).filter (hasZ c) ∧ J k wr) (fun i _ => m - (intOf i).toNat)
  case atStart => exact ⟨0, 0, rfl, Nat.zero_le _, Nat.zero_le _, by rw [List.drop_zero, List.drop_zero]; exact HT.out, h0⟩
  case round =>
    obtain ⟨j, k, rfl, hj, hk, hd, hJk⟩ := hrel
    obtain ⟨q0, q1, -, q3⟩ := hM _ _ (hJM _ _ hJk)
    by_cases hjm : j < m
    · have hjl : j < ps.length := by rw [HM.out]; exact hjm
      obtain ⟨d0, d1⟩ := q3 j hjl
      have hdr : ps.drop j = ps.getD j pg0 :: ps.drop (j + 1) := by
        rw [List.drop_eq_getElem_cons hjl]
        simp [List.getD, List.getElem?_eq_getElem hjl]
      rw [hdr] at hd
      obtain ⟨⟨e0, e1⟩, hq⟩ : ∃ q, ps.getD j pg0 = q := ⟨_, rfl⟩
      rw [hq] at d0 d1 hd
      have hh := has_any c e0 e1
      have hb1 := (Below.refl wr.heap.size wr).alloc (Nat.le_refl _) (.cells (pgC (e0, e1)).toArray 60)
      have HK := Lib.hid (Blk.new wr 60 (pgC (e0, e1)).toArray)
      have HB1 := Lib.hid hb1
      have c2 := (hb1.cell (p := ⟨gc, 0, none⟩) (by
        rcases Nat.lt_or_ge gc wr.heap.size with h | h
        · exact h
        · simp [World.cell?, Array.getElem?_eq_none h] at q1)).trans q1
      cases hv : hasZ c (e0, e1) with
      | false =>
        rw [List.filter_cons_of_neg (by rw [hv]; decide)] at hd
        rw [show (!(decide (e1 = 0)) && decide ((e0 : Int) = c)) = false from hv] at hh
        have HD := Lib.hid hd
        have HH := Lib.hid hh
        clear hd hh hv hdr hq q3 q1 hb1
        gi_wp2
        refine ⟨trivial, (fun h => by cases h), (callsIn_wide.2 (HH.out _)).mono ?_⟩
        rintro e w2 ⟨rfl, hb2⟩
        have hJ2 := hJ k wr w2 none hJk (below_grown (HB1.out.trans (hb2.mono HB1.out.size))) (fun r e => by cases e)
        clear c2 d0 d1 q0
        gi_wp2
        refine ⟨(fun f h => by cases h), ?_⟩
        gi_wp2
        go_roundw
        case rel => exact ⟨j + 1, k, by simp, by omega, hk, HD.out, hJ2⟩
        case measure => show m - (Int.toNat ((j : Int) + 1)) < m - (Int.toNat (j : Int)); omega
      | true =>
        rw [List.filter_cons_of_pos (by rw [hv])] at hd
        rw [show (!(decide (e1 = 0)) && decide ((e0 : Int) = c)) = true from hv] at hh
        have hlt : k < T.length := by
          have := congrArg List.length hd
          simp at this
          omega
        have hTk : T.getD k pg0 = (e0, e1) := by
          rw [List.drop_eq_getElem_cons hlt] at hd
          have e := (List.cons.inj hd).1
          simp [List.getD, List.getElem?_eq_getElem hlt, e]
        have hd3 : T.drop (k + 1) = (ps.drop (j + 1)).filter (hasZ c) := by
          rw [List.drop_eq_getElem_cons hlt] at hd
          injection hd
        have HD := Lib.hid hd3
        have HH := Lib.hid hh
        clear hd hh hv hdr hq q3 q1 hb1 hd3
        gi_wp2
        refine ⟨trivial, (fun h => by cases h), (callsIn_wide.2 (HH.out _)).mono ?_⟩
        rintro e w2 ⟨rfl, hb2⟩
        have hJ2 := hJ k wr w2 none hJk (below_grown (HB1.out.trans (hb2.mono HB1.out.size))) (fun r e => by cases e)
        have hk2 := HK.out.below hb2 HK.out.lt
        have d20 := hk2.cell 0
        have d21 := hk2.cell 1
        obtain ⟨fn, tmps, assign, body, hy, hR⟩ := hY k w2 hlt hJ2
        rw [hTk] at hy
        clear c2 d0 d1 q0 hk2 hb2 hJ2
        gi_wp2
        refine ⟨(fun h => by cases h), hR.mono ?_⟩
        rintro e V (⟨rfl, hJ3⟩ | ⟨rfl, hJ3⟩)
        · gi_wp2
          go_roundw
          case rel => exact ⟨j + 1, k + 1, by simp, by omega, by omega, HD.out, hJ3⟩
          case measure => show m - (Int.toNat ((j : Int) + 1)) < m - (Int.toNat (j : Int)); omega
        · gi_wp2
          exact ⟨rfl, _, results_none rfl _ _ _, ⟨_, rfl⟩, .inr ⟨k, hlt, hJ3⟩⟩
    · obtain rfl : j = m := by omega
      have e : k = T.length := by
        have := congrArg List.length hd
        rw [show ps.drop j = [] from List.drop_eq_nil_of_le (by rw [HM.out]; exact Nat.le_refl _)] at this
        simp at this
        omega
      subst e
      clear q3
      gi_wp2
      go_end0
      exact ⟨⟨_, rfl⟩, .inl hJk⟩
end Go.Proofs.YtgipkdkfecegkaaDoor
