/- inOrder: the numbers of all entries, one by one, though the one that was told may be taken out meanwhile. -/
import Derived.Test.YtfgmbkflpdobcaaHaving
namespace Go.Proofs.Ytfgmbkflpdobcaa
open Go.RowKit Go.Shelf
attribute [local go_sem] Oper.semAt_some
set_option linter.unusedVariables false
set_option linter.unusedSimpArgs false
theorem idxD {L : List Nat} (hn : L.Nodup) (h0 : 0 ∉ L) {k : Nat} (hk : k ≤ L.length) : L.idxOf (L.getD k 0) = k := by
  by_cases h : k < L.length
  · simp [List.getD, List.getElem?_eq_getElem h, List.Nodup.idxOf_getElem hn]
  · obtain rfl : k = L.length := by omega
    simp [List.getD, List.idxOf_eq_length h0]
set_option maxRecDepth 100000 in
set_option maxHeartbeats 2000000 in
theorem order_seq (n gx x : Nat) (L : List Nat) (hn : L.Nodup) (hL : ∀ k ∈ L, 1 ≤ k ∧ k < 1025)
    (M : Nat → World → Prop) (hM : ∀ i V, M i V → V.cell? ⟨gx, 0, none⟩ = some (.pointer (some ⟨x, 0, none⟩)) ∧ (i < L.length → V.cell? ⟨x, 6152 + L.getD i 0, none⟩ = some (.int .i64 (L.getD (i + 1) 0 : Nat))))
    (hM0 : ∀ V, M 0 V → V.cell? ⟨x, 6152, none⟩ = some (.int .i64 (L.getD 0 0 : Nat))) :
    SeqM Fence.wide n Try.prog 38 #[.pointer (some ⟨gx, 0, none⟩)] (fun i => #[.int .i64 (L.getD i 0 : Nat)]) L.length M := by
  intro l J Jx W hJ hJx hJM hY h0
  have h00 : 0 ∉ L := fun h => by have := hL 0 h; omega
  refine callsIn_of_wp Try.func38 rfl trivial ?_ rfl
  simp only [Try.ntmps38, List.size_toArray, List.length_cons, List.length_nil, Nat.reduceAdd, Nat.reduceSub, Array.replicate_succ, Array.replicate_zero, List.push_toArray, List.append_toArray, List.nil_append, List.cons_append]
  obtain ⟨k1, -⟩ := hM _ _ (hJM 0 W h0)
  have k2 := hM0 _ (hJM 0 W h0)
  gi_wp2
  gi_loopw [3, 4] (fun i j wr => ∃ (k : Nat) , i = .int .i64 (L.getD k 0 : Nat) ∧ k ≤ L.length ∧ J k wr)
    (fun i _ _ => L.length - L.idxOf (intOf i).toNat)
  case atStart => exact ⟨0, rfl, Nat.zero_le _, h0⟩
  case round =>
    obtain ⟨k, rfl, hk, hJk⟩ := hrel
    have hid := idxD hn h00 hk
    obtain ⟨q1, q2⟩ := hM _ _ (hJM _ _ hJk)
    by_cases hs : k = L.length
    · obtain rfl := hs
      have e : L.getD L.length 0 = 0 := by simp [List.getD]
      rw [e] at hid ⊢
      gi_wp2
      go_end0
      exact ⟨⟨_, rfl⟩, .inl hJk⟩
    · have hlt : k < L.length := by omega
      have q3 := q2 hlt
      have hid2 := idxD hn h00 (k := k + 1) (by omega)
      have hm : L.getD k 0 ∈ L := by simp [List.getD, List.getElem?_eq_getElem hlt]
      obtain ⟨b1, b2⟩ := hL _ hm
      obtain ⟨v, hv⟩ : ∃ v, L.getD k 0 = v := ⟨_, rfl⟩
      obtain ⟨v', hv'⟩ : ∃ v, L.getD (k + 1) 0 = v := ⟨_, rfl⟩
      rw [hv] at hid q3 b1 b2 ⊢
      rw [hv'] at hid2 q3
      obtain ⟨fn, tmps, assign, body, hy, hR⟩ := hY k _ hlt hJk
      rw [hv] at hy
      have HV' := Lib.hid hv'
      clear hv hv'
      gi_wp2
      refine ⟨(fun h => by cases h), hR.mono ?_⟩
      rintro e V (⟨rfl, hJ2⟩ | ⟨rfl, hJ2⟩)
      · gi_wp2
        go_roundw
        case rel => exact ⟨k + 1, by rw [HV'.out], by omega, hJ2⟩
        case measure => show L.length - L.idxOf (Int.toNat (v' : Int)) < L.length - L.idxOf (Int.toNat (v : Int)); rw [Int.toNat_natCast, Int.toNat_natCast, hid, hid2]; omega
      · gi_wp2
        exact ⟨rfl, _, results_none rfl _ _ _, ⟨_, rfl⟩, .inr ⟨k, hlt, hJ2⟩⟩
/-- Of a nil one: nothing. -/
theorem order_seq_nil (n gx : Nat) (M : Nat → World → Prop) (hM : ∀ i V, M i V → V.cell? ⟨gx, 0, none⟩ = some (.pointer none)) (encs : Nat → Array Value) :
    SeqM Fence.wide n Try.prog 38 #[.pointer (some ⟨gx, 0, none⟩)] encs 0 M := by
  intro l J Jx W hJ hJx hJM hY h0
  refine callsIn_of_wp Try.func38 rfl trivial ?_ rfl
  simp only [Try.ntmps38, List.size_toArray, List.length_cons, List.length_nil, Nat.reduceAdd, Nat.reduceSub, Array.replicate_succ, Array.replicate_zero, List.push_toArray, List.append_toArray, List.nil_append, List.cons_append]
  have k1 := hM _ _ (hJM 0 W h0)
  gi_wp2
  exact ⟨rfl, _, results_none rfl _ _ _, ⟨_, rfl⟩, .inl h0⟩
theorem having_seq_nil (n gx : Nat) (b : Value) (M : Nat → World → Prop) (hM : ∀ i V, M i V → V.cell? ⟨gx, 0, none⟩ = some (.pointer none)) (encs : Nat → Array Value) :
    SeqM Fence.wide n Try.prog 36 #[.pointer (some ⟨gx, 0, none⟩), b] encs 0 M := by
  intro l J Jx W hJ hJx hJM hY h0
  refine callsIn_of_wp Try.func36 rfl trivial ?_ rfl
  simp only [Try.ntmps36, List.size_toArray, List.length_cons, List.length_nil, Nat.reduceAdd, Nat.reduceSub, Array.replicate_succ, Array.replicate_zero, List.push_toArray, List.append_toArray, List.nil_append, List.cons_append]
  have k1 := hM _ _ (hJM 0 W h0)
  refine wpIn_wide.2 (wp_scope_straight ((wpIn_wide (n := n)).1 ?_))
  gi_wp2
  exact ⟨rfl, _, results_none rfl _ _ _, ⟨_, rfl⟩, .inl h0⟩
end Go.Proofs.Ytfgmbkflpdobcaa
