/- append onto a slice that has no room ('out[:at:at]'): always a new block. -/
import Derived.Test.YtkmbbfdjdmkjpaaOrdP
import Derived.Test.YtkmbbfdjdmkjpaaSmall
import Derived.Test.YtkmbbfdjdmkjpaaAppend
import Derived.Great.BuildSlice
namespace Go.Proofs.Ytkmbbfdjdmkjpaa
open Go.RowKit
set_option linter.unusedVariables false
set_option linter.unusedSimpArgs false

theorem new_row {w : World} {e : TypeId} {k c : Nat} {xs : List Int} {rest : Array Value} (hk : xs.length = k) (hc : k ≤ c) :
    RowI .i64 (w.drew.alloc (.cells ((xs.map (Value.int .i64)).toArray ++ rest) e)) (· = w.heap.size) (some ⟨w.heap.size, 0, none⟩) k xs := by
  refine ⟨hk, fun _ => ⟨_, 0, rfl, rfl, fun j hj => ?_⟩⟩
  have hb := Blk.new w.drew e ((xs.map (Value.int .i64)).toArray ++ rest)
  have h1 := hb.cell (0 + j)
  have e1 : w.drew.heap.size = w.heap.size := rfl
  rw [e1] at h1
  rw [h1]
  have hj2 : j < xs.length := by omega
  simp [List.getD, hj2, Array.getElem?_append]
theorem run_append_new {P : Program} (w : World) (ty t e : TypeId) (i : TypeInfo) (z : Value) (bytes : Nat) (ht : P.underlying t = some (.slice e)) (hi : P.info? e = some i) (hz : i.zero = some z) (hsize : i.size = 1) (hby : i.bytes = bytes)
    {S : Nat → Prop} {A : Option Addr} {k : Nat} {ids : List Int} (hr : RowI .i64 w S A k ids) (hA : A = none → k = 0) {base n : Nat} {v : Value} {news : List Int} (hown : w.ownsRow base e 1 v n (news.map (Value.int .i64))) (hn : 0 < n) (hkn : k + n ≤ 1000) (hb8 : bytes ≤ 64) :
    ∃ cap w', (Builtin.append_ #[t, t] ty #[.slice A k k, v]).run P w = .ok (.slice (some ⟨w.heap.size, 0, none⟩) (k + n) cap) w' ∧ k + n ≤ cap ∧ cap ≤ maxLen ∧ RowI .i64 w' (· = w.heap.size) (some ⟨w.heap.size, 0, none⟩) (k + n) (ids ++ news) ∧ Below w.heap.size w w' ∧ w.heap.size < w'.heap.size := by
  have hnl : news.length = n := by have := hown.1; simpa using this
  rcases hown.2 with ⟨_, h0⟩ | ⟨g, c, cur, rfl, hbg, hg, hnc, hcm, hcs, htk⟩
  · omega
  have hnews : ∀ (j : Nat) (u : Value), (news.map (Value.int .i64))[j]? = some u → w.cell? ((⟨g, 0, none⟩ : Addr).add j) = some u := by
    intro j u hu
    have hjn : j < n := by
      have := (List.getElem?_eq_some_iff.1 hu).1
      simpa [hnl] using this
    rw [← htk, List.getElem?_take_of_lt (by omega)] at hu
    rw [add_plain, Nat.zero_add]
    simp only [World.cell?, hg]
    simpa using hu
  rcases A with _ | ad
  · obtain rfl : k = 0 := hA rfl
    obtain rfl : ids = [] := List.eq_nil_of_length_eq_zero hr.1
    have h := run_append_nil (P := P) (w := w) t ty e i z ht hi hz ⟨g, 0, none⟩ n c (news.map (Value.int .i64)) (by simp [hnl, hsize]) hnews hn (by omega) (by rw [hby]; exact Nat.le_trans (Nat.mul_le_mul (show n ≤ 1000 by omega) hb8) (by decide))
    rw [Nat.zero_add]
    exact ⟨_, _, h, grownCap_ge w n 0 e, grownCap_le_maxLen w n 0 e (by unfold maxLen; omega), by rw [List.nil_append]; exact new_row hnl (Nat.le_refl _), ((Below.refl _ w).drew).alloc (Nat.le_refl _) _, by simp⟩
  · have holds : ∀ (j : Nat) (u : Value), (ids.map (Value.int .i64))[j]? = some u → w.cell? (ad.add j) = some u := by
      intro j u hu
      have hjk : j < k := by
        have := (List.getElem?_eq_some_iff.1 hu).1
        simpa [hr.1] using this
      obtain ⟨b, off, e1, _, hc⟩ := hr.2 (by omega)
      injection e1 with e1
      subst e1
      have h2 := hc j hjk
      have hj2 : j < ids.length := by rw [hr.1]; exact hjk
      rw [List.getElem?_map, List.getElem?_eq_getElem hj2] at hu
      rw [add_plain, h2]
      simpa [List.getD, hj2] using hu
    have h := run_append_grow (P := P) (w := w) t ty e i z ht hi hz ad k k (ids.map (Value.int .i64)) (by simp [hr.1, hsize]) holds ⟨g, 0, none⟩ n c (news.map (Value.int .i64)) (by simp [hnl, hsize]) hnews (by omega) (by omega)
      (by rw [hby]; exact Nat.le_trans (Nat.mul_le_mul (nextslicecap_le (by omega)) hb8) (by omega))
    refine ⟨_, _, h, grownCap_ge w (k + n) k e, grownCap_le_maxLen w (k + n) k e (by unfold maxLen; omega), ?_, ((Below.refl _ w).drew).alloc (Nat.le_refl _) _, by simp⟩
    have hnr := new_row (w := w) (e := e) (k := k + n) (c := k + n) (xs := ids ++ news) (rest := Builtin.zeroCells z.cells (grownCap w (k + n) k e - (k + n))) (by simp [hr.1, hnl]) (Nat.le_refl _)
    rw [List.map_append] at hnr
    simpa using hnr

section
variable {w : World} {o : Oper} {a : Act} {Q : Exit → Act → World → Prop} {K : Act → World → Prop} {E : Prop} {ops : Array Oper}
theorem info_int : (Try.prog.info? 3).map (fun i => (i.zero, i.size, i.bytes)) = some (some (.int .i64 0), 1, 8) := by kernel_rfl
/-- '[]int{x}' in a region that draws. -/
theorem step_lit1 (x : Operand) (ho : o.op = .buildSlice 48 1 #[(0, x)]) (hgd : Region.wanted o (yielded ops a.tmps) = true) (v : Int) (hx : a.eval x = .int .i64 v)
    (h : K (a.put o.dst (.slice (some ⟨w.heap.size, 0, none⟩) 1 1)) (w.alloc (.cells #[.int .i64 v] 3))) : if Region.wanted o (yielded ops a.tmps) = true then Oper.wp Try.prog o a w K Q else E := by
  obtain ⟨i0, hi, hz0, hz1, hz2⟩ := info_parts info_int
  rw [if_pos hgd]
  refine wp_buildSlice 48 3 1 #[(0, x)] ho #[.int .i64 v] i0 _ Try.underlying48 hi hz0 (by rw [hz1]; decide) (by rw [hz1]; decide) ?_ h
  rw [hz1]
  have e : (Array.map (fun (p : Nat × Operand) => (p.1, a.eval p.2)) #[(0, x)]).toList = [(0, .int .i64 v)] := by simp [hx]
  refine (congrArg _ e).trans ?_
  kernel_rfl
/-- append without room, in a region that draws: the second list one's own. -/
theorem step_append_new (s x : Operand) (ho : o.op = .call { callee := .builtin .append, args := #[s, x], argTypes := #[48, 48] }) (hgd : Region.wanted o (yielded ops a.tmps) = true)
    {S : Nat → Prop} {A : Option Addr} {k : Nat} {ids : List Int} (hs : a.eval s = .slice A k k) (hr : RowI .i64 w S A k ids) (hA : A = none → k = 0) {base n : Nat} {v : Value} {news : List Int} (hx : a.eval x = v)
    (hown : w.ownsRow base 3 1 v n (news.map (Value.int .i64))) (hn : 0 < n) (hkn : k + n ≤ 1000)
    (h : ∀ cap w', (k + n ≤ cap ∧ cap ≤ maxLen) → RowI .i64 w' (· = w.heap.size) (some ⟨w.heap.size, 0, none⟩) (k + n) (ids ++ news) → Below w.heap.size w w' → w.heap.size < w'.heap.size → K (a.put o.dst (.slice (some ⟨w.heap.size, 0, none⟩) (k + n) cap)) w') :
    if Region.wanted o (yielded ops a.tmps) = true then Oper.wp Try.prog o a w K Q else E := by
  obtain ⟨i0, hi, hz0, hz1, hz2⟩ := info_parts info_int
  obtain ⟨cap, w', hrun, h1, h2, h3, h4, h5⟩ := run_append_new (P := Try.prog) w o.type 48 3 i0 _ 8 Try.underlying48 hi hz0 hz1 hz2 hr hA hown hn hkn (by decide)
  rw [if_pos hgd]
  unfold Oper.wp execOp
  simp only [ho, resolve, invoke, builtin, Sem.run_bind, Sem.run_pure, Result.andThen_ok, List.map_toArray, List.map_cons, List.map_nil, hs, hx, hrun]
  exact h cap w' ⟨h1, h2⟩ h3 h4 h5
end
end Go.Proofs.Ytkmbbfdjdmkjpaa
