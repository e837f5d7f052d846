/- The document's lists in memory: rows of rows of numbers. -/
import Derived.Test.YthegbimolbhikaaLrD
import Derived.Test.YthegbimolbhikaaAppend
import Derived.Test.YthegbimolbhikaaOwn10
import Derived.Deep.RegionHeld3
import Derived.Deep.DeepCutAuto
import Derived.Great.BuildSlice
namespace Go.Proofs.Ythegbimolbhikaa
open Go.RowKit
attribute [local go_sem] Oper.semAt_some
set_option linter.unusedVariables false
set_option linter.unusedSimpArgs false
set_option maxRecDepth 100000
abbrev mkK : Nat → Value := fun k => Value.int .i64 (k : Nat)
abbrev RowK12 := RowG mkK (0 : Nat)
abbrev RowD := Option Addr × Nat × Nat
abbrev d0 : RowD := (none, 0, 0)
abbrev mkD (d : RowD) : Value := .slice d.1 d.2.1 d.2.2
abbrev valsK (L : List Nat) : List Value := L.map mkK
/-- The document's lists, as they are read. -/
structure RefX (w : World) (S : Nat → Prop) (A : Option Addr) (n : Nat) (ds : List RowD) (xs : List (List Nat)) : Prop where
  out : RowG mkD d0 w S A n ds
  len : xs.length = n
  row : ∀ i, i < n → RowK12 w S (ds.getD i d0).1 (ds.getD i d0).2.1 (xs.getD i [])
  nil : ∀ i, i < n → (ds.getD i d0).1 = none → (ds.getD i d0).2.2 = 0
theorem RefX.keep {w w' : World} {S : Nat → Prop} {A : Option Addr} {n : Nat} {ds : List RowD} {xs : List (List Nat)} (h : RefX w S A n ds xs) (hk : ∀ p : Addr, S p.block → w'.cell? p = w.cell? p) : RefX w' S A n ds xs :=
  ⟨h.out.keep hk, h.len, fun i hi => (h.row i hi).keep hk, h.nil⟩
theorem RefX.more {w : World} {S T : Nat → Prop} {A : Option Addr} {n : Nat} {ds : List RowD} {xs : List (List Nat)} (h : RefX w S A n ds xs) (hs : ∀ b, S b → T b) : RefX w T A n ds xs :=
  ⟨h.out.more hs, h.len, fun i hi => (h.row i hi).more hs, h.nil⟩
theorem RefX.below {w w' : World} {B : Nat} {S : Nat → Prop} {A : Option Addr} {n : Nat} {ds : List RowD} {xs : List (List Nat)} (h : RefX w S A n ds xs) (hb : Below B w w') (hs : ∀ b, S b → b < B) : RefX w' S A n ds xs := h.keep fun p hp => hb.cell (hs _ hp)
theorem RefX.size {w w' : World} {A : Option Addr} {n : Nat} {ds : List RowD} {xs : List (List Nat)} (h : RefX w (· < w.heap.size) A n ds xs) (hb : Below w.heap.size w w') : RefX w' (· < w'.heap.size) A n ds xs :=
  (h.below hb (fun b h => h)).more fun b h => Nat.lt_of_lt_of_le h hb.size
/-- The document's lists, laid by the call itself. -/
structure RefO (B : Nat) (w : World) (v : Value) (ds : List RowD) (xs : List (List Nat)) : Prop where
  own : w.ownsRow B 56 1 v ds.length (ds.map mkD)
  len : xs.length = ds.length
  row : ∀ i, i < ds.length → RowK12 w (fun b => B ≤ b ∧ b < w.heap.size ∧ v.ownBlock ≠ some b) (ds.getD i d0).1 (ds.getD i d0).2.1 (xs.getD i [])
  nil : ∀ i, i < ds.length → (ds.getD i d0).1 = none → (ds.getD i d0).2.2 = 0
theorem RefO.toX {B : Nat} {w : World} {v : Value} {ds : List RowD} {xs : List (List Nat)} (h : RefO B w v ds xs) : ∃ A cap, v = .slice A ds.length cap ∧ RefX w (fun b => B ≤ b ∧ b < w.heap.size) A ds.length ds xs := by
  obtain ⟨A, cap, e, _, _, hr⟩ := rowG_own (mk := mkD) d0 h.own
  exact ⟨A, cap, e, hr.more (fun b hb => ⟨hb.1, hb.2.1⟩), h.len, fun i hi => (h.row i hi).more fun b hb => ⟨hb.1, hb.2.1⟩, h.nil⟩
theorem RefO.nilO (B : Nat) (w : World) : RefO B w (.slice none 0 0) [] [] :=
  ⟨World.ownsRow_nil _ _ _ _, rfl, fun i hi => absurd hi (by simp), fun i hi => absurd hi (by simp)⟩
/-- A row more. -/
theorem RefO.snoc {B : Nat} {w w' : World} {v v' : Value} {ds : List RowD} {xs : List (List Nat)} {d : RowD} {x : List Nat} (h : RefO B w v ds xs) (hB : B ≤ w.heap.size)
    (ho : w'.ownsRow B 56 1 v' (ds.length + 1) (ds.map mkD ++ [mkD d])) (hg : w.grownBy w' v.ownBlock) (hv : v'.ownBlock = v.ownBlock ∨ v'.ownBlock = some w.heap.size)
    (hr : RowK12 w (fun b => B ≤ b ∧ b < w.heap.size ∧ v.ownBlock ≠ some b) d.1 d.2.1 x) (hn : d.1 = none → d.2.2 = 0) : RefO B w' v' (ds ++ [d]) (xs ++ [x]) := by
  have hS : ∀ b, (B ≤ b ∧ b < w.heap.size ∧ v.ownBlock ≠ some b) → (B ≤ b ∧ b < w'.heap.size ∧ v'.ownBlock ≠ some b) := fun b hb => ⟨hb.1, Nat.lt_of_lt_of_le hb.2.1 hg.size, by
    rcases hv with e | e
    · rw [e]; exact hb.2.2
    · rw [e]; intro e2; injection e2 with e2; omega⟩
  have hk : ∀ p : Addr, (B ≤ p.block ∧ p.block < w.heap.size ∧ v.ownBlock ≠ some p.block) → w'.cell? p = w.cell? p := fun p hp => World.cell?_of_block (hg.block p.block hp.2.1 (fun e => hp.2.2 e.symm))
  refine ⟨by simpa using ho, by simp [h.len], fun i hi => ?_, fun i hi => ?_⟩
  · by_cases e : i < ds.length
    · have e1 : (ds ++ [d]).getD i d0 = ds.getD i d0 := by simp [List.getD, List.getElem?_append_left e]
      have e2 : (xs ++ [x]).getD i [] = xs.getD i [] := by simp [List.getD, List.getElem?_append_left (show i < xs.length by rw [h.len]; exact e)]
      rw [e1, e2]
      exact ((h.row i e).keep hk).more hS
    · obtain rfl : i = ds.length := by simp at hi; omega
      have e1 : (ds ++ [d]).getD ds.length d0 = d := by simp [List.getD]
      have e2 : (xs ++ [x]).getD ds.length [] = x := by simp [List.getD, ← h.len]
      rw [e1, e2]
      exact (hr.keep hk).more hS
  · by_cases e : i < ds.length
    · have e1 : (ds ++ [d]).getD i d0 = ds.getD i d0 := by simp [List.getD, List.getElem?_append_left e]
      rw [e1]
      exact h.nil i e
    · obtain rfl : i = ds.length := by simp at hi; omega
      have e1 : (ds ++ [d]).getD ds.length d0 = d := by simp [List.getD]
      rw [e1]
      exact hn
/-- What is made behind leaves them. -/
theorem RefO.below {B : Nat} {w w' : World} {v : Value} {ds : List RowD} {xs : List (List Nat)} (h : RefO B w v ds xs) (hb : Below w.heap.size w w') : RefO B w' v ds xs :=
  ⟨own_below h.own hb, h.len, fun i hi => ((h.row i hi).below hb fun b hb => hb.2.1).more fun b hb2 => ⟨hb2.1, Nat.lt_of_lt_of_le hb2.2.1 hb.size, hb2.2.2⟩, h.nil⟩
abbrev refV (numbers : Nat) (A : Option Addr) (n c : Nat) : Value := .agg #[.int .i64 (numbers : Nat), .slice A n c]
theorem info_rows12 : (Try.prog.info? 56).map (fun i => (i.zero, i.size, i.bytes)) = some (some (.slice none 0 0), 1, 24) := by kernel_rfl
theorem info_nums12 : (Try.prog.info? 3).map (fun i => (i.zero, i.size, i.bytes)) = some (some (.int .i64 0), 1, 8) := by kernel_rfl
theorem size_ref12 : (Try.prog.info? 31).map (·.size) = some 2 := by kernel_rfl

/-! What is asked of them. -/
theorem rlist_any (numbers n c : Nat) (A : Option Addr) (i : Int) (w : World) : Calls Try.prog 33 #[refV numbers A n c, .int .i64 i] w fun e w' => e = .returned (.bool (decide (0 ≤ i ∧ i < (n : Nat)))) ∧ Below w.heap.size w w' := by
  have hb := (Below.refl w.heap.size w).alloc (Nat.le_refl _) (.cells #[.int .i64 (numbers : Nat), .slice A n c] 31)
  go_enter Try.func33, Try.ntmps33
  by_cases q1 : 0 ≤ i
  · by_cases q2 : i < n
    · go_wp2
      go_ret
      exact ⟨ret_bool (by simp [q1, q2]), hb⟩
    · go_wp2
      go_ret
      exact ⟨ret_bool (by simp [q1, q2]), hb⟩
  · go_wp2
    go_ret
    exact ⟨ret_bool (by simp; omega), hb⟩
theorem rnumber_any (numbers n c : Nat) (A : Option Addr) (i : Int) (w : World) : Calls Try.prog 34 #[refV numbers A n c, .int .i64 i] w fun e w' => e = .returned (.bool (decide (0 ≤ i ∧ i < (numbers : Nat)))) ∧ Below w.heap.size w w' := by
  have hb := (Below.refl w.heap.size w).alloc (Nat.le_refl _) (.cells #[.int .i64 (numbers : Nat), .slice A n c] 31)
  go_enter Try.func34, Try.ntmps34
  by_cases q1 : 0 ≤ i
  · by_cases q2 : i < numbers
    · go_wp2
      go_ret
      exact ⟨ret_bool (by simp [q1, q2]), hb⟩
    · go_wp2
      go_ret
      exact ⟨ret_bool (by simp [q1, q2]), hb⟩
  · go_wp2
    go_ret
    exact ⟨ret_bool (by simp; omega), hb⟩
theorem getD_mem12 {l : List Nat} {t : Nat} (h : t < l.length) : l.getD t 0 ∈ l := by
  simp only [List.getD, List.getElem?_eq_getElem h, Option.getD_some]
  exact List.getElem_mem h
theorem getD_get12 {l : List Nat} {t : Nat} (h : t < l.length) : l.getD t 0 = l[t] := by simp only [List.getD, List.getElem?_eq_getElem h, Option.getD_some]
/-- The rest of the lists that are searched. -/
theorem wh_drop {xs : List (List Nat)} {k j : Nat} (hj : j < xs.length) (hno : k ∉ xs.getD j []) : whX (xs.drop j) k = if whX (xs.drop (j + 1)) k = 0 then 0 else whX (xs.drop (j + 1)) k + 1 := by
  have e : xs.drop j = xs.getD j [] :: xs.drop (j + 1) := by
    rw [List.drop_eq_getElem_cons hj]
    simp [List.getD, List.getElem?_eq_getElem hj]
  rw [e]
  conv => lhs; unfold whX
  rw [if_neg (by simpa using hno)]
theorem wh_drop_hit {xs : List (List Nat)} {k j : Nat} (hj : j < xs.length) (hm : k ∈ xs.getD j []) : whX (xs.drop j) k = 1 := by
  have e : xs.drop j = xs.getD j [] :: xs.drop (j + 1) := by
    rw [List.drop_eq_getElem_cons hj]
    simp [List.getD, List.getElem?_eq_getElem hj]
  rw [e]
  unfold whX
  rw [if_pos (by simpa using hm)]
def whZ (xs : List (List Nat)) (k j : Nat) : Prop := (whX xs k : Int) = if whX (xs.drop j) k = 0 then 0 else whX (xs.drop j) k + j
theorem whZ.zero (xs : List (List Nat)) (k : Nat) : whZ xs k 0 := by unfold whZ; rw [List.drop_zero]; split <;> omega
theorem whZ.next {xs : List (List Nat)} {k j : Nat} (h : whZ xs k j) (hj : j < xs.length) (hno : k ∉ xs.getD j []) : whZ xs k (j + 1) := by
  unfold whZ at *
  rw [h, wh_drop hj hno]
  split <;> split <;> first | rfl | omega | (split at * <;> omega)
theorem whZ.hit {xs : List (List Nat)} {k j : Nat} (h : whZ xs k j) (hj : j < xs.length) (hm : k ∈ xs.getD j []) : (whX xs k : Int) - 1 = (j : Int) := by
  unfold whZ at h
  rw [h, wh_drop_hit hj hm]
  simp
  omega
theorem whZ.none {xs : List (List Nat)} {k : Nat} (h : whZ xs k xs.length) : (whX xs k : Int) - 1 = -1 := by
  unfold whZ at h
  rw [h, List.drop_length]
  rfl
set_option maxHeartbeats 2000000 in
theorem rwhere_any {A : Option Addr} {n c : Nat} {ds : List RowD} {xs : List (List Nat)} (numbers k : Nat) {w : World} {S : Nat → Prop} (h : RefX w S A n ds xs) (hS : ∀ b, S b → b < w.heap.size) (hn : n ≤ 64) (hm : ∀ i, (xs.getD i []).length ≤ 100000) :
    Calls Try.prog 35 #[refV numbers A n c, .int .i64 (k : Nat)] w fun e w' => e = .returned (.int .i64 ((whX xs k : Int) - 1)) ∧ Below w.heap.size w w' := by
  have hb := (Below.refl w.heap.size w).alloc (Nat.le_refl _) (.cells #[.int .i64 (numbers : Nat), .slice A n c] 31)
  have HX := Lib.hid (h.below hb hS)
  have HB := Lib.hid hb
  have HM := Lib.hid hm
  have HLEN := Lib.hid h.len
  clear h hm hb
  go_enter Try.func35, Try.ntmps35
  go_wp2_with fail
  generalize w.alloc (.cells #[.int .i64 (numbers : Nat), .slice A n c] 31) = w1 at *
  go_loopw [12] (fun i wr => ∃ j : Nat, i = .int .i64 j ∧ j ≤ n ∧ whZ xs k j ∧ wr = w1) (fun i _ => n - (intOf i).toNat)
  case atStart => exact ⟨0, rfl, Nat.zero_le _, whZ.zero xs k, rfl⟩
  case round =>
    obtain ⟨j, rfl, hj, hz, rfl⟩ := hrel
    have HZ := Lib.hid hz
    clear hz
    by_cases hjn : j < n
    · obtain ⟨b0, o0, rfl, _, hc0⟩ := HX.out.out.2 (by omega)
      have z0 := hc0 j hjn
      have hr0 := HX.out.row j hjn
      obtain ⟨⟨A1, m1, c1⟩, hd⟩ : ∃ d, ds.getD j d0 = d := ⟨_, rfl⟩
      rw [hd] at z0 hr0
      replace z0 : wr.cell? ⟨b0, o0 + j, none⟩ = some (.slice A1 m1 c1) := z0
      have HR := Lib.hid (show RowK12 wr S A1 m1 (xs.getD j []) from hr0)
      clear hr0
      have hml : m1 ≤ 100000 := by rw [← HR.out.1]; exact HM.out j
      clear hc0 hd
      go_wp2_with fail
      go_loopw [19] (fun i wr2 => ∃ t : Nat, i = .int .i64 t ∧ t ≤ m1 ∧ (∀ q, q < t → (xs.getD j []).getD q 0 ≠ k) ∧ wr2 = wr) (fun i _ => m1 - (intOf i).toNat)
      case atStart => exact ⟨0, rfl, Nat.zero_le _, fun q hq => absurd hq (by omega), rfl⟩
      case round =>
        obtain ⟨t, rfl, ht, hno, rfl⟩ := hrel
        have HNO := Lib.hid hno
        clear hno
        by_cases htm : t < m1
        · obtain ⟨b1, o1, rfl, _, hc1⟩ := HR.out.2 (by omega)
          have z1 := hc1 t htm
          obtain ⟨v, hv⟩ : ∃ v, (xs.getD j []).getD t 0 = v := ⟨_, rfl⟩
          simp only [hv, mkK] at z1
          have HV := Lib.hid hv
          have htl : t < (xs.getD j []).length := by rw [HR.out.1]; exact htm
          clear hc1 hv
          by_cases hvk : v = k
          · subst hvk
            have hmem : v ∈ xs.getD j [] := by
              rw [← HV.out]
              exact getD_mem12 htl
            have HE := Lib.hid (HZ.out.hit (by rw [HLEN.out]; exact hjn) hmem)
            clear hmem
            go_wp2_with fail
            go_ret
            rw [HE.out]
            exact ⟨rfl, HB.out⟩
          · have hne : ((v : Int) == (k : Int)) = false := by simp; omega
            go_wp2_with fail
            go_roundw
            case rel =>
              refine ⟨t + 1, by simp, by omega, fun q hq => ?_, by first | rfl | trivial⟩
              by_cases e : q = t
              · subst e; rw [HV.out]; exact hvk
              · exact HNO.out q (by omega)
            case measure => show m1 - (Int.toNat ((t : Int) + 1)) < m1 - (Int.toNat (t : Int)); omega
        · obtain rfl : m1 = t := by omega
          have HNX := Lib.hid (HZ.out.next (by rw [HLEN.out]; exact hjn) (fun hmem => by
            obtain ⟨q, hq, e⟩ := List.getElem_of_mem hmem
            exact HNO.out q (by rw [← HR.out.1]; exact hq) (by rw [getD_get12 hq]; exact e)))
          go_wp2_with fail
          go_roundw
          case rel => exact ⟨j + 1, by simp, by omega, HNX.out, by first | rfl | trivial⟩
          case measure => show n - (Int.toNat ((j : Int) + 1)) < n - (Int.toNat (j : Int)); omega
    · obtain rfl : n = j := by omega
      have hz := HZ.out
      rw [← HLEN.out] at hz
      have HE := Lib.hid hz.none
      clear hz
      go_wp2_with fail
      go_ret
      rw [HE.out]
      exact ⟨rfl, HB.out⟩
end Go.Proofs.Ythegbimolbhikaa
