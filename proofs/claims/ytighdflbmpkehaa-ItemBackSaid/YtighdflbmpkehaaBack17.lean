/- Append of a digit, or of what is none, to a number's text. -/
import Derived.Test.YtighdflbmpkehaaLaw17
import Derived.Test.YtighdflbmpkehaaWalk
namespace Go.Proofs.Ytighdflbmpkehaa
open Go.RowKit

theorem numT_bad {xs : List Int} (h : ¬ ∀ x ∈ xs, Dig x) : numT xs = none := by
  unfold numT
  split
  · rfl
  · exact numF_bad xs 0 h
theorem numT_nought (k n : Nat) (hn : n ≤ 18446744073709551615) (hl : k + (txt n).length ≤ 20) : numT (List.replicate k 48 ++ txt n) = some n := by
  have h1 := txt_pos n
  have hv : valF 0 (List.replicate k 48 ++ txt n) = n := by rw [valF_nought, txt_val]
  have hlen : (List.replicate k (48 : Int) ++ txt n).length = k + (txt n).length := by simp
  unfold numT
  rw [if_neg (by omega), numF_some _ _ ?_ (by rw [hv]; exact hn), hv]
  intro x hx
  rcases List.mem_append.1 hx with h | h
  · have := List.eq_of_mem_replicate h
    subst this
    unfold Dig
    omega
  · exact txt_dig n x h
theorem bytes_nought (k n : Nat) : Bytes (List.replicate k 48 ++ txt n) := by
  refine bytes_append ?_ (txt_bytes n)
  intro j
  by_cases h : j < k
  · simp [List.getD, h]
  · simp [List.getD, List.getElem?_replicate, h]

/-- A number's digits behind so many noughts. -/
def nts (k n : Nat) : List Int := List.replicate k 48 ++ txt n
theorem nts_zero (n : Nat) : nts 0 n = txt n := rfl
theorem nts_succ (k n : Nat) : 48 :: nts k n = nts (k + 1) n := by unfold nts; rw [List.replicate_succ]; rfl
theorem nts_num (k n : Nat) (hn : n ≤ 18446744073709551615) (hl : k + (txt n).length ≤ 20) : numT (nts k n) = some n := numT_nought k n hn hl
theorem nts_bytes (k n : Nat) : Bytes (nts k n) := bytes_nought k n

/-- A text: a row that has no room, or one of the call's own. -/
def TextAt (B : Nat) (w : World) (A : Option Addr) (l c : Nat) (xs : List Int) : Prop :=
  A ≠ none ∧ RowI .u8 w (fun b => b < w.heap.size) A l xs ∧ (c = l ∨ w.ownsRow B 5 1 (.slice A l c) l (xs.map (Value.int .u8)))

theorem TextAt.alloc {B : Nat} {w : World} {A : Option Addr} {l c : Nat} {xs : List Int} (h : TextAt B w A l c xs) (o : Obj) : TextAt B (w.alloc o) A l c xs := by
  obtain ⟨h0, h1, h2⟩ := h
  refine ⟨h0, (h1.below ((Below.refl w.heap.size w).alloc (Nat.le_refl _) o) (fun b h => h)).more (fun b (hb : b < w.heap.size) => by simp; omega), ?_⟩
  rcases h2 with h2 | h2
  · exact .inl h2
  · exact .inr (h2.alloc o)

theorem TextAt.below {B : Nat} {w w' : World} {A : Option Addr} {l c : Nat} {xs : List Int} (h : TextAt B w A l c xs) (hb : Below w.heap.size w w') : TextAt B w' A l c xs := by
  obtain ⟨h0, h1, h2⟩ := h
  refine ⟨h0, (h1.below hb (fun b h => h)).more (fun b (h : b < w.heap.size) => Nat.lt_of_lt_of_le h hb.size), ?_⟩
  rcases h2 with h2 | h2
  · exact .inl h2
  · exact .inr (own_below h2 hb)
theorem bytes_one17 (x : Int) (h0 : 0 ≤ x) (h1 : x ≤ 255) : Bytes [x] := by
  intro j
  match j with
  | 0 => exact ⟨h0, h1⟩
  | j + 1 => simp
theorem bad_more (xs : List Int) : numT (xs ++ [120]) = none := by
  refine numT_bad fun h => ?_
  have := h 120 (by simp)
  unfold Dig at this
  omega

/-- A nought ahead of a text. -/
theorem app_ahead {B : Nat} {a w : World} {A : Option Addr} {l c : Nat} {xs : List Int} (h : TextAt B w A l c xs) (h0 : 0 < l) (hl : l ≤ 1000) (hB : B ≤ w.heap.size) (hb : Below B a w) :
    ∃ A' c' w', (Builtin.append_ #[27, 27] 27 #[.slice (some ⟨w.heap.size, 0, none⟩) 1 1, .slice A l c]).run Try.prog (markW w #[.int .u8 48]) = .ok (.slice A' (l + 1) c') w' ∧
      TextAt B w' A' (l + 1) c' (48 :: xs) ∧ Below B a w' := by
  have hm := mark_row w [48]
  have hs := mark_size w #[.int .u8 48]
  have hbm := mark_below hb hB #[.int .u8 48]
  have hbm2 := mark_below (Below.refl w.heap.size w) (Nat.le_refl _) #[.int .u8 48]
  have h' := h.below hbm2
  obtain ⟨h0', h1, h2⟩ := h'
  rcases A with _ | ad
  · exact absurd rfl h0'
  have e1 : (([48] : List Int).map (Value.int .u8)).toArray = #[.int .u8 48] := rfl
  rw [e1] at hm
  obtain ⟨cap, w', hr, ho, hb2⟩ := app_full (markW w #[.int .u8 48]) (c := c) hm h1 h0 (by have : ([48] : List Int).length = 1 := rfl; omega)
  have e2 : ([48] : List Int).length + l = l + 1 := by simp; omega
  rw [e2] at hr ho
  obtain ⟨A2, c2, e2, _, _, hr2⟩ := rowG_own 0 ho
  injection e2 with e2 e3 e4
  have hBm : B ≤ (markW w #[.int .u8 48]).heap.size := by omega
  refine ⟨_, _, w', hr, ⟨by simp, ?_, .inr (own_base ho hBm)⟩, hbm.trans (hb2.mono hBm)⟩
  rw [e2]
  exact hr2.more (fun b h => h.2.1)

/-- append of one number to a text. -/
theorem app_one {B : Nat} {a w : World} {A : Option Addr} {l c : Nat} {xs : List Int} (h : TextAt B w A l c xs) (hl : l ≤ 1000) (hB : B ≤ w.heap.size) (hb : Below B a w) (x : Int) :
    ∃ A' c' w', (Builtin.append_ #[27, 27] 27 #[.slice A l c, .slice (some ⟨w.heap.size, 0, none⟩) 1 1]).run Try.prog (w.alloc (.cells #[.int .u8 x] 5)) = .ok (.slice A' (l + 1) c') w' ∧
      RowI .u8 w' (fun b => b < w'.heap.size) A' (l + 1) (xs ++ [x]) ∧ Below B a w' := by
  have h' := h.alloc (.cells #[.int .u8 x] 5)
  obtain ⟨h0, h1, h2⟩ := h'
  have hnew := row_new1 (Value.int .u8) 0 w 5 x
  have hb1 := hb.alloc hB (.cells #[.int .u8 x] 5)
  have hs1 : (w.alloc (.cells #[.int .u8 x] 5)).heap.size = w.heap.size + 1 := by simp
  generalize w.alloc (.cells #[.int .u8 x] 5) = w1 at h1 h2 hnew hb1 hs1
  have hB1 : B ≤ w1.heap.size := by omega
  rcases h2 with rfl | h2
  · rcases A with _ | ad
    · exact absurd rfl h0
    obtain ⟨cap, w', hr, ho, hb2⟩ := app_full w1 (c := 1) h1 hnew (by omega) (by omega)
    obtain ⟨A2, c2, e2, _, _, hr2⟩ := rowG_own 0 ho
    refine ⟨_, _, w', hr, ?_, hb1.trans (hb2.mono hB1)⟩
    injection e2 with e2 e3 e4
    rw [e2]
    exact hr2.more (fun b h => h.2.1)
  · obtain ⟨i0, hi, hz0, hz1, hz2⟩ := info_parts info_u8
    obtain ⟨v', w', hr, ho, hg, hv⟩ := run_append_rowG (P := Try.prog) (mk := Value.int .u8) (d := 0) w1 27 27 B 5 i0 (.int .u8 0) 1 Try.underlying27 hi hz0 hz1 hz2 rfl (fun _ => rfl) (.slice A l c) l (xs.map (Value.int .u8)) h2 (· = w.heap.size) (some ⟨w.heap.size, 0, none⟩) 1 1 [x] hnew (by simp) (by unfold maxLen; omega) (by omega) hB1
    rw [← List.map_append] at ho
    obtain ⟨A2, c2, rfl, _, _, hr2⟩ := rowG_own 0 ho
    exact ⟨A2, c2, w', hr, hr2.more (fun b h => h.2.1), hb1.grown hg hB1 (fun g hg => (h2.lt g hg).1)⟩
end Go.Proofs.Ytighdflbmpkehaa
