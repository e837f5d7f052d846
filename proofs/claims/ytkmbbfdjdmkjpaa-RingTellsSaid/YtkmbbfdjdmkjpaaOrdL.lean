/- What the segments' order says of the latest, the open one, the oldest. -/
import Derived.Test.YtkmbbfdjdmkjpaaLatest
namespace Go.Proofs.Ytkmbbfdjdmkjpaa
open Go.RowKit
set_option linter.unusedVariables false
set_option linter.unusedSimpArgs false
set_option linter.unusedSectionVars false

def lastR (xs : List Seg) : Seg := if latR xs < 0 then seg0 else xs.getD (latR xs).toNat seg0
theorem last_top (xs : List Seg) : (lastR xs).2.1 = topG xs := by
  unfold lastR topG
  split <;> rfl
theorem last_open {sec : Int} {xs : List Seg} (h : OkR sec xs) : (lastR xs).1 = 1 ↔ 0 ≤ opnR xs := by
  rcases opn_or h with ⟨e, hz⟩ | ⟨i, hi, e, el, hs⟩
  · rw [e]
    refine ⟨fun h1 => ?_, fun h => by omega⟩
    exfalso
    rcases lat_or xs with ⟨e2, _⟩ | ⟨m, hm, e2, _⟩
    · unfold lastR at h1; rw [e2, if_pos (by omega)] at h1; exact absurd h1 (by decide)
    · unfold lastR at h1; rw [e2, if_neg (by omega), Int.toNat_natCast] at h1; exact hz m hm h1
  · rw [e]
    refine ⟨fun _ => by omega, fun _ => ?_⟩
    unfold lastR
    rw [el, if_neg (by omega), Int.toNat_natCast]
    exact hs
section
variable {sec : Int} {xs : List Seg} {L : List Num} (hk : OkR sec xs) (hp : L.Perm (live xs)) (hr : Rises L)
include hk hp hr
theorem ord_last : atOf (-1) L = latR xs ∧ lastOf seg0 L = lastR xs := by
  rcases List.eq_nil_or_concat L with rfl | ⟨pre, x, rfl⟩
  · rcases lat_or xs with ⟨e, hz⟩ | ⟨i, hi, e, hs, hm⟩
    · unfold lastR
      rw [e, if_pos (by omega)]
      exact ⟨rfl, rfl⟩
    · obtain ⟨k, hk', _⟩ := at_live hp hi hs
      simp at hk'
  · rw [List.concat_eq_append] at *
    rw [atOf_snoc, lastOf_snoc]
    have hl : pre.length < (pre ++ [x]).length := by simp
    have hx : (pre ++ [x]).getD pre.length num0 = x := by simp [List.getD]
    obtain ⟨h1, h2, h3⟩ := live_at hp hl
    rw [hx] at h1 h2 h3
    rcases lat_or xs with ⟨e, hz⟩ | ⟨i, hi, e, hs, hm⟩
    · exact absurd (by have := hz x.1 h1; simp only [stG] at this; rw [← h2] at this; exact this) h3
    · have hxi : x.1 = i := by
        by_cases hne : x.1 = i
        · exact hne
        · obtain ⟨k, hk', ek⟩ := at_live hp hi hs
          have hle : ((pre ++ [x]).getD k num0).2.2.1 ≤ ((pre ++ [x]).getD pre.length num0).2.2.1 := by
            rcases Nat.lt_or_ge k pre.length with hlt | hge
            · exact hr k pre.length hlt hl
            · obtain rfl : k = pre.length := by simp at hk'; omega
              exact Int.le_refl _
          rw [ek, hx, h2] at hle
          have hge := hm x.1 h1 (by simp only [stG]; rw [← h2]; exact h3)
          have := (hk.2.2 x.1 h1 i hi hne (by rw [← h2]; exact h3) hs).1
          simp only [genG] at hge hle
          omega
      unfold lastR
      rw [e, if_neg (by omega), Int.toNat_natCast]
      exact ⟨by rw [hxi], by rw [h2, hxi]⟩
/-- The first sealed one in order is the oldest. -/
theorem ord_old {pre r : List Num} {x : Num} (hL : L = pre ++ x :: r) (hpre : ∀ y ∈ pre, y.2.1 ≠ 2) (hx : x.2.1 = 2) : oldR xs = x.1 := by
  have hlx : pre.length < L.length := by rw [hL]; simp
  have ex : L.getD pre.length num0 = x := by rw [hL]; simp [List.getD]
  obtain ⟨h1, h2, h3⟩ := live_at hp hlx
  rw [ex] at h1 h2 h3
  have hst : stG xs x.1 = 2 := by simp only [stG]; rw [← h2]; exact hx
  rcases old_or xs with ⟨e, hz⟩ | ⟨i, hi, e, hs, hm⟩
  · exact absurd hst (hz x.1 h1)
  · rw [e]
    by_cases hne : x.1 = i
    · rw [hne]
    · exfalso
      have hle := hm x.1 h1 hst
      have hap := (hk.2.2 x.1 h1 i hi hne (by rw [← h2]; exact h3) (by rw [show (xs.getD i seg0).1 = 2 from hs]; decide)).1
      obtain ⟨k, hk', ek⟩ := at_live hp hi (by rw [show (xs.getD i seg0).1 = 2 from hs]; decide)
      rcases Nat.lt_trichotomy k pre.length with hlt | heq | hgt
      · have hmem : L.getD k num0 ∈ pre := by
          have e : L.getD k num0 = pre.getD k num0 := by rw [hL]; simp [List.getD, List.getElem?_append_left hlt]
          rw [e]
          simp [List.getD, hlt]
        rw [ek] at hmem
        exact hpre _ hmem hs
      · rw [heq, ex] at ek
        exact hne (by rw [ek])
      · have := hr pre.length k hgt hk'
        rw [ek, ex, h2] at this
        simp only [genG] at hle this
        omega
theorem ord_old_none (hpre : ∀ y ∈ L, y.2.1 ≠ 2) : oldR xs = -1 := by
  rcases old_or xs with ⟨e, hz⟩ | ⟨i, hi, e, hs, hm⟩
  · exact e
  · obtain ⟨k, hk', ek⟩ := at_live hp hi (by rw [show (xs.getD i seg0).1 = 2 from hs]; decide)
    have := hpre _ (getD_mem hk')
    rw [ek] at this
    exact absurd hs this
end
theorem row_now {w W : World} {A : Option Addr} {n : Nat} {xs : List Seg} (h : RowZ w (· < w.heap.size) A n xs) (hb : Below w.heap.size w W) : RowZ W (· < W.heap.size) A n xs :=
  (h.below hb (fun _ h => h)).more (fun b h => Nat.lt_of_lt_of_le h hb.size)
theorem ok_n {sec : Int} {xs : List Seg} {n : Nat} (h : OkR sec xs) (hn : xs.length = n) : 4 ≤ n ∧ n ≤ 16 := by
  have := h.1
  unfold SizedR at this
  omega
theorem latest_ok {w : World} {A : Option Addr} {n cap : Nat} {xs : List Seg} (h : RowZ w (· < w.heap.size) A n xs) {sec : Int} (hk : OkR sec xs) :
    Calls Try.prog 85 #[.agg #[.int .i64 sec, .slice A n cap]] w fun e w' => e = .returned (.tuple #[.int .i64 (latR xs), .agg (segC (lastR xs)).toArray]) ∧ Below w.heap.size w w' := by
  refine (latest_any h sec (ok_n hk h.1).2).mono ?_
  rintro e w' ⟨⟨L, hp, hr, rfl⟩, hb⟩
  obtain ⟨e1, e2⟩ := ord_last hk hp hr
  rw [e1, e2]
  exact ⟨rfl, hb⟩

end Go.Proofs.Ytkmbbfdjdmkjpaa
