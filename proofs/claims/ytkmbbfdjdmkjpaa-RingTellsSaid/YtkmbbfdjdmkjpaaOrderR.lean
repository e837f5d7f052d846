/- Package ring: Order. -/
import Derived.Test.YtkmbbfdjdmkjpaaFrees
namespace Go.Proofs.Ytkmbbfdjdmkjpaa
open Go.RowKit
set_option linter.unusedVariables false
set_option linter.unusedSimpArgs false

theorem SeqM.mono {w : World} {n₀ n₁ B : Nat} {L : List Num} (h : SeqM w n₁ B L) (hn : n₀ ≤ n₁) : SeqM w n₀ B L := by
  obtain ⟨h1, h2, A, cap, h3, h4⟩ := h
  refine ⟨by omega, h2, A, cap, h3, h4.1, fun hp => ?_⟩
  obtain ⟨b, off, e, hb, hc⟩ := h4.2 hp
  exact ⟨b, off, e, ⟨Nat.le_trans hn hb.1, hb.2⟩, hc⟩

/-- What Order tells: the live ones by rising generations; of a ring that may not be, none. -/
def OrdT (sec : Int) (xs : List Seg) (L : List Num) : Prop := Rises L ∧ (OkR sec xs → L.Perm (live xs)) ∧ (¬ OkR sec xs → L = [])
set_option maxRecDepth 100000 in
set_option maxHeartbeats 1000000 in
theorem order_any {w : World} {A : Option Addr} {n cap : Nat} {xs : List Seg} (h : RowZ w (· < w.heap.size) A n xs) (sec : Int) :
    Calls Try.prog 41 #[ringV sec A n cap] w fun e w' => ∃ B L, e = .returned (.func (.func 114) #[] #[.pointer (some ⟨B, 0, none⟩)]) ∧ SeqM w' w.heap.size B L ∧ OrdT sec xs L ∧ Below w.heap.size w w' := by
  have HX := Lib.hid h
  have HB1 := Lib.hid ((Below.refl w.heap.size w).alloc (Nat.le_refl _) (.cells #[.int .i64 sec, .slice A n cap] 66))
  have HC := Lib.hid (check_any (cap := cap) (row_now h HB1.out) sec)
  clear h
  by_cases hk : OkR sec xs
  case neg =>
    rw [if_neg hk] at HC
    have HK := Lib.hid hk
    clear hk
    go_enter Try.func41, Try.ntmps41
    go_wp2_with (first
      | (go_at_call 44; refine HC.out.mono ?_; rintro e w1 ⟨rfl, hb1⟩; have HB2 := Lib.hid (ring_first hb1); have HR := Lib.hid (rising_any (w := w1) (A := none) (n := 0) (cap := 0) (xs := []) (RowQ.nil _ _ _ _ _ _) (by omega)); clear hb1)
      | (go_at_call 86; refine HR.out.mono ?_; rintro e w5 ⟨B, L, rfl, hsq, hperm, hri, hb5⟩; have HS := Lib.hid hsq; have HP := Lib.hid hperm; have HI := Lib.hid hri; have HB5 := Lib.hid hb5; clear hsq hperm hri hb5))
    go_ret
    exact ⟨B, L, rfl, HS.out.mono HB2.out.1.size, ⟨HI.out, fun k => absurd k HK.out, fun _ => List.Perm.eq_nil (by simpa [live, liveTo] using HP.out)⟩, HB2.out.1.trans (HB5.out.mono HB2.out.1.size)⟩
  rw [if_pos hk] at HC
  have hn := (ok_n hk HX.out.1).2
  have HN := Lib.hid hn
  have HK := Lib.hid hk
  clear hk hn
  go_enter Try.func41, Try.ntmps41
  go_wp2_with (first
    | (go_at_call 44; refine HC.out.mono ?_; rintro e w1 ⟨rfl, hb1⟩; have HB2 := Lib.hid (ring_first hb1); obtain ⟨k0, k1⟩ := ring_cells HB2.out.2; have HR := Lib.hid (rising_any (w := w1) (cap := cap) (row_now HX.out HB2.out.1) HN.out); clear hb1)
    | (go_at_call 86; refine HR.out.mono ?_; rintro e w5 ⟨B, L, rfl, hsq, hperm, hri, hb5⟩; have HS := Lib.hid hsq; have HP := Lib.hid hperm; have HI := Lib.hid hri; have HB5 := Lib.hid hb5; clear hsq hperm hri hb5))
  go_ret
  exact ⟨B, L, rfl, HS.out.mono HB2.out.1.size, ⟨HI.out, fun _ => HP.out, fun k => absurd HK.out k⟩, HB2.out.1.trans (HB5.out.mono HB2.out.1.size)⟩
end Go.Proofs.Ytkmbbfdjdmkjpaa
