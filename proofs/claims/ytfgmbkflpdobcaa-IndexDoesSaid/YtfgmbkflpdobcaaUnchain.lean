/- unchain: an entry is taken out of its chain. -/
import Derived.Test.YtfgmbkflpdobcaaRep
import Derived.Test.YtfgmbkflpdobcaaIx2
namespace Go.Proofs.Ytfgmbkflpdobcaa
open Go.RowKit
attribute [local go_sem] Oper.semAt_some
set_option linter.unusedVariables false
set_option linter.unusedSimpArgs false
def offOf : Value → Nat
  | .pointer (some a) => a.off
  | _ => 0
set_option maxRecDepth 100000 in
set_option maxHeartbeats 2000000 in
theorem unchain_ix {w : World} {x : Nat} {c : Nat → Int} (h : IxM w x c) (k f g : Nat) (pre post : List Nat) (hk : k < 1025) (hc : c (2 + k) = f) (hg : f % 1024 = g) (hC : Lk 4102 c (c (5127 + g)) (pre ++ k :: post)) (hn : (pre ++ k :: post).Nodup) :
    Calls Try.prog 39 #[.pointer (some ⟨x, 0, none⟩), .int .i64 k] w fun e w' => e = .returned (.tuple #[]) ∧ IxM w' x (upd c (endC 4102 (5127 + g) pre) (c (4102 + k))) ∧ Kept (· ≠ x) w w' := by
  have hg' : g < 1024 := by omega
  have h1 := h.fing (i := k) hk
  rw [hc] at h1
  have h2 := h.hi (i := 4102 + k) (by omega) (by omega)
  obtain ⟨vk, hvk⟩ : ∃ v, c (4102 + k) = v := ⟨_, rfl⟩
  rw [hvk] at h2 ⊢
  have HVK := Lib.hid hvk
  have HX := Lib.hid h
  have HC := Lib.hid hC
  have HN := Lib.hid hn
  have HM := Lib.hid hC.mem
  have HH := Lib.hid (fun (W : World) => by have := home_any f W; rw [hg] at this; exact this)
  clear h hc hC hn hvk hg
  go_enter Try.func39, Try.ntmps39
  go_wp2_with fail
  go_quiet ((go_at_call 37; exact Calls.quiet_of_same (HH.out _)))
  go_wp2
  go_loopw [4] (fun i wr => ∃ (a b : List Nat), pre = a ++ b ∧ i = .pointer (some ⟨x, endC 4102 (5127 + g) a, none⟩) ∧ IxM wr x c ∧ Kept (· ≠ x) w wr)
    (fun i _ => lenK 4102 c (c (offOf i)))
  case atStart => exact ⟨[], pre, rfl, rfl, HX.out, (Kept.refl _ w).drewN _⟩
  case round =>
    obtain ⟨a, b, hab, rfl, hXr, hKr⟩ := hrel
    have HXR := Lib.hid hXr
    have HKR := Lib.hid hKr
    clear hXr hKr
    have hL := HC.out
    rw [hab, List.append_assoc] at hL
    have hB := hL.behind
    have hlen := hB.len
    obtain ⟨p, hp⟩ : ∃ p, endC 4102 (5127 + g) a = p := ⟨_, rfl⟩
    have hpr : 4102 ≤ p ∧ p < 8202 := by
      rcases endC_mem 4102 (5127 + g) a with e | ⟨j, hj, e⟩
      · omega
      · have := HM.out j (by rw [hab]; simp [hj])
        omega
    rw [hp] at hB hlen ⊢
    have c1 := HXR.out.hi hpr.1 hpr.2
    have f1 := HXR.out.frozen p
    cases b with
    | nil =>
      have e1 : c p = k := hB.1
      rw [e1] at c1
      have HAB := Lib.hid (show endC 4102 (5127 + g) pre = p by rw [hab, List.append_nil]; exact hp)
      have c2 : wr.cell? ⟨x, 4102 + k, none⟩ = some (.int .i64 vk) := by rw [← HVK.out]; exact HXR.out.hi (by omega) (by omega)
      clear hL hB hlen hab hp e1
      go_wp2
      go_end0
      refine ⟨rfl, ?_, ?_⟩
      · rw [HAB.out]
        exact HXR.out.set (kind_hi hpr.1) vk
      · exact HKR.out.setCell (by simp) _
    | cons j b =>
      have e1 : c p = j := hB.1
      have hj1 : 1 ≤ j := hB.2.1
      have hj2 : j < 1025 := hB.2.2.1
      have f4 := HXR.out.frozen (4102 + j)
      have hne : j ≠ k := by
        rintro rfl
        have := HN.out
        rw [hab, List.append_assoc, List.nodup_append] at this
        have := (List.nodup_cons.1 this.2.1).1
        simp at this
      rw [e1] at c1
      have hq : ((j : Int) != (k : Int)) = true := by simp; omega
      have HE := Lib.hid (endC_snoc 4102 (5127 + g) j a)
      have HAB := Lib.hid (show pre = (a ++ [j]) ++ b by rw [hab]; simp)
      have HL2 := Lib.hid (hB.2.2.2.len)
      have HLN := Lib.hid hlen
      clear hL hB hlen hab hp e1
      go_wp2
      go_quiet (fail)
      go_roundw
      case rel => exact ⟨_, _, _, _, _, _, _, _, _, _, _, _, _, ⟨a ++ [j], b, HAB.out, by rw [HE.out], HXR.out.drewN _, HKR.out.drewN _⟩, rfl⟩
      case measure => show lenK 4102 c (c (4102 + j)) < lenK 4102 c (c p); rw [HLN.out, HL2.out]; simp
end Go.Proofs.Ytfgmbkflpdobcaa
