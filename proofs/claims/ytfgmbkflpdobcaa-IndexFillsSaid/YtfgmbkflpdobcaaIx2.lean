/- An index in memory: what its small functions do to the cells. -/
import Derived.Test.YtfgmbkflpdobcaaIx
import Derived.Deep.RegionHeld3
import Derived.Test.YtfgmbkflpdobcaaOctet
namespace Go.Proofs.Ytfgmbkflpdobcaa
open Go.RowKit
attribute [local go_sem] Oper.semAt_some
set_option linter.unusedVariables false
set_option linter.unusedSimpArgs false

theorem home_any (f : Nat) (w : World) : Calls Try.prog 37 #[.int .u32 f] w fun e w' => e = .returned (.int .u32 (f % 1024 : Nat)) ∧ w' = w := by
  go_enter Try.func37, Try.ntmps37
  go_wp2
  go_ret
  exact ⟨by simp, rfl⟩

theorem give_back {w : World} {x : Nat} {c : Nat → Int} (h : IxM w x c) (k : Nat) (hk : k < 1025) :
    Calls Try.prog 23 #[.pointer (some ⟨x, 0, none⟩), .int .i64 k] w fun e w' => e = .returned (.tuple #[]) ∧ IxM w' x (upd (upd c (4102 + k) (c 6151)) 6151 k) ∧ Kept (· ≠ x) w w' := by
  have h1 := h.hi (i := 6151) (by omega) (by omega)
  have h2 := h.hi (i := 4102 + k) (by omega) (by omega)
  have f1 := h.frozen 6151
  have f2 := h.frozen (4102 + k)
  have HX := Lib.hid h
  clear h
  go_enter Try.func23, Try.ntmps23
  go_wp2
  go_region
  all_goals go_wp2
  all_goals (first | go_ret | go_ret2 | go_end0)
  all_goals exact ⟨rfl, ((HX.out.set (kind_hi (by omega)) _).set (kind_hi (by omega)) _).drew, (((Kept.refl _ w).setCell (by simp) _).setCell (by simp) _).drew⟩

theorem take_free {w : World} {x : Nat} {c : Nat → Int} (h : IxM w x c) (k : Nat) (hk : k < 1025) (hc : c 6151 = k) :
    Calls Try.prog 29 #[.pointer (some ⟨x, 0, none⟩)] w fun e w' => e = .returned (.int .i64 k) ∧ IxM w' x (upd c 6151 (c (4102 + k))) ∧ Kept (· ≠ x) w w' := by
  have h1 := h.hi (i := 6151) (by omega) (by omega)
  rw [hc] at h1
  have h2 := h.hi (i := 4102 + k) (by omega) (by omega)
  have f1 := h.frozen 6151
  have f2 := h.frozen (4102 + k)
  have HX := Lib.hid h
  clear h hc
  go_enter Try.func29, Try.ntmps29
  go_wp2
  go_ret
  exact ⟨rfl, HX.out.set (kind_hi (by omega)) _, (Kept.refl _ w).setCell (by simp) _⟩

theorem chain_ix {w : World} {x : Nat} {c : Nat → Int} (h : IxM w x c) (k f g : Nat) (hk : k < 1025) (hc : c (2 + k) = f) (hg : f % 1024 = g) :
    Calls Try.prog 30 #[.pointer (some ⟨x, 0, none⟩), .int .i64 k] w fun e w' => e = .returned (.tuple #[]) ∧ IxM w' x (upd (upd c (4102 + k) (c (5127 + g))) (5127 + g) k) ∧ Kept (· ≠ x) w w' := by
  have hg' : g < 1024 := by omega
  have h1 := h.fing (i := k) hk
  rw [hc] at h1
  have h2 := h.hi (i := 4102 + k) (by omega) (by omega)
  have h3 := h.hi (i := 5127 + g) (by omega) (by omega)
  have f2 := h.frozen (4102 + k)
  have f3 := h.frozen (5127 + g)
  have HX := Lib.hid h
  have HH := Lib.hid (fun (W : World) => by have := home_any f W; rw [hg] at this; exact this)
  clear h hc hg
  go_enter Try.func30, Try.ntmps30
  go_wp2_with fail
  go_quiet ((go_at_call 37; exact Calls.quiet_of_same (HH.out _)))
  go_wp2
  go_region
  all_goals go_wp2
  all_goals (first | go_ret | go_ret2 | go_end0)
  all_goals exact ⟨rfl, ((HX.out.set (kind_hi (by omega)) _).set (kind_hi (by omega)) _).drew, by repeat (first | exact Kept.refl _ _ | apply Kept.drew | apply Kept.drewN | refine Kept.setCell ?_ (by simp) _)⟩

theorem line_ix {w : World} {x : Nat} {c : Nat → Int} (h : IxM w x c) (k l : Nat) (hk : k < 1025) (hl : l < 1025) (hc : c 7177 = l) :
    Calls Try.prog 31 #[.pointer (some ⟨x, 0, none⟩), .int .i64 k] w fun e w' => e = .returned (.tuple #[]) ∧ IxM w' x (upd (upd (upd (upd c (7177 + k) l) (6152 + k) 0) (6152 + l) k) 7177 k) ∧ Kept (· ≠ x) w w' := by
  have h1 := h.hi (i := 7177) (by omega) (by omega)
  rw [hc] at h1
  have h2 := h.hi (i := 7177 + k) (by omega) (by omega)
  have h3 := h.hi (i := 6152 + k) (by omega) (by omega)
  have f2 := h.frozen (7177 + k)
  have f3 := h.frozen (6152 + k)
  have HX := Lib.hid h
  clear h hc
  go_enter Try.func31, Try.ntmps31
  go_wp2
  go_region
  have hkp : Kept (· ≠ x) w ((w.setCell ⟨x, 7177 + k, none⟩ (.int .i64 l)).setCell ⟨x, 6152 + k, none⟩ (.int .i64 0)).drew := (((Kept.refl _ w).setCell (by simp) _).setCell (by simp) _).drew
  have hy := ((HX.out.set (i := 7177 + k) (kind_hi (by omega)) l).set (i := 6152 + k) (kind_hi (by omega)) 0).drew
  generalize ((w.setCell ⟨x, 7177 + k, none⟩ (.int .i64 l)).setCell ⟨x, 6152 + k, none⟩ (.int .i64 0)).drew = w1 at *
  have h4 := hy.hi (i := 6152 + l) (by omega) (by omega)
  have h5 := hy.hi (i := 7177) (by omega) (by omega)
  have f4 := hy.frozen (6152 + l)
  have f5 := hy.frozen 7177
  have HY := Lib.hid hy
  have HK := Lib.hid hkp
  clear hy hkp
  go_wp2
  go_region
  all_goals go_wp2
  all_goals (first | go_ret | go_ret2 | go_end0)
  all_goals exact ⟨rfl, ((HY.out.set (kind_hi (by omega)) _).set (kind_hi (by omega)) _).drew, ((HK.out.setCell (by simp) _).setCell (by simp) _).drew⟩

theorem unline_ix {w : World} {x : Nat} {c : Nat → Int} (h : IxM w x c) (k b d : Nat) (hk : k < 1025) (hb : b < 1025) (hd : d < 1025) (hcb : c (7177 + k) = b) (hcd : c (6152 + k) = d) :
    Calls Try.prog 40 #[.pointer (some ⟨x, 0, none⟩), .int .i64 k] w fun e w' => e = .returned (.tuple #[]) ∧ IxM w' x (upd (upd c (6152 + b) d) (7177 + d) b) ∧ Kept (· ≠ x) w w' := by
  have h1 := h.hi (i := 7177 + k) (by omega) (by omega)
  have h2 := h.hi (i := 6152 + k) (by omega) (by omega)
  rw [hcb] at h1
  rw [hcd] at h2
  have h3 := h.hi (i := 6152 + b) (by omega) (by omega)
  have h4 := h.hi (i := 7177 + d) (by omega) (by omega)
  have f3 := h.frozen (6152 + b)
  have f4 := h.frozen (7177 + d)
  have HX := Lib.hid h
  clear h hcb hcd
  go_enter Try.func40, Try.ntmps40
  go_wp2_with fail
  go_quiet (fail)
  go_wp2
  go_region
  all_goals go_wp2
  all_goals (first | go_ret | go_ret2 | go_end0)
  all_goals exact ⟨rfl, ((HX.out.set (kind_hi (by omega)) _).set (kind_hi (by omega)) _).drew, by repeat (first | exact Kept.refl _ _ | apply Kept.drew | apply Kept.drewN | refine Kept.setCell ?_ (by simp) _)⟩

theorem left_ix {w : World} {x : Nat} {c : Nat → Int} (h : IxM w x c) {s n : Int} (hs : c 0 = s) (hn : c 1 = n) (hlt : 0 ≤ n ∧ n ≤ s ∧ s ≤ 1024) :
    Calls Try.prog 17 #[.pointer (some ⟨x, 0, none⟩)] w fun e w' => e = .returned (.int .i64 (s - n)) ∧ Kept (fun _ => True) w w' := by
  have h1 := h.lo (i := 0) (by omega)
  have h2 := h.lo (i := 1) (by omega)
  rw [hs] at h1
  rw [hn] at h2
  go_enter Try.func17, Try.ntmps17
  go_wp2_with fail
  go_quiet (fail)
  go_wp2
  go_ret
  exact ⟨rfl, (Kept.refl _ w).drewN _⟩
theorem len_nil (w : World) : Calls Try.prog 16 #[.pointer none] w fun e w' => e = .returned (.int .i64 0) ∧ w' = w := by
  go_enter Try.func16, Try.ntmps16
  go_wp2
  go_ret
  exact ⟨rfl, rfl⟩
theorem left_nil (w : World) : Calls Try.prog 17 #[.pointer none] w fun e w' => e = .returned (.int .i64 0) ∧ w' = w := by
  go_enter Try.func17, Try.ntmps17
  go_wp2
  go_ret
  exact ⟨rfl, rfl⟩
end Go.Proofs.Ytfgmbkflpdobcaa
