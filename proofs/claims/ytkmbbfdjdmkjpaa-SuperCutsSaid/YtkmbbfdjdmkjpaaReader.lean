/- Package octet: a Reader's calls. -/
import Derived.Test.YtkmbbfdjdmkjpaaOctet
namespace Go.Proofs.Ytkmbbfdjdmkjpaa
open Go.RowKit
set_option linter.unusedVariables false

/-- A Reader lies in block r: its bytes xs in block g, 'pos' of them read, its error err. -/
def Rd (w : World) (r g : Nat) (xs : List Int) (pos : Nat) (err : Int) : Prop :=
  Blk w r 149 #[.slice (some ⟨g, 0, none⟩) xs.length xs.length, .int .i64 pos, .int .i64 err] ∧ ArrU w g xs ∧ pos ≤ xs.length ∧ r ≠ g ∧ xs.length ≤ 140737488351232

section
variable {w w' : World} {r g : Nat} {xs : List Int} {pos : Nat} {err : Int}
theorem Rd.blk (h : Rd w r g xs pos err) : Blk w r 149 #[.slice (some ⟨g, 0, none⟩) xs.length xs.length, .int .i64 pos, .int .i64 err] := h.1
theorem Rd.arr (h : Rd w r g xs pos err) : ArrU w g xs := h.2.1
theorem Rd.cell0 (h : Rd w r g xs pos err) : w.cell? ⟨r, 0, none⟩ = some (.slice (some ⟨g, 0, none⟩) xs.length xs.length) := h.1.cell 0
theorem Rd.cell1 (h : Rd w r g xs pos err) : w.cell? ⟨r, 1, none⟩ = some (.int .i64 pos) := h.1.cell 1
theorem Rd.cell2 (h : Rd w r g xs pos err) : w.cell? ⟨r, 2, none⟩ = some (.int .i64 err) := h.1.cell 2
theorem Rd.kept {S : Nat → Prop} (h : Rd w r g xs pos err) (hk : Kept S w w') (hr : S r) (hg : S g) : Rd w' r g xs pos err := ⟨h.1.kept hk hr, h.2.1.kept hk hg, h.2.2⟩
theorem Rd.drewN (h : Rd w r g xs pos err) (k : Nat) : Rd (w.drewN k) r g xs pos err := h
theorem Rd.setPos (h : Rd w r g xs pos err) (q : Nat) (hq : q ≤ xs.length) : Rd (w.setCell ⟨r, 1, none⟩ (.int .i64 q)) r g xs q err :=
  ⟨h.1.set_ 1 _, Blk.far h.2.1 (p := ⟨r, 1, none⟩) (fun e => h.2.2.2.1 e.symm) _, hq, h.2.2.2⟩
theorem Rd.setErr (h : Rd w r g xs pos err) (x : Int) : Rd (w.setCell ⟨r, 2, none⟩ (.int .i64 x)) r g xs pos x :=
  ⟨h.1.set_ 2 _, Blk.far h.2.1 (p := ⟨r, 2, none⟩) (fun e => h.2.2.2.1 e.symm) _, h.2.2⟩
end

theorem read_any (A : Option Addr) (n c : Nat) (xs : List Int) (S : Nat → Prop) (w : World) (hx : RowI .u8 w S A n xs) (hS : ∀ b, S b → b < w.heap.size) (hn : n ≤ 140737488351232) :
    Calls Try.prog 104 #[.slice A n c] w fun e w' => ∃ r, e = .returned (.pointer (some ⟨r, 0, none⟩)) ∧ w.heap.size < r ∧ Rd w' r w.heap.size xs 0 0 ∧ Below w.heap.size w w' := by
  have HX := Lib.hid hx
  have hlen := Lib.hid hx.1
  clear hx
  go_enter Try.func104, Try.ntmps104
  go_wp2_with (go_at_call 117; refine (clone_any A n c xs S _ HX.out hS hn).mono ?_; rintro e w1 ⟨rfl, ha, hb⟩; have HA := Lib.hid ha; have HB := Lib.hid hb; clear ha hb)
  go_ret
  have hl := hlen.out
  subst hl
  have hlt := HA.out.lt
  exact ⟨_, rfl, hlt, ⟨Blk.new _ _ _, Blk.alloc HA.out _, by omega, by omega, hn⟩, HB.out.alloc HB.out.size _⟩

theorem err_any (w : World) (r g : Nat) (xs : List Int) (pos : Nat) (err : Int) (h : Rd w r g xs pos err) :
    Calls Try.prog 133 #[.pointer (some ⟨r, 0, none⟩)] w fun e w' => e = .returned (.int .i64 err) ∧ w = w' := by
  have c2 := h.cell2
  clear h
  go_enter Try.func133, Try.ntmps133
  go_wp2
  go_ret
  exact ⟨rfl, rfl⟩

theorem left_any (w : World) (r g : Nat) (xs : List Int) (pos : Nat) (err : Int) (h : Rd w r g xs pos err) :
    Calls Try.prog 134 #[.pointer (some ⟨r, 0, none⟩)] w fun e w' => e = .returned (.int .i64 ((xs.length - pos : Nat) : Int)) ∧ ∃ k, w.drewN k = w' := by
  have c0 := h.cell0
  have c1 := h.cell1
  have h1 := h.2.2.1
  have h2 := h.2.2.2.2
  clear h
  go_enter Try.func134, Try.ntmps134
  go_wp2
  go_quiet (fail)
  go_wp2
  go_ret
  exact ⟨ret_int (by omega), _, rfl⟩

theorem take_err (w : World) (r g : Nat) (xs : List Int) (pos : Nat) (err n : Int) (h : Rd w r g xs pos err) (he : (err == 0) = false) :
    Calls Try.prog 122 #[.pointer (some ⟨r, 0, none⟩), .int .i64 n] w fun e w' => e = .returned (.slice none 0 0) ∧ w = w' := by
  have H := Lib.hid h
  clear h
  have he2 : (err != 0) = true := by simp [bne, he]
  go_enter Try.func122, Try.ntmps122
  go_wp2_with (go_at_call 133; refine (err_any _ r g xs pos err H.out).mono ?_; rintro e w' ⟨rfl, rfl⟩)
  go_ret
  exact ⟨rfl, rfl⟩

theorem take_short (w : World) (r g : Nat) (xs : List Int) (pos : Nat) (n : Nat) (h : Rd w r g xs pos 0) (hn : xs.length - pos < n) :
    Calls Try.prog 122 #[.pointer (some ⟨r, 0, none⟩), .int .i64 n] w fun e w' => e = .returned (.slice none 0 0) ∧ Rd w' r g xs pos 9 ∧ Kept (fun b => b < w.heap.size ∧ b ≠ r) w w' := by
  have H := Lib.hid h
  have hcell := h.cell2
  have hfr := h.1.frozen 2
  clear h
  have d0 : decide ((n : Int) < 0) = false := by simp
  have d1 : decide (((xs.length - pos : Nat) : Int) < (n : Int)) = true := by simp; omega
  go_enter Try.func122, Try.ntmps122
  go_wp2_with (first | (go_at_call 133; refine (err_any _ r g xs pos 0 H.out).mono ?_; rintro e w' ⟨rfl, rfl⟩) | (go_at_call 134; refine (left_any _ r g xs pos 0 H.out).mono ?_; rintro e w' ⟨rfl, k, rfl⟩))
  go_ret
  exact ⟨rfl, (H.out.drewN k).setErr 9, ((Kept.refl _ w).drewN k).setCell (fun h => h.2 rfl) _⟩

/-- What a take of n bytes leaves. -/
def Took (r g : Nat) (xs : List Int) (pos n : Nat) (w : World) (e : Ending) (w' : World) : Prop :=
  ∃ A c, e = .returned (.slice A n c) ∧ RowI .u8 w' (· = g) A n ((xs.drop pos).take n) ∧ Rd w' r g xs (pos + n) 0 ∧ Kept (fun b => b < w.heap.size ∧ b ≠ r) w w'

theorem took_mk {r g : Nat} {xs : List Int} {pos n : Nat} {w : World} (h : Rd w r g xs pos 0) (hn : n ≤ xs.length - pos) (k m : Nat) (A : Option Addr) (c : Nat) (q : Int) (hq : q = ((pos + n : Nat) : Int))
    (l : Nat) (hl : l = n)
    (hA : xs.length = pos ∨ A = some ⟨g, pos, none⟩) : Took r g xs pos n w (.returned (.slice A l c)) (((w.drewN k).setCell ⟨r, 1, none⟩ (.int .i64 q)).drewN m) := by
  have hl := hl.symm
  subst hq hl
  have hp := h.2.2.1
  have h1 := (((h.drewN k).setPos (pos + n) (by omega)).drewN m)
  refine ⟨_, _, rfl, ⟨by simp; omega, fun hpos => ?_⟩, h1, ((((Kept.refl _ w).drewN k).setCell (fun h => h.2 rfl) _).drewN m)⟩
  refine ⟨g, pos, by rcases hA with h | h; omega; exact h, rfl, fun j hj => ?_⟩
  rw [h1.arr.cell (i := pos + j) (by omega) 0]
  simp [List.getD, List.getElem?_take, List.getElem?_drop, hj]

theorem take_ok (w : World) (r g : Nat) (xs : List Int) (pos : Nat) (n : Nat) (h : Rd w r g xs pos 0) (hn : n ≤ xs.length - pos) :
    Calls Try.prog 122 #[.pointer (some ⟨r, 0, none⟩), .int .i64 n] w (Took r g xs pos n w) := by
  have H := Lib.hid h
  have hcell := h.cell1
  have hcell0 := h.cell0
  have hfr := h.1.frozen 1
  have hp := h.2.2.1
  have hx := h.2.2.2.2
  clear h
  have d0 : decide ((n : Int) < 0) = false := by simp
  have d1 : decide (((xs.length - pos : Nat) : Int) < (n : Int)) = false := by simp; omega
  by_cases hq : xs.length = pos
  · have HQ := Lib.hid hq
    obtain rfl : n = 0 := by omega
    clear hq
    go_enter Try.func122, Try.ntmps122
    go_wp2_with (first | (go_at_call 133; refine (err_any _ r g xs pos 0 H.out).mono ?_; rintro e w' ⟨rfl, rfl⟩) | (go_at_call 134; refine (left_any _ r g xs pos 0 H.out).mono ?_; rintro e w' ⟨rfl, k, rfl⟩))
    go_quiet (fail)
    go_wp2
    all_goals
      go_ret
      exact took_mk H.out (by omega) _ _ _ _ _ (by simp) _ (by omega) (.inl HQ.out)
  · go_enter Try.func122, Try.ntmps122
    go_wp2_with (first | (go_at_call 133; refine (err_any _ r g xs pos 0 H.out).mono ?_; rintro e w' ⟨rfl, rfl⟩) | (go_at_call 134; refine (left_any _ r g xs pos 0 H.out).mono ?_; rintro e w' ⟨rfl, k, rfl⟩))
    go_quiet (fail)
    go_wp2
    all_goals
      go_ret
      exact took_mk H.out (by omega) _ _ _ _ _ rfl _ (by omega) (.inr rfl)

end Go.Proofs.Ytkmbbfdjdmkjpaa
