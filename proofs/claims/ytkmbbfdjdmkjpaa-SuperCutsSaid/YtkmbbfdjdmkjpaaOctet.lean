/- Package octet: what clone, put and a Reader's calls answer, and what becomes of memory. -/
import Derived.Test.YtkmbbfdjdmkjpaaMem
import Derived.Deep.QuietTactic
import Derived.BigQuiet
namespace Go.Proofs.Ytkmbbfdjdmkjpaa
open Go.RowKit
set_option linter.unusedVariables false

theorem info_u8 : (Try.prog.info? 5).map (fun i => (i.zero, i.size, i.bytes)) = some (some (.int .u8 0), 1, 1) := by kernel_rfl
theorem size_u8 : (Try.prog.info? 5).map (·.size) = some 1 := by kernel_rfl

/-- A block of bytes. -/
abbrev ArrU (w : World) (g : Nat) (xs : List Int) : Prop := Arr (Value.int .u8) w g 5 xs

theorem one_u8 (xs : List Int) : ∀ v ∈ xs.map (Value.int .u8), v.oneCell' = true := by
  intro v hv
  obtain ⟨x, _, rfl⟩ := List.mem_map.1 hv
  rfl

theorem splice_all {α : Type} (L cs : List α) (h : L.length = cs.length) : splice L 0 cs = cs := by
  unfold splice
  rw [List.drop_eq_nil_of_le (by omega)]
  simp

theorem quiet_draw {P : Program} {f : FuncId} {args : Array Value} {w : World} {n : Nat} {v : Value}
    (h : Calls P f args (w.drewN n) fun e w' => e = .returned v ∧ ∃ k, (w.drewN n).drewN k = w') : Calls P f args (w.drewN n) fun e w'' => e = .returned v ∧ ∃ m, w'' = w.drewN m :=
  h.mono fun _ _ ⟨he, k, hm⟩ => ⟨he, n + k, by rw [← hm, World.drewN_drewN]⟩

/-- The source of a copy, as the law asks it. -/
theorem row_src {w : World} {S : Nat → Prop} {A : Option Addr} {n : Nat} {xs : List Int} (h : RowI .u8 w S A n xs) (hn : 0 < n) :
    ∃ ad, A = some ad ∧ ∀ j v, (xs.map (Value.int .u8))[j]? = some v → w.cell? (ad.add j) = some v := by
  obtain ⟨b, off, e, _, hc⟩ := h.2 hn
  refine ⟨_, e, fun j v hv => ?_⟩
  have hl := h.1
  have hj : j < xs.length := by
    rcases Nat.lt_or_ge j xs.length with h | h
    · exact h
    · rw [List.getElem?_eq_none (by simpa using h)] at hv; cases hv
  rw [add_plain, hc j (by omega)]
  simpa [List.getD, List.getElem?_eq_getElem hj] using hv

/-- clone: the same bytes in a block of their own. -/
theorem clone_any (A : Option Addr) (n c : Nat) (xs : List Int) (S : Nat → Prop) (w : World) (hx : RowI .u8 w S A n xs) (hS : ∀ b, S b → b < w.heap.size) (hn : n ≤ 140737488351232) :
    Calls Try.prog 117 #[.slice A n c] w fun e w' => e = .returned (.slice (some ⟨w.heap.size, 0, none⟩) n n) ∧ ArrU w' w.heap.size xs ∧ Below w.heap.size w w' := by
  have hmk := fun u : World => run_make_row' (P := Try.prog) 91 5 (.int .u8 0) 1 Try.underlying91 info_u8 rfl .i64 .i64 n (by omega) (by omega) u
  have hlen := hx.1
  have HX := hx.keep (w' := w.alloc (.cells (madeCells #[.int .u8 0] n) 5)) fun p hp => World.cell?_alloc_lt w _ p (hS _ hp)
  have HM := Lib.hid (Arr.made (mk := Value.int .u8) w 0 n 5)
  have HB := Lib.hid ((Below.refl w.heap.size w).alloc (Nat.le_refl _) (.cells (madeCells #[.int .u8 0] n) 5))
  have h1 := Lib.hid (show (xs.map (Value.int .u8)).length = Nat.min n n by simp [hlen])
  have h2 := Lib.hid (show 0 < (xs.map (Value.int .u8)).length → some (⟨w.heap.size, 0, none⟩ : Addr) = some ⟨w.heap.size, 0, none⟩ ∧ _ from fun hp => ⟨rfl, row_src HX (by simpa [hlen] using hp)⟩)
  have h3 := Lib.hid (show 0 + (xs.map (Value.int .u8)).length ≤ ((List.replicate n (0 : Int)).map (Value.int .u8)).length by simp [hlen])
  have h4 := Lib.hid (show ((List.replicate n (0 : Int)).map (Value.int .u8)).length = (xs.map (Value.int .u8)).length by simp [hlen])
  clear hx hlen HX
  go_enter Try.func117, Try.ntmps117
  go_wp2_with (refine wpList_copy_splice rfl (.tmp 7) (.tmp 8) 91 91 rfl 5 Try.underlying91 size_u8 _ _ _ _ _ _ rfl rfl w.heap.size 0 ((List.replicate n (0 : Int)).map (Value.int .u8)) 5 HM.out (xs.map (Value.int .u8)) h1.out h2.out h3.out (one_u8 xs) w.heap.size w HB.out (Nat.le_refl _) ?_; intro w2 hg hb; have hb2 := Lib.hid hb; clear hb)
  go_ret
  refine ⟨rfl, ?_, hb2.out⟩
  have := hg.out
  rw [splice_all _ _ h4.out] at this
  exact this

end Go.Proofs.Ytkmbbfdjdmkjpaa
