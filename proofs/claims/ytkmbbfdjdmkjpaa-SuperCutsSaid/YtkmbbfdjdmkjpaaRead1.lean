/- Package disk: what Read does where it is let. -/
import Derived.Test.YtkmbbfdjdmkjpaaDk1
import Derived.Deep.RegionHeld3
namespace Go.Proofs.Ytkmbbfdjdmkjpaa
open Go.RowKit
set_option linter.unusedVariables false
set_option linter.unusedSimpArgs false

theorem sizeOf_blk : ∀ w, (sizeOf 26).run Try.prog w = .ok 64 w := Try.sizeOf26

section
variable {w : World} {d H S n : Nat} {v : Value} {m : Nat} {held safe : List Int} {P : List Value} {armed fails : Int} {dead : Bool} {ops : Int}

set_option maxHeartbeats 1000000 in
set_option maxRecDepth 100000 in
theorem read1_any (h : Dm w d H S n v m held safe P armed fails dead ops) (xss : List (List Int)) (hs : Secs xss) (hh : held = flat xss) (hn : xss.length = n) (hn2 : n ≤ 2048) (i : Nat) (hi : i < n) (gd gi gb : Nat) (ys : List Int) (hy : ys.length = 64)
    (hgd : Blk w gd 39 #[.pointer (some ⟨d, 0, none⟩)]) (hgi : Blk w gi 3 #[.int .i64 i]) (hgb : ArrB w gb ys) (hne : H ≠ gb) :
    Calls Try.prog 79 #[.pointer (some ⟨gd, 0, none⟩), .pointer (some ⟨gi, 0, none⟩), .pointer (some ⟨gb, 0, none⟩)] w fun e w' => e = .returned (.tuple #[]) ∧ w' = w.drew.setRow gb (cells8 (xss.getD i [])) := by
  have c0 := h.cell.1
  have cd := hgd.cell 0
  have ci := hgi.cell 0
  simp only [List.getElem?_toArray, List.getElem?_cons_zero] at cd ci
  have hu := Try.underlying26
  have hr : w.rangeAt H (i * 64) ((xss.getD i []).map (Value.int .u8)) := by
    obtain ⟨b, off, e, _, hc⟩ := (Arr.rowK (hh ▸ h.hh) hs hn (S := fun _ => True) trivial).2 (by omega)
    injection e with e
    injection e with e1 e2 _
    subst e1 e2
    have := hc i hi
    rwa [Nat.zero_add] at this
  have hl := hs.get i (by omega)
  generalize xss.getD i [] = zs at *
  have hsz : (Try.prog.info? 26).map (·.size) = some (zs.map (Value.int .u8)).length := by rw [size_blk, List.length_map, hl]
  have n1 : gd ≠ gb := hgd.ne_ hgb (by decide)
  have n2 : gi ≠ gb := hgi.ne_ hgb (by decide)
  have n3 : d ≠ gb := h.blk.ne_ hgb (by decide)
  have kd := fun cs => far_cells (w := w.drew) (g := gb) (o := 0) cs cd n1
  have ki := fun cs => far_cells (w := w.drew) (g := gb) (o := 0) cs ci n2
  have k0 := fun cs => far_cells (w := w.drew) (g := gb) (o := 0) cs c0 n3
  have kr := fun cs => far_cells_range (w := w.drew) (g := gb) (o := 0) (cs := cs) hr hne
  have hone := ones8 zs
  have hth : w.drew.there gb 0 (zs.map (Value.int .u8)).length := Blk.there (w := w.drew) hgb (by simp [hl, hy])
  have hrow := setCells_row (P := Try.prog) (w := w.drew) hgb 0 _ hone (by simp [hl, hy])
  have HROW := Lib.hid hrow
  clear hrow
  have HGB := Lib.hid hgb
  have HL := Lib.hid hl
  have hi0 : (0 : Int) ≤ (i : Int) := by omega
  have hi1 : (i : Int) < (n : Int) := by omega
  have HI := Lib.hid hi
  clear h hgd hgi hgb hl hh hs hn
  go_enter Try.func79, Try.ntmps79
  go_region_held3 (fun W => W.cell? ⟨gd, 0, none⟩ = some (.pointer (some ⟨d, 0, none⟩)) ∧ W.cell? ⟨gi, 0, none⟩ = some (.int .i64 i) ∧ W.cell? ⟨d, 0, none⟩ = some (.slice (some ⟨H, 0, none⟩) n n) ∧ W.rangeAt H (i * 64) (zs.map (Value.int .u8)))
    (first | exact ⟨cd, ci, c0, hr⟩ | exact ⟨kd _, ki _, k0 _, kr _⟩)
    (fail)
  go_end0
  refine ⟨rfl, ?_⟩
  rw [HROW.out]
  congr 1
  simp [cells8, HL.out, hy]
end

end Go.Proofs.Ytkmbbfdjdmkjpaa

