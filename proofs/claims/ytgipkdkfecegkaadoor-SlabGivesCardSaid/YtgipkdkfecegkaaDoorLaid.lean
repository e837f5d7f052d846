/- What a row's listed table gives the walk; the heap that the door leaves has it. -/
import Derived.Test.YtgipkdkfecegkaaDoorRows
import Derived.Test.YtgipkdkfecegkaaDoorPc2
import Derived.Lib.LaidTab
import Derived.LaidMore
import Derived.Stop.Joined
namespace Go.Proofs.YtgipkdkfecegkaaDoor
open Go.RowKit
set_option linter.unusedVariables false
abbrev laidL : List (String × DataW Unit) := [("math/bits.deBruijn32tab", Rows.laid_math_bits_deBruijn32tab)]
set_option maxRecDepth 100000 in
theorem door_met (os : Os) (args : Array Value) : laidMetH Tryd.prog laidL ((World.doorLaid Tryd.prog 400 os).forCall (fun _ _ => 0) ⟨#[], args, []⟩).memory :=
  laidMetH_of_parts3 (fuel := 8) (laidMet_of_run' 8 (by kernel_rfl) (by kernel_rfl)) (by kernel_rfl) (by kernel_rfl)
theorem tab_glob : Tryd.prog.globalNamed "math/bits.deBruijn32tab" = some 0 := by kernel_rfl
theorem tab_type : (Tryd.prog.globals[0]?).map (·.type) = some 72 := by kernel_rfl
theorem tab_of_laid {W : World} (h : laidMetH Tryd.prog laidL W) : Tab W := by
  rw [MakeChecks.laidMetH_plain _ _ _ (by kernel_rfl)] at h
  have h1 := Lib.tabIs_of_head (k := .u8) (zs := Lib.deBruijn32tab.map (fun n : Nat => (n : Int))) tab_glob tab_type Tryd.underlying72 Tryd.underlying5 (by kernel_rfl) (by kernel_rfl) h
  have hc : ∀ j, j < Lib.deBruijn32tab.length → W.cell? ⟨0, j, none⟩ = some (.int .u8 (Lib.deBruijn32tab.getD j 0 : Nat)) := fun j hj => by
    have := h1.cell tab_glob j (by simpa using hj)
    rw [this]
    simp [List.getD, List.getElem?_eq_getElem hj]
  refine ⟨?_, hc⟩
  have := World.block_lt_of_cell? W _ (hc 0 (by decide))
  exact this
end Go.Proofs.YtgipkdkfecegkaaDoor
