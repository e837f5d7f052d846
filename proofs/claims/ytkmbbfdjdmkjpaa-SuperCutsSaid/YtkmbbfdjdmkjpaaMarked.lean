/- '[]byte' of a constant text: a row that is marked reads as its bytes. Nothing of the program is spoken of here. -/
import Derived.Test.YtkmbbfdjdmkjpaaMem
import Derived.Lib.SlBytesConst
namespace Go.Proofs.Ytkmbbfdjdmkjpaa
open Go.RowKit

theorem row_marked (w : World) (xs : List Int) (m : Nat × Nat) (n : Nat) (hn : xs.length = n) {S : Nat → Prop} (hs : S w.heap.size) : RowI .u8 (w.alloc (.cells (xs.map (Value.int .u8)).toArray 5 m)) S (some ⟨w.heap.size, 0, none⟩) n xs := by
  subst hn
  refine ⟨rfl, fun _ => ⟨w.heap.size, 0, rfl, hs, fun j hj => ?_⟩⟩
  rw [World.cell?_alloc_mark]
  simp [List.getD, List.getElem?_eq_getElem hj]

end Go.Proofs.Ytkmbbfdjdmkjpaa
