/- slices.SortFunc of no segment. -/
import Derived.Test.YtkmbbfdjdmkjpaaCmp
import Derived.Shelf.SlSortCmp.NoneTotal
namespace Go.Proofs.Ytkmbbfdjdmkjpaa
open Go.RowKit Go.Shelf Go.Lib Go.Sort

theorem sort_none (p : Option Addr) (cap : Nat) (fv : Value) (w : World) :
    Calls Try.prog 111 #[.slice p 0 cap, fv] w fun e w' => e = .returned (.tuple #[]) ∧ w' = w :=
  AnyF.slices_SortFunc_none sortNum p cap fv w

end Go.Proofs.Ytkmbbfdjdmkjpaa
