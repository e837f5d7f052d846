/- In a round of a range over a function, what is walked by the plain calculus: regions without 'defer' are the same there. Nothing of the program is spoken of here. -/
import Derived.Test.YthegbimolbhikaaLast
import Derived.Test.YthegbimolbhikaaRangeBy
import Derived.Test.YthegbimolbhikaaQuietR
import Derived.OrdersIn
import Derived.TacticsIn
namespace Go.Proofs.Ythegbimolbhikaa
open Go.RowKit
set_option linter.unusedVariables false
section
variable {P : Program} {n l : Nat} {Q : Exit → Act → World → Prop}
theorem callsIn_round {f : FuncId} {args : Array Value} {w : World} {R : Ending → World → Prop} (h : Calls P f args w R) : CallsIn (Fence.wide.inRound l) n P f args w R :=
  ⟨trivial, fun cs _ => let ⟨e, w', fr, r, s, x⟩ := h cs; ⟨e, w', fr, r, comesIn_wide.2 s, x⟩⟩
theorem rowsIn_round {row : String} {args : Array Value} {w : World} {R : Value → World → Prop} (h : Rows P row args w R) : RowsIn (Fence.wide.inRound l) n P row args w R :=
  fun c cs _ => let ⟨v, w', r, s⟩ := h c cs; ⟨v, w', r, stepsIn_wide.2 s⟩
theorem operIn_round {o : Oper} {a : Act} {w : World} {K : Act → World → Prop} (hnd : ∀ c, o.op ≠ .defer c) (h : o.wp P a w K Q) : o.wpIn (Fence.wide.inRound l) n P a w K Q := by
  refine ⟨fun _ _ => trivial, ?_⟩
  rw [Oper.semAt_eq _ _ _ hnd]
  unfold Oper.wp at h
  generalize (execOp a.eval o).run P w = r at *
  have hd : (Fence.wide.inRound l).depth.isSome = true → 1 ≤ n := fun h => by simp [Fence.wide] at h
  cases r with
  | ok x w' =>
    cases x <;> simp only [Oper.upon] at h <;> simp only [Oper.uponIn]
    all_goals first
      | exact h
      | exact ⟨hd, callsIn_round h⟩
      | exact ⟨hd, rowsIn_round h⟩
      | exact ⟨hd, h⟩
  | halt x w' => cases x <;> simp only [Oper.upon] at h <;> simp only [Oper.uponIn] <;> exact h
theorem anyIn_round {md : Region.Mode} {ops : Array Oper} (hnd : ∀ (i : Nat) (o : Oper), ops[i]? = some o → ∀ c, o.op ≠ .defer c) (hno : LetsOut Q → False) :
    ∀ (k : Nat) (L : Array Bool) (a : Act) (w : World), wpAny P md ops Q k L a w → wpAnyIn (Fence.wide.inRound l) n P md ops Q k L a w
  | 0, _, _, _, h => h
  | k + 1, L, a, w, h => by
    refine ⟨h.1, fun i hi => ?_⟩
    have h2 := h.2 i hi
    unfold wpOp at h2
    unfold wpOpIn
    split
    · rename_i ho
      simp only [ho] at h2
      exact anyIn_round hnd hno k _ _ _ h2
    · rename_i o ho
      simp only [ho] at h2
      split
      · rename_i hw
        simp only [hw, if_true] at h2
        exact Oper.wpIn_mono (fun a w h => anyIn_round hnd hno k _ _ _ h) (operIn_round (hnd i o ho) (h2.resolve_right fun h => hno h.2))
      · rename_i hw
        simp only [hw] at h2
        exact ⟨fun _ _ => trivial, anyIn_round hnd hno k _ _ _ h2⟩
theorem region_anyR {id : Nat} {ops : List Oper} {a : Act} {w : World} (hnd : ops.all noDefer = true) (hm : P.follows .mixedOrders = true) (hno : LetsOut Q → False)
    (h : wpAny P .any ops.toArray Q ops.toArray.size (Array.replicate ops.toArray.size false) a w.drew) : (Code.region id ops.toArray true).wpIn (Fence.wide.inRound l) n P Q a w :=
  wpIn_region_any hm (anyIn_round (noDefer_all hnd) hno _ _ _ _ h)
theorem listIn_round {ops : Array Oper} (hno : LetsOut Q → False) : ∀ (rest : List Oper) (a : Act) (w : World), rest.all noDefer = true → wpList P ops Q rest a w → wpListIn (Fence.wide.inRound l) n P ops Q rest a w
  | [], _, _, _, h => h
  | o :: rest, a, w, hnd, h => by
    have hnd' : noDefer o = true ∧ rest.all noDefer = true := by simpa using hnd
    unfold wpListIn
    unfold wpList at h
    split
    · rename_i hw
      simp only [hw, if_true] at h
      refine Oper.wpIn_mono (fun a w h => listIn_round hno rest a w hnd'.2 h) (operIn_round (fun c e => ?_) (h.resolve_right fun h => hno h.2))
      have := hnd'.1
      unfold noDefer at this
      rw [e] at this
      cases this
    · rename_i hw
      simp only [hw] at h
      exact ⟨fun _ _ => trivial, listIn_round hno rest _ _ hnd'.2 h⟩
theorem region_listR {id : Nat} {ops : List Oper} {a : Act} {w : World} (hnd : ops.all noDefer = true) (hno : LetsOut Q → False)
    (h : wpList P ops.toArray Q ops a w) : (Code.region id ops.toArray false).wpIn (Fence.wide.inRound l) n P Q a w :=
  wpIn_region_lit (listIn_round hno ops a w hnd h)
/-- A drawn region in a round, what is held of the world asked behind all but the operations named. -/
theorem Tillst.round {id : Nat} {ops : List Oper} {a : Act} {w : World} (S : World → Prop) (st : List Nat) (hnd : ops.all noDefer = true) (hm : P.follows .mixedOrders = true) (hno : LetsOut Q → False) (hS : S w.drew)
    (h : S w.drew → Tillst P .any ops.toArray Q S st ops.toArray.size (Array.replicate ops.toArray.size false) a w.drew) : (Code.region id ops.toArray true).wpIn (Fence.wide.inRound l) n P Q a w :=
  region_anyR hnd hm hno (Tillst.any _ _ _ _ (h hS))
/-- No panic and no outgrowing. -/
def NoPO (Q : Exit → Act → World → Prop) : Exit → Act → World → Prop
  | .panic _, _, _ => False
  | .outgrown, _, _ => False
  | e, a, w => Q e a w
theorem NoPO.imp : ∀ (e : Exit) (a : Act) (w : World), NoPO Q e a w → Q e a w := fun e a w h => by cases e <;> first | exact h | exact h.elim
theorem Tillst.calm {id : Nat} {ops : List Oper} {a : Act} {w : World} (S : World → Prop) (st : List Nat) (hnd : ops.all noDefer = true) (hm : P.follows .mixedOrders = true) (hS : S w.drew)
    (h : S w.drew → Tillst P .any ops.toArray (NoPO Q) S st ops.toArray.size (Array.replicate ops.toArray.size false) a w.drew) : (Code.region id ops.toArray true).wpIn (Fence.wide.inRound l) n P Q a w :=
  wpIn_mono (Tillst.round (Q := NoPO Q) S st hnd hm (fun ⟨_, _, h⟩ => h) hS h) NoPO.imp
theorem noOut_then {K : Act → World → Prop} (h : LetsOut Q → False) : LetsOut (Exit.then K Q) → False := fun ⟨a, w, h'⟩ => h ⟨a, w, h'⟩
theorem noOut_bodyBy {B : Nat} {I : Nat → World → Prop} {Ix : Code → Nat → World → Prop} {i : Nat} {W : World} : LetsOut (bodyBy B I Ix i W) → False := fun ⟨_, _, h⟩ => h
end
end Go.Proofs.Ythegbimolbhikaa
