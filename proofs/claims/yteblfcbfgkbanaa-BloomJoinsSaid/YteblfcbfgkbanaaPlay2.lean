/- Two filters of the call's own and the document's lists of their bits, side by side. -/
import Derived.Test.YteblfcbfgkbanaaPlay
import Derived.Test.YteblfcbfgkbanaaRef3
namespace Go.Proofs.Yteblfcbfgkbanaa
open Go.RowKit
set_option linter.unusedVariables false

/-- Two filters (blocks f and f'; their bytes in g and g') beside two lists of bits. -/
def Beside2 (w wr : World) (f g f' g' s t : Nat) (v v' : Value) : Prop :=
  ∃ xs ys, xs.length = s ∧ ys.length = t ∧ Filt wr f g xs ∧ Filt wr f' g' ys ∧ BitRow wr (fun b => b < wr.heap.size ∧ b ≠ g ∧ b ≠ g') s xs v ∧ BitRow wr (fun b => b < wr.heap.size ∧ b ≠ g ∧ b ≠ g') t ys v' ∧ Below w.heap.size w wr

theorem Filt.kept_far {w wa : World} {f g f' g' : Nat} {xs ys : List Int} (H : Filt w f g xs) (H' : Filt w f' g' ys) (hne : g ≠ g') (hk : Kept (fun b => b < w.heap.size ∧ b ≠ g) w wa) : Filt wa f' g' ys :=
  H'.kept hk ⟨H'.ltf, fun e => by
    subst e
    exact Blk.ne_ H'.1 H.2.1 (by decide) rfl⟩ ⟨H'.lth, fun e => hne e.symm⟩

theorem zeros_made (w : World) (s : Nat) {S : Nat → Prop} (o : Obj) (hS : S w.heap.size) :
    BitRow ((w.alloc (.cells (madeCells #[.bool false] (8 * s)) 4)).alloc o) S s (List.replicate s 0) (.slice (some ⟨w.heap.size, 0, none⟩) (8 * s) (8 * s)) :=
  ⟨_, _, rfl, (fun h => by cases h), ((made_bits w s).keep (fun p hp => World.cell?_alloc_lt _ _ _ (by rw [hp]; simp))).more (fun b e => by rw [e]; exact hS)⟩
theorem zeros_made' (w : World) (s : Nat) {S : Nat → Prop} (o : Obj) (hS : S (w.heap.size + 1)) :
    BitRow ((w.alloc o).alloc (.cells (madeCells #[.bool false] (8 * s)) 4)) S s (List.replicate s 0) (.slice (some ⟨w.heap.size + 1, 0, none⟩) (8 * s) (8 * s)) := by
  have h := made_bits (w.alloc o) s
  have e : (w.alloc o).heap.size = w.heap.size + 1 := by simp
  rw [e] at h
  exact ⟨_, _, rfl, (fun h => by cases h), h.more (fun b e => by rw [e]; exact hS)⟩

theorem beside2_made {w w3 : World} {f g f' g' s t : Nat} (hF : Filt w3 f g (List.replicate s 0)) (hF' : Filt w3 f' g' (List.replicate t 0)) (hb : Below w.heap.size w w3) :
    Beside2 w ((w3.alloc (.cells (madeCells #[.bool false] (8 * s)) 4)).alloc (.cells (madeCells #[.bool false] (8 * t)) 4)).drew f g f' g' s t (.slice (some ⟨w3.heap.size, 0, none⟩) (8 * s) (8 * s)) (.slice (some ⟨w3.heap.size + 1, 0, none⟩) (8 * t) (8 * t)) := by
  have h1 := hF.lth
  have h2 := hF'.lth
  have hb1 := hb.alloc hb.size (.cells (madeCells #[.bool false] (8 * s)) 4)
  have hb2 := hb1.alloc hb1.size (.cells (madeCells #[.bool false] (8 * t)) 4)
  have hk := (((Below.refl w3.heap.size w3).alloc (Nat.le_refl _) (.cells (madeCells #[.bool false] (8 * s)) 4)).alloc (by simp) (.cells (madeCells #[.bool false] (8 * t)) 4)).drew
  refine ⟨List.replicate s 0, List.replicate t 0, by simp, by simp, hF.belowAll hk, hF'.belowAll hk, ?_, ?_, hb2.drew⟩
  · exact zeros_made w3 s (S := fun b => b < ((w3.alloc (.cells (madeCells #[.bool false] (8 * s)) 4)).alloc (.cells (madeCells #[.bool false] (8 * t)) 4)).heap.size ∧ b ≠ g ∧ b ≠ g') _ ⟨by simp; omega, by omega, by omega⟩
  · exact zeros_made' w3 t (S := fun b => b < ((w3.alloc (.cells (madeCells #[.bool false] (8 * s)) 4)).alloc (.cells (madeCells #[.bool false] (8 * t)) 4)).heap.size ∧ b ≠ g ∧ b ≠ g') _ ⟨by simp, by omega, by omega⟩

/-- Behind Add on both sides, to the first filter. -/
theorem beside2_add {w w0 wa wb : World} {f g f' g' s t : Nat} {xs ys : List Int} {hh : Int} {A : Option Addr} {c : Nat} {v : Value} (hs : xs.length = s) (ht : ys.length = t) (hw : Below w.heap.size w w0) (hg : w.heap.size ≤ g) (hne : g ≠ g')
    (H : Filt w0 f g xs) (H' : Filt w0 f' g' ys) (hv : BitRow w0 (fun b => b < w0.heap.size ∧ b ≠ g ∧ b ≠ g') t ys v)
    (hf : Filt wa f g (addF xs hh)) (hk : Kept (fun b => b < w0.heap.size ∧ b ≠ g) w0 wa) (hn : A = none → c = 0) (hr : RowB wb (fun b => wa.heap.size ≤ b ∧ b < wb.heap.size) A (8 * s) (bitsOf (addF xs hh))) (hb : Below wa.heap.size wa wb) :
    Beside2 w wb f g f' g' s t (.slice A (8 * s) c) v := by
  have hgl := hf.lth
  have hF' := H.kept_far H' hne hk
  have hgl' := hF'.lth
  obtain ⟨A', c', rfl, hn', hr'⟩ := hv
  refine ⟨addF xs hh, ys, by rw [addF_length, hs], ht, hf.belowAll hb, hF'.belowAll hb, ⟨A, c, rfl, hn, hr.more (fun b h => ⟨h.2, by omega, by omega⟩)⟩, ⟨A', c', rfl, hn', ?_⟩, ?_⟩
  · refine (((hr'.kept hk (fun b h => ⟨h.1, h.2.1⟩)).below hb (fun b h => Nat.lt_of_lt_of_le h.1 hk.size))).more (fun b h => ⟨?_, h.2⟩)
    exact Nat.lt_of_lt_of_le h.1 (Nat.le_trans hk.size hb.size)
  · refine (hw.trans (hk.to_below (fun b h => ⟨?_, ?_⟩))).trans (hb.mono (Nat.le_trans hw.size hk.size))
    · have := hw.size; omega
    · omega

/-- .. to the second. -/
theorem Beside2.swap {w wr : World} {f g f' g' s t : Nat} {v v' : Value} (h : Beside2 w wr f g f' g' s t v v') : Beside2 w wr f' g' f g t s v' v := by
  obtain ⟨xs, ys, h1, h2, h3, h4, ⟨A, c, e, hn, hr⟩, ⟨A', c', e', hn', hr'⟩, h7⟩ := h
  exact ⟨ys, xs, h2, h1, h4, h3, ⟨A', c', e', hn', hr'.more (fun b h => ⟨h.1, h.2.2, h.2.1⟩)⟩, ⟨A, c, e, hn, hr.more (fun b h => ⟨h.1, h.2.2, h.2.1⟩)⟩, h7⟩

theorem beside2_made' {w w3 : World} {f g f' g' s t : Nat} (hF : Filt w3 f g (List.replicate s 0)) (hF' : Filt w3 f' g' (List.replicate t 0)) (hb : Below w.heap.size w w3) :
    Beside2 w ((w3.alloc (.cells (madeCells #[.bool false] (8 * t)) 4)).alloc (.cells (madeCells #[.bool false] (8 * s)) 4)).drew f g f' g' s t (.slice (some ⟨w3.heap.size + 1, 0, none⟩) (8 * s) (8 * s)) (.slice (some ⟨w3.heap.size, 0, none⟩) (8 * t) (8 * t)) :=
  (beside2_made hF' hF hb).swap

theorem orB_self {x : Int} (h : 0 ≤ x) : orB x x = x := by
  unfold orB
  rw [Nat.or_self]
  omega
theorem joinB_self {xs : List Int} (h : Bytes xs) : joinB xs xs = xs := by
  apply getD_ext
  · simp [joinB]
  · intro j hj
    rw [joinB_get _ _ rfl, orB_self (h j).1]

theorem ref_join_bits (A A' : Option Addr) (s c c' : Nat) (xs ys : List Int) (S : Nat → Prop) (w : World) (hs : xs.length = s) (ht : ys.length = s) (hl : RowB w S A (8 * s) (bitsOf xs)) (hl' : RowB w S A' (8 * s) (bitsOf ys)) (hS : ∀ b, S b → b < w.heap.size) (hnil : A = none → c = 0) (m1 : 1 ≤ s) (m2 : s ≤ 8192) :
    Calls Try.prog 21 #[.slice A (8 * s) c, .slice A' (8 * s) c'] w (BitsTold s (joinB xs ys) w) := by
  refine (ref_join A A' (8 * s) c c' (bitsOf xs) (bitsOf ys) S w hl hl' hS hnil (by omega) (by omega)).mono fun e w' h => ?_
  rw [← bitsOf_join xs ys (hs.trans ht.symm)] at h
  exact own_bits (by rw [joinB_length _ _ (hs.trans ht.symm), hs]) h

end Go.Proofs.Yteblfcbfgkbanaa
