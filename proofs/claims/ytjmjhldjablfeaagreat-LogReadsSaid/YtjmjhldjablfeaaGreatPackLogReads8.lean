/- Texts of LogReads, packed. -/
import Derived.Test.YtjmjhldjablfeaaGreatPackLogReads7
import Derived.Great.BuildSlice
import Derived.Laws.CopyRow
import Derived.Laws.CopyOwn
import Derived.OwnWalk
import Derived.Lib.Hide
import Derived.Laws.Cover3
set_option linter.unusedVariables false
set_option linter.unusedSimpArgs false
set_option maxRecDepth 100000
set_option maxHeartbeats 16000000
namespace Go.Proofs.YtjmjhldjablfeaaGreat
section
open Go.RowKit
structure HeldC {σ : Type} (f : Nat) (cs : List Value) (B : Nat) (X0 : Nat → Prop) (V : Nat → List Int) (E : Nat → Int) (nx : σ → Nat → σ) (R : (Nat → Prop) → σ → World → Prop) : Prop where
 call : ∀ (X : Nat → Prop) (st : σ) (W : World) (i : Nat), R X st W → i ≤ 100000 → Calls Tryz.prog f ((Value.int .i64 (i : Nat)) :: cs).toArray W fun e W' => e = .returned (.tuple #[.agg (cells8 (V i)), .int .i64 (E i)]) ∧ R X (nx st i) W' ∧ Kept X W W'
 put : ∀ (X S : Nat → Prop) (st : σ) (W W' : World), R X st W → Kept S W W' → (∀ b, b < W.heap.size → ¬ S b → X b ∧ B ≤ b) → R (fun b => X b ∨ (W.heap.size ≤ b ∧ b < W'.heap.size)) st W'
 lt : ∀ (X : Nat → Prop) (st : σ) (W : World), R X st W → ∀ b, X b → b < W.heap.size
 back : ∀ (X : Nat → Prop) (st : σ) (W : World), R X st W → (∀ b, X0 b → X b) → R X0 st W
 len : ∀ i, (V i).length = 64
 byt : ∀ i, Bytes (V i)
def stR {σ : Type} (nx : σ → Nat → σ) (st : σ) (at_ : Nat) : Nat → σ
 | 0 => st
 | j + 1 => nx (stR nx st at_ j) (at_ + j)
def badAt (E : Nat → Int) (at_ : Nat) : Nat → Nat → Nat
 | 0, j => j
 | f + 1, j => if E (at_ + j) = 0 then badAt E at_ f (j + 1) else j
theorem badAt_done (E : Nat → Int) (at_ : Nat) : ∀ (f j : Nat), (∀ q, j ≤ q → q < j + f → E (at_ + q) = 0) → badAt E at_ f j = j + f
 | 0, j, _ => rfl
 | f + 1, j, h => by
  unfold badAt
  rw [if_pos (h j (nR _) (by omega)), badAt_done E at_ f (j + 1) fun q h1 h2 => h q (by omega) (by omega)]
  omega
theorem badAt_hit (E : Nat → Int) (at_ : Nat) : ∀ (f j k : Nat), (∀ q, j ≤ q → q < k → E (at_ + q) = 0) → j ≤ k → k < j + f → E (at_ + k) ≠ 0 → badAt E at_ f j = k
 | 0, j, k, _, h1, h2, _ => by omega
 | f + 1, j, k, h, h1, h2, h3 => by
  unfold badAt
  by_cases e : j = k
  ·subst e; rw [if_neg h3]
  ·rw [if_pos (h j (nR _) (by omega))]
   exact badAt_hit E at_ f (j + 1) k (fun q h4 h5 => h q (by omega) h5) (by omega) (by omega) h3
def secsAt (V : Nat → List Int) (at_ c : Nat) : List (List Int) := (List.range c).map fun j => V (at_ + j)
theorem secsAt_length (V : Nat → List Int) (at_ c : Nat) : (secsAt V at_ c).length = c := by simp [secsAt]
theorem secsAt_succ (V : Nat → List Int) (at_ c : Nat) : secsAt V at_ (c + 1) = secsAt V at_ c ++ [V (at_ + c)] := by simp [secsAt, List.range_succ]
theorem secsAt_one (V : Nat → List Int) (at_ : Nat) : secsAt V at_ 1 = [V at_] := by simp [secsAt, List.range_succ]
theorem secsAt_secs {V : Nat → List Int} (h : ∀ i, (V i).length = 64) (at_ c : Nat) : Secs (secsAt V at_ c) := fun x hx => by
 obtain ⟨j, _, rfl⟩ := List.mem_map.1 hx
 exact h _
theorem bytes_nil9 : Bytes ([] : List Int) := fun j => by simp
theorem secsAt_bytes {V : Nat → List Int} (h : ∀ i, Bytes (V i)) (at_ c i : Nat) : Bytes ((secsAt V at_ c).getD i []) := by
 unfold secsAt
 simp only [List.getD, List.getElem?_map]
 cases (List.range c)[i]? with
 | none => exact bytes_nil9
 | some j => exact h _
def StandsIn (xss : List (List Int)) : Prop := Chain xss ∧ DecOk (meants xss) (meants xss).length ∧ needOf (meants xss) = (meants xss).length
noncomputable section
open Classical
def standE (V : Nat → List Int) (E : Nat → Int) (gen : Int) (at_ : Nat) : Int :=
 if E at_ ≠ 0 then E at_ else
 if beginsN (V at_) gen at_ = 0 then 4 else
 if badAt E at_ (beginsN (V at_) gen at_ - 1) 1 < beginsN (V at_) gen at_ then E (at_ + badAt E at_ (beginsN (V at_) gen at_ - 1) 1) else
 if StandsIn (secsAt V at_ (beginsN (V at_) gen at_)) then 0 else 4
def standR (V : Nat → List Int) (E : Nat → Int) (gen : Int) (at_ : Nat) : Nat :=
 if E at_ ≠ 0 then 1 else
 if beginsN (V at_) gen at_ = 0 then 1 else
 min (badAt E at_ (beginsN (V at_) gen at_ - 1) 1 + 1) (beginsN (V at_) gen at_)
def StandT {σ : Type} (R : (Nat → Prop) → σ → World → Prop) (nx : σ → Nat → σ) (X0 : Nat → Prop) (st : σ) (V : Nat → List Int) (E : Nat → Int) (gen : Int) (at_ : Nat) (w : World) (e : Ending) (w' : World) : Prop :=
 R X0 (stR nx st at_ (standR V E gen at_)) w' ∧ Kept X0 w w' ∧
 (standE V E gen at_ ≠ 0 → e = .returned (.tuple #[.agg #[.int .i64 0, .int .u32 0, .int .u32 0, .int .u64 0, .slice none 0 0, .slice none 0 0], .int .i64 0, .int .i64 (standE V E gen at_)])) ∧
 (standE V E gen at_ = 0 → ∃ xs : List Int, xs = meants (secsAt V at_ (beginsN (V at_) gen at_)) ∧ ∃ b1 b2, e = .returned (.tuple #[.agg #[.int .i64 (kindOf xs), .int .u32 (flagsOf xs), .int .u32 (expOf xs), .int .u64 (seqOf xs), .slice (some ⟨b1, 0, none⟩) (klenOf xs) (klenOf xs), .slice (some ⟨b2, 0, none⟩) (vlenOf xs) (vlenOf xs)], .int .i64 (beginsN (V at_) gen at_ : Nat), .int .i64 0]) ∧
   w.heap.size ≤ b1 ∧ w.heap.size ≤ b2 ∧ b1 ≠ b2 ∧ ArrU w' b1 (keyOf xs) ∧ ArrU w' b2 (valOf xs))
end
section
variable {V : Nat → List Int} {E : Nat → Int} {gen : Int} {at_ : Nat}
theorem stand_err (h : E at_ ≠ 0) : standE V E gen at_ = E at_ ∧ standR V E gen at_ = 1 := by
 unfold standE standR; rw [if_pos h, if_pos h]; exact ⟨rfl, rfl⟩
theorem stand_none (h : E at_ = 0) (h2 : beginsN (V at_) gen at_ = 0) : standE V E gen at_ = 4 ∧ standR V E gen at_ = 1 := by
 have hn : ¬ (E at_ ≠ 0) := fun k => k h
 unfold standE standR
 refine ⟨(if_neg hn).trans (if_pos h2), (if_neg hn).trans (if_pos h2)⟩
theorem stand_bad {k : Nat} (h : E at_ = 0) (h1 : 1 ≤ k) (h2 : k < beginsN (V at_) gen at_) (h3 : ∀ q, 1 ≤ q → q < k → E (at_ + q) = 0) (h4 : E (at_ + k) ≠ 0) : standE V E gen at_ = E (at_ + k) ∧ standR V E gen at_ = k + 1 := by
 have e := badAt_hit E at_ (beginsN (V at_) gen at_ - 1) 1 k h3 h1 (by omega) h4
 have hn : ¬ (E at_ ≠ 0) := fun k => k h
 have hb : ¬ (beginsN (V at_) gen at_ = 0) := by omega
 unfold standE standR
 rw [e]
 refine ⟨(if_neg hn).trans ((if_neg hb).trans (if_pos h2)), (if_neg hn).trans ((if_neg hb).trans ?_)⟩
 omega
theorem stand_all (h : E at_ = 0) (h2 : beginsN (V at_) gen at_ ≠ 0) (h3 : ∀ q, 1 ≤ q → q < beginsN (V at_) gen at_ → E (at_ + q) = 0) :
 (StandsIn (secsAt V at_ (beginsN (V at_) gen at_)) → standE V E gen at_ = 0) ∧ (¬ StandsIn (secsAt V at_ (beginsN (V at_) gen at_)) → standE V E gen at_ = 4) ∧ standR V E gen at_ = beginsN (V at_) gen at_ := by
 have e := badAt_done E at_ (beginsN (V at_) gen at_ - 1) 1 fun q h4 h5 => h3 q h4 (by omega)
 have hn : ¬ (E at_ ≠ 0) := fun k => k h
 have e2 : badAt E at_ (beginsN (V at_) gen at_ - 1) 1 = beginsN (V at_) gen at_ := by omega
 have hl : ¬ (beginsN (V at_) gen at_ < beginsN (V at_) gen at_) := Nat.lt_irrefl _
 unfold standE standR
 rw [e2]
 exact ⟨fun hs => (if_neg hn).trans ((if_neg h2).trans ((if_neg hl).trans (if_pos hs))), fun hs => (if_neg hn).trans ((if_neg h2).trans ((if_neg hl).trans (if_neg hs))), (if_neg hn).trans ((if_neg h2).trans (by omega))⟩
end
end
section
open Go.RowKit
attribute [local go_sem] Oper.semAt_some
section
variable {σ : Type} {f : Nat} {cs : List Value} {X0 X Y S : Nat → Prop} {V : Nat → List Int} {E : Nat → Int} {nx : σ → Nat → σ} {R : (Nat → Prop) → σ → World → Prop} {w W W' : World} {st : σ}
structure StW (R : (Nat → Prop) → σ → World → Prop) (w : World) (X0 : Nat → Prop) (st : σ) (X : Nat → Prop) (W : World) : Prop where
 r : R X st W
 x0 : ∀ b, X0 b → X b
 lt0 : ∀ b, X0 b → b < w.heap.size
 k : Kept X0 w W
 res : Blk W w.heap.size 33 zeroC
 xr : X w.heap.size
abbrev newX (X : Nat → Prop) (W W' : World) : Nat → Prop := fun b => X b ∨ (W.heap.size ≤ b ∧ b < W'.heap.size)
theorem StW.start (H : HeldC f cs w.heap.size X0 V E nx R) (h : R X0 st w) : StW R w X0 st (newX X0 w (w.alloc (.cells zeroC 33))) (w.alloc (.cells zeroC 33)) := by
 have hk : Kept (fun b => b < w.heap.size) w (w.alloc (.cells zeroC 33)) := (Kept.refl _ w).alloc (fun b h => h) _
 exact ⟨H.put X0 _ st w _ h hk (fun b hb hn => absurd hb hn), fun b hb => .inl hb, H.lt _ _ _ h, hk.mono (H.lt _ _ _ h), Blk.new w _ _, .inr ⟨nR _, by simp⟩⟩
theorem StW.mem (H : HeldC f cs w.heap.size X0 V E nx R) (h : StW R w X0 st X W) (hb : Below W.heap.size W W') : StW R w X0 st (newX X W W') W' := by
 have hk : Kept (fun b => b < W.heap.size) W W' := Kept.of_below hb (fun b h => h)
 exact ⟨H.put X _ st W _ h.r hk (fun b hb hn => absurd hb hn), fun b hb => .inl (h.x0 b hb), h.lt0, h.k.trans hk (fun b hb => nL (h.lt0 b hb) h.k.size), h.res.below hb h.res.lt, .inl h.xr⟩
theorem StW.held (h : StW R w X0 st X W) {st' : σ} (hr : R X st' W') (hk : Kept X W W') : StW R w X0 st' X W' :=
 ⟨hr, h.x0, h.lt0, h.k.trans hk h.x0, h.res.kept hk h.xr, h.xr⟩
theorem StW.grown (H : HeldC f cs w.heap.size X0 V E nx R) (h : StW R w X0 st X W) {row : Option Nat} (hg : W.grownBy W' row) (hr : ∀ g, row = some g → X g ∧ w.heap.size < g) : StW R w X0 st (newX X W W') W' := by
 have hk : Kept (fun b => b < W.heap.size ∧ row ≠ some b) W W' := ⟨hg.os, hg.tape, hg.output, hg.size, fun k hk => hg.block k hk.1 (fun e => hk.2 e.symm)⟩
 refine ⟨H.put X _ st W _ h.r hk (fun b hb hn => ?_), fun b hb => .inl (h.x0 b hb), h.lt0, h.k.trans hk (fun b hb => ⟨nL (h.lt0 b hb) h.k.size, fun e => ?_⟩), h.res.kept hk ⟨h.res.lt, fun e => ?_⟩, .inl h.xr⟩
 ·by_cases e : row = some b
  ·exact ⟨(hr b e).1, Nat.le_of_lt (hr b e).2⟩
  ·exact absurd ⟨hb, e⟩ hn
 ·have h1 := (hr b e).2; have h2 := h.lt0 b hb; omega
 ·have h1 := (hr _ e).2; omega
theorem StW.fin (H : HeldC f cs w.heap.size X0 V E nx R) (h : StW R w X0 st X W) (c6 : Array Value) : R X0 st (W.setRow w.heap.size c6) ∧ Kept X0 w (W.setRow w.heap.size c6) ∧ Blk (W.setRow w.heap.size c6) w.heap.size 33 c6 ∧ Kept (fun b => b ≠ w.heap.size) W (W.setRow w.heap.size c6) := by
 have hk : Kept (fun b => b ≠ w.heap.size) W (W.setRow w.heap.size c6) := (Kept.refl _ W).setRow (g := w.heap.size) (fun h => h rfl) c6
 refine ⟨H.back _ _ _ (H.put X _ st W _ h.r hk (fun b hb hn => ?_)) (fun b hb => .inl (h.x0 b hb)), h.k.trans hk (fun b hb => Nat.ne_of_lt (h.lt0 b hb)), setRow_heap _ _ _ c6 _ _ h.res, hk⟩
 have e : b = w.heap.size := by by_cases e : b = w.heap.size; exact e; exact absurd e hn
 subst e
 exact ⟨h.xr, nR _⟩
theorem own_at9 {base size n : Nat} {e : TypeId} {v : Value} {xs : List Value} (ho : W.ownsRow base e size v n xs) (hk : Kept X W W') (hX : ∀ g, v.ownBlock = some g → X g) : W'.ownsRow base e size v n xs := by
 rcases ho.2 with h0 | ⟨g', cap, cur, rfl, hbs, hh, rest⟩
 ·exact ⟨ho.1, .inl h0⟩
 ·exact ⟨ho.1, .inr ⟨g', cap, cur, rfl, hbs, (hk.block g' (hX g' (by simp [Value.ownBlock]))).trans hh, rest⟩⟩
end
theorem own_one9 (w : World) (base : Nat) {ys : List Int} (hl : ys.length = 64) (hb : base ≤ w.heap.size) : (w.alloc (.cells (cells8 ys) 186)).ownsRow base 186 64 (.slice (some ⟨w.heap.size, 0, none⟩) 1 1) 1 (ys.map (Value.int .u8)) :=
 ⟨by simp [hl], .inr ⟨w.heap.size, 1, _, rfl, hb, heap_alloc_last w _, nR _, by decide, by simp [cells8_size, hl], by rw [List.take_of_length_le (by simp [cells8_size, hl])]; rfl⟩⟩
def lenV9 : Value → Nat
 | .slice _ n _ => n
 | _ => 0
theorem own_len9 {w : World} {base size n : Nat} {e : TypeId} {v : Value} {xs : List Value} (ho : w.ownsRow base e size v n xs) : lenV9 v = n := by
 rcases ho.2 with ⟨rfl, rfl⟩ | ⟨g', cap, cur, rfl, _⟩ <;> rfl
theorem meantOf_bytes9 {ys : List Int} (hb : Bytes ys) : Bytes (meantOf ys) := by
 unfold meantOf
 split
 ·exact bytes_part hb 16 _
 ·exact fun j => by simp
theorem meants_bytes : ∀ {xss : List (List Int)}, (∀ i, Bytes (xss.getD i [])) → Bytes (meants xss)
 | [], _ => fun j => by simp [meants]
 | xs :: xss, h => by
  have h1 := meantOf_bytes9 (h 0)
  have h2 := meants_bytes (xss := xss) fun i => h (i + 1)
  have e : meants (xs :: xss) = meantOf xs ++ meants xss := by simp [meants]
  rw [e]
  exact bytes_append h1 h2
theorem meants_le : ∀ (xss : List (List Int)), (meants xss).length ≤ 48 * xss.length
 | [] => by simp [meants]
 | xs :: xss => by
  have h1 := meant_le xs
  have h2 := meants_le xss
  have e : meants (xs :: xss) = meantOf xs ++ meants xss := by simp [meants]
  rw [e, List.length_append, List.length_cons]
  omega
abbrev recT9 (xs : List Int) (b1 b2 : Nat) : Array Value := #[.int .i64 (kindOf xs), .int .u32 (flagsOf xs), .int .u32 (expOf xs), .int .u64 (seqOf xs), .slice (some ⟨b1, 0, none⟩) (klenOf xs) (klenOf xs), .slice (some ⟨b2, 0, none⟩) (vlenOf xs) (vlenOf xs)]
theorem zero_told9 {V : Nat → List Int} {E : Nat → Int} {gen : Int} {at_ : Nat} {e : Int} {p : Prop} (h : standE V E gen at_ = e) (hne : e ≠ 0) :
 (standE V E gen at_ = 0 → p) := fun h0 => absurd (h.symm.trans h0) hne
theorem standing_stored {σ : Type} {X0 : Nat → Prop} {V : Nat → List Int} {E : Nat → Int} {nx : σ → Nat → σ} {R : (Nat → Prop) → σ → World → Prop} {w : World} {st : σ} (c0 c1 : Value) (H : HeldC 122 [c0, c1] w.heap.size X0 V E nx R) (h : R X0 st w) (gen : Int) (at_ : Nat) (hat : at_ ≤ 90000) :
 Calls Tryz.prog 55 #[.func (.func 122) #[] #[c0, c1], .int .u64 gen, .int .i64 at_] w (StandT R nx X0 st V E gen at_ w) := by
 have HLEN := hI H.len
 have HBYT := hI H.byt
 have HS := hI (StW.start H h)
 have H := hI H
 have hc := H.out.call _ _ _ at_ HS.out.r (by omega)
 have HC1 := hI hc
 clear h hc
 obtain ⟨w1, hw1⟩ : ∃ w1, w1 = w.alloc (.cells zeroC 33) := ⟨_, rfl⟩
 rw [← hw1] at HS HC1
 obtain ⟨X1, hX1⟩ : ∃ X1, newX X0 w w1 = X1 := ⟨_, rfl⟩
 rw [hX1] at HS HC1
 have hsz1 : w.heap.size < w1.heap.size := HS.out.res.lt
 go_enter Tryz.func55, Tryz.ntmps55
 go_upto_region 1 with fail
 rw [← hw1]
 clear hw1 hX1
 go_wp2_with fail
 refine HC1.out.mono ?_
 rintro e v1 ⟨rfl, hr1, hk1⟩
 have HS := hI (HS.out.held hr1 hk1)
 have hsv : w1.heap.size ≤ v1.heap.size := hk1.size
 obtain ⟨w2, hw2⟩ : ∃ w2, w2 = v1.alloc (.cells (cells8 (V at_)) 186) := ⟨_, rfl⟩
 have hb2 : Below v1.heap.size v1 w2 := by rw [hw2]; exact (Below.refl _ v1).alloc (nR _) _
 have HA2 := hI (show ArrB w2 v1.heap.size (V at_) by rw [hw2]; exact Blk.new v1 _ _)
 have HS := hI (HS.out.mem H.out hb2)
 have hsz2 := hb2.size
 have HW2 := hI hw2
 have hlen0 := HLEN.out at_
 clear hr1 hk1 hb2 hw2 HC1
 obtain ⟨ys, hys⟩ : ∃ ys, V at_ = ys := ⟨_, rfl⟩
 rw [hys] at hlen0 HA2 HW2 ⊢
 by_cases he : E at_ = 0
 case neg =>
  have hne : (E at_ != 0) = true := by simp [he]
  obtain ⟨se, sr⟩ := stand_err (V := V) (gen := gen) he
  have HE := hI he
  have HF := hI (HS.out.fin H.out zeroC)
  have HRES := hI HS.out.res
  have HSE := hI se
  have HSR := hI sr
  obtain ⟨e0, he0⟩ : ∃ e0, E at_ = e0 := ⟨_, rfl⟩
  rw [he0] at hne HSE HE ⊢
  clear se sr he he0
  go_wp2_with (first | (with_reducible refine halt_end ?_) | (refine wpList_alloc_blk rfl rfl ?_) | (refine wpList_store_new (.tmp 9) (.tmp 22) rfl rfl v1 ys rfl rfl (noughts 64) rfl (noughts_length 64) hlen0 ?_; rw [← HW2.out]) | (refine wpList_store_rowB (.tmp 6) (.tmp 26) 33 rfl rfl w.heap.size zeroC rfl rfl 33 _ HRES.out size_rec rfl one_zero ?_))
  refine Halt.ret (results_row3 (p := 6) (u := 7) (v := 8) rfl _ _ w.heap.size 33 zeroC _ rfl HF.out.2.2.1 Tryz.underlying33 rfl size_rec) rfl ⟨?_, HF.out.2.1, fun _ => by rw [HSE.out]; rfl, zero_told9 HSE.out HE.out⟩
  rw [HSR.out]
  exact HF.out.1
 have hne : (E at_ != 0) = false := by simp [he]
 have hby0 := HBYT.out at_
 rw [hys] at hby0
 have HBG := hI (fun (U : World) => begins_any ys gen at_ U hlen0 hby0 (by omega))
 obtain ⟨cnt, hcnt⟩ : ∃ cnt, beginsN ys gen at_ = cnt := ⟨_, rfl⟩
 rw [hcnt] at HBG
 have hcle : cnt ≤ 17 := by rw [← hcnt]; exact begins_le _ _ _
 have HCNT := hI (show beginsN (V at_) gen at_ = cnt by rw [hys]; exact hcnt)
 have HE0 := hI he
 rw [he] at hne ⊢
 clear he hcnt hby0
 go_upto_region 5 with (first | (refine wpList_alloc_blk rfl rfl ?_) | (refine wpList_store_new (.tmp 9) (.tmp 22) rfl rfl v1 ys rfl rfl (noughts 64) rfl (noughts_length 64) hlen0 ?_; rw [← HW2.out]) | (refine wpList_load_blk (.tmp 9) rfl rfl v1.heap.size 0 rfl ys hlen0 HA2.out.range ?_) | (go_at_call 127; refine (HBG.out _).mono ?_; rintro e w3 ⟨rfl, hb3⟩))
 have HS := hI (HS.out.mem H.out hb3)
 have HA3 := hI (HA2.out.below hb3 HA2.out.lt)
 have hsz3 := hb3.size
 clear hb3
 generalize newX (newX X1 v1 w2) w2 w3 = X3 at *
 by_cases hc0 : cnt = 0
 ·subst hc0
  obtain ⟨se, sr⟩ := stand_none (V := V) (gen := gen) HE0.out HCNT.out
  have HF := hI (HS.out.fin H.out zeroC)
  have HRES := hI HS.out.res
  have HSE := hI se
  have HSR := hI sr
  clear se sr
  go_wp2_with (first | (with_reducible refine halt_end ?_) | (refine wpList_store_rowB (.tmp 6) (.tmp 34) 33 rfl rfl w.heap.size zeroC rfl rfl 33 _ HRES.out size_rec rfl one_zero ?_))
  refine Halt.ret (results_row3 (p := 6) (u := 7) (v := 8) rfl _ _ w.heap.size 33 zeroC _ rfl HF.out.2.2.1 Tryz.underlying33 rfl size_rec) rfl ⟨?_, HF.out.2.1, fun _ => by rw [HSE.out]; rfl, zero_told9 HSE.out (by decide)⟩
  rw [HSR.out]
  exact HF.out.1
 have hcq : ((cnt : Int) == 0) = false := by simp; omega
 obtain ⟨w4, hw4⟩ : ∃ w4, w4 = w3.alloc (.cells (cells8 ys) 186) := ⟨_, rfl⟩
 have hb4 : Below w3.heap.size w3 w4 := by rw [hw4]; exact (Below.refl _ w3).alloc (nR _) _
 have HO4 := hI (show w4.ownsRow (w.heap.size + 1) 186 64 (.slice (some ⟨w3.heap.size, 0, none⟩) 1 1) 1 ((flat (secsAt V at_ 1)).map (Value.int .u8)) by rw [hw4, secsAt_one, flat_one, hys]; exact own_one9 _ _ hlen0 (by omega))
 have HS4 := hI (HS.out.mem H.out hb4)
 have hlt4 : w3.heap.size < w4.heap.size := by rw [hw4]; simp
 have HX4 := hI (show ∀ g, (Value.slice (some ⟨w3.heap.size, 0, none⟩) 1 1).ownBlock = some g → newX X3 w3 w4 g from fun g hg => by injection hg with hg; subst hg; exact .inr ⟨nR _, hlt4⟩)
 have HW4 := hI hw4
 clear hb4 hw4 hlt4
 go_upto_region 8 with (first | (refine wpList_load_blk (.tmp 9) rfl rfl v1.heap.size 0 rfl ys hlen0 HA3.out.range ?_) | (refine wpList_lit_sec (.tmp 35) rfl rfl ys rfl hlen0 ?_; rw [← HW4.out]))
 clear HA3 HA2 HW2 HW4 hlen0 hys HS
 go_loopw [12] (fun v wr => ∃ (j : Nat) (X : Nat → Prop), 1 ≤ j ∧ j ≤ cnt ∧ StW R w X0 (stR nx st at_ j) X wr ∧ wr.ownsRow (w.heap.size + 1) 186 64 v j ((flat (secsAt V at_ j)).map (Value.int .u8)) ∧ (∀ g, v.ownBlock = some g → X g) ∧ (∀ q, 1 ≤ q → q < j → E (at_ + q) = 0)) (fun v _ => cnt - lenV9 v)
 case atStart => exact ⟨1, _, nR _, by omega, HS4.out, HO4.out, HX4.out, fun q h1 h2 => by omega⟩
 case round =>
  obtain ⟨j, X, hj1, hj, hS, hown, hX, hgood⟩ := hrel
  have HSEC := hI (secsAt_secs HLEN.out at_ j)
  obtain ⟨A, cap, rfl, hnc, hn0, hrow⟩ := rowK_own hown HSEC.out
  have HS := hI hS
  have HOWN := hI hown
  have HX := hI hX
  have HGOOD := hI hgood
  have HROW := hI hrow
  have HCAP := hI hnc
  have HNIL := hI hn0
  have hlw : w.heap.size < wr.heap.size := hS.res.lt
  clear hS hown hX hgood hrow hnc hn0 HS4 HO4 HX4
  by_cases hjc : j < cnt
  ·have hc := H.out.call _ _ _ (at_ + j) HS.out.r (by omega)
   rw [show ((at_ + j : Nat) : Int) = (at_ : Int) + (j : Int) from by omega] at hc
   have HC := hI hc
   clear hc
   go_wp2_with fail
   refine HC.out.mono ?_
   rintro e v2 ⟨rfl, hr2, hk2⟩
   have HS := hI (HS.out.held hr2 hk2)
   have HOWN := hI (own_at9 HOWN.out hk2 HX.out)
   have hsv2 := hk2.size
   obtain ⟨zs, hzs⟩ : ∃ zs, V (at_ + j) = zs := ⟨_, rfl⟩
   have hlenz : zs.length = 64 := by rw [← hzs]; exact HLEN.out _
   obtain ⟨w5, hw5⟩ : ∃ w5, w5 = v2.alloc (.cells (cells8 zs) 186) := ⟨_, rfl⟩
   have hb5 : Below v2.heap.size v2 w5 := by rw [hw5]; exact (Below.refl _ v2).alloc (nR _) _
   have HA5 := hI (show ArrB w5 v2.heap.size zs by rw [hw5]; exact Blk.new v2 _ _)
   have HW5 := hI hw5
   have HZS := hI hzs
   have HS := hI (HS.out.mem H.out hb5)
   have HOWN := hI (own_below HOWN.out hb5)
   have hsz5 := hb5.size
   rw [hzs]
   have HX5 := hI (show ∀ g, (Value.slice A j cap).ownBlock = some g → newX X v2 w5 g from fun g hg => Or.inl (HX.out g hg))
   clear hr2 hk2 hw5 hzs hb5 HC
   generalize newX X v2 w5 = X5 at *
   by_cases he : E (at_ + j) = 0
   ·have hne2 : (E (at_ + j) != 0) = false := by simp [he]
    have HEJ := hI he
    rw [he] at hne2 ⊢
    obtain ⟨w6, hw6⟩ : ∃ w6, w6 = w5.alloc (.cells (cells8 zs) 186) := ⟨_, rfl⟩
    have hb6 : Below w5.heap.size w5 w6 := by rw [hw6]; exact (Below.refl _ w5).alloc (nR _) _
    have hy6 : ArrB w6 w5.heap.size (flat [zs]) := by rw [hw6, flat_one]; exact Blk.new w5 _ _
    have hsec1 : Secs [zs] := fun x hx => by simp at hx; subst hx; exact hlenz
    have HY6 := hI (hy6.rowK hsec1 (n := 1) rfl (S := fun _ => True) trivial)
    have HSEC1 := hI hsec1
    have HW6 := hI hw6
    have HS6 := hI (HS.out.mem H.out hb6)
    have HO6 := hI (own_below HOWN.out hb6)
    have hsz6 := hb6.size
    clear he hb6 hy6 hsec1 hw6
    go_wp2_with (first
     | (refine wpList_alloc_blk rfl rfl ?_)
     | (refine wpList_store_new (.tmp 13) (.tmp 48) rfl rfl v2 zs rfl rfl (noughts 64) rfl (noughts_length 64) hlenz ?_; rw [← HW5.out])
     | (refine wpList_load_blk (.tmp 13) rfl rfl v2.heap.size 0 rfl zs hlenz HA5.out.range ?_)
     | (refine wpList_lit_sec (.tmp 55) rfl rfl zs rfl hlenz ?_; rw [← HW6.out])
     | (refine wpList_append_rowK (.tmp 54) (.tmp 56) rfl rfl (w.heap.size + 1) (.slice A j cap) j _ rfl HO6.out (fun _ => True) (some ⟨w5.heap.size, 0, none⟩) 1 1 [zs] rfl HY6.out HSEC1.out (fun h => by cases h) (by unfold maxLen; omega) (by omega) (by omega) ?_; intro v' w7 hown' hgrow' hblk'; rw [flat_one] at hown'; have HO7 := hI hown'; have HG7 := hI hgrow'; have HB7 := hI hblk'; clear hown' hgrow' hblk'))
    go_roundw
    case rel =>
     have HS7 := hI (HS6.out.grown H.out HG7.out (fun g hg => ⟨Or.inl (HX5.out g hg), (HO6.out.lt g hg).1⟩))
     have hlw7 : ∀ g, v'.ownBlock = some g → newX (newX X5 w5 w6) w6 w7 g := fun g hg => by
      rcases HB7.out with h1 | h1
      ·rw [h1] at hg
       exact Or.inl (Or.inl (HX5.out g hg))
      ·have h2 := (HO7.out.lt _ h1).2
       rw [h1] at hg
       injection hg with hg
       subst hg
       exact Or.inr ⟨nR _, h2⟩
     have hown7 : w7.ownsRow (w.heap.size + 1) 186 64 v' (j + 1) ((flat (secsAt V at_ (j + 1))).map (Value.int .u8)) := by
      rw [secsAt_succ, flat_append, List.map_append, HZS.out, flat_one]
      exact HO7.out
     have hg7 : ∀ q, 1 ≤ q → q < j + 1 → E (at_ + q) = 0 := fun q h1 h2 => by
      by_cases e : q = j
      ·subst e; exact HEJ.out
      ·exact HGOOD.out q h1 (by omega)
     exact ⟨j + 1, _, by omega, by omega, HS7.out, hown7, hlw7, hg7⟩
    case measure => have hlv := own_len9 HO7.out; show cnt - lenV9 v' < cnt - j; omega
   ·have hne2 : (E (at_ + j) != 0) = true := by simp [he]
    obtain ⟨se, sr⟩ := stand_bad (V := V) (gen := gen) HE0.out hj1 (by rw [HCNT.out]; exact hjc) HGOOD.out he
    have HF := hI (HS.out.fin H.out zeroC)
    have HRES := hI HS.out.res
    have HE := hI he
    obtain ⟨e0, he0⟩ : ∃ e0, E (at_ + j) = e0 := ⟨_, rfl⟩
    rw [he0] at hne2 HE se ⊢
    have HSE := hI se
    have HSR := hI sr
    clear se sr he he0
    go_wp2_with (first
     | (with_reducible refine halt_end ?_)
     | (refine wpList_alloc_blk rfl rfl ?_)
     | (refine wpList_store_new (.tmp 13) (.tmp 48) rfl rfl v2 zs rfl rfl (noughts 64) rfl (noughts_length 64) hlenz ?_; rw [← HW5.out])
     | (refine wpList_store_rowB (.tmp 6) (.tmp 52) 33 rfl rfl w.heap.size zeroC rfl rfl 33 _ HRES.out size_rec rfl one_zero ?_))
    refine Halt.ret (results_row3 (p := 6) (u := 7) (v := 8) rfl _ _ w.heap.size 33 zeroC _ rfl HF.out.2.2.1 Tryz.underlying33 rfl size_rec) rfl ⟨?_, HF.out.2.1, fun _ => by rw [HSE.out]; rfl, zero_told9 HSE.out HE.out⟩
    rw [HSR.out]
    exact HF.out.1
  ·obtain rfl : cnt = j := by omega
   have hall := stand_all (V := V) (gen := gen) (E := E) (at_ := at_) HE0.out (by rw [HCNT.out]; omega) (by rw [HCNT.out]; exact HGOOD.out)
   rw [HCNT.out] at hall
   have HALL := hI hall
   have HBM := hI (meants_bytes (secsAt_bytes HBYT.out at_ cnt))
   have hlxs := secsAt_length V at_ cnt
   have HJN := hI (join_any9 A cnt cap (secsAt V at_ cnt) _ wr HROW.out (fun b h => h.2.1) HSEC.out (secsAt_bytes HBYT.out at_ cnt) (by omega))
   obtain ⟨xss, hxss⟩ : ∃ xss, secsAt V at_ cnt = xss := ⟨_, rfl⟩
   rw [hxss] at HALL HBM hlxs HJN
   have HXS := hI hxss
   clear hall hxss HOWN HROW HSEC HGOOD HX
   go_wp2_with fail
   refine HJN.out.mono ?_
   rintro e w8 hjn
   by_cases hch : Chain xss
   case neg =>
    obtain ⟨rfl, hb8⟩ := hjn.2 (fun h => hch h.2)
    have HSE := hI (HALL.out.2.1 (fun h => hch h.1))
    have HS := hI (HS.out.mem H.out hb8)
    have HF := hI (HS.out.fin H.out zeroC)
    have HRES := hI HS.out.res
    clear hjn hch hb8
    go_wp2_with (first | (with_reducible refine halt_end ?_) | (refine wpList_store_rowB (.tmp 6) (.tmp 65) 33 rfl rfl w.heap.size zeroC rfl rfl 33 _ HRES.out size_rec rfl one_zero ?_))
    refine Halt.ret (results_row3 (p := 6) (u := 7) (v := 8) rfl _ _ w.heap.size 33 zeroC _ rfl HF.out.2.2.1 Tryz.underlying33 rfl size_rec) rfl ⟨?_, HF.out.2.1, fun _ => by rw [HSE.out]; rfl, zero_told9 HSE.out (by decide)⟩
    rw [HALL.out.2.2]
    exact HF.out.1
   obtain ⟨A8, c8, rfl, hr8, hb8, hc8⟩ := hjn.1 ⟨by omega, hch⟩
   have HS := hI (HS.out.mem H.out hb8)
   obtain ⟨ms, hms⟩ : ∃ ms, meants xss = ms := ⟨_, rfl⟩
   rw [hms] at hr8 hc8 HBM ⊢
   have HMS := hI hms
   have HCH := hI hch
   have HR8 := hI hr8
   have HC8 := hI hc8
   have hs8 := hb8.size
   have hml : ms.length ≤ 100000 := by rw [← hms]; have := meants_le xss; omega
   clear hms hch hr8 hb8 hjn hc8
   by_cases hdk : DecOk ms ms.length
   case neg =>
    have HDN := hI (dec_no A8 ms.length c8 ms _ w8 HR8.out (fun b h => h.2) HBM.out HC8.out hdk)
    have HSE := hI (HALL.out.2.1 (fun h => hdk (by have := h.2.1; rw [HMS.out] at this; exact this)))
    obtain ⟨eo, heo⟩ : ∃ eo, errOf ms ms.length = eo := ⟨_, rfl⟩
    have heo2 : (eo != 0) = true := by rcases errOf_cases ms ms.length with h | h <;> (rw [← heo, h]; rfl)
    rw [heo] at HDN
    clear heo hdk
    go_wp2_with fail
    refine HDN.out.mono ?_
    rintro e w9 ⟨rfl, hb9⟩
    obtain ⟨w10, hw10⟩ : ∃ w10, w10 = w9.alloc (.cells zeroC 33) := ⟨_, rfl⟩
    have hb10 : Below w9.heap.size w9 w10 := by rw [hw10]; exact (Below.refl _ w9).alloc (nR _) _
    have HW10 := hI hw10
    have HS := hI ((HS.out.mem H.out hb9).mem H.out hb10)
    have HF := hI (HS.out.fin H.out zeroC)
    have HRES := hI HS.out.res
    clear hb9 hw10 hb10
    go_upto_region 17 with fail
    rw [← HW10.out]
    go_wp2_with (first | (with_reducible refine halt_end ?_) | (refine wpList_store_rowB (.tmp 6) (.tmp 80) 33 rfl rfl w.heap.size zeroC rfl rfl 33 _ HRES.out size_rec rfl one_zero ?_))
    refine Halt.ret (results_row3 (p := 6) (u := 7) (v := 8) rfl _ _ w.heap.size 33 zeroC _ rfl HF.out.2.2.1 Tryz.underlying33 rfl size_rec) rfl ⟨?_, HF.out.2.1, fun _ => by rw [HSE.out]; rfl, zero_told9 HSE.out (by decide)⟩
    rw [HALL.out.2.2]
    exact HF.out.1
   have HDO := hI (dec_ok A8 ms.length c8 ms _ w8 HR8.out (fun b h => h.2) HBM.out hdk.1 HC8.out hdk.2.1 hdk.2.2)
   have HDK := hI hdk
   clear hdk
   go_wp2_with fail
   refine HDO.out.mono ?_
   rintro e w9 ⟨b1, b2, rfl, hn1, hn2, hnb, ha1, ha2, hb9⟩
   obtain ⟨nd, hnd⟩ : ∃ nd, needOf ms = nd := ⟨_, rfl⟩
   rw [hnd]
   obtain ⟨w10, hw10⟩ : ∃ w10, w10 = w9.alloc (.cells (recT9 ms b1 b2) 33) := ⟨_, rfl⟩
   have hb10 : Below w9.heap.size w9 w10 := by rw [hw10]; exact (Below.refl _ w9).alloc (nR _) _
   have HW10 := hI hw10
   have HRT := hI (show Blk w10 w9.heap.size 33 (recT9 ms b1 b2) by rw [hw10]; exact Blk.new w9 _ _)
   have HS := hI ((HS.out.mem H.out hb9).mem H.out hb10)
   have HA1 := hI (Blk.below ha1 hb10 (Blk.lt ha1))
   have HA2 := hI (Blk.below ha2 hb10 (Blk.lt ha2))
   have HRES := hI HS.out.res
   have HNB := hI hnb
   have hnd50 : nd ≤ 100000 := by rw [← hnd]; have := HDK.out.2.2; omega
   clear hb9 hw10 hb10 ha1 ha2 hnb
   go_upto_region 17 with fail
   rw [← HW10.out]
   by_cases hsame : nd = ms.length
   ·have hq9 : ((nd : Int) != (ms.length : Nat)) = false := by simp [hsame]
    have HSE := hI (HALL.out.1 ⟨HCH.out, by rw [HMS.out]; exact HDK.out, by rw [HMS.out, hnd]; exact hsame⟩)
    have HF := hI (HS.out.fin H.out (recT9 ms b1 b2))
    clear hnd hsame
    go_wp2_with (first
     | (with_reducible refine halt_end ?_)
     | (refine wpList_load_rowB (.tmp 16) 33 rfl rfl w9.heap.size rfl 33 (recT9 ms b1 b2).toList _ Tryz.underlying33 rfl size_rec HRT.out ?_)
     | (refine wpList_store_rowB (.tmp 6) (.tmp 81) 33 rfl rfl w.heap.size (recT9 ms b1 b2) rfl rfl 33 _ HRES.out size_rec rfl (one_rec _ _ _ _ _ _ _ _ _ _) ?_))
    refine Halt.ret (results_row3 (p := 6) (u := 7) (v := 8) rfl _ _ w.heap.size 33 (recT9 ms b1 b2) _ rfl HF.out.2.2.1 Tryz.underlying33 rfl size_rec) rfl ⟨?_, HF.out.2.1, fun h => absurd HSE.out h, fun _ => ⟨ms, ?_, b1, b2, ?_, by omega, by omega, HNB.out, Blk.kept HA1.out HF.out.2.2.2 (show b1 ≠ w.heap.size by omega), Blk.kept HA2.out HF.out.2.2.2 (show b2 ≠ w.heap.size by omega)⟩⟩
    ·rw [HALL.out.2.2]
     exact HF.out.1
    ·rw [HCNT.out, HXS.out, HMS.out]
    ·rw [HCNT.out]; rfl
   ·have hq9 : ((nd : Int) != (ms.length : Nat)) = true := by simp; omega
    have HSE := hI (HALL.out.2.1 (fun h => hsame (by have := h.2.2; rw [HMS.out, hnd] at this; exact this)))
    have HF := hI (HS.out.fin H.out zeroC)
    clear hnd hsame
    go_wp2_with (first | (with_reducible refine halt_end ?_) | (refine wpList_store_rowB (.tmp 6) (.tmp 80) 33 rfl rfl w.heap.size zeroC rfl rfl 33 _ HRES.out size_rec rfl one_zero ?_))
    refine Halt.ret (results_row3 (p := 6) (u := 7) (v := 8) rfl _ _ w.heap.size 33 zeroC _ rfl HF.out.2.2.1 Tryz.underlying33 rfl size_rec) rfl ⟨?_, HF.out.2.1, fun _ => by rw [HSE.out]; rfl, zero_told9 HSE.out (by decide)⟩
    rw [HALL.out.2.2]
    exact HF.out.1
theorem standing_loaded {σ : Type} {X0 : Nat → Prop} {V : Nat → List Int} {E : Nat → Int} {nx : σ → Nat → σ} {R : (Nat → Prop) → σ → World → Prop} {w : World} {st : σ} (c0 : Value) (H : HeldC 121 [c0] w.heap.size X0 V E nx R) (h : R X0 st w) (gen : Int) (at_ : Nat) (hat : at_ ≤ 90000) :
 Calls Tryz.prog 55 #[.func (.func 121) #[] #[c0], .int .u64 gen, .int .i64 at_] w (StandT R nx X0 st V E gen at_ w) := by
 have HLEN := hI H.len
 have HBYT := hI H.byt
 have HS := hI (StW.start H h)
 have H := hI H
 have hc := H.out.call _ _ _ at_ HS.out.r (by omega)
 have HC1 := hI hc
 clear h hc
 obtain ⟨w1, hw1⟩ : ∃ w1, w1 = w.alloc (.cells zeroC 33) := ⟨_, rfl⟩
 rw [← hw1] at HS HC1
 obtain ⟨X1, hX1⟩ : ∃ X1, newX X0 w w1 = X1 := ⟨_, rfl⟩
 rw [hX1] at HS HC1
 have hsz1 : w.heap.size < w1.heap.size := HS.out.res.lt
 go_enter Tryz.func55, Tryz.ntmps55
 go_upto_region 1 with fail
 rw [← hw1]
 clear hw1 hX1
 go_wp2_with fail
 refine HC1.out.mono ?_
 rintro e v1 ⟨rfl, hr1, hk1⟩
 have HS := hI (HS.out.held hr1 hk1)
 have hsv : w1.heap.size ≤ v1.heap.size := hk1.size
 obtain ⟨w2, hw2⟩ : ∃ w2, w2 = v1.alloc (.cells (cells8 (V at_)) 186) := ⟨_, rfl⟩
 have hb2 : Below v1.heap.size v1 w2 := by rw [hw2]; exact (Below.refl _ v1).alloc (nR _) _
 have HA2 := hI (show ArrB w2 v1.heap.size (V at_) by rw [hw2]; exact Blk.new v1 _ _)
 have HS := hI (HS.out.mem H.out hb2)
 have hsz2 := hb2.size
 have HW2 := hI hw2
 have hlen0 := HLEN.out at_
 clear hr1 hk1 hb2 hw2 HC1
 obtain ⟨ys, hys⟩ : ∃ ys, V at_ = ys := ⟨_, rfl⟩
 rw [hys] at hlen0 HA2 HW2 ⊢
 by_cases he : E at_ = 0
 case neg =>
  have hne : (E at_ != 0) = true := by simp [he]
  obtain ⟨se, sr⟩ := stand_err (V := V) (gen := gen) he
  have HE := hI he
  have HF := hI (HS.out.fin H.out zeroC)
  have HRES := hI HS.out.res
  have HSE := hI se
  have HSR := hI sr
  obtain ⟨e0, he0⟩ : ∃ e0, E at_ = e0 := ⟨_, rfl⟩
  rw [he0] at hne HSE HE ⊢
  clear se sr he he0
  go_wp2_with (first | (with_reducible refine halt_end ?_) | (refine wpList_alloc_blk rfl rfl ?_) | (refine wpList_store_new (.tmp 9) (.tmp 22) rfl rfl v1 ys rfl rfl (noughts 64) rfl (noughts_length 64) hlen0 ?_; rw [← HW2.out]) | (refine wpList_store_rowB (.tmp 6) (.tmp 26) 33 rfl rfl w.heap.size zeroC rfl rfl 33 _ HRES.out size_rec rfl one_zero ?_))
  refine Halt.ret (results_row3 (p := 6) (u := 7) (v := 8) rfl _ _ w.heap.size 33 zeroC _ rfl HF.out.2.2.1 Tryz.underlying33 rfl size_rec) rfl ⟨?_, HF.out.2.1, fun _ => by rw [HSE.out]; rfl, zero_told9 HSE.out HE.out⟩
  rw [HSR.out]
  exact HF.out.1
 have hne : (E at_ != 0) = false := by simp [he]
 have hby0 := HBYT.out at_
 rw [hys] at hby0
 have HBG := hI (fun (U : World) => begins_any ys gen at_ U hlen0 hby0 (by omega))
 obtain ⟨cnt, hcnt⟩ : ∃ cnt, beginsN ys gen at_ = cnt := ⟨_, rfl⟩
 rw [hcnt] at HBG
 have hcle : cnt ≤ 17 := by rw [← hcnt]; exact begins_le _ _ _
 have HCNT := hI (show beginsN (V at_) gen at_ = cnt by rw [hys]; exact hcnt)
 have HE0 := hI he
 rw [he] at hne ⊢
 clear he hcnt hby0
 go_upto_region 5 with (first | (refine wpList_alloc_blk rfl rfl ?_) | (refine wpList_store_new (.tmp 9) (.tmp 22) rfl rfl v1 ys rfl rfl (noughts 64) rfl (noughts_length 64) hlen0 ?_; rw [← HW2.out]) | (refine wpList_load_blk (.tmp 9) rfl rfl v1.heap.size 0 rfl ys hlen0 HA2.out.range ?_) | (go_at_call 127; refine (HBG.out _).mono ?_; rintro e w3 ⟨rfl, hb3⟩))
 have HS := hI (HS.out.mem H.out hb3)
 have HA3 := hI (HA2.out.below hb3 HA2.out.lt)
 have hsz3 := hb3.size
 clear hb3
 generalize newX (newX X1 v1 w2) w2 w3 = X3 at *
 by_cases hc0 : cnt = 0
 ·subst hc0
  obtain ⟨se, sr⟩ := stand_none (V := V) (gen := gen) HE0.out HCNT.out
  have HF := hI (HS.out.fin H.out zeroC)
  have HRES := hI HS.out.res
  have HSE := hI se
  have HSR := hI sr
  clear se sr
  go_wp2_with (first | (with_reducible refine halt_end ?_) | (refine wpList_store_rowB (.tmp 6) (.tmp 34) 33 rfl rfl w.heap.size zeroC rfl rfl 33 _ HRES.out size_rec rfl one_zero ?_))
  refine Halt.ret (results_row3 (p := 6) (u := 7) (v := 8) rfl _ _ w.heap.size 33 zeroC _ rfl HF.out.2.2.1 Tryz.underlying33 rfl size_rec) rfl ⟨?_, HF.out.2.1, fun _ => by rw [HSE.out]; rfl, zero_told9 HSE.out (by decide)⟩
  rw [HSR.out]
  exact HF.out.1
 have hcq : ((cnt : Int) == 0) = false := by simp; omega
 obtain ⟨w4, hw4⟩ : ∃ w4, w4 = w3.alloc (.cells (cells8 ys) 186) := ⟨_, rfl⟩
 have hb4 : Below w3.heap.size w3 w4 := by rw [hw4]; exact (Below.refl _ w3).alloc (nR _) _
 have HO4 := hI (show w4.ownsRow (w.heap.size + 1) 186 64 (.slice (some ⟨w3.heap.size, 0, none⟩) 1 1) 1 ((flat (secsAt V at_ 1)).map (Value.int .u8)) by rw [hw4, secsAt_one, flat_one, hys]; exact own_one9 _ _ hlen0 (by omega))
 have HS4 := hI (HS.out.mem H.out hb4)
 have hlt4 : w3.heap.size < w4.heap.size := by rw [hw4]; simp
 have HX4 := hI (show ∀ g, (Value.slice (some ⟨w3.heap.size, 0, none⟩) 1 1).ownBlock = some g → newX X3 w3 w4 g from fun g hg => by injection hg with hg; subst hg; exact .inr ⟨nR _, hlt4⟩)
 have HW4 := hI hw4
 clear hb4 hw4 hlt4
 go_upto_region 8 with (first | (refine wpList_load_blk (.tmp 9) rfl rfl v1.heap.size 0 rfl ys hlen0 HA3.out.range ?_) | (refine wpList_lit_sec (.tmp 35) rfl rfl ys rfl hlen0 ?_; rw [← HW4.out]))
 clear HA3 HA2 HW2 HW4 hlen0 hys HS
 go_loopw [12] (fun v wr => ∃ (j : Nat) (X : Nat → Prop), 1 ≤ j ∧ j ≤ cnt ∧ StW R w X0 (stR nx st at_ j) X wr ∧ wr.ownsRow (w.heap.size + 1) 186 64 v j ((flat (secsAt V at_ j)).map (Value.int .u8)) ∧ (∀ g, v.ownBlock = some g → X g) ∧ (∀ q, 1 ≤ q → q < j → E (at_ + q) = 0)) (fun v _ => cnt - lenV9 v)
 case atStart => exact ⟨1, _, nR _, by omega, HS4.out, HO4.out, HX4.out, fun q h1 h2 => by omega⟩
 case round =>
  obtain ⟨j, X, hj1, hj, hS, hown, hX, hgood⟩ := hrel
  have HSEC := hI (secsAt_secs HLEN.out at_ j)
  obtain ⟨A, cap, rfl, hnc, hn0, hrow⟩ := rowK_own hown HSEC.out
  have HS := hI hS
  have HOWN := hI hown
  have HX := hI hX
  have HGOOD := hI hgood
  have HROW := hI hrow
  have HCAP := hI hnc
  have HNIL := hI hn0
  have hlw : w.heap.size < wr.heap.size := hS.res.lt
  clear hS hown hX hgood hrow hnc hn0 HS4 HO4 HX4
  by_cases hjc : j < cnt
  ·have hc := H.out.call _ _ _ (at_ + j) HS.out.r (by omega)
   rw [show ((at_ + j : Nat) : Int) = (at_ : Int) + (j : Int) from by omega] at hc
   have HC := hI hc
   clear hc
   go_wp2_with fail
   refine HC.out.mono ?_
   rintro e v2 ⟨rfl, hr2, hk2⟩
   have HS := hI (HS.out.held hr2 hk2)
   have HOWN := hI (own_at9 HOWN.out hk2 HX.out)
   have hsv2 := hk2.size
   obtain ⟨zs, hzs⟩ : ∃ zs, V (at_ + j) = zs := ⟨_, rfl⟩
   have hlenz : zs.length = 64 := by rw [← hzs]; exact HLEN.out _
   obtain ⟨w5, hw5⟩ : ∃ w5, w5 = v2.alloc (.cells (cells8 zs) 186) := ⟨_, rfl⟩
   have hb5 : Below v2.heap.size v2 w5 := by rw [hw5]; exact (Below.refl _ v2).alloc (nR _) _
   have HA5 := hI (show ArrB w5 v2.heap.size zs by rw [hw5]; exact Blk.new v2 _ _)
   have HW5 := hI hw5
   have HZS := hI hzs
   have HS := hI (HS.out.mem H.out hb5)
   have HOWN := hI (own_below HOWN.out hb5)
   have hsz5 := hb5.size
   rw [hzs]
   have HX5 := hI (show ∀ g, (Value.slice A j cap).ownBlock = some g → newX X v2 w5 g from fun g hg => Or.inl (HX.out g hg))
   clear hr2 hk2 hw5 hzs hb5 HC
   generalize newX X v2 w5 = X5 at *
   by_cases he : E (at_ + j) = 0
   ·have hne2 : (E (at_ + j) != 0) = false := by simp [he]
    have HEJ := hI he
    rw [he] at hne2 ⊢
    obtain ⟨w6, hw6⟩ : ∃ w6, w6 = w5.alloc (.cells (cells8 zs) 186) := ⟨_, rfl⟩
    have hb6 : Below w5.heap.size w5 w6 := by rw [hw6]; exact (Below.refl _ w5).alloc (nR _) _
    have hy6 : ArrB w6 w5.heap.size (flat [zs]) := by rw [hw6, flat_one]; exact Blk.new w5 _ _
    have hsec1 : Secs [zs] := fun x hx => by simp at hx; subst hx; exact hlenz
    have HY6 := hI (hy6.rowK hsec1 (n := 1) rfl (S := fun _ => True) trivial)
    have HSEC1 := hI hsec1
    have HW6 := hI hw6
    have HS6 := hI (HS.out.mem H.out hb6)
    have HO6 := hI (own_below HOWN.out hb6)
    have hsz6 := hb6.size
    clear he hb6 hy6 hsec1 hw6
    go_wp2_with (first
     | (refine wpList_alloc_blk rfl rfl ?_)
     | (refine wpList_store_new (.tmp 13) (.tmp 48) rfl rfl v2 zs rfl rfl (noughts 64) rfl (noughts_length 64) hlenz ?_; rw [← HW5.out])
     | (refine wpList_load_blk (.tmp 13) rfl rfl v2.heap.size 0 rfl zs hlenz HA5.out.range ?_)
     | (refine wpList_lit_sec (.tmp 55) rfl rfl zs rfl hlenz ?_; rw [← HW6.out])
     | (refine wpList_append_rowK (.tmp 54) (.tmp 56) rfl rfl (w.heap.size + 1) (.slice A j cap) j _ rfl HO6.out (fun _ => True) (some ⟨w5.heap.size, 0, none⟩) 1 1 [zs] rfl HY6.out HSEC1.out (fun h => by cases h) (by unfold maxLen; omega) (by omega) (by omega) ?_; intro v' w7 hown' hgrow' hblk'; rw [flat_one] at hown'; have HO7 := hI hown'; have HG7 := hI hgrow'; have HB7 := hI hblk'; clear hown' hgrow' hblk'))
    go_roundw
    case rel =>
     have HS7 := hI (HS6.out.grown H.out HG7.out (fun g hg => ⟨Or.inl (HX5.out g hg), (HO6.out.lt g hg).1⟩))
     have hlw7 : ∀ g, v'.ownBlock = some g → newX (newX X5 w5 w6) w6 w7 g := fun g hg => by
      rcases HB7.out with h1 | h1
      ·rw [h1] at hg
       exact Or.inl (Or.inl (HX5.out g hg))
      ·have h2 := (HO7.out.lt _ h1).2
       rw [h1] at hg
       injection hg with hg
       subst hg
       exact Or.inr ⟨nR _, h2⟩
     have hown7 : w7.ownsRow (w.heap.size + 1) 186 64 v' (j + 1) ((flat (secsAt V at_ (j + 1))).map (Value.int .u8)) := by
      rw [secsAt_succ, flat_append, List.map_append, HZS.out, flat_one]
      exact HO7.out
     have hg7 : ∀ q, 1 ≤ q → q < j + 1 → E (at_ + q) = 0 := fun q h1 h2 => by
      by_cases e : q = j
      ·subst e; exact HEJ.out
      ·exact HGOOD.out q h1 (by omega)
     exact ⟨j + 1, _, by omega, by omega, HS7.out, hown7, hlw7, hg7⟩
    case measure => have hlv := own_len9 HO7.out; show cnt - lenV9 v' < cnt - j; omega
   ·have hne2 : (E (at_ + j) != 0) = true := by simp [he]
    obtain ⟨se, sr⟩ := stand_bad (V := V) (gen := gen) HE0.out hj1 (by rw [HCNT.out]; exact hjc) HGOOD.out he
    have HF := hI (HS.out.fin H.out zeroC)
    have HRES := hI HS.out.res
    have HE := hI he
    obtain ⟨e0, he0⟩ : ∃ e0, E (at_ + j) = e0 := ⟨_, rfl⟩
    rw [he0] at hne2 HE se ⊢
    have HSE := hI se
    have HSR := hI sr
    clear se sr he he0
    go_wp2_with (first
     | (with_reducible refine halt_end ?_)
     | (refine wpList_alloc_blk rfl rfl ?_)
     | (refine wpList_store_new (.tmp 13) (.tmp 48) rfl rfl v2 zs rfl rfl (noughts 64) rfl (noughts_length 64) hlenz ?_; rw [← HW5.out])
     | (refine wpList_store_rowB (.tmp 6) (.tmp 52) 33 rfl rfl w.heap.size zeroC rfl rfl 33 _ HRES.out size_rec rfl one_zero ?_))
    refine Halt.ret (results_row3 (p := 6) (u := 7) (v := 8) rfl _ _ w.heap.size 33 zeroC _ rfl HF.out.2.2.1 Tryz.underlying33 rfl size_rec) rfl ⟨?_, HF.out.2.1, fun _ => by rw [HSE.out]; rfl, zero_told9 HSE.out HE.out⟩
    rw [HSR.out]
    exact HF.out.1
  ·obtain rfl : cnt = j := by omega
   have hall := stand_all (V := V) (gen := gen) (E := E) (at_ := at_) HE0.out (by rw [HCNT.out]; omega) (by rw [HCNT.out]; exact HGOOD.out)
   rw [HCNT.out] at hall
   have HALL := hI hall
   have HBM := hI (meants_bytes (secsAt_bytes HBYT.out at_ cnt))
   have hlxs := secsAt_length V at_ cnt
   have HJN := hI (join_any9 A cnt cap (secsAt V at_ cnt) _ wr HROW.out (fun b h => h.2.1) HSEC.out (secsAt_bytes HBYT.out at_ cnt) (by omega))
   obtain ⟨xss, hxss⟩ : ∃ xss, secsAt V at_ cnt = xss := ⟨_, rfl⟩
   rw [hxss] at HALL HBM hlxs HJN
   have HXS := hI hxss
   clear hall hxss HOWN HROW HSEC HGOOD HX
   go_wp2_with fail
   refine HJN.out.mono ?_
   rintro e w8 hjn
   by_cases hch : Chain xss
   case neg =>
    obtain ⟨rfl, hb8⟩ := hjn.2 (fun h => hch h.2)
    have HSE := hI (HALL.out.2.1 (fun h => hch h.1))
    have HS := hI (HS.out.mem H.out hb8)
    have HF := hI (HS.out.fin H.out zeroC)
    have HRES := hI HS.out.res
    clear hjn hch hb8
    go_wp2_with (first | (with_reducible refine halt_end ?_) | (refine wpList_store_rowB (.tmp 6) (.tmp 65) 33 rfl rfl w.heap.size zeroC rfl rfl 33 _ HRES.out size_rec rfl one_zero ?_))
    refine Halt.ret (results_row3 (p := 6) (u := 7) (v := 8) rfl _ _ w.heap.size 33 zeroC _ rfl HF.out.2.2.1 Tryz.underlying33 rfl size_rec) rfl ⟨?_, HF.out.2.1, fun _ => by rw [HSE.out]; rfl, zero_told9 HSE.out (by decide)⟩
    rw [HALL.out.2.2]
    exact HF.out.1
   obtain ⟨A8, c8, rfl, hr8, hb8, hc8⟩ := hjn.1 ⟨by omega, hch⟩
   have HS := hI (HS.out.mem H.out hb8)
   obtain ⟨ms, hms⟩ : ∃ ms, meants xss = ms := ⟨_, rfl⟩
   rw [hms] at hr8 hc8 HBM ⊢
   have HMS := hI hms
   have HCH := hI hch
   have HR8 := hI hr8
   have HC8 := hI hc8
   have hs8 := hb8.size
   have hml : ms.length ≤ 100000 := by rw [← hms]; have := meants_le xss; omega
   clear hms hch hr8 hb8 hjn hc8
   by_cases hdk : DecOk ms ms.length
   case neg =>
    have HDN := hI (dec_no A8 ms.length c8 ms _ w8 HR8.out (fun b h => h.2) HBM.out HC8.out hdk)
    have HSE := hI (HALL.out.2.1 (fun h => hdk (by have := h.2.1; rw [HMS.out] at this; exact this)))
    obtain ⟨eo, heo⟩ : ∃ eo, errOf ms ms.length = eo := ⟨_, rfl⟩
    have heo2 : (eo != 0) = true := by rcases errOf_cases ms ms.length with h | h <;> (rw [← heo, h]; rfl)
    rw [heo] at HDN
    clear heo hdk
    go_wp2_with fail
    refine HDN.out.mono ?_
    rintro e w9 ⟨rfl, hb9⟩
    obtain ⟨w10, hw10⟩ : ∃ w10, w10 = w9.alloc (.cells zeroC 33) := ⟨_, rfl⟩
    have hb10 : Below w9.heap.size w9 w10 := by rw [hw10]; exact (Below.refl _ w9).alloc (nR _) _
    have HW10 := hI hw10
    have HS := hI ((HS.out.mem H.out hb9).mem H.out hb10)
    have HF := hI (HS.out.fin H.out zeroC)
    have HRES := hI HS.out.res
    clear hb9 hw10 hb10
    go_upto_region 17 with fail
    rw [← HW10.out]
    go_wp2_with (first | (with_reducible refine halt_end ?_) | (refine wpList_store_rowB (.tmp 6) (.tmp 80) 33 rfl rfl w.heap.size zeroC rfl rfl 33 _ HRES.out size_rec rfl one_zero ?_))
    refine Halt.ret (results_row3 (p := 6) (u := 7) (v := 8) rfl _ _ w.heap.size 33 zeroC _ rfl HF.out.2.2.1 Tryz.underlying33 rfl size_rec) rfl ⟨?_, HF.out.2.1, fun _ => by rw [HSE.out]; rfl, zero_told9 HSE.out (by decide)⟩
    rw [HALL.out.2.2]
    exact HF.out.1
   have HDO := hI (dec_ok A8 ms.length c8 ms _ w8 HR8.out (fun b h => h.2) HBM.out hdk.1 HC8.out hdk.2.1 hdk.2.2)
   have HDK := hI hdk
   clear hdk
   go_wp2_with fail
   refine HDO.out.mono ?_
   rintro e w9 ⟨b1, b2, rfl, hn1, hn2, hnb, ha1, ha2, hb9⟩
   obtain ⟨nd, hnd⟩ : ∃ nd, needOf ms = nd := ⟨_, rfl⟩
   rw [hnd]
   obtain ⟨w10, hw10⟩ : ∃ w10, w10 = w9.alloc (.cells (recT9 ms b1 b2) 33) := ⟨_, rfl⟩
   have hb10 : Below w9.heap.size w9 w10 := by rw [hw10]; exact (Below.refl _ w9).alloc (nR _) _
   have HW10 := hI hw10
   have HRT := hI (show Blk w10 w9.heap.size 33 (recT9 ms b1 b2) by rw [hw10]; exact Blk.new w9 _ _)
   have HS := hI ((HS.out.mem H.out hb9).mem H.out hb10)
   have HA1 := hI (Blk.below ha1 hb10 (Blk.lt ha1))
   have HA2 := hI (Blk.below ha2 hb10 (Blk.lt ha2))
   have HRES := hI HS.out.res
   have HNB := hI hnb
   have hnd50 : nd ≤ 100000 := by rw [← hnd]; have := HDK.out.2.2; omega
   clear hb9 hw10 hb10 ha1 ha2 hnb
   go_upto_region 17 with fail
   rw [← HW10.out]
   by_cases hsame : nd = ms.length
   ·have hq9 : ((nd : Int) != (ms.length : Nat)) = false := by simp [hsame]
    have HSE := hI (HALL.out.1 ⟨HCH.out, by rw [HMS.out]; exact HDK.out, by rw [HMS.out, hnd]; exact hsame⟩)
    have HF := hI (HS.out.fin H.out (recT9 ms b1 b2))
    clear hnd hsame
    go_wp2_with (first
     | (with_reducible refine halt_end ?_)
     | (refine wpList_load_rowB (.tmp 16) 33 rfl rfl w9.heap.size rfl 33 (recT9 ms b1 b2).toList _ Tryz.underlying33 rfl size_rec HRT.out ?_)
     | (refine wpList_store_rowB (.tmp 6) (.tmp 81) 33 rfl rfl w.heap.size (recT9 ms b1 b2) rfl rfl 33 _ HRES.out size_rec rfl (one_rec _ _ _ _ _ _ _ _ _ _) ?_))
    refine Halt.ret (results_row3 (p := 6) (u := 7) (v := 8) rfl _ _ w.heap.size 33 (recT9 ms b1 b2) _ rfl HF.out.2.2.1 Tryz.underlying33 rfl size_rec) rfl ⟨?_, HF.out.2.1, fun h => absurd HSE.out h, fun _ => ⟨ms, ?_, b1, b2, ?_, by omega, by omega, HNB.out, Blk.kept HA1.out HF.out.2.2.2 (show b1 ≠ w.heap.size by omega), Blk.kept HA2.out HF.out.2.2.2 (show b2 ≠ w.heap.size by omega)⟩⟩
    ·rw [HALL.out.2.2]
     exact HF.out.1
    ·rw [HCNT.out, HXS.out, HMS.out]
    ·rw [HCNT.out]; rfl
   ·have hq9 : ((nd : Int) != (ms.length : Nat)) = true := by simp; omega
    have HSE := hI (HALL.out.2.1 (fun h => hsame (by have := h.2.2; rw [HMS.out, hnd] at this; exact this)))
    have HF := hI (HS.out.fin H.out zeroC)
    clear hnd hsame
    go_wp2_with (first | (with_reducible refine halt_end ?_) | (refine wpList_store_rowB (.tmp 6) (.tmp 80) 33 rfl rfl w.heap.size zeroC rfl rfl 33 _ HRES.out size_rec rfl one_zero ?_))
    refine Halt.ret (results_row3 (p := 6) (u := 7) (v := 8) rfl _ _ w.heap.size 33 zeroC _ rfl HF.out.2.2.1 Tryz.underlying33 rfl size_rec) rfl ⟨?_, HF.out.2.1, fun _ => by rw [HSE.out]; rfl, zero_told9 HSE.out (by decide)⟩
    rw [HALL.out.2.2]
    exact HF.out.1
end
section
open Go.RowKit
abbrev logC (p : Nat) (sec : Int) (A : Option Addr) (n c : Nat) (br : Bool) : Array Value := #[.pointer (some ⟨p, 0, none⟩), .int .i64 sec, .slice A n c, .bool br]
abbrev StoS (w : World) (X : Nat → Prop) (p d n : Nat) (s : Sup) (t : Int) (k : Dk) : Prop := StoreM w X p d n s.a s.b s.g s.r s.v s.f t k
def LogM (w : World) (X : Nat → Prop) (l p d n : Nat) (s : Sup) (t : Int) (k : Dk) (sec : Int) (A : Option Addr) (m c : Nat) (xs : List Seg) (br : Bool) : Prop :=
 Blk w l 103 (logC p sec A m c br) ∧ ¬ X l ∧ ∃ R : Nat → Prop, StoS w (fun b => X b ∨ b = l ∨ R b) p d n s t k ∧ RowZ w R A m xs ∧ (∀ b, R b → b < w.heap.size ∧ b ≠ l ∧ ¬ X b)
section
variable {w w' : World} {X Y : Nat → Prop} {l p d n m c : Nat} {s : Sup} {t : Int} {k : Dk} {sec : Int} {A : Option Addr} {xs : List Seg} {br : Bool}
theorem LogM.below (h : LogM w X l p d n s t k sec A m c xs br) (hb : Below w.heap.size w w') : LogM w' X l p d n s t k sec A m c xs br := by
 obtain ⟨h1, h2, R, h3, h4, h5⟩ := h
 exact ⟨h1.below hb h1.lt, h2, R, StoreM.below h3 hb, h4.below hb (fun b h => (h5 b h).1), fun b h => ⟨nL (h5 b h).1 hb.size, (h5 b h).2⟩⟩
theorem LogM.now (h : LogM w X l p d n s t k sec A m c xs br) : RowZ w (· < w.heap.size) A m xs := by
 obtain ⟨h1, h2, R, h3, h4, h5⟩ := h
 exact h4.more (fun b h => (h5 b h).1)
theorem log_cells (h : LogM w X l p d n s t k sec A m c xs br) : w.cell? ⟨l, 0, none⟩ = some (.pointer (some ⟨p, 0, none⟩)) ∧ w.cell? ⟨l, 1, none⟩ = some (.int .i64 sec) ∧ w.cell? ⟨l, 2, none⟩ = some (.slice A m c) ∧ w.cell? ⟨l, 3, none⟩ = some (.bool br) :=
 ⟨h.1.cell 0, h.1.cell 1, h.1.cell 2, h.1.cell 3⟩
theorem sto_disk (hs : StoS w X p d n s t k) : Calls Tryz.prog 123 #[.pointer (some ⟨p, 0, none⟩)] w fun e w' => e = .returned (.pointer (some ⟨d, 0, none⟩)) ∧ w' = w := by
 have c7 : w.cell? ⟨p, 7, none⟩ = some (.pointer (some ⟨d, 0, none⟩)) := hs.1.cell 7
 clear hs
 go_enter Tryz.func123, Tryz.ntmps123
 go_wp2
 go_ret
 exact ⟨rfl, rfl⟩
theorem sto_base (hs : StoS w X p d n s t k) (i : Nat) (hi : (i : Int) < s.a) (ha : s.a ≤ 16) (hb : 0 ≤ s.b ∧ s.b ≤ 64) :
 Calls Tryz.prog 50 #[.pointer (some ⟨p, 0, none⟩), .int .i64 i] w fun e w' => e = .returned (.tuple #[.int .i64 (2 + i * s.b), .int .i64 0]) ∧ w' = w := by
 have c0 : w.cell? ⟨p, 0, none⟩ = some (.int .i64 s.a) := hs.1.cell 0
 have c1 : w.cell? ⟨p, 1, none⟩ = some (.int .i64 s.b) := hs.1.cell 1
 have d0 : decide ((i : Int) < 0) = false := by simp
 have d1 : decide (s.a ≤ (i : Int)) = false := decide_eq_false (by omega)
 obtain ⟨x, hx⟩ : ∃ x : Int, (i : Int) * s.b = x := ⟨_, rfl⟩
 have hi16 : (i : Int) ≤ 15 := by omega
 have hx1 : 0 ≤ x ∧ x ≤ 960 := by
  rw [← hx]
  exact ⟨Int.mul_nonneg (by omega) hb.1, by have := Int.mul_le_mul hi16 hb.2 hb.1 (by omega : (0:Int) ≤ 15); omega⟩
 rw [show (2 : Int) + i * s.b = 2 + x by rw [hx]]
 clear hs
 go_enter Tryz.func50, Tryz.ntmps50
 go_wp2
 go_ret2
 exact ⟨rfl, rfl⟩
theorem log_super (h : LogM w X l p d n s t k sec A m c xs br) : Calls Tryz.prog 11 #[.pointer (some ⟨l, 0, none⟩)] w fun e w' => e = .returned (.pointer (some ⟨p, 0, none⟩)) ∧ w' = w := by
 obtain ⟨c0, _, _, _⟩ := log_cells h
 clear h
 go_enter Tryz.func11, Tryz.ntmps11
 go_wp2
 go_ret
 exact ⟨rfl, rfl⟩
theorem breaks_ok (w : World) (l : Nat) : Calls Tryz.prog 60 #[.pointer (some ⟨l, 0, none⟩), .int .i64 0] w fun e w' => e = .returned (.int .i64 0) ∧ w' = w := by
 go_enter Tryz.func60, Tryz.ntmps60
 go_wp2
 go_ret
 exact ⟨rfl, rfl⟩
end
end
section
open Go.RowKit
def hdrL (i : Nat) (g : Int) : List Int := packL g 0 [(i : Int) / 256, (i : Int)]
theorem hdrL_length (i : Nat) (g : Int) : (hdrL i g).length = 64 := packL_length _ _ _ (by simp)
theorem header_any (i : Nat) (g : Int) (w : World) (hi : i ≤ 15) (hg : 1 ≤ g ∧ g ≤ 18446744073709551615) :
 Calls Tryz.prog 126 #[.int .i64 i, .int .u64 g] w fun e w' => e = .returned (.tuple #[.agg (cells8 (hdrL i g)), .int .i64 0]) ∧ Below w.heap.size w w' := by
 have hi2 : (i : Int) ≤ 15 := by omega
 obtain ⟨ys, hys⟩ : ∃ ys, hdrL i g = ys := ⟨_, rfl⟩
 have HL := hI (show ys.length = 64 by rw [← hys]; exact hdrL_length i g)
 have HY := hI (show packL g 0 [(i : Int) / 256, (i : Int)] = ys from hys)
 rw [hys]
 clear hys
 go_enter Tryz.func126, Tryz.ntmps126
 go_wp2_with (refine wpList_alloc_blk rfl rfl ?_)
 have HA := hI (show Arr (Value.int .u8) ((w.alloc (.cells (cells8 (noughts 64)) 186)).alloc (.cells #[.int .u8 ((i : Int) / 256), .int .u8 (i : Int)] 5)) (w.heap.size + 1) 5 [(i : Int) / 256, (i : Int)] from blk_new2 w _ _ _)
 have HR := hI (show Arr (Value.int .u8) ((w.alloc (.cells (cells8 (noughts 64)) 186)).alloc (.cells #[.int .u8 ((i : Int) / 256), .int .u8 (i : Int)] 5)) w.heap.size 186 (noughts 64) from (Blk.new w _ _).alloc _)
 have HB := hI (((Below.refl w.heap.size w).alloc (nR _) (.cells (cells8 (noughts 64)) 186)).alloc (by simp) (.cells #[.int .u8 ((i : Int) / 256), .int .u8 (i : Int)] 5))
 refine (pack_ok g 0 _ 2 2 [(i : Int) / 256, (i : Int)] (· < _) _ (HA.out.row 0 (Blk.lt HA.out)) (fun b h => h) hg.1 hg.2 (by omega) (by omega) (by omega)).mono ?_
 rintro e w2 ⟨rfl, hb⟩
 have HR2 := hI (show Arr (Value.int .u8) w2 w.heap.size 186 (noughts 64) from Blk.below HR.out hb (Blk.lt HR.out))
 have HB2 := hI (HB.out.trans (hb.mono HB.out.size))
 rw [HY.out]
 clear hb
 go_wp2_with (first
  | (refine wpList_store_blk (.tmp 4) (.tmp 16) rfl rfl w.heap.size ys rfl rfl 186 (noughts 64) HR2.out (noughts_length 64) HL.out ?_)
  | (with_reducible refine halt_end ?_))
 exact Halt.ret (results_blk2 (p := 4) (u := 5) rfl _ _ w.heap.size 186 ys rfl (HR2.out.setRow ys) HL.out) rfl ⟨rfl, below_setRow HB2.out (nR _) _⟩
end
section
open Go.RowKit
attribute [local go_sem] Oper.semAt_some
theorem header_zero (i : Nat) (w : World) (hi : i ≤ 15) :
 Calls Tryz.prog 126 #[.int .i64 i, .int .u64 0] w fun e w' => e = .returned (.tuple #[.agg (cells8 (noughts 64)), .int .i64 2]) ∧ Below w.heap.size w w' := by
 have hi2 : (i : Int) ≤ 15 := by omega
 have HR := hI (show Arr (Value.int .u8) ((w.alloc (.cells (cells8 (noughts 64)) 186)).alloc (.cells #[.int .u8 ((i : Int) / 256), .int .u8 (i : Int)] 5)) w.heap.size 186 (noughts 64) from (Blk.new w _ _).alloc _)
 have HB := hI (((Below.refl w.heap.size w).alloc (nR _) (.cells (cells8 (noughts 64)) 186)).alloc (by simp) (.cells #[.int .u8 ((i : Int) / 256), .int .u8 (i : Int)] 5))
 go_enter Tryz.func126, Tryz.ntmps126
 go_wp2_with (refine wpList_alloc_blk rfl rfl ?_)
 refine (pack_zero 0 _ 2 2 _).mono ?_
 rintro e w2 ⟨rfl, hb⟩
 have HR2 := hI (show Arr (Value.int .u8) w2 w.heap.size 186 (noughts 64) from Blk.below HR.out hb (Blk.lt HR.out))
 have HB2 := hI (HB.out.trans (hb.mono HB.out.size))
 clear hb
 go_wp2_with (first
  | (refine wpList_store_blk (.tmp 4) (.tmp 16) rfl rfl w.heap.size (noughts 64) rfl rfl 186 (noughts 64) HR2.out (noughts_length 64) (noughts_length 64) ?_)
  | (with_reducible refine halt_end ?_))
 exact Halt.ret (results_blk2 (p := 4) (u := 5) rfl _ _ w.heap.size 186 (noughts 64) rfl (HR2.out.setRow (noughts 64)) (noughts_length 64)) rfl ⟨rfl, below_setRow HB2.out (nR _) _⟩
def begunG (ys : List Int) (i : Nat) : Int := if stamped ys = true ∧ hdrL i (genOf ys) = ys then genOf ys else 0
theorem begun_loaded {σ : Type} {X0 : Nat → Prop} {V : Nat → List Int} {E : Nat → Int} {nx : σ → Nat → σ} {R : (Nat → Prop) → σ → World → Prop} {w : World} {st : σ} (c0 : Value) (H : HeldC 121 [c0] w.heap.size X0 V E nx R) (h : R X0 st w) (seg : Nat) (hseg : seg ≤ 15) :
 Calls Tryz.prog 54 #[.func (.func 121) #[] #[c0], .int .i64 seg] w fun e w' => e = .returned (.int .u64 (begunG (V 0) seg)) ∧ R X0 (nx st 0) w' ∧ Kept X0 w w' := by
 have HC := hI (H.call _ _ _ 0 h (by omega))
 have hlen := H.len 0
 have hby := H.byt 0
 obtain ⟨ys, hys⟩ : ∃ ys, V 0 = ys := ⟨_, rfl⟩
 rw [hys] at HC hlen hby ⊢
 have H := hI H
 obtain ⟨e0, he0⟩ : ∃ e0, E 0 = e0 := ⟨_, rfl⟩
 rw [he0] at HC
 clear h hys he0
 go_enter Tryz.func54, Tryz.ntmps54
 go_wp2_with fail
 refine HC.out.mono ?_
 rintro e v1 ⟨rfl, hr, hk⟩
 have HR := hI hr
 have HK := hI hk
 have HFIN := hI (show ∀ W, Below v1.heap.size v1 W → R X0 (nx st 0) W ∧ Kept X0 w W from fun W hb => by
  have hkb : Kept (fun b => b < v1.heap.size) v1 W := Kept.of_below hb (fun b h => h)
  exact ⟨H.out.back _ _ _ (H.out.put X0 _ _ v1 W HR.out hkb (fun b h1 h2 => absurd h1 h2)) (fun b hb => .inl hb), HK.out.trans hkb (H.out.lt _ _ _ HR.out)⟩)
 obtain ⟨w2, hw2⟩ : ∃ w2, w2 = v1.alloc (.cells (cells8 ys) 186) := ⟨_, rfl⟩
 have HB2 := hI (show Below v1.heap.size v1 w2 by rw [hw2]; exact (Below.refl _ v1).alloc (nR _) _)
 have HA2 := hI (show ArrB w2 v1.heap.size ys by rw [hw2]; exact Blk.new v1 _ _)
 have HW2 := hI hw2
 clear hr hk hw2 HC
 by_cases hst : stamped ys = true
 case neg =>
  have hst : stamped ys = false := by simpa using hst
  have HRD := hI (read_bad ys w2 hlen hby hst)
  have eb : begunG ys seg = 0 := by unfold begunG; rw [hst]; rfl
  have HHD := hI (fun W => header_zero seg W hseg)
  have HEZ := hI eb
  clear eb hst
  go_upto_region 2 with (first
   | (refine wpList_alloc_blk rfl rfl ?_)
   | (refine wpList_store_new (.tmp 5) (.tmp 15) rfl rfl v1 ys rfl rfl (noughts 64) rfl (noughts_length 64) hlen ?_; rw [← HW2.out]))
  go_wp2_with (refine wpList_load_blk (.tmp 5) rfl rfl v1.heap.size 0 rfl ys hlen HA2.out.range ?_)
  refine HRD.out.mono ?_
  rintro e w3 ⟨rfl, hb3⟩
  have HB3 := hI (HB2.out.trans (hb3.mono HB2.out.size))
  obtain ⟨w4, hw4⟩ : ∃ w4, w4 = w3.alloc (.cells #[.int .u64 0, .int .u32 0, .int .i64 0] 203) := ⟨_, rfl⟩
  have HS4 := hI (show Blk w4 w3.heap.size 203 #[.int .u64 0, .int .u32 0, .int .i64 0] by rw [hw4]; exact Blk.new w3 _ _)
  have HB4 := hI (show Below v1.heap.size v1 w4 by rw [hw4]; exact HB3.out.alloc HB3.out.size _)
  have HW4 := hI hw4
  clear hb3 hw4
  go_upto_region 3 with fail
  rw [← HW4.out]
  have k0 := HS4.out.cell 0
  go_wp2_with fail
  refine (HHD.out w4).mono ?_
  rintro e w5 ⟨rfl, hb5⟩
  have HB5 := hI (HB4.out.trans (hb5.mono HB4.out.size))
  clear hb5 k0
  go_wp2_with (first
   | (refine wpList_alloc_blk rfl rfl ?_)
   | (refine wpList_store_new (.tmp 10) (.tmp 28) rfl rfl w5 (noughts 64) rfl rfl (noughts 64) rfl (noughts_length 64) (noughts_length 64) ?_))
  go_ret
  rw [HEZ.out]
  exact ⟨rfl, HFIN.out _ (HB5.out.alloc HB5.out.size _)⟩
 have hgb := gen_bounds hby hlen
 have hg1 : 1 ≤ genOf ys := by simp [stamped] at hst; exact hst.1
 have HRD := hI (read_ok2 ys w2 hlen hby hst)
 have hg2 : genOf ys ≤ 18446744073709551615 := by omega
 have HEB := hI (show begunG ys seg = if hdrL seg (genOf ys) = ys then genOf ys else 0 by unfold begunG; rw [hst]; simp)
 obtain ⟨g, hg⟩ : ∃ g, genOf ys = g := ⟨_, rfl⟩
 rw [hg] at HEB hg1 hg2
 have HHD := hI (fun W => header_any seg g W hseg ⟨hg1, hg2⟩)
 have HG := hI hg
 have hlh := hdrL_length seg g
 obtain ⟨hs, hhs⟩ : ∃ hs, hdrL seg g = hs := ⟨_, rfl⟩
 rw [hhs] at HEB HHD hlh
 clear hst hgb hg hhs
 go_upto_region 2 with (first
  | (refine wpList_alloc_blk rfl rfl ?_)
  | (refine wpList_store_new (.tmp 5) (.tmp 15) rfl rfl v1 ys rfl rfl (noughts 64) rfl (noughts_length 64) hlen ?_; rw [← HW2.out]))
 go_wp2_with (refine wpList_load_blk (.tmp 5) rfl rfl v1.heap.size 0 rfl ys hlen HA2.out.range ?_)
 refine HRD.out.mono ?_
 rintro e w3 ⟨A3, c3, rfl, hr3, hb3, _⟩
 rw [HG.out]
 have HB3 := hI (HB2.out.trans (hb3.mono HB2.out.size))
 have HA3 := hI (HA2.out.below hb3 HA2.out.lt)
 obtain ⟨po, hpo⟩ : ∃ po, posOf ys = po := ⟨_, rfl⟩
 obtain ⟨fi, hfi⟩ : ∃ fi, fillOf ys = fi := ⟨_, rfl⟩
 rw [hpo, hfi]
 obtain ⟨w4, hw4⟩ : ∃ w4, w4 = w3.alloc (.cells #[.int .u64 g, .int .u32 po, .int .i64 fi] 203) := ⟨_, rfl⟩
 have HS4 := hI (show Blk w4 w3.heap.size 203 #[.int .u64 g, .int .u32 po, .int .i64 fi] by rw [hw4]; exact Blk.new w3 _ _)
 have HA4 := hI (show ArrB w4 v1.heap.size ys by rw [hw4]; exact HA3.out.alloc _)
 have HB4 := hI (show Below v1.heap.size v1 w4 by rw [hw4]; exact HB3.out.alloc HB3.out.size _)
 have HW4 := hI hw4
 clear hb3 hw4 hpo hfi hr3
 go_upto_region 3 with fail
 rw [← HW4.out]
 have k0 := HS4.out.cell 0
 go_wp2_with fail
 refine (HHD.out w4).mono ?_
 rintro e w5 ⟨rfl, hb5⟩
 have HB5 := hI (HB4.out.trans (hb5.mono HB4.out.size))
 obtain ⟨w6, hw6⟩ : ∃ w6, w6 = w5.alloc (.cells (cells8 hs) 186) := ⟨_, rfl⟩
 have hb6 : Below w5.heap.size w5 w6 := by rw [hw6]; exact (Below.refl _ w5).alloc (nR _) _
 have HA6 := hI (show ArrB w6 w5.heap.size hs by rw [hw6]; exact Blk.new w5 _ _)
 have HY6 := hI (show ArrB w6 v1.heap.size ys from Blk.below (Blk.below HA4.out hb5 (Blk.lt HA4.out)) hb6 (nL (Blk.lt HA4.out) hb5.size))
 have k6 := ((HS4.out.below hb5 HS4.out.lt).below hb6 (nL HS4.out.lt hb5.size)).cell 0
 have HB6 := hI (HB5.out.trans (hb6.mono HB5.out.size))
 have HW6 := hI hw6
 clear hb5 hb6 hw6 k0
 by_cases hsm : hs = ys
 ·have q1 : (!(ys == hs)) = false := by simp [hsm]
  have eb : begunG ys seg = g := by rw [HEB.out, if_pos hsm]
  have HEZ := hI eb
  clear eb hsm
  go_wp2_with (first
   | (refine wpList_alloc_blk rfl rfl ?_)
   | (refine wpList_store_new (.tmp 10) (.tmp 28) rfl rfl w5 hs rfl rfl (noughts 64) rfl (noughts_length 64) hlh ?_; rw [← HW6.out])
   | (refine wpList_load_blk (.tmp 5) rfl rfl v1.heap.size 0 rfl ys hlen HY6.out.range ?_)
   | (refine wpList_load_blk (.tmp 10) rfl rfl w5.heap.size 0 rfl hs hlh HA6.out.range ?_)
   | (refine wpList_neq_blk (.tmp 33) (.tmp 34) _ rfl rfl ys hs rfl rfl hlen hlh ?_; rw [q1]))
  go_ret
  rw [HEZ.out]
  exact ⟨rfl, HFIN.out _ HB6.out⟩
 ·have q1 : (!(ys == hs)) = true := by simp; exact fun e => hsm e.symm
  have eb : begunG ys seg = 0 := by rw [HEB.out, if_neg hsm]
  have HEZ := hI eb
  clear eb hsm
  go_wp2_with (first
   | (refine wpList_alloc_blk rfl rfl ?_)
   | (refine wpList_store_new (.tmp 10) (.tmp 28) rfl rfl w5 hs rfl rfl (noughts 64) rfl (noughts_length 64) hlh ?_; rw [← HW6.out])
   | (refine wpList_load_blk (.tmp 5) rfl rfl v1.heap.size 0 rfl ys hlen HY6.out.range ?_)
   | (refine wpList_load_blk (.tmp 10) rfl rfl w5.heap.size 0 rfl hs hlh HA6.out.range ?_)
   | (refine wpList_neq_blk (.tmp 33) (.tmp 34) _ rfl rfl ys hs rfl rfl hlen hlh ?_; rw [q1]))
  go_ret
  rw [HEZ.out]
  exact ⟨rfl, HFIN.out _ HB6.out⟩
end
section
open Go.RowKit
attribute [local go_sem] Oper.semAt_some
structure LdM (gl : Nat) (A : Option Addr) (n c : Nat) (xss : List (List Int)) (X : Nat → Prop) (st : Unit) (W : World) : Prop where
 lt : ∀ b, X b → b < W.heap.size
 v : Blk W gl 178 #[.slice A n c]
 xv : ¬ X gl
 row : RowK W (fun b => b < W.heap.size ∧ ¬ X b) A n xss
def ldV (xss : List (List Int)) (i : Nat) : List Int := if i < xss.length then xss.getD i [] else noughts 64
def ldE (xss : List (List Int)) (i : Nat) : Int := if i < xss.length then 0 else 4
section
variable {gl n c : Nat} {A : Option Addr} {xss : List (List Int)} {X S X0 : Nat → Prop} {W W' : World} {st : Unit}
theorem LdM.put (h : LdM gl A n c xss X st W) (hk : Kept S W W') (hS : ∀ b, b < W.heap.size → ¬ S b → X b) : LdM gl A n c xss (fun b => X b ∨ (W.heap.size ≤ b ∧ b < W'.heap.size)) st W' := by
 have hs : ∀ b, b < W.heap.size → ¬ X b → S b := fun b h1 h2 => Classical.byContradiction fun h3 => h2 (hS b h1 h3)
 refine ⟨fun b hb => ?_, h.v.kept hk (hs _ h.v.lt h.xv), fun hx => ?_, (h.row.kept hk fun b hb => hs b hb.1 hb.2).more fun b hb => ⟨nL hb.1 hk.size, fun hx => ?_⟩⟩
 ·rcases hb with hb | hb
  ·exact nL (h.lt b hb) hk.size
  ·exact hb.2
 ·rcases hx with hx | hx
  ·exact h.xv hx
  ·have := h.v.lt; omega
 ·rcases hx with hx | hx
  ·exact hb.2 hx
  ·have := hb.1; omega
theorem LdM.below (h : LdM gl A n c xss X st W) (hb : Below W.heap.size W W') : LdM gl A n c xss X st W' :=
 ⟨fun b hx => nL (h.lt b hx) hb.size, h.v.below hb h.v.lt, h.xv, (h.row.below hb fun b h => h.1).more fun b hx => ⟨nL hx.1 hb.size, hx.2⟩⟩
theorem LdM.back (h : LdM gl A n c xss X st W) (hx : ∀ b, X0 b → X b) : LdM gl A n c xss X0 st W :=
 ⟨fun b hb => h.lt b (hx b hb), h.v, fun hb => h.xv (hx _ hb), h.row.more fun b hb => ⟨hb.1, fun h0 => hb.2 (hx _ h0)⟩⟩
theorem loaded1_any (h : LdM gl A n c xss X st W) (hs : Secs xss) (hn : n ≤ 100000) (i : Nat) (hi : i ≤ 100000) :
 Calls Tryz.prog 121 #[.int .i64 (i : Nat), .pointer (some ⟨gl, 0, none⟩)] W fun e W' => e = .returned (.tuple #[.agg (cells8 (ldV xss i)), .int .i64 (ldE xss i)]) ∧ Below W.heap.size W W' := by
 have hlen := h.row.1
 obtain ⟨w1, hw1⟩ : ∃ w1, w1 = W.alloc (.cells (cells8 (noughts 64)) 186) := ⟨_, rfl⟩
 have hb1 : Below W.heap.size W w1 := by rw [hw1]; exact (Below.refl _ W).alloc (nR _) _
 have HR1 := hI (show ArrB w1 W.heap.size (noughts 64) by rw [hw1]; exact Blk.new W _ _)
 have HB1 := hI hb1
 have HW1 := hI hw1
 have k0 := (h.v.below hb1 h.v.lt).cell 0
 have HROW := hI (h.row.below hb1 fun b hb => hb.1)
 have HSEC := hI hs
 clear h hw1 hb1 hs
 by_cases hin : i < n
 ·have e1 : ldV xss i = xss.getD i [] := if_pos (by omega)
  have e2 : ldE xss i = 0 := if_pos (by omega)
  rw [e1, e2]
  obtain ⟨b, off, rfl, _, hc⟩ := HROW.out.2 (by omega)
  have hr := hc i hin
  have hl := HSEC.out.get i (by omega)
  obtain ⟨ys, hys⟩ : ∃ ys, xss.getD i [] = ys := ⟨_, rfl⟩
  rw [hys] at hr hl ⊢
  have HR := hI hr
  have HL := hI hl
  clear hc hr hys e1 e2 hlen
  have hq : decide ((n : Int) ≤ (i : Int)) = false := by simp; omega
  go_enter Tryz.func121, Tryz.ntmps121
  go_wp2_with (first
   | (with_reducible refine halt_end ?_)
   | (refine wpList_alloc_blk rfl rfl ?_; rw [← HW1.out])
   | (refine wpList_load_blk (.tmp 12) rfl rfl b (off + i * 64) rfl ys HL.out HR.out ?_)
   | (refine wpList_store_blk (.tmp 3) (.tmp 13) rfl rfl W.heap.size ys rfl rfl 186 (noughts 64) HR1.out (noughts_length 64) HL.out ?_))
  refine Halt.ret (results_blk2 rfl _ _ W.heap.size 186 ys rfl (setRow_heap _ _ _ _ _ _ HR1.out) HL.out) rfl ⟨rfl, below_setRow HB1.out (nR _) _⟩
 ·have e1 : ldV xss i = noughts 64 := if_neg (by omega)
  have e2 : ldE xss i = 4 := if_neg (by omega)
  rw [e1, e2]
  clear e1 e2 hlen
  have hq : decide ((n : Int) ≤ (i : Int)) = true := by simp; omega
  go_enter Tryz.func121, Tryz.ntmps121
  go_wp2_with (first
   | (with_reducible refine halt_end ?_)
   | (refine wpList_alloc_blk rfl rfl ?_; rw [← HW1.out])
   | (refine wpList_build_blk rfl rfl ?_)
   | (refine wpList_store_blk (.tmp 3) (.tmp 9) rfl rfl W.heap.size (noughts 64) rfl rfl 186 (noughts 64) HR1.out (noughts_length 64) (noughts_length 64) ?_))
  refine Halt.ret (results_blk2 rfl _ _ W.heap.size 186 (noughts 64) rfl (setRow_heap _ _ _ _ _ _ HR1.out) (noughts_length 64)) rfl ⟨rfl, below_setRow HB1.out (nR _) _⟩
theorem noughts_bytes9 (k : Nat) : Bytes (noughts k) := fun j => by
 unfold noughts
 simp only [List.getD, List.getElem?_replicate]
 split <;> simp
theorem loaded_held (hs : Secs xss) (hby : ∀ i, Bytes (xss.getD i [])) (hl : xss.length = n) (hn : n ≤ 100000) (B : Nat) (X0 : Nat → Prop) :
 HeldC 121 [.pointer (some ⟨gl, 0, none⟩)] B X0 (ldV xss) (ldE xss) (fun (st : Unit) _ => st) (LdM gl A n c xss) where
 call X st W i h hi := (loaded1_any h hs hn i hi).mono fun e W' ⟨he, hb⟩ => ⟨he, h.below hb, Kept.of_below hb h.lt⟩
 put X S st W W' h hk hS := h.put hk fun b h1 h2 => (hS b h1 h2).1
 lt X st W h := h.lt
 back X st W h hx := h.back hx
 len i := by
  unfold ldV
  split
  ·exact hs.get i (by assumption)
  ·exact noughts_length 64
 byt i := by
  unfold ldV
  split
  ·exact hby i
  ·exact noughts_bytes9 64
end
end
section
open Go.RowKit
attribute [local go_sem] Oper.semAt_some
def ldL (V : Nat → List Int) (count j : Nat) : List (List Int) := secsAt V 0 j ++ List.replicate (count - j) (noughts 64)
theorem ldL_length (V : Nat → List Int) {count j : Nat} (h : j ≤ count) : (ldL V count j).length = count := by
 unfold ldL; rw [List.length_append, secsAt_length, List.length_replicate]; omega
theorem ldL_secs {V : Nat → List Int} (h : ∀ i, (V i).length = 64) (count j : Nat) : Secs (ldL V count j) := fun x hx => by
 rcases List.mem_append.1 hx with h1 | h1
 ·exact secsAt_secs h 0 j x h1
 ·rw [(List.mem_replicate.1 h1).2]; exact noughts_length 64
theorem ldL_zero (V : Nat → List Int) (count : Nat) : flat (ldL V count 0) = noughts (count * 64) := by
 have e : ldL V count 0 = List.replicate count (noughts 64) := by simp [ldL, secsAt]
 rw [e]
 exact List.flatten_replicate_replicate
theorem ldL_all (V : Nat → List Int) (count : Nat) : ldL V count count = secsAt V 0 count := by unfold ldL; simp
theorem ldL_set (V : Nat → List Int) {count j : Nat} (h : j < count) : (ldL V count j).set j (V j) = ldL V count (j + 1) := by
 unfold ldL
 obtain ⟨r, hr⟩ : ∃ r, count - j = r + 1 := ⟨count - j - 1, by omega⟩
 rw [hr, show count - (j + 1) = r by omega, secsAt_succ, List.set_append_right _ _ (by rw [secsAt_length]; omega), secsAt_length, Nat.sub_self, List.replicate_succ, List.set_cons_zero, Nat.zero_add, List.append_assoc]
 rfl
section
variable {σ : Type} {f : Nat} {cs : List Value} {X0 X Y S : Nat → Prop} {V : Nat → List Int} {E : Nat → Int} {nx : σ → Nat → σ} {R : (Nat → Prop) → σ → World → Prop} {w W W' : World} {st : σ} {gr gl count : Nat} {L : List (List Int)}
structure StL (R : (Nat → Prop) → σ → World → Prop) (w : World) (X0 : Nat → Prop) (st : σ) (gr gl count : Nat) (L : List (List Int)) (X : Nat → Prop) (W : World) : Prop where
 r : R X st W
 x0 : ∀ b, X0 b → X b
 lt0 : ∀ b, X0 b → b < w.heap.size
 k : Kept X0 w W
 row : ArrB W gr (flat L)
 v : Blk W gl 178 #[.slice (some ⟨gr, 0, none⟩) count count]
 xr : X gr
 xl : X gl
 hr : w.heap.size ≤ gr
 hl : w.heap.size ≤ gl
 ne : gl ≠ gr
theorem StL.held (h : StL R w X0 st gr gl count L X W) {st' : σ} (hr : R X st' W') (hk : Kept X W W') : StL R w X0 st' gr gl count L X W' :=
 ⟨hr, h.x0, h.lt0, h.k.trans hk h.x0, Blk.kept h.row hk h.xr, h.v.kept hk h.xl, h.xr, h.xl, h.hr, h.hl, h.ne⟩
theorem StL.mem (H : HeldC f cs w.heap.size X0 V E nx R) (h : StL R w X0 st gr gl count L X W) (hb : Below W.heap.size W W') : StL R w X0 st gr gl count L (newX X W W') W' := by
 have hk : Kept (fun b => b < W.heap.size) W W' := Kept.of_below hb (fun b h => h)
 exact ⟨H.put X _ st W _ h.r hk (fun b hb hn => absurd hb hn), fun b hb => .inl (h.x0 b hb), h.lt0, h.k.trans hk (fun b hb => nL (h.lt0 b hb) h.k.size), Blk.below h.row hb (Blk.lt h.row), h.v.below hb h.v.lt, .inl h.xr, .inl h.xl, h.hr, h.hl, h.ne⟩
theorem StL.set (H : HeldC f cs w.heap.size X0 V E nx R) (h : StL R w X0 st gr gl count L X W) (L' : List (List Int)) : StL R w X0 st gr gl count L' (newX X W (W.setRow gr (((flat L').map (Value.int .u8)).toArray))) (W.setRow gr (((flat L').map (Value.int .u8)).toArray)) := by
 have hk : Kept (fun b => b ≠ gr) W (W.setRow gr (((flat L').map (Value.int .u8)).toArray)) := (Kept.refl _ W).setRow (g := gr) (fun h => h rfl) _
 refine ⟨H.put X _ st W _ h.r hk (fun b hb hn => ?_), fun b hb => .inl (h.x0 b hb), h.lt0, h.k.trans hk (fun b hb e => ?_), setRow_heap _ _ _ _ _ _ h.row, h.v.kept hk h.ne, .inl h.xr, .inl h.xl, h.hr, h.hl, h.ne⟩
 ·have e : b = gr := by by_cases e : b = gr; exact e; exact absurd e hn
  subst e
  exact ⟨h.xr, h.hr⟩
 ·have := h.lt0 b hb; have := h.hr; omega
theorem StL.told (h : StL R w X0 st gr gl count L X W) (hs : Secs L) (hn : L.length = count) : LdM gl (some ⟨gr, 0, none⟩) count count L X0 () W :=
 ⟨fun b hb => nL (h.lt0 b hb) h.k.size, h.v, fun hb => by have := h.lt0 _ hb; have := h.hl; omega, Arr.rowK h.row hs hn ⟨Blk.lt h.row, fun hb => by have := h.lt0 _ hb; have := h.hr; omega⟩⟩
end
def LoadT {σ : Type} (R : (Nat → Prop) → σ → World → Prop) (nx : σ → Nat → σ) (X0 : Nat → Prop) (st : σ) (V : Nat → List Int) (E : Nat → Int) (count : Nat) (w : World) (e : Ending) (w' : World) : Prop :=
 (∃ gl gr, e = .returned (.tuple #[.func (.func 121) #[] #[.pointer (some ⟨gl, 0, none⟩)], .int .i64 0]) ∧ (∀ q, q < count → E q = 0) ∧
   LdM gl (some ⟨gr, 0, none⟩) count count (secsAt V 0 count) X0 () w' ∧ R X0 (stR nx st 0 count) w' ∧ Kept X0 w w' ∧ w.heap.size ≤ gl ∧ w.heap.size ≤ gr) ∨
 (∃ j, j < count ∧ e = .returned (.tuple #[.nilFunc, .int .i64 (E j)]) ∧ E j ≠ 0 ∧ (∀ q, q < j → E q = 0) ∧ R X0 (stR nx st 0 (j + 1)) w' ∧ Kept X0 w w')
theorem loaded_stored {σ : Type} {X0 : Nat → Prop} {V : Nat → List Int} {E : Nat → Int} {nx : σ → Nat → σ} {R : (Nat → Prop) → σ → World → Prop} {w : World} {st : σ} (c0 c1 : Value) (H : HeldC 122 [c0, c1] w.heap.size X0 V E nx R) (h : R X0 st w) (count : Nat) (hc : count ≤ 90000) :
 Calls Tryz.prog 51 #[.func (.func 122) #[] #[c0, c1], .int .i64 count] w (LoadT R nx X0 st V E count w) := by
 have HLEN := hI H.len
 obtain ⟨w1, hw1⟩ : ∃ w1, w1 = (w.alloc (.cells (cells8 (noughts (count * 64))) 186)).alloc (.cells #[.slice (some ⟨w.heap.size, 0, none⟩) count count] 178) := ⟨_, rfl⟩
 have HS1 := hI (show StL R w X0 st w.heap.size (w.heap.size + 1) count (ldL V count 0) (newX X0 w w1) w1 by
  have hb : Below w.heap.size w w1 := by rw [hw1]; exact ((Below.refl _ w).alloc (nR _) _).alloc (by simp) _
  have hk : Kept (fun b => b < w.heap.size) w w1 := Kept.of_below hb (fun b h => h)
  have hz : w1.heap.size = w.heap.size + 2 := by rw [hw1]; simp
  refine ⟨H.put X0 _ st w _ h hk (fun b hb hn => absurd hb hn), fun b hb => .inl hb, H.lt _ _ _ h, hk.mono (H.lt _ _ _ h), ?_, ?_, .inr ⟨nR _, by omega⟩, .inr ⟨by omega, by omega⟩, nR _, by omega, by omega⟩
  ·rw [ldL_zero, hw1]
   exact (Blk.new w _ _).alloc _
  ·rw [hw1]
   exact blk_new2 w _ _ _)
 have H := hI H
 have HW1 := hI hw1
 clear h hw1
 go_enter Tryz.func51, Tryz.ntmps51
 go_upto_region 2 with (refine wpList_make_secs _ _ rfl rfl _ _ count rfl rfl rfl rfl (by omega) ?_)
 rw [← HW1.out]
 have k0 := HS1.out.v.cell 0
 obtain ⟨gr, hgr⟩ : ∃ gr, w.heap.size = gr := ⟨_, rfl⟩
 have HS1 := hI (show StL R w X0 st gr (gr + 1) count (ldL V count 0) (newX X0 w w1) w1 by rw [← hgr]; exact HS1.out)
 obtain ⟨gl, hgl⟩ : ∃ gl, gr + 1 = gl := ⟨_, rfl⟩
 rw [hgr] at k0 ⊢
 rw [hgl] at HS1 k0 ⊢
 have HG := hI hgr
 have HGL := hI hgl
 clear hgr hgl HW1
 go_wp2_with fail
 go_loopw [14] (fun i wr => ∃ (j : Nat) (X : Nat → Prop), i = .int .i64 j ∧ j ≤ count ∧ StL R w X0 (stR nx st 0 j) gr gl count (ldL V count j) X wr ∧ (∀ q, q < j → E q = 0)) (fun i _ => count - (intOf i).toNat)
 case atStart => exact ⟨0, _, rfl, Nat.zero_le _, HS1.out, fun q hq => by omega⟩
 case round =>
  obtain ⟨j, X, rfl, hj, hS, hgood⟩ := hrel
  have HS := hI hS
  have HGOOD := hI hgood
  clear hS hgood HS1 k0
  by_cases hjc : j < count
  ·have hc := H.out.call _ _ _ j HS.out.r (by omega)
   have HC := hI hc
   clear hc
   go_wp2_with fail
   refine HC.out.mono ?_
   rintro e v2 ⟨rfl, hr2, hk2⟩
   have HS := hI (HS.out.held hr2 hk2)
   obtain ⟨zs, hzs⟩ : ∃ zs, V j = zs := ⟨_, rfl⟩
   have hlenz : zs.length = 64 := by rw [← hzs]; exact HLEN.out _
   obtain ⟨w5, hw5⟩ : ∃ w5, w5 = v2.alloc (.cells (cells8 zs) 186) := ⟨_, rfl⟩
   have hb5 : Below v2.heap.size v2 w5 := by rw [hw5]; exact (Below.refl _ v2).alloc (nR _) _
   have HA5 := hI (show ArrB w5 v2.heap.size zs by rw [hw5]; exact Blk.new v2 _ _)
   have HW5 := hI hw5
   have HS := hI (HS.out.mem H.out hb5)
   have HFIT := hI (show j * 64 + 64 ≤ (flat (ldL V count j)).length by rw [flat_length (ldL_secs HLEN.out count j), ldL_length V hj]; omega)
   have HSET := hI (show (flat (ldL V count j)).take (j * 64) ++ zs ++ (flat (ldL V count j)).drop (j * 64 + 64) = flat (ldL V count (j + 1)) by
    rw [flat_set_s5 (ldL_secs HLEN.out count j) j (by rw [ldL_length V hj]; exact hjc) zs hlenz, ← hzs, ldL_set V hjc])
   have HROW := hI HS.out.row
   have k0 := HS.out.v.cell 0
   rw [hzs]
   clear hr2 hk2 hw5 hzs hb5 HC
   by_cases he : E j = 0
   ·have hne2 : (E j != 0) = false := by simp [he]
    have HEJ := hI he
    rw [he] at hne2 ⊢
    have HS6 := hI (HS.out.set H.out (ldL V count (j + 1)))
    clear he
    go_wp2_with (first
     | (refine wpList_alloc_blk rfl rfl ?_)
     | (refine wpList_store_new (.tmp 8) (.tmp 21) rfl rfl v2 zs rfl rfl (noughts 64) rfl (noughts_length 64) hlenz ?_; rw [← HW5.out])
     | (refine wpList_load_blk (.tmp 8) rfl rfl v2.heap.size 0 rfl zs hlenz HA5.out.range ?_)
     | (refine wpList_store_sec (.tmp 29) (.tmp 28) rfl rfl gr (j * 64) zs rfl rfl 186 _ HROW.out hlenz HFIT.out ?_; rw [HSET.out]))
    go_roundw
    case rel => exact ⟨j + 1, _, by simp, by omega, by rw [show stR nx st 0 (j + 1) = nx (stR nx st 0 j) (0 + j) from rfl, Nat.zero_add]; exact HS6.out, fun q hq => by
     by_cases e : q = j
     ·subst e; exact HEJ.out
     ·exact HGOOD.out q (by omega)⟩
    case measure => show count - (Int.toNat ((j : Int) + 1)) < count - (Int.toNat (j : Int)); omega
   ·have hne2 : (E j != 0) = true := by simp [he]
    have HR0 := hI (H.out.back _ _ _ HS.out.r HS.out.x0)
    have HE := hI he
    clear he
    obtain ⟨e0, he0⟩ : ∃ e0, E j = e0 := ⟨_, rfl⟩
    rw [he0] at hne2 ⊢
    have HE0 := hI he0
    clear he0
    go_wp2_with (first
     | (refine wpList_alloc_blk rfl rfl ?_)
     | (refine wpList_store_new (.tmp 8) (.tmp 21) rfl rfl v2 zs rfl rfl (noughts 64) rfl (noughts_length 64) hlenz ?_; rw [← HW5.out]))
    go_ret2
    exact .inr ⟨j, hjc, by rw [HE0.out]; rfl, HE.out, HGOOD.out, by rw [show stR nx st 0 (j + 1) = nx (stR nx st 0 j) (0 + j) from rfl, Nat.zero_add]; exact HR0.out, HS.out.k⟩
  ·obtain rfl : count = j := by omega
   have HT := hI (HS.out.told (ldL_secs HLEN.out count count) (ldL_length V (nR _)))
   have HR0 := hI (H.out.back _ _ _ HS.out.r HS.out.x0)
   go_wp2_with fail
   go_ret2
   have ht := HT.out
   rw [ldL_all] at ht
   exact .inl ⟨gl, gr, rfl, HGOOD.out, ht, HR0.out, HS.out.k, by have := HG.out; have := HGL.out; omega, by have := HG.out; omega⟩
end
end Go.Proofs.YtjmjhldjablfeaaGreat
namespace Go.Proofs.YtjmjhldjablfeaaGreat.PlM
open Go.Proofs.YtjmjhldjablfeaaGreat
open Go.RowKit
structure Pl where
 sg : Int
 g : Int
 sc : Int
 kd : Int
 fl : Int
 ex : Int
 sq : Int
 a : Option Addr
 n : Nat
 c : Nat
 b : Option Addr
 m : Nat
 d : Nat
abbrev ent0 : Pl := ⟨0, 0, 0, 0, 0, 0, 0, none, 0, 0, none, 0, 0⟩
abbrev entV (e : Pl) : List Value := [.int .i64 e.sg, .int .u64 e.g, .int .i64 e.sc, .int .i64 e.kd, .int .u32 e.fl, .int .u32 e.ex, .int .u64 e.sq, .slice e.a e.n e.c, .slice e.b e.m e.d]
theorem ones_ent (s : Pl) : ∀ v ∈ entV s, v.oneCell' = true := by
 intro v hv
 simp [entV] at hv
 rcases hv with rfl | rfl | rfl | rfl | rfl | rfl | rfl | rfl | rfl <;> rfl
abbrev RowE := RowQ entV 9 ent0
def flatG (L : List Pl) : List Value := L.flatMap entV
theorem flatG_append (L M : List Pl) : flatG (L ++ M) = flatG L ++ flatG M := by simp [flatG]
theorem flatG_one (s : Pl) : flatG [s] = entV s := by simp [flatG]
theorem flatG_length (L : List Pl) : (flatG L).length = L.length * 9 := by
 induction L with
 | nil => rfl
 | cons x r ih =>
  simp only [flatG, List.flatMap_cons, List.length_append, List.length_cons] at *
  rw [ih]
  simp only [entV, List.length_cons, List.length_nil]
  omega
theorem flatG_get : ∀ (L : List Pl) (t : Nat), t < L.length * 9 → (flatG L)[t]? = (entV (L.getD (t / 9) ent0))[t % 9]?
 | [], t, h => by simp at h
 | y :: L, t, h => by
  unfold flatG
  rw [List.flatMap_cons]
  by_cases h4 : t < 9
  ·rw [List.getElem?_append_left (by simpa using h4)]
   rw [show t / 9 = 0 by omega, show t % 9 = t by omega]
   rfl
  ·have e : t - (entV y).length = t - 9 := by simp
   rw [List.getElem?_append_right (by simp; omega), e]
   have ih := flatG_get L (t - 9) (by simp at h; omega)
   unfold flatG at ih
   rw [ih, show t / 9 = (t - 9) / 9 + 1 by omega, show t % 9 = (t - 9) % 9 by omega]
   rfl
theorem flatG_ones (L : List Pl) : ∀ v ∈ flatG L, v.oneCell' = true := by
 intro v hv
 obtain ⟨s, _, h⟩ := List.mem_flatMap.1 hv
 exact ones_ent s v h
theorem flatG_set (L : List Pl) (i : Nat) (s : Pl) (h : i < L.length) : flatG (L.set i s) = (flatG L).take (i * 9) ++ entV s ++ (flatG L).drop (i * 9 + 9) := by
 have e : L.set i s = L.take i ++ [s] ++ L.drop (i + 1) := by
  rw [List.set_eq_take_append_cons_drop, if_pos h]; simp
 have e2 : L = L.take i ++ [L.getD i ent0] ++ L.drop (i + 1) := by
  simp only [List.getD, List.getElem?_eq_getElem h, Option.getD_some]
  rw [List.append_assoc, List.singleton_append, ← List.drop_eq_getElem_cons h, List.take_append_drop]
 have hl : (flatG (L.take i)).length = i * 9 := by rw [flatG_length, List.length_take]; omega
 have h1 : (flatG L).take (i * 9) = flatG (L.take i) := by
  conv => lhs; rw [e2]
  rw [flatG_append, flatG_append, List.append_assoc, List.take_append_of_le_length (by omega), ← hl, List.take_length]
 have h2 : (flatG L).drop (i * 9 + 9) = flatG (L.drop (i + 1)) := by
  conv => lhs; rw [e2]
  rw [flatG_append, List.drop_append_of_le_length (by rw [flatG_append, List.length_append, hl, flatG_one]; simp)]
  rw [List.drop_eq_nil_of_le (by rw [flatG_append, List.length_append, hl, flatG_one]; simp)]
  simp
 rw [h1, h2, e, flatG_append, flatG_append, flatG_one]
def ArrS (w : World) (g : Nat) (L : List Pl) : Prop := Blk w g 40 (flatG L).toArray
theorem row_of_flat {w : World} {g : Nat} {t : TypeId} {L : List Pl} {X : List Value} (h : Blk w g t (flatG L ++ X).toArray) {S : Nat → Prop} (hS : S g) {n : Nat} (hn : L.length = n) : RowE w S (some ⟨g, 0, none⟩) n L :=
 ⟨hn, fun _ => ⟨g, 0, rfl, hS, fun i hi j v hv => by
  have hj : j < 9 := by have := (List.getElem?_eq_some_iff.1 hv).1; simpa using this
  show w.cell? ⟨g, 0 + i * 9 + j, none⟩ = some v
  rw [h.cell, Nat.zero_add]
  have hlt : i * 9 + j < (flatG L).length := by rw [flatG_length]; omega
  rw [List.getElem?_toArray, List.getElem?_append_left hlt, flatG_get L _ (by rw [flatG_length] at hlt; exact hlt), show (i * 9 + j) / 9 = i by omega, show (i * 9 + j) % 9 = j by omega]
  exact hv⟩⟩
theorem ArrS.row {w : World} {g : Nat} {L : List Pl} (h : ArrS w g L) {S : Nat → Prop} (hS : S g) {n : Nat} (hn : L.length = n) : RowE w S (some ⟨g, 0, none⟩) n L :=
 row_of_flat (X := []) (by simpa [ArrS] using h) hS hn
theorem RowE_src {w : World} {S : Nat → Prop} {A : Option Addr} {n : Nat} {xs : List Pl} (h : RowE w S A n xs) (hn : 0 < n) :
 ∃ ad, A = some ad ∧ ∀ j v, (flatG xs)[j]? = some v → w.cell? (ad.add j) = some v := by
 obtain ⟨b, off, e, _, hc⟩ := h.2 hn
 refine ⟨_, e, fun j v hv => ?_⟩
 have hj : j < xs.length * 9 := by have := (List.getElem?_eq_some_iff.1 hv).1; rwa [flatG_length] at this
 rw [flatG_get xs j hj] at hv
 have h1 := hc (j / 9) (by have := h.1; omega) (j % 9) v hv
 rw [add_plain, show off + j = off + j / 9 * 9 + j % 9 by omega]
 exact h1
theorem info_seg : (Tryz.prog.info? 40).map (fun i => (i.zero, i.size, i.bytes)) = some (some (.agg (entV ent0).toArray), 9, 96) := by kernel_rfl
theorem made_segs (k : Nat) : madeCells (entV ent0).toArray (k * 9) = (flatG (List.replicate k ent0)).toArray := by
 apply Array.ext
 ·simp [size_madeCells, flatG_length]
 ·intro i h1 h2
  have hi : i < k * 9 := by simpa [size_madeCells] using h1
  have hq : i / 9 < k := by omega
  have e2 := flatG_get (List.replicate k ent0) i (by simpa using hi)
  have e3 : (List.replicate k ent0).getD (i / 9) ent0 = ent0 := by simp [List.getD, List.getElem?_replicate, hq]
  rw [e3, ← List.getElem?_toArray, Array.getElem?_eq_getElem h2] at e2
  have hm : i % 9 < 9 := Nat.mod_lt _ (by omega)
  have e4 : (entV ent0).toArray[i % 9]! = (entV ent0)[i % 9]'(by simpa using hm) := by
   rw [getElem!_def, List.getElem?_toArray, List.getElem?_eq_getElem (by simpa using hm)]
  rw [List.getElem?_eq_getElem (by simpa using hm)] at e2
  injection e2 with e2
  rw [e2]
  simp only [madeCells, Array.getElem_map, Array.getElem_range]
  exact e4
theorem run_make_segs (l c : Nat) (hlc : l ≤ c) (hc : c ≤ 1000000) (w : World) : (Instr.makeSlice 28 (.int .i64 l) (.int .i64 c)).run Tryz.prog w = .ok (.slice (some ⟨w.heap.size, 0, none⟩) l c) (w.alloc (.cells (flatG (List.replicate c ent0)).toArray 40)) := by
 obtain ⟨i0, hi, hz0, hz1, hz2⟩ := info_parts info_seg
 have hr := run_make (P := Tryz.prog) w 28 40 i0 (.agg (entV ent0).toArray) Tryz.underlying28 hi hz0 .i64 .i64 l c (by omega) (by omega) (by rw [hz2]; omega) (by omega)
 simp only [Int.toNat_natCast, hz1, Value.cells] at hr
 rw [made_segs] at hr
 exact hr
theorem run_copy_segs (w : World) (ty : TypeId) (g dCap : Nat) (a : Addr) (n sCap : Nat) (cur : List Value) (cs : List Value)
 (hg : Blk w g 40 cur.toArray) (hn : cs.length = n * 9) (hsrc : ∀ j v, cs[j]? = some v → w.cell? (a.add j) = some v) (hfit : cs.length = cur.length) (h1 : ∀ v ∈ cs, v.oneCell' = true) :
 (Builtin.copy_ #[28, 28] ty #[.slice (some ⟨g, 0, none⟩) n dCap, .slice (some a) n sCap]).run Tryz.prog w = .ok (goInt n) (w.setRow g cs.toArray) := by
 have hl := run_loadCells_list (P := Tryz.prog) w a cs hsrc
 have hst := run_storeCells_at Tryz.prog g 0 40 cs 0 cur.toArray w hg (by simp [hfit]) h1
 have e : (List.take (0 + 0) cur.toArray.toList ++ cs ++ List.drop (0 + 0 + cs.length) cur.toArray.toList).toArray = cs.toArray := by simp [hfit]
 rw [e] at hst
 obtain ⟨i0, hi, hz0, hz1, hz2⟩ := info_parts info_seg
 simp [Builtin.copy_, run_underlying (Tryz.underlying28), Builtin.lenOf, Builtin.firstCells, sizeOf, typeInfo, hi, hz1, ← hn, hl, hst]
section
variable {w : World} {ops : Array Oper} {rest : List Oper} {o : Oper} {a : Act} {Q : Exit → Act → World → Prop}
theorem wpList_make_segs (l c : Operand) (ho : o.op = .makeSlice 28 l c) (hgd : o.guard = none) (L C : Int) (l0 k : Nat) (hl : a.eval l = .int .i64 L) (hc : a.eval c = .int .i64 C) (hL : L = l0) (hC : C = k) (hlk : l0 ≤ k) (hk : k ≤ 1000000)
 (h : wpList Tryz.prog ops Q rest (a.put o.dst (.slice (some ⟨w.heap.size, 0, none⟩) l0 k)) (w.alloc (.cells (flatG (List.replicate k ent0)).toArray 40))) : wpList Tryz.prog ops Q (o :: rest) a w := by
 refine wpList_plain hgd fun K hK => ?_
 subst hL hC
 have hr := run_make_segs l0 k hlk hk w
 unfold Oper.wp
 simp [execOp, ho, hl, hc, hr, Result.andThen]
 exact hK _ _ h
theorem wpList_copy_segs (d s : Operand) (ho : o.op = .call { callee := .builtin .copy, args := #[d, s], argTypes := #[28, 28] }) (hgd : o.guard = none) (g dCap n sCap : Nat) (A : Option Addr) (hd : a.eval d = .slice (some ⟨g, 0, none⟩) n dCap) (hs : a.eval s = .slice A n sCap)
 (S : Nat → Prop) (xs ys : List Pl) (hr : RowE w S A n xs) (hg : ArrS w g ys) (hl : ys.length = n) (hpos : 0 < n)
 (h : wpList Tryz.prog ops Q rest (a.put o.dst (goInt n)) (w.setRow g (flatG xs).toArray)) : wpList Tryz.prog ops Q (o :: rest) a w := by
 refine wpList_plain hgd fun K hK => ?_
 obtain ⟨ad, rfl, hsrc⟩ := RowE_src hr hpos
 have hrun := run_copy_segs w o.type g dCap ad n sCap (flatG ys) (flatG xs) hg (by rw [flatG_length, hr.1]) hsrc (by rw [flatG_length, flatG_length, hl, hr.1]) (flatG_ones xs)
 unfold Oper.wp
 simp [execOp, ho, resolve, invoke, builtin, hd, hs, hrun, Result.andThen]
 exact hK _ _ h
theorem wpList_store_seg (x y : Operand) (ho : o.op = .store 40 x y) (hgd : o.guard = none) (g i : Nat) (s : Pl) (hx : a.eval x = .pointer (some ⟨g, i * 9, none⟩)) (hy : a.eval y = .agg (entV s).toArray)
 (L : List Pl) (hg : ArrS w g L) (hi : i < L.length) (h : wpList Tryz.prog ops Q rest (a.put o.dst undef) (w.setRow g (flatG (L.set i s)).toArray)) : wpList Tryz.prog ops Q (o :: rest) a w := by
 refine wpList_plain hgd fun K hK => ?_
 have hs := run_storeCells_at Tryz.prog g (i * 9) 40 (entV s) 0 (flatG L).toArray w hg (by simp [flatG_length]; omega) (ones_ent s)
 have he : (List.take (i * 9 + 0) (flatG L).toArray.toList ++ entV s ++ List.drop (i * 9 + 0 + (entV s).length) (flatG L).toArray.toList).toArray = (flatG (L.set i s)).toArray := by
  rw [flatG_set L i s hi]; rfl
 rw [he] at hs
 have hsz : ∀ w, (sizeOf 40).run Tryz.prog w = .ok 9 w := Tryz.sizeOf40
 have hrun : (Instr.storeAt 40 (.pointer (some ⟨g, i * 9, none⟩)) (.agg (entV s).toArray)).run Tryz.prog w = .ok () (w.setRow g (flatG (L.set i s)).toArray) := by
  simp only [Instr.storeAt, Instr.sureAddr, Sem.run_bind, Sem.run_pure, Result.andThen_ok, storeVar, hsz, Value.cells]
  simpa using hs
 unfold Oper.wp execOp
 simp only [ho, hx, hy, hrun, Sem.run_bind, Result.andThen_ok]
 exact hK _ _ h
end
theorem ArrS.setRow {w : World} {g : Nat} {L : List Pl} (h : ArrS w g L) (M : List Pl) : ArrS (w.setRow g (flatG M).toArray) g M := setRow_heap w g _ _ _ _ h
theorem ArrS.alloc {w : World} {g : Nat} {L : List Pl} (h : ArrS w g L) (o : Obj) : ArrS (w.alloc o) g L := Blk.alloc h o
theorem ArrS.below {w w' : World} {g B : Nat} {L : List Pl} (h : ArrS w g L) (hb : Below B w w') (hg : g < B) : ArrS w' g L := Blk.below h hb hg
theorem run_append_rowZ (w : World) (ty : TypeId) (base : Nat) (v : Value) (n : Nat) (P : List Value) (hown : w.ownsRow base 40 9 v n P)
 (S : Nat → Prop) (A : Option Addr) (m c : Nat) (ys : List Pl) (hr : RowE w S A m ys) (hnil : A = none → c = 0) (h63 : n + m ≤ 1000000) (hbase : base ≤ w.heap.size) :
 ∃ v' w', (Builtin.append_ #[28, 28] ty #[v, .slice A m c]).run Tryz.prog w = .ok v' w' ∧ w'.ownsRow base 40 9 v' (n + m) (P ++ flatG ys) ∧ w.grownBy w' v.ownBlock ∧ (v'.ownBlock = v.ownBlock ∨ v'.ownBlock = some w.heap.size) := by
 obtain ⟨i0, hi, hz0, hz1, hz2⟩ := info_parts info_seg
 have hl := hr.1
 rcases A with _ | ad
 ·have hm : m = 0 := by
   rcases Nat.eq_zero_or_pos m with h0 | h0
   ·exact h0
   ·obtain ⟨_, _, h1, _⟩ := hr.2 h0
    cases h1
  subst hm
  have hn : ys = [] := List.eq_nil_of_length_eq_zero hl
  subst hn
  rw [hnil rfl]
  exact ⟨v, w, run_append_owned_none (P := Tryz.prog) (w := w) base 28 ty 40 i0 9 Tryz.underlying28 hi v n P hown, by simpa [flatG] using hown, World.grownBy.refl w _, .inl rfl⟩
 ·obtain ⟨v', w', h1, h2, h3, _, h4⟩ := run_append_own_at (P := Tryz.prog) w base 28 ty 40 i0 (.agg (entV ent0).toArray) 9 96 Tryz.underlying28 hi hz0 hz1 hz2 (by simp [Value.cells]) (by omega) v n P hown ad m c (flatG ys) (by rw [flatG_length, hl])
   (fun j u hu => by
     have hm : 0 < m := by
      rcases Nat.eq_zero_or_pos m with h0 | h0
      ·have : ys = [] := List.eq_nil_of_length_eq_zero (by omega)
       subst this
       simp [flatG] at hu
      ·exact h0
     obtain ⟨ad', e, hc⟩ := RowE_src hr hm
     injection e with e
     subst e
     exact hc j u hu)
   (flatG_ones ys) (by unfold maxLen; omega) (by omega) hbase
  exact ⟨v', w', h1, h2, h3, h4⟩
theorem rowZ_own {w : World} {base : Nat} {v : Value} {n : Nat} {xs : List Pl} {P : List Value} (ho : w.ownsRow base 40 9 v n P) (hP : P = flatG xs) (hn : xs.length = n) :
 ∃ A cap, v = .slice A n cap ∧ n ≤ cap ∧ (A = none → cap = 0) ∧ RowE w (fun b => base ≤ b ∧ b < w.heap.size) A n xs := by
 subst hP
 have hlt := ho.lt
 rcases ho.2 with ⟨rfl, rfl⟩ | ⟨g, cap, cur, rfl, hg, hh, hnc, hc⟩
 ·exact ⟨none, 0, rfl, by omega, fun _ => rfl, hn, fun h => absurd h (by omega)⟩
 ·refine ⟨_, cap, rfl, hnc, (fun h => by cases h), hn, fun _ => ⟨g, 0, rfl, ⟨hg, (hlt g rfl).2⟩, fun i hi j v hv => ?_⟩⟩
  have hj : j < 9 := by have := (List.getElem?_eq_some_iff.1 hv).1; simpa using this
  have h1 := ho.cells (g := g) rfl (i * 9 + j) v (by rw [flatG_get xs _ (by omega), show (i * 9 + j) / 9 = i by omega, show (i * 9 + j) % 9 = j by omega]; exact hv)
  rw [add_plain] at h1
  rw [Nat.add_assoc]
  exact h1
section
variable {w : World} {ops : Array Oper} {rest : List Oper} {o : Oper} {a : Act} {Q : Exit → Act → World → Prop}
theorem wpList_append_rowZ (s x : Operand) (ho : o.op = .call { callee := .builtin .append, args := #[s, x], argTypes := #[28, 28] }) (hgd : o.guard = none)
 (base : Nat) (v : Value) (n : Nat) (P : List Value) (hs : a.eval s = v) (hown : w.ownsRow base 40 9 v n P)
 (S : Nat → Prop) (A : Option Addr) (m c : Nat) (ys : List Pl) (hx : a.eval x = .slice A m c) (hr : RowE w S A m ys) (hnil : A = none → c = 0) (h63 : n + m ≤ 1000000) (hbase : base ≤ w.heap.size)
 (h : ∀ v' w', w'.ownsRow base 40 9 v' (n + m) (P ++ flatG ys) → w.grownBy w' v.ownBlock → (v'.ownBlock = v.ownBlock ∨ v'.ownBlock = some w.heap.size) → wpList Tryz.prog ops Q rest (a.put o.dst v') w') :
 wpList Tryz.prog ops Q (o :: rest) a w := by
 obtain ⟨v', w', hrun, h2, h3, h4⟩ := run_append_rowZ w o.type base v n P hown S A m c ys hr hnil h63 hbase
 refine wpList_plain hgd fun K hK => ?_
 unfold Oper.wp execOp
 simp only [ho, resolve, invoke, builtin, Sem.run_bind, Sem.run_pure, Result.andThen_ok, List.map_toArray, List.map_cons, List.map_nil, hs, hx, hrun]
 exact hK _ _ (h v' w' h2 h3 h4)
end
end Go.Proofs.YtjmjhldjablfeaaGreat.PlM

namespace Go.Proofs.YtjmjhldjablfeaaGreat
section
open Go.RowKit
structure LdAll (w : World) (gl gr n : Nat) (xss : List (List Int)) : Prop where
 v : Blk w gl 178 #[.slice (some ⟨gr, 0, none⟩) n n]
 row : RowK w (fun b => b = gr) (some ⟨gr, 0, none⟩) n xss
 lt : gr < w.heap.size
 len : xss.length = n
 secs : Secs xss
 byt : ∀ i, Bytes (xss.getD i [])
 small : n ≤ 80000
section
variable {w w' : World} {gl gr n : Nat} {xss : List (List Int)}
theorem LdAll.below (h : LdAll w gl gr n xss) (hb : Below w.heap.size w w') : LdAll w' gl gr n xss :=
 ⟨h.v.below hb h.v.lt, h.row.below hb (fun b e => by rw [e]; exact h.lt), nL h.lt hb.size, h.len, h.secs, h.byt, h.small⟩
theorem LdAll.off (h : LdAll w gl gr n xss) : LdM gl (some ⟨gr, 0, none⟩) n n xss (fun b => b < w.heap.size ∧ b ≠ gl ∧ b ≠ gr) () w :=
 ⟨fun b hb => hb.1, h.v, fun hb => hb.2.1 rfl, h.row.more fun b e => by rw [e]; exact ⟨h.lt, fun hb => hb.2.2 rfl⟩⟩
def LdX (w0 : World) (gl gr n : Nat) (xss : List (List Int)) (X : Nat → Prop) (st : Unit) (W : World) : Prop :=
 LdM gl (some ⟨gr, 0, none⟩) n n xss X st W ∧ ¬ X gr ∧ W.heap[gl]? = w0.heap[gl]? ∧ W.heap[gr]? = w0.heap[gr]? ∧ gr < W.heap.size
theorem loadedX (h : LdAll w gl gr n xss) (B : Nat) (X0 : Nat → Prop) : HeldC 121 [.pointer (some ⟨gl, 0, none⟩)] B X0 (ldV xss) (ldE xss) (fun (st : Unit) _ => st) (LdX w gl gr n xss) := by
 have H := loaded_held (gl := gl) (A := some ⟨gr, 0, none⟩) (c := n) h.secs h.byt h.len (by have := h.small; omega) B X0
 refine ⟨fun X st W i hr hi => ?_, fun X S st W W' hr hk hS => ?_, fun X st W hr => H.lt X st W hr.1, fun X st W hr hx => ⟨H.back X st W hr.1 hx, fun e => hr.2.1 (hx _ e), hr.2.2⟩, H.len, H.byt⟩
 ·refine (loaded1_any hr.1 h.secs (by have := h.small; omega) i hi).mono ?_
  rintro e W' ⟨he, hb⟩
  refine ⟨?_, ⟨hr.1.below hb, hr.2.1, (hb.block _ hr.1.v.lt).trans hr.2.2.1, (hb.block _ hr.2.2.2.2).trans hr.2.2.2.1, nL hr.2.2.2.2 hb.size⟩, Kept.of_below hb hr.1.lt⟩
  rw [he]
 ·have hs : ∀ b, b < W.heap.size → ¬ X b → S b := fun b h1 h2 => Classical.byContradiction fun h3 => h2 (hS b h1 h3).1
  have hl := hr.1.v.lt
  refine ⟨H.put X S st W W' hr.1 hk hS, fun e => ?_, (hk.block _ (hs _ hl hr.1.xv)).trans hr.2.2.1, (hk.block _ (hs _ hr.2.2.2.2 hr.2.1)).trans hr.2.2.2.1, nL hr.2.2.2.2 hk.size⟩
  rcases e with e | e
  ·exact hr.2.1 e
  ·have := hr.2.2.2.2; omega
theorem LdAll.x (h : LdAll w gl gr n xss) : LdX w gl gr n xss (fun b => b < w.heap.size ∧ b ≠ gl ∧ b ≠ gr) () w :=
 ⟨h.off, fun e => e.2.2 rfl, rfl, rfl, h.lt⟩
theorem below_x {X : Nat → Prop} (hr : LdX w gl gr n xss X () w') (hk : Kept (fun b => b < w.heap.size ∧ b ≠ gl ∧ b ≠ gr) w w') : Below w.heap.size w w' :=
 ⟨hk.os, hk.tape, hk.output, hk.size, fun b hb => by
  by_cases e : b = gl
  ·rw [e]; exact hr.2.2.1
  ·by_cases e2 : b = gr
   ·rw [e2]; exact hr.2.2.2.1
   ·exact hk.block b ⟨hb, e, e2⟩⟩
theorem begun_all (h : LdAll w gl gr n xss) (seg : Nat) (hseg : seg ≤ 15) :
 Calls Tryz.prog 54 #[.func (.func 121) #[] #[.pointer (some ⟨gl, 0, none⟩)], .int .i64 seg] w fun e w' => e = .returned (.int .u64 (begunG (ldV xss 0) seg)) ∧ Below w.heap.size w w' := by
 refine (begun_loaded _ (loadedX h w.heap.size _) h.x seg hseg).mono ?_
 rintro e w' ⟨he, hr, hk⟩
 exact ⟨he, below_x hr hk⟩
def StandB (xss : List (List Int)) (gen : Int) (at_ : Nat) (w : World) (e : Ending) (w' : World) : Prop :=
 Below w.heap.size w w' ∧
 ((standE (ldV xss) (ldE xss) gen at_ ≠ 0 ∧ e = .returned (.tuple #[.agg zeroC, .int .i64 0, .int .i64 (standE (ldV xss) (ldE xss) gen at_)])) ∨
  (standE (ldV xss) (ldE xss) gen at_ = 0 ∧ ∃ (xs : List Int) (b1 b2 : Nat), xs = meants (secsAt (ldV xss) at_ (beginsN (ldV xss at_) gen at_)) ∧ e = .returned (.tuple #[.agg (recT9 xs b1 b2), .int .i64 (beginsN (ldV xss at_) gen at_ : Nat), .int .i64 0]) ∧
   w.heap.size ≤ b1 ∧ w.heap.size ≤ b2 ∧ b1 ≠ b2 ∧ ArrU w' b1 (keyOf xs) ∧ ArrU w' b2 (valOf xs)))
theorem stand_all9 (h : LdAll w gl gr n xss) (gen : Int) (at_ : Nat) (hat : at_ ≤ 90000) :
 Calls Tryz.prog 55 #[.func (.func 121) #[] #[.pointer (some ⟨gl, 0, none⟩)], .int .u64 gen, .int .i64 at_] w (StandB xss gen at_ w) := by
 refine (standing_loaded _ (loadedX h w.heap.size _) h.x gen at_ hat).mono ?_
 rintro e w' ⟨hr, hk, h1, h2⟩
 refine ⟨below_x hr hk, ?_⟩
 by_cases e0 : standE (ldV xss) (ldE xss) gen at_ = 0
 ·obtain ⟨xs, e1, b1, b2, e2, e3⟩ := h2 e0
  exact .inr ⟨e0, xs, b1, b2, e1, e2, e3⟩
 ·exact .inl ⟨e0, h1 e0⟩
end
noncomputable section
def scanL (xss : List (List Int)) (gen : Int) : Nat → Nat → List (Nat × List Int)
 | 0, _ => []
 | f + 1, at_ => if standE (ldV xss) (ldE xss) gen at_ = 0 then (at_, meants (secsAt (ldV xss) at_ (beginsN (ldV xss at_) gen at_))) :: scanL xss gen f (at_ + beginsN (ldV xss at_) gen at_) else []
def scanU (xss : List (List Int)) (gen : Int) : Nat → Nat → Nat
 | 0, at_ => at_
 | f + 1, at_ => if standE (ldV xss) (ldE xss) gen at_ = 0 then scanU xss gen f (at_ + beginsN (ldV xss at_) gen at_) else at_
end
section
variable {xss : List (List Int)} {gen : Int} {at_ : Nat}
theorem ldE_zero {i : Nat} : ldE xss i = 0 ↔ i < xss.length := by
 unfold ldE
 split
 ·exact ⟨fun _ => by assumption, fun _ => rfl⟩
 ·exact ⟨(fun h => by cases h), fun h => absurd h (by assumption)⟩
theorem stand_in (h : standE (ldV xss) (ldE xss) gen at_ = 0) : 1 ≤ beginsN (ldV xss at_) gen at_ ∧ at_ + beginsN (ldV xss at_) gen at_ ≤ xss.length := by
 by_cases h1 : ldE xss at_ = 0
 ·by_cases h2 : beginsN (ldV xss at_) gen at_ = 0
  ·have := (stand_none (V := ldV xss) h1 h2).1; omega
  ·refine ⟨by omega, ?_⟩
   by_cases h3 : at_ + beginsN (ldV xss at_) gen at_ ≤ xss.length
   ·exact h3
   ·have h4 := ldE_zero.1 h1
    have h5 := (stand_bad (V := ldV xss) (E := ldE xss) (gen := gen) (at_ := at_) (k := xss.length - at_) h1 (by omega) (by omega) (fun q h5 h6 => ldE_zero.2 (by omega)) (fun h7 => by have := ldE_zero.1 h7; omega)).1
    rw [h] at h5
    have h6 := ldE_zero.1 h5.symm
    omega
 ·have := (stand_err (V := ldV xss) (gen := gen) h1).1
  omega
theorem scanU_end {f : Nat} (h : standE (ldV xss) (ldE xss) gen at_ ≠ 0) : scanU xss gen f at_ = at_ := by
 cases f with
 | zero => rfl
 | succ f => unfold scanU; rw [if_neg h]
theorem scanL_end {f : Nat} (h : standE (ldV xss) (ldE xss) gen at_ ≠ 0) : scanL xss gen f at_ = [] := by
 cases f with
 | zero => rfl
 | succ f => unfold scanL; rw [if_neg h]
end
end
section
open Go.RowKit
section
variable {xss : List (List Int)} {gen : Int} {at_ k : Nat}
theorem stand_not (h : beginsN (ldV xss at_) gen at_ = 0) : standE (ldV xss) (ldE xss) gen at_ ≠ 0 := fun h2 => by
 have := (stand_in h2).1
 omega
end
end
section
open Go.RowKit
theorem eql_nil_seg (A : Option Addr) (n c : Nat) (w : World) : (binOp .eql 93 (.slice A n c) (.slice none 0 0)).run Tryz.prog w = .ok (.bool A.isNone) w := by
 have h := run_equal_slice_nil (P := Tryz.prog) w 93 126 A n c Tryz.underlying93
 simp [go_sem, binOp, h]
theorem clone_nil (c : Nat) (hc : c = 0) (w : World) : Calls Tryz.prog 165 #[.slice none 0 c] w fun e w' => e = .returned (.slice none 0 0) ∧ w' = w := by
 subst hc
 have heq := eql_nil_seg none 0 0
 go_enter Tryz.func165, Tryz.ntmps165
 go_wp2
 go_ret
 exact ⟨rfl, rfl⟩
theorem clone_some {w : World} {a : Addr} {n c : Nat} {xs : List Seg} (h : RowZ w (· < w.heap.size) (some a) n xs) (hn : n ≤ 1000) :
 Calls Tryz.prog 165 #[.slice (some a) n c] w fun e w' => (∃ A' c', e = .returned (.slice A' n c') ∧ OwnZ w' w.heap.size A' n c' xs) ∧ Below w.heap.size w w' := by
 have heq := eql_nil_seg (some a) n c
 have HO := hI (own_empty3 w)
 have HB := hI ((Below.refl w.heap.size w).alloc (nR _) (.cells #[] 126))
 have HX := hI (row_now h HB.out)
 have HL := hI h.1
 have h1000 : (0 : Nat) + n ≤ 1000000 := by omega
 clear h
 go_enter Tryz.func165, Tryz.ntmps165
 go_wp2_with (at_builtin; refine wpList_append_rowZ (.tmp 5) (.tmp 6) rfl rfl w.heap.size _ 0 [] rfl HO.out _ (some a) n c xs rfl HX.out (fun e => by cases e) h1000 (by simp) ?_; rintro v' w4 ho hg _; have HB4 := hI (HB.out.grown hg HB.out.size (fun k e => nT (by omega) (own_least HO.out e))); obtain ⟨A', cap', rfl, hc, hn', hrow⟩ := rowZ_own ho (xs := xs) (by simp) (by rw [HL.out, Nat.zero_add]); rw [Nat.zero_add] at hc hrow; simp only [Nat.zero_add]; have HROW := hI ho; have HC := hI hc; have HN := hI hn'; clear ho hg hc hn' hrow)
 go_ret
 have hown := HROW.out
 rw [Nat.zero_add, List.nil_append] at hown
 exact ⟨⟨A', cap', rfl, HL.out, hown, HN.out, HC.out⟩, HB4.out⟩
theorem clone_segs {w : World} {A : Option Addr} {n c : Nat} {xs : List Seg} (h : RowZ w (· < w.heap.size) A n xs) (hnil : A = none → c = 0) (hnc : n ≤ c) (hn : n ≤ 1000) :
 Calls Tryz.prog 165 #[.slice A n c] w fun e w' => (∃ A' c', e = .returned (.slice A' n c') ∧ OwnZ w' w.heap.size A' n c' xs) ∧ Below w.heap.size w w' := by
 cases A with
 | none =>
  have hc := hnil rfl
  subst hc
  obtain rfl : n = 0 := by omega
  have hx : xs = [] := List.length_eq_zero_iff.1 h.1
  subst hx
  refine (clone_nil 0 rfl w).mono ?_
  rintro e w' ⟨rfl, rfl⟩
  exact ⟨⟨none, 0, rfl, rfl, ⟨rfl, .inl ⟨rfl, rfl⟩⟩, fun _ => rfl, nR _⟩, Below.refl _ _⟩
 | some a =>
  exact clone_some h hn
theorem copied_ring {w : World} {A : Option Addr} {n c : Nat} {xs : List Seg} (h : RowZ w (· < w.heap.size) A n xs) (hnil : A = none → c = 0) (hnc : n ≤ c) (hn : n ≤ 1000) (sec : Int) :
 Calls Tryz.prog 112 #[ringV sec A n c] w fun e w' => (∃ A' c', e = .returned (ringV sec A' n c') ∧ OwnZ w' w.heap.size A' n c' xs) ∧ Below w.heap.size w w' := by
 have HB := hI (((Below.refl w.heap.size w).alloc (nR _) (.cells #[.int .i64 sec, .slice A n c] 95)).alloc (by simp) (.cells #[.int .i64 0, .slice none 0 0] 95))
 have HK0 := hI ((Blk.new w 95 #[.int .i64 sec, .slice A n c]).alloc (.cells #[.int .i64 0, .slice none 0 0] 95))
 have HK1 := hI (blk_new2 w (.cells #[.int .i64 sec, .slice A n c] 95) 95 #[.int .i64 0, .slice none 0 0])
 have HC := hI (clone_segs (row_now h HB.out) hnil hnc hn)
 obtain ⟨k0, k1⟩ := ring_cells HK0.out
 clear h
 go_enter Tryz.func112, Tryz.ntmps112
 go_wp2_with fail
 refine HC.out.mono ?_
 rintro e w3 ⟨⟨A', c', rfl, ho⟩, hb⟩
 have hs2 : w.heap.size + 1 + 1 ≤ w3.heap.size := by have := hb.size; simpa using this
 have HK3 := hI (HK0.out.below hb HK0.out.lt)
 have HK4 := hI (HK1.out.below hb HK1.out.lt)
 have HB3 := hI (HB.out.trans (hb.mono HB.out.size))
 have HO := hI (ho.base (m := w.heap.size + 1 + 1) (by simp))
 have f0 := HK3.out.frozen 1
 have hne : w.heap.size ≠ w.heap.size + 1 := by omega
 have HK5 := hI (HK3.out.set_ 1 (.slice A' n c'))
 have HK6 := hI (HK4.out.far (p := ⟨w.heap.size, 1, none⟩) hne.symm (.slice A' n c'))
 obtain ⟨g0, g1⟩ := And.intro (HK6.out.frozen 0) (HK6.out.frozen 1)
 obtain ⟨q0, q1⟩ : _ ∧ _ := ring_cells HK5.out
 obtain ⟨p0, p1⟩ := ring_cells HK6.out
 clear ho hb k0 k1
 obtain ⟨k0, k1⟩ := ring_cells HK3.out
 go_wp2_with (with_reducible refine halt_end ?_)
 have hst := (HK6.out.set_ 0 (.int .i64 sec)).set_ 1 (.slice A' n c')
 have hown := ((HO.out.far (p := ⟨w.heap.size, 1, none⟩) (by show w.heap.size < _; omega) (.slice A' n c')).far (p := ⟨w.heap.size + 1, 0, none⟩) (by show w.heap.size + 1 < _; omega) (.int .i64 sec)).far (p := ⟨w.heap.size + 1, 1, none⟩) (by show w.heap.size + 1 < _; omega) (.slice A' n c')
 have hbel := ((HB3.out.setCell (p := ⟨w.heap.size, 1, none⟩) (nR _) (.slice A' n c')).setCell (p := ⟨w.heap.size + 1, 0, none⟩) (by simp) (.int .i64 sec)).setCell (p := ⟨w.heap.size + 1, 1, none⟩) (by simp) (.slice A' n c')
 exact Halt.ret (results_row1 (p := 2) rfl _ _ (w.heap.size + 1) 95 #[.int .i64 sec, .slice A' n c'] _ rfl hst Tryz.underlying95 rfl size_ring) rfl ⟨⟨A', c', rfl, hown.base (by omega)⟩, hbel⟩
end
section
open Go.RowKit
section
variable {w : World} {X : Nat → Prop} {p d n : Nat} {s : Sup} {t : Int} {k : Dk} {A : Option Addr} {m c : Nat} {xs : List Seg}
theorem open_log_ok (hs : StoS w X p d n s t k) (hX : ∀ b, X b → b < w.heap.size) (h : RowZ w (· < w.heap.size) A m xs) (hnil : A = none → c = 0) (hmc : m ≤ c) (sec : Int) (hk : OkR sec xs) (ha : (m : Int) = s.a) (hb : sec = s.b) (ho : opnR xs < 0) :
 Calls Tryz.prog 44 #[.pointer (some ⟨p, 0, none⟩), ringV sec A m c] w fun e w' => ∃ l A' c', e = .returned (.tuple #[.pointer (some ⟨l, 0, none⟩), .int .i64 0]) ∧ LogM w' X l p d n s t k sec A' m c' xs false ∧ m ≤ c' ∧ (A' = none → c' = 0) ∧ w.heap.size ≤ l ∧ Below w.heap.size w w' := by
 have HS := hI hs
 have HXX := hI hX
 have HR := hI h
 have HB := hI ((Below.refl w.heap.size w).alloc (nR _) (.cells #[.int .i64 sec, .slice A m c] 95))
 have HK0 := hI (Blk.new w 95 #[.int .i64 sec, .slice A m c])
 have HC := hI (check_any (cap := c) (row_now h HB.out) sec)
 rw [if_pos hk] at HC
 obtain ⟨ov, hov⟩ : ∃ x, openedV sec xs = x := ⟨_, rfl⟩
 have e1 := (opened_no hk ho).1
 obtain ⟨k0, k1⟩ := ring_cells HK0.out
 have HOV := hI hov
 have HOE := hI e1
 have HMN := hI (And.intro hnil (And.intro hmc (show m ≤ 1000 by have := (ok_n hk h.1).2; omega)))
 have d1 : ((m : Int) != s.a) = false := by simpa using ha
 have d2 : (sec != s.b) = false := by simpa using hb
 clear h hs hk hov e1 ha hb ho hX hnil hmc
 go_enter Tryz.func44, Tryz.ntmps44
 go_wp2_with fail
 refine HC.out.mono ?_
 rintro e w2 ⟨rfl, hb⟩
 have HB2 := hI (HB.out.trans (hb.mono HB.out.size))
 have HK2 := hI (HK0.out.below hb HK0.out.lt)
 clear hb k0 k1
 go_wp2_with fail
 refine (get_any (HS.out.below HB2.out)).mono ?_
 rintro e w3 ⟨rfl, hb⟩
 have HB3 := hI ((HB2.out.trans (hb.mono HB2.out.size)).alloc (HB2.out.trans (hb.mono HB2.out.size)).size (.cells #[.int .i64 s.a, .int .i64 s.b, .int .u64 s.g, .int .u64 s.r, .int .u64 s.v, .int .u64 s.f] 115))
 have HK3 := hI ((HK2.out.below hb HK2.out.lt).alloc (.cells #[.int .i64 s.a, .int .i64 s.b, .int .u64 s.g, .int .u64 s.r, .int .u64 s.v, .int .u64 s.f] 115))
 obtain ⟨k0, k1⟩ := ring_cells HK3.out
 clear hb
 go_wp2_with fail
 refine (opened_any (row_now HR.out HB3.out) sec).mono ?_
 rintro e w4 ⟨rfl, hb⟩
 rw [HOV.out, HOE.out]
 have HB4 := hI (HB3.out.trans (hb.mono HB3.out.size))
 have HK4 := hI (HK3.out.below hb HK3.out.lt)
 clear hb k0 k1
 obtain ⟨k0, k1⟩ := ring_cells HK4.out
 go_wp2_with fail
 refine (copied_ring (row_now HR.out HB4.out) HMN.out.1 HMN.out.2.1 HMN.out.2.2 sec).mono ?_
 rintro e w5 ⟨⟨A', c', rfl, hown⟩, hb⟩
 have HB5 := hI (HB4.out.trans (hb.mono HB4.out.size))
 have HO5 := hI (hown.base (m := w.heap.size) HB4.out.size)
 clear hb hown k0 k1
 go_wp2_with fail
 go_ret2
 have hal := (Below.refl w5.heap.size w5).alloc (nR _) (.cells (logC p sec A' m c' false) 103)
 have hba := HB5.out.alloc HB5.out.size (.cells (logC p sec A' m c' false) 103)
 have hl := HB5.out.size
 refine ⟨w5.heap.size, A', c', rfl, ⟨Blk.new w5 _ _, fun hx => by have := HXX.out _ hx; omega, From w.heap.size w5, ?_, HO5.out.row.below hal (fun b h => h.2), fun b hb => ⟨nL hb.2 hal.size, by have := hb.2; omega, fun hx => by have := HXX.out _ hx; have := hb.1; omega⟩⟩, HO5.out.2.2.2, HO5.out.2.2.1, hl, hba⟩
 exact StoreM.kept HS.out (Kept.of_below hba (fun b h => h)) (fun b hb _ => hb) (fun b hb hy => by
  rcases hy with h | h | h
  ·exact h
  ·omega
  ·have := h.1; omega)
end
end
section
open Go.RowKit
section
variable {w w' : World} {X Y : Nat → Prop} {l p d n m c : Nat} {s : Sup} {t : Int} {k : Dk} {sec : Int} {A : Option Addr} {xs : List Seg} {br : Bool}
theorem LogM.put (h : LogM w X l p d n s t k sec A m c xs br) (hX : ∀ b, X b → b < w.heap.size) (hb : Below w.heap.size w w') {A2 : Option Addr} {c2 : Nat} {ys : List Seg} (ho : OwnZ w' w.heap.size A2 m c2 ys) :
 LogM ((w'.setCell ⟨l, 1, none⟩ (.int .i64 sec)).setCell ⟨l, 2, none⟩ (.slice A2 m c2)) X l p d n s t k sec A2 m c2 ys br ∧ Kept X w ((w'.setCell ⟨l, 1, none⟩ (.int .i64 sec)).setCell ⟨l, 2, none⟩ (.slice A2 m c2)) := by
 obtain ⟨h1, h2, R, h3, h4, h5⟩ := h
 have hlt := h1.lt
 have hk : Kept (fun b => b < w.heap.size ∧ b ≠ l) w ((w'.setCell ⟨l, 1, none⟩ (.int .i64 sec)).setCell ⟨l, 2, none⟩ (.slice A2 m c2)) :=
  ((Kept.of_below hb (fun b h => h.1)).setCell (p := ⟨l, 1, none⟩) (fun h => h.2 rfl) _).setCell (p := ⟨l, 2, none⟩) (fun h => h.2 rfl) _
 have ho2 := (ho.far (p := ⟨l, 1, none⟩) hlt (.int .i64 sec)).far (p := ⟨l, 2, none⟩) hlt (.slice A2 m c2)
 refine ⟨⟨((h1.below hb hlt).set_ 1 (.int .i64 sec)).set_ 2 (.slice A2 m c2), h2, From w.heap.size ((w'.setCell ⟨l, 1, none⟩ (.int .i64 sec)).setCell ⟨l, 2, none⟩ (.slice A2 m c2)), ?_, ho2.row, fun b hb => ⟨hb.2, by have := hb.1; omega, fun hx => by have := hX b hx; have := hb.1; omega⟩⟩, hk.mono (fun b hx => ⟨hX b hx, fun e => h2 (e ▸ hx)⟩)⟩
 refine StoreM.kept h3 hk (fun b hb hx => ⟨hb, fun e => hx (.inr (.inl e))⟩) (fun b hb hy => ?_)
 rcases hy with h | h | h
 ·exact .inl h
 ·exact .inr (.inl h)
 ·have := h.1; omega
theorem StoreM.grow {a b g r v f : Int} (h : StoreM w Y p d n a b g r v f t k) (hb : Below w.heap.size w w') : StoreM w' (fun b => Y b ∨ (w.heap.size ≤ b ∧ b < w'.heap.size)) p d n a b g r v f t k :=
 StoreM.kept (Z := fun b => b < w.heap.size) h (Kept.of_below hb (fun b h => h)) (fun b hb _ => hb) (fun b hb hy => by
  rcases hy with h | h
  ·exact h
  ·omega)
theorem grow_lt (hY : ∀ b, Y b → b < w.heap.size) (hs : w.heap.size ≤ w'.heap.size) : ∀ b, (Y b ∨ (w.heap.size ≤ b ∧ b < w'.heap.size)) → b < w'.heap.size := fun b h => by
 rcases h with h | h
 ·exact nL (hY b h) hs
 ·exact h.2
noncomputable def sealedX (sec : Int) (xs : List Seg) : List Seg := if sealE sec xs = 0 then sealX xs else xs
def BegC (w : World) (X : Nat → Prop) (l p d n : Nat) (s : Sup) (t : Int) (k : Dk) (sec : Int) (m : Nat) (zs : List Seg) (wx : World) : Prop :=
 ∃ A c, LogM wx X l p d n s t k sec A m c zs false ∧ Kept X w wx ∧ m ≤ c ∧ (A = none → c = 0)
theorem seal_len (xs : List Seg) : (sealX xs).length = xs.length := by unfold sealX; rw [List.length_set]
end
end
end Go.Proofs.YtjmjhldjablfeaaGreat
