/- Texts of LogOpens, packed. -/
import Derived.Test.YtodcohkblgjfeaaGreatPackLogOpens13
import Derived.Lib.SlBytesConst
import Derived.Lib.Hide
set_option linter.unusedVariables false
set_option linter.unusedSimpArgs false
namespace Go.Proofs.YtodcohkblgjfeaaGreat
open Go.RowKit
attribute [local go_sem] Oper.semAt_some
set_option maxRecDepth 100000
set_option linter.unusedVariables false
set_option linter.unusedSimpArgs false
section
variable {σ : Type} {f : Nat} {cs : List Value} {X0 X Y S : Nat → Prop} {V : Nat → List Int} {E : Nat → Int} {nx : σ → Nat → σ} {R : (Nat → Prop) → σ → World → Prop} {w W W' : World} {st : σ}
structure StW (R : (Nat → Prop) → σ → World → Prop) (w : World) (X0 : Nat → Prop) (st : σ) (X : Nat → Prop) (W : World) : Prop where
  r : R X st W
  x0 : ∀ b, X0 b → X b
  lt0 : ∀ b, X0 b → b < w.heap.size
  k : Kept X0 w W
  res : Blk W w.heap.size 44 zeroC
  xr : X w.heap.size
abbrev newX (X : Nat → Prop) (W W' : World) : Nat → Prop := fun b => X b ∨ (W.heap.size ≤ b ∧ b < W'.heap.size)
theorem StW.start (H : HeldC f cs w.heap.size X0 V E nx R) (h : R X0 st w) : StW R w X0 st (newX X0 w (w.alloc (.cells zeroC 44))) (w.alloc (.cells zeroC 44)) := by
  have hk : Kept (fun b => b < w.heap.size) w (w.alloc (.cells zeroC 44)) := (Kept.refl _ w).alloc (fun b h => h) _
  exact ⟨H.put X0 _ st w _ h hk (fun b hb hn => absurd hb hn), fun b hb => .inl hb, H.lt _ _ _ h, hk.mono (H.lt _ _ _ h), Blk.new w _ _, .inr ⟨Nat.le_refl _, by simp⟩⟩
theorem StW.mem (H : HeldC f cs w.heap.size X0 V E nx R) (h : StW R w X0 st X W) (hb : Below W.heap.size W W') : StW R w X0 st (newX X W W') W' := by
  have hk : Kept (fun b => b < W.heap.size) W W' := Kept.of_below hb (fun b h => h)
  exact ⟨H.put X _ st W _ h.r hk (fun b hb hn => absurd hb hn), fun b hb => .inl (h.x0 b hb), h.lt0, h.k.trans hk (fun b hb => Nat.lt_of_lt_of_le (h.lt0 b hb) h.k.size), h.res.below hb h.res.lt, .inl h.xr⟩
theorem StW.held (h : StW R w X0 st X W) {st' : σ} (hr : R X st' W') (hk : Kept X W W') : StW R w X0 st' X W' :=
  ⟨hr, h.x0, h.lt0, h.k.trans hk h.x0, h.res.kept hk h.xr, h.xr⟩
theorem StW.grown (H : HeldC f cs w.heap.size X0 V E nx R) (h : StW R w X0 st X W) {row : Option Nat} (hg : W.grownBy W' row) (hr : ∀ g, row = some g → X g ∧ w.heap.size < g) : StW R w X0 st (newX X W W') W' := by
  have hk : Kept (fun b => b < W.heap.size ∧ row ≠ some b) W W' := ⟨hg.os, hg.tape, hg.output, hg.size, fun k hk => hg.block k hk.1 (fun e => hk.2 e.symm)⟩
  refine ⟨H.put X _ st W _ h.r hk (fun b hb hn => ?_), fun b hb => .inl (h.x0 b hb), h.lt0, h.k.trans hk (fun b hb => ⟨Nat.lt_of_lt_of_le (h.lt0 b hb) h.k.size, fun e => ?_⟩), h.res.kept hk ⟨h.res.lt, fun e => ?_⟩, .inl h.xr⟩
  · by_cases e : row = some b
    · exact ⟨(hr b e).1, Nat.le_of_lt (hr b e).2⟩
    · exact absurd ⟨hb, e⟩ hn
  · have h1 := (hr b e).2; have h2 := h.lt0 b hb; omega
  · have h1 := (hr _ e).2; omega
theorem StW.fin (H : HeldC f cs w.heap.size X0 V E nx R) (h : StW R w X0 st X W) (c6 : Array Value) : R X0 st (W.setRow w.heap.size c6) ∧ Kept X0 w (W.setRow w.heap.size c6) ∧ Blk (W.setRow w.heap.size c6) w.heap.size 44 c6 ∧ Kept (fun b => b ≠ w.heap.size) W (W.setRow w.heap.size c6) := by
  have hk : Kept (fun b => b ≠ w.heap.size) W (W.setRow w.heap.size c6) := (Kept.refl _ W).setRow (g := w.heap.size) (fun h => h rfl) c6
  refine ⟨H.back _ _ _ (H.put X _ st W _ h.r hk (fun b hb hn => ?_)) (fun b hb => .inl (h.x0 b hb)), h.k.trans hk (fun b hb => Nat.ne_of_lt (h.lt0 b hb)), setRow_heap _ _ _ c6 _ _ h.res, hk⟩
  have e : b = w.heap.size := by by_cases e : b = w.heap.size; exact e; exact absurd e hn
  subst e
  exact ⟨h.xr, Nat.le_refl _⟩
theorem own_at9 {base size n : Nat} {e : TypeId} {v : Value} {xs : List Value} (ho : W.ownsRow base e size v n xs) (hk : Kept X W W') (hX : ∀ g, v.ownBlock = some g → X g) : W'.ownsRow base e size v n xs := by
  rcases ho.2 with h0 | ⟨g', cap, cur, rfl, hbs, hh, rest⟩
  · exact ⟨ho.1, .inl h0⟩
  · exact ⟨ho.1, .inr ⟨g', cap, cur, rfl, hbs, (hk.block g' (hX g' (by simp [Value.ownBlock]))).trans hh, rest⟩⟩
end
theorem own_one9 (w : World) (base : Nat) {ys : List Int} (hl : ys.length = 64) (hb : base ≤ w.heap.size) : (w.alloc (.cells (cells8 ys) 84)).ownsRow base 84 64 (.slice (some ⟨w.heap.size, 0, none⟩) 1 1) 1 (ys.map (Value.int .u8)) :=
  ⟨by simp [hl], .inr ⟨w.heap.size, 1, _, rfl, hb, heap_alloc_last w _, Nat.le_refl _, by decide, by simp [cells8_size, hl], by rw [List.take_of_length_le (by simp [cells8_size, hl])]; rfl⟩⟩
def lenV9 : Value → Nat
  | .slice _ n _ => n
  | _ => 0
theorem own_len9 {w : World} {base size n : Nat} {e : TypeId} {v : Value} {xs : List Value} (ho : w.ownsRow base e size v n xs) : lenV9 v = n := by
  rcases ho.2 with ⟨rfl, rfl⟩ | ⟨g', cap, cur, rfl, _⟩ <;> rfl
theorem meantOf_bytes9 {ys : List Int} (hb : Bytes ys) : Bytes (meantOf ys) := by
  unfold meantOf
  split
  · exact bytes_part hb 16 _
  · exact fun j => by simp
theorem meants_bytes : ∀ {xss : List (List Int)}, (∀ i, Bytes (xss.getD i [])) → Bytes (meants xss)
  | [], _ => fun j => by simp [meants]
  | xs :: xss, h => by
    have h1 := meantOf_bytes9 (h 0)
    have h2 := meants_bytes (xss := xss) fun i => h (i + 1)
    have e : meants (xs :: xss) = meantOf xs ++ meants xss := by simp [meants]
    rw [e]
    exact bytes_append h1 h2
theorem meants_le : ∀ (xss : List (List Int)), (meants xss).length ≤ 48 * xss.length
  | [] => by simp [meants]
  | xs :: xss => by
    have h1 := meant_le xs
    have h2 := meants_le xss
    have e : meants (xs :: xss) = meantOf xs ++ meants xss := by simp [meants]
    rw [e, List.length_append, List.length_cons]
    omega
abbrev recT9 (xs : List Int) (b1 b2 : Nat) : Array Value := #[.int .i64 (kindOf xs), .int .u32 (flagsOf xs), .int .u32 (expOf xs), .int .u64 (seqOf xs), .slice (some ⟨b1, 0, none⟩) (klenOf xs) (klenOf xs), .slice (some ⟨b2, 0, none⟩) (vlenOf xs) (vlenOf xs)]
theorem zero_told9 {V : Nat → List Int} {E : Nat → Int} {gen : Int} {at_ : Nat} {e : Int} {p : Prop} (h : standE V E gen at_ = e) (hne : e ≠ 0) :
    (standE V E gen at_ = 0 → p) := fun h0 => absurd (h.symm.trans h0) hne
set_option maxHeartbeats 8000000 in
theorem standing_stored {σ : Type} {X0 : Nat → Prop} {V : Nat → List Int} {E : Nat → Int} {nx : σ → Nat → σ} {R : (Nat → Prop) → σ → World → Prop} {w : World} {st : σ} (c0 c1 : Value) (H : HeldC 115 [c0, c1] w.heap.size X0 V E nx R) (h : R X0 st w) (gen : Int) (at_ : Nat) (hat : at_ ≤ 90000) :
    Calls Tryz.prog 66 #[.func (.func 115) #[] #[c0, c1], .int .u64 gen, .int .i64 at_] w (StandT R nx X0 st V E gen at_ w) := by
  have HLEN := Lib.hid H.len
  have HBYT := Lib.hid H.byt
  have HS := Lib.hid (StW.start H h)
  have H := Lib.hid H
  have hc := H.out.call _ _ _ at_ HS.out.r (by omega)
  have HC1 := Lib.hid hc
  clear h hc
  obtain ⟨w1, hw1⟩ : ∃ w1, w1 = w.alloc (.cells zeroC 44) := ⟨_, rfl⟩
  rw [← hw1] at HS HC1
  obtain ⟨X1, hX1⟩ : ∃ X1, newX X0 w w1 = X1 := ⟨_, rfl⟩
  rw [hX1] at HS HC1
  have hsz1 : w.heap.size < w1.heap.size := HS.out.res.lt
  go_enter Tryz.func66, Tryz.ntmps66
  go_upto_region 1 with fail
  rw [← hw1]
  clear hw1 hX1
  go_wp2_with fail
  refine HC1.out.mono ?_
  rintro e v1 ⟨rfl, hr1, hk1⟩
  have HS := Lib.hid (HS.out.held hr1 hk1)
  have hsv : w1.heap.size ≤ v1.heap.size := hk1.size
  obtain ⟨w2, hw2⟩ : ∃ w2, w2 = v1.alloc (.cells (cells8 (V at_)) 84) := ⟨_, rfl⟩
  have hb2 : Below v1.heap.size v1 w2 := by rw [hw2]; exact (Below.refl _ v1).alloc (Nat.le_refl _) _
  have HA2 := Lib.hid (show ArrB w2 v1.heap.size (V at_) by rw [hw2]; exact Blk.new v1 _ _)
  have HS := Lib.hid (HS.out.mem H.out hb2)
  have hsz2 := hb2.size
  have HW2 := Lib.hid hw2
  have hlen0 := HLEN.out at_
  clear hr1 hk1 hb2 hw2 HC1
  obtain ⟨ys, hys⟩ : ∃ ys, V at_ = ys := ⟨_, rfl⟩
  rw [hys] at hlen0 HA2 HW2 ⊢
  by_cases he : E at_ = 0
  case neg =>
    have hne : (E at_ != 0) = true := by simp [he]
    obtain ⟨se, sr⟩ := stand_err (V := V) (gen := gen) he
    have HE := Lib.hid he
    have HF := Lib.hid (HS.out.fin H.out zeroC)
    have HRES := Lib.hid HS.out.res
    have HSE := Lib.hid se
    have HSR := Lib.hid sr
    obtain ⟨e0, he0⟩ : ∃ e0, E at_ = e0 := ⟨_, rfl⟩
    rw [he0] at hne HSE HE ⊢
    clear se sr he he0
    go_wp2_with (first | (with_reducible refine halt_end ?_) | (refine wpList_alloc_blk rfl rfl ?_) | (refine wpList_store_new (.tmp 9) (.tmp 22) rfl rfl v1 ys rfl rfl (noughts 64) rfl (noughts_length 64) hlen0 ?_; rw [← HW2.out]) | (refine wpList_store_rowB (.tmp 6) (.tmp 26) 44 rfl rfl w.heap.size zeroC rfl rfl 44 _ HRES.out size_rec rfl one_zero ?_))
    refine Halt.ret (results_row3 (p := 6) (u := 7) (v := 8) rfl _ _ w.heap.size 44 zeroC _ rfl HF.out.2.2.1 Tryz.underlying44 rfl size_rec) rfl ⟨?_, HF.out.2.1, fun _ => by rw [HSE.out]; rfl, zero_told9 HSE.out HE.out⟩
    rw [HSR.out]
    exact HF.out.1
  have hne : (E at_ != 0) = false := by simp [he]
  have hby0 := HBYT.out at_
  rw [hys] at hby0
  have HBG := Lib.hid (fun (U : World) => begins_any ys gen at_ U hlen0 hby0 (by omega))
  obtain ⟨cnt, hcnt⟩ : ∃ cnt, beginsN ys gen at_ = cnt := ⟨_, rfl⟩
  rw [hcnt] at HBG
  have hcle : cnt ≤ 17 := by rw [← hcnt]; exact begins_le _ _ _
  have HCNT := Lib.hid (show beginsN (V at_) gen at_ = cnt by rw [hys]; exact hcnt)
  have HE0 := Lib.hid he
  rw [he] at hne ⊢
  clear he hcnt hby0
  go_upto_region 5 with (first | (refine wpList_alloc_blk rfl rfl ?_) | (refine wpList_store_new (.tmp 9) (.tmp 22) rfl rfl v1 ys rfl rfl (noughts 64) rfl (noughts_length 64) hlen0 ?_; rw [← HW2.out]) | (refine wpList_load_blk (.tmp 9) rfl rfl v1.heap.size 0 rfl ys hlen0 HA2.out.range ?_) | (go_at_call 112; refine (HBG.out _).mono ?_; rintro e w3 ⟨rfl, hb3⟩))
  have HS := Lib.hid (HS.out.mem H.out hb3)
  have HA3 := Lib.hid (HA2.out.below hb3 HA2.out.lt)
  have hsz3 := hb3.size
  clear hb3
  generalize newX (newX X1 v1 w2) w2 w3 = X3 at *
  by_cases hc0 : cnt = 0
  · subst hc0
    obtain ⟨se, sr⟩ := stand_none (V := V) (gen := gen) HE0.out HCNT.out
    have HF := Lib.hid (HS.out.fin H.out zeroC)
    have HRES := Lib.hid HS.out.res
    have HSE := Lib.hid se
    have HSR := Lib.hid sr
    clear se sr
    go_wp2_with (first | (with_reducible refine halt_end ?_) | (refine wpList_store_rowB (.tmp 6) (.tmp 34) 44 rfl rfl w.heap.size zeroC rfl rfl 44 _ HRES.out size_rec rfl one_zero ?_))
    refine Halt.ret (results_row3 (p := 6) (u := 7) (v := 8) rfl _ _ w.heap.size 44 zeroC _ rfl HF.out.2.2.1 Tryz.underlying44 rfl size_rec) rfl ⟨?_, HF.out.2.1, fun _ => by rw [HSE.out]; rfl, zero_told9 HSE.out (by decide)⟩
    rw [HSR.out]
    exact HF.out.1
  have hcq : ((cnt : Int) == 0) = false := by simp; omega
  obtain ⟨w4, hw4⟩ : ∃ w4, w4 = w3.alloc (.cells (cells8 ys) 84) := ⟨_, rfl⟩
  have hb4 : Below w3.heap.size w3 w4 := by rw [hw4]; exact (Below.refl _ w3).alloc (Nat.le_refl _) _
  have HO4 := Lib.hid (show w4.ownsRow (w.heap.size + 1) 84 64 (.slice (some ⟨w3.heap.size, 0, none⟩) 1 1) 1 ((flat (secsAt V at_ 1)).map (Value.int .u8)) by rw [hw4, secsAt_one, flat_one, hys]; exact own_one9 _ _ hlen0 (by omega))
  have HS4 := Lib.hid (HS.out.mem H.out hb4)
  have hlt4 : w3.heap.size < w4.heap.size := by rw [hw4]; simp
  have HX4 := Lib.hid (show ∀ g, (Value.slice (some ⟨w3.heap.size, 0, none⟩) 1 1).ownBlock = some g → newX X3 w3 w4 g from fun g hg => by injection hg with hg; subst hg; exact .inr ⟨Nat.le_refl _, hlt4⟩)
  have HW4 := Lib.hid hw4
  clear hb4 hw4 hlt4
  go_upto_region 8 with (first | (refine wpList_load_blk (.tmp 9) rfl rfl v1.heap.size 0 rfl ys hlen0 HA3.out.range ?_) | (refine wpList_lit_sec (.tmp 35) rfl rfl ys rfl hlen0 ?_; rw [← HW4.out]))
  clear HA3 HA2 HW2 HW4 hlen0 hys HS
  go_loopw [12] (fun v wr => ∃ (j : Nat) (X : Nat → Prop), 1 ≤ j ∧ j ≤ cnt ∧ StW R w X0 (stR nx st at_ j) X wr ∧ wr.ownsRow (w.heap.size + 1) 84 64 v j ((flat (secsAt V at_ j)).map (Value.int .u8)) ∧ (∀ g, v.ownBlock = some g → X g) ∧ (∀ q, 1 ≤ q → q < j → E (at_ + q) = 0)) (fun v _ => cnt - lenV9 v)
  case atStart => exact ⟨1, _, Nat.le_refl _, by omega, HS4.out, HO4.out, HX4.out, fun q h1 h2 => by omega⟩
  case round =>
    obtain ⟨j, X, hj1, hj, hS, hown, hX, hgood⟩ := hrel
    have HSEC := Lib.hid (secsAt_secs HLEN.out at_ j)
    obtain ⟨A, cap, rfl, hnc, hn0, hrow⟩ := rowK_own hown HSEC.out
    have HS := Lib.hid hS
    have HOWN := Lib.hid hown
    have HX := Lib.hid hX
    have HGOOD := Lib.hid hgood
    have HROW := Lib.hid hrow
    have HCAP := Lib.hid hnc
    have HNIL := Lib.hid hn0
    have hlw : w.heap.size < wr.heap.size := hS.res.lt
    clear hS hown hX hgood hrow hnc hn0 HS4 HO4 HX4
    by_cases hjc : j < cnt
    · have hc := H.out.call _ _ _ (at_ + j) HS.out.r (by omega)
      rw [show ((at_ + j : Nat) : Int) = (at_ : Int) + (j : Int) from by omega] at hc
      have HC := Lib.hid hc
      clear hc
      go_wp2_with fail
      refine HC.out.mono ?_
      rintro e v2 ⟨rfl, hr2, hk2⟩
      have HS := Lib.hid (HS.out.held hr2 hk2)
      have HOWN := Lib.hid (own_at9 HOWN.out hk2 HX.out)
      have hsv2 := hk2.size
      obtain ⟨zs, hzs⟩ : ∃ zs, V (at_ + j) = zs := ⟨_, rfl⟩
      have hlenz : zs.length = 64 := by rw [← hzs]; exact HLEN.out _
      obtain ⟨w5, hw5⟩ : ∃ w5, w5 = v2.alloc (.cells (cells8 zs) 84) := ⟨_, rfl⟩
      have hb5 : Below v2.heap.size v2 w5 := by rw [hw5]; exact (Below.refl _ v2).alloc (Nat.le_refl _) _
      have HA5 := Lib.hid (show ArrB w5 v2.heap.size zs by rw [hw5]; exact Blk.new v2 _ _)
      have HW5 := Lib.hid hw5
      have HZS := Lib.hid hzs
      have HS := Lib.hid (HS.out.mem H.out hb5)
      have HOWN := Lib.hid (own_below HOWN.out hb5)
      have hsz5 := hb5.size
      rw [hzs]
      have HX5 := Lib.hid (show ∀ g, (Value.slice A j cap).ownBlock = some g → newX X v2 w5 g from fun g hg => Or.inl (HX.out g hg))
      clear hr2 hk2 hw5 hzs hb5 HC
      generalize newX X v2 w5 = X5 at *
      by_cases he : E (at_ + j) = 0
      · have hne2 : (E (at_ + j) != 0) = false := by simp [he]
        have HEJ := Lib.hid he
        rw [he] at hne2 ⊢
        obtain ⟨w6, hw6⟩ : ∃ w6, w6 = w5.alloc (.cells (cells8 zs) 84) := ⟨_, rfl⟩
        have hb6 : Below w5.heap.size w5 w6 := by rw [hw6]; exact (Below.refl _ w5).alloc (Nat.le_refl _) _
        have hy6 : ArrB w6 w5.heap.size (flat [zs]) := by rw [hw6, flat_one]; exact Blk.new w5 _ _
        have hsec1 : Secs [zs] := fun x hx => by simp at hx; subst hx; exact hlenz
        have HY6 := Lib.hid (hy6.rowK hsec1 (n := 1) rfl (S := fun _ => True) trivial)
        have HSEC1 := Lib.hid hsec1
        have HW6 := Lib.hid hw6
        have HS6 := Lib.hid (HS.out.mem H.out hb6)
        have HO6 := Lib.hid (own_below HOWN.out hb6)
        have hsz6 := hb6.size
        clear he hb6 hy6 hsec1 hw6
        go_wp2_with (first
          | (refine wpList_alloc_blk rfl rfl ?_)
          | (refine wpList_store_new (.tmp 13) (.tmp 48) rfl rfl v2 zs rfl rfl (noughts 64) rfl (noughts_length 64) hlenz ?_; rw [← HW5.out])
          | (refine wpList_load_blk (.tmp 13) rfl rfl v2.heap.size 0 rfl zs hlenz HA5.out.range ?_)
          | (refine wpList_lit_sec (.tmp 55) rfl rfl zs rfl hlenz ?_; rw [← HW6.out])
          | (refine wpList_append_rowK (.tmp 54) (.tmp 56) rfl rfl (w.heap.size + 1) (.slice A j cap) j _ rfl HO6.out (fun _ => True) (some ⟨w5.heap.size, 0, none⟩) 1 1 [zs] rfl HY6.out HSEC1.out (fun h => by cases h) (by unfold maxLen; omega) (by omega) (by omega) ?_; intro v' w7 hown' hgrow' hblk'; rw [flat_one] at hown'; have HO7 := Lib.hid hown'; have HG7 := Lib.hid hgrow'; have HB7 := Lib.hid hblk'; clear hown' hgrow' hblk'))
        go_roundw
        case rel =>
          have HS7 := Lib.hid (HS6.out.grown H.out HG7.out (fun g hg => ⟨Or.inl (HX5.out g hg), (HO6.out.lt g hg).1⟩))
          have hlw7 : ∀ g, v'.ownBlock = some g → newX (newX X5 w5 w6) w6 w7 g := fun g hg => by
            rcases HB7.out with h1 | h1
            · rw [h1] at hg
              exact Or.inl (Or.inl (HX5.out g hg))
            · have h2 := (HO7.out.lt _ h1).2
              rw [h1] at hg
              injection hg with hg
              subst hg
              exact Or.inr ⟨Nat.le_refl _, h2⟩
          have hown7 : w7.ownsRow (w.heap.size + 1) 84 64 v' (j + 1) ((flat (secsAt V at_ (j + 1))).map (Value.int .u8)) := by
            rw [secsAt_succ, flat_append, List.map_append, HZS.out, flat_one]
            exact HO7.out
          have hg7 : ∀ q, 1 ≤ q → q < j + 1 → E (at_ + q) = 0 := fun q h1 h2 => by
            by_cases e : q = j
            · subst e; exact HEJ.out
            · exact HGOOD.out q h1 (by omega)
          exact ⟨j + 1, _, by omega, by omega, HS7.out, hown7, hlw7, hg7⟩
        case measure => have hlv := own_len9 HO7.out; show cnt - lenV9 v' < cnt - j; omega
      · have hne2 : (E (at_ + j) != 0) = true := by simp [he]
        obtain ⟨se, sr⟩ := stand_bad (V := V) (gen := gen) HE0.out hj1 (by rw [HCNT.out]; exact hjc) HGOOD.out he
        have HF := Lib.hid (HS.out.fin H.out zeroC)
        have HRES := Lib.hid HS.out.res
        have HE := Lib.hid he
        obtain ⟨e0, he0⟩ : ∃ e0, E (at_ + j) = e0 := ⟨_, rfl⟩
        rw [he0] at hne2 HE se ⊢
        have HSE := Lib.hid se
        have HSR := Lib.hid sr
        clear se sr he he0
        go_wp2_with (first
          | (with_reducible refine halt_end ?_)
          | (refine wpList_alloc_blk rfl rfl ?_)
          | (refine wpList_store_new (.tmp 13) (.tmp 48) rfl rfl v2 zs rfl rfl (noughts 64) rfl (noughts_length 64) hlenz ?_; rw [← HW5.out])
          | (refine wpList_store_rowB (.tmp 6) (.tmp 52) 44 rfl rfl w.heap.size zeroC rfl rfl 44 _ HRES.out size_rec rfl one_zero ?_))
        refine Halt.ret (results_row3 (p := 6) (u := 7) (v := 8) rfl _ _ w.heap.size 44 zeroC _ rfl HF.out.2.2.1 Tryz.underlying44 rfl size_rec) rfl ⟨?_, HF.out.2.1, fun _ => by rw [HSE.out]; rfl, zero_told9 HSE.out HE.out⟩
        rw [HSR.out]
        exact HF.out.1
    · obtain rfl : cnt = j := by omega
      have hall := stand_all (V := V) (gen := gen) (E := E) (at_ := at_) HE0.out (by rw [HCNT.out]; omega) (by rw [HCNT.out]; exact HGOOD.out)
      rw [HCNT.out] at hall
      have HALL := Lib.hid hall
      have HBM := Lib.hid (meants_bytes (secsAt_bytes HBYT.out at_ cnt))
      have hlxs := secsAt_length V at_ cnt
      have HJN := Lib.hid (join_any9 A cnt cap (secsAt V at_ cnt) _ wr HROW.out (fun b h => h.2.1) HSEC.out (secsAt_bytes HBYT.out at_ cnt) (by omega))
      obtain ⟨xss, hxss⟩ : ∃ xss, secsAt V at_ cnt = xss := ⟨_, rfl⟩
      rw [hxss] at HALL HBM hlxs HJN
      have HXS := Lib.hid hxss
      clear hall hxss HOWN HROW HSEC HGOOD HX
      go_wp2_with fail
      refine HJN.out.mono ?_
      rintro e w8 hjn
      by_cases hch : Chain xss
      case neg =>
        obtain ⟨rfl, hb8⟩ := hjn.2 (fun h => hch h.2)
        have HSE := Lib.hid (HALL.out.2.1 (fun h => hch h.1))
        have HS := Lib.hid (HS.out.mem H.out hb8)
        have HF := Lib.hid (HS.out.fin H.out zeroC)
        have HRES := Lib.hid HS.out.res
        clear hjn hch hb8
        go_wp2_with (first | (with_reducible refine halt_end ?_) | (refine wpList_store_rowB (.tmp 6) (.tmp 65) 44 rfl rfl w.heap.size zeroC rfl rfl 44 _ HRES.out size_rec rfl one_zero ?_))
        refine Halt.ret (results_row3 (p := 6) (u := 7) (v := 8) rfl _ _ w.heap.size 44 zeroC _ rfl HF.out.2.2.1 Tryz.underlying44 rfl size_rec) rfl ⟨?_, HF.out.2.1, fun _ => by rw [HSE.out]; rfl, zero_told9 HSE.out (by decide)⟩
        rw [HALL.out.2.2]
        exact HF.out.1
      obtain ⟨A8, c8, rfl, hr8, hb8, hc8⟩ := hjn.1 ⟨by omega, hch⟩
      have HS := Lib.hid (HS.out.mem H.out hb8)
      obtain ⟨ms, hms⟩ : ∃ ms, meants xss = ms := ⟨_, rfl⟩
      rw [hms] at hr8 hc8 HBM ⊢
      have HMS := Lib.hid hms
      have HCH := Lib.hid hch
      have HR8 := Lib.hid hr8
      have HC8 := Lib.hid hc8
      have hs8 := hb8.size
      have hml : ms.length ≤ 100000 := by rw [← hms]; have := meants_le xss; omega
      clear hms hch hr8 hb8 hjn hc8
      by_cases hdk : DecOk ms ms.length
      case neg =>
        have HDN := Lib.hid (dec_no A8 ms.length c8 ms _ w8 HR8.out (fun b h => h.2) HBM.out HC8.out hdk)
        have HSE := Lib.hid (HALL.out.2.1 (fun h => hdk (by have := h.2.1; rw [HMS.out] at this; exact this)))
        obtain ⟨eo, heo⟩ : ∃ eo, errOf ms ms.length = eo := ⟨_, rfl⟩
        have heo2 : (eo != 0) = true := by rcases errOf_cases ms ms.length with h | h <;> (rw [← heo, h]; rfl)
        rw [heo] at HDN
        clear heo hdk
        go_wp2_with fail
        refine HDN.out.mono ?_
        rintro e w9 ⟨rfl, hb9⟩
        obtain ⟨w10, hw10⟩ : ∃ w10, w10 = w9.alloc (.cells zeroC 44) := ⟨_, rfl⟩
        have hb10 : Below w9.heap.size w9 w10 := by rw [hw10]; exact (Below.refl _ w9).alloc (Nat.le_refl _) _
        have HW10 := Lib.hid hw10
        have HS := Lib.hid ((HS.out.mem H.out hb9).mem H.out hb10)
        have HF := Lib.hid (HS.out.fin H.out zeroC)
        have HRES := Lib.hid HS.out.res
        clear hb9 hw10 hb10
        go_upto_region 17 with fail
        rw [← HW10.out]
        go_wp2_with (first | (with_reducible refine halt_end ?_) | (refine wpList_store_rowB (.tmp 6) (.tmp 80) 44 rfl rfl w.heap.size zeroC rfl rfl 44 _ HRES.out size_rec rfl one_zero ?_))
        refine Halt.ret (results_row3 (p := 6) (u := 7) (v := 8) rfl _ _ w.heap.size 44 zeroC _ rfl HF.out.2.2.1 Tryz.underlying44 rfl size_rec) rfl ⟨?_, HF.out.2.1, fun _ => by rw [HSE.out]; rfl, zero_told9 HSE.out (by decide)⟩
        rw [HALL.out.2.2]
        exact HF.out.1
      have HDO := Lib.hid (dec_ok A8 ms.length c8 ms _ w8 HR8.out (fun b h => h.2) HBM.out hdk.1 HC8.out hdk.2.1 hdk.2.2)
      have HDK := Lib.hid hdk
      clear hdk
      go_wp2_with fail
      refine HDO.out.mono ?_
      rintro e w9 ⟨b1, b2, rfl, hn1, hn2, hnb, ha1, ha2, hb9⟩
      obtain ⟨nd, hnd⟩ : ∃ nd, needOf ms = nd := ⟨_, rfl⟩
      rw [hnd]
      obtain ⟨w10, hw10⟩ : ∃ w10, w10 = w9.alloc (.cells (recT9 ms b1 b2) 44) := ⟨_, rfl⟩
      have hb10 : Below w9.heap.size w9 w10 := by rw [hw10]; exact (Below.refl _ w9).alloc (Nat.le_refl _) _
      have HW10 := Lib.hid hw10
      have HRT := Lib.hid (show Blk w10 w9.heap.size 44 (recT9 ms b1 b2) by rw [hw10]; exact Blk.new w9 _ _)
      have HS := Lib.hid ((HS.out.mem H.out hb9).mem H.out hb10)
      have HA1 := Lib.hid (Blk.below ha1 hb10 (Blk.lt ha1))
      have HA2 := Lib.hid (Blk.below ha2 hb10 (Blk.lt ha2))
      have HRES := Lib.hid HS.out.res
      have HNB := Lib.hid hnb
      have hnd50 : nd ≤ 100000 := by rw [← hnd]; have := HDK.out.2.2; omega
      clear hb9 hw10 hb10 ha1 ha2 hnb
      go_upto_region 17 with fail
      rw [← HW10.out]
      by_cases hsame : nd = ms.length
      · have hq9 : ((nd : Int) != (ms.length : Nat)) = false := by simp [hsame]
        have HSE := Lib.hid (HALL.out.1 ⟨HCH.out, by rw [HMS.out]; exact HDK.out, by rw [HMS.out, hnd]; exact hsame⟩)
        have HF := Lib.hid (HS.out.fin H.out (recT9 ms b1 b2))
        clear hnd hsame
        go_wp2_with (first
          | (with_reducible refine halt_end ?_)
          | (refine wpList_load_rowB (.tmp 16) 44 rfl rfl w9.heap.size rfl 44 (recT9 ms b1 b2).toList _ Tryz.underlying44 rfl size_rec HRT.out ?_)
          | (refine wpList_store_rowB (.tmp 6) (.tmp 81) 44 rfl rfl w.heap.size (recT9 ms b1 b2) rfl rfl 44 _ HRES.out size_rec rfl (one_rec _ _ _ _ _ _ _ _ _ _) ?_))
        refine Halt.ret (results_row3 (p := 6) (u := 7) (v := 8) rfl _ _ w.heap.size 44 (recT9 ms b1 b2) _ rfl HF.out.2.2.1 Tryz.underlying44 rfl size_rec) rfl ⟨?_, HF.out.2.1, fun h => absurd HSE.out h, fun _ => ⟨ms, ?_, b1, b2, ?_, by omega, by omega, HNB.out, Blk.kept HA1.out HF.out.2.2.2 (show b1 ≠ w.heap.size by omega), Blk.kept HA2.out HF.out.2.2.2 (show b2 ≠ w.heap.size by omega)⟩⟩
        · rw [HALL.out.2.2]
          exact HF.out.1
        · rw [HCNT.out, HXS.out, HMS.out]
        · rw [HCNT.out]; rfl
      · have hq9 : ((nd : Int) != (ms.length : Nat)) = true := by simp; omega
        have HSE := Lib.hid (HALL.out.2.1 (fun h => hsame (by have := h.2.2; rw [HMS.out, hnd] at this; exact this)))
        have HF := Lib.hid (HS.out.fin H.out zeroC)
        clear hnd hsame
        go_wp2_with (first | (with_reducible refine halt_end ?_) | (refine wpList_store_rowB (.tmp 6) (.tmp 80) 44 rfl rfl w.heap.size zeroC rfl rfl 44 _ HRES.out size_rec rfl one_zero ?_))
        refine Halt.ret (results_row3 (p := 6) (u := 7) (v := 8) rfl _ _ w.heap.size 44 zeroC _ rfl HF.out.2.2.1 Tryz.underlying44 rfl size_rec) rfl ⟨?_, HF.out.2.1, fun _ => by rw [HSE.out]; rfl, zero_told9 HSE.out (by decide)⟩
        rw [HALL.out.2.2]
        exact HF.out.1
set_option maxHeartbeats 8000000 in
theorem standing_loaded {σ : Type} {X0 : Nat → Prop} {V : Nat → List Int} {E : Nat → Int} {nx : σ → Nat → σ} {R : (Nat → Prop) → σ → World → Prop} {w : World} {st : σ} (c0 : Value) (H : HeldC 123 [c0] w.heap.size X0 V E nx R) (h : R X0 st w) (gen : Int) (at_ : Nat) (hat : at_ ≤ 90000) :
    Calls Tryz.prog 66 #[.func (.func 123) #[] #[c0], .int .u64 gen, .int .i64 at_] w (StandT R nx X0 st V E gen at_ w) := by
  have HLEN := Lib.hid H.len
  have HBYT := Lib.hid H.byt
  have HS := Lib.hid (StW.start H h)
  have H := Lib.hid H
  have hc := H.out.call _ _ _ at_ HS.out.r (by omega)
  have HC1 := Lib.hid hc
  clear h hc
  obtain ⟨w1, hw1⟩ : ∃ w1, w1 = w.alloc (.cells zeroC 44) := ⟨_, rfl⟩
  rw [← hw1] at HS HC1
  obtain ⟨X1, hX1⟩ : ∃ X1, newX X0 w w1 = X1 := ⟨_, rfl⟩
  rw [hX1] at HS HC1
  have hsz1 : w.heap.size < w1.heap.size := HS.out.res.lt
  go_enter Tryz.func66, Tryz.ntmps66
  go_upto_region 1 with fail
  rw [← hw1]
  clear hw1 hX1
  go_wp2_with fail
  refine HC1.out.mono ?_
  rintro e v1 ⟨rfl, hr1, hk1⟩
  have HS := Lib.hid (HS.out.held hr1 hk1)
  have hsv : w1.heap.size ≤ v1.heap.size := hk1.size
  obtain ⟨w2, hw2⟩ : ∃ w2, w2 = v1.alloc (.cells (cells8 (V at_)) 84) := ⟨_, rfl⟩
  have hb2 : Below v1.heap.size v1 w2 := by rw [hw2]; exact (Below.refl _ v1).alloc (Nat.le_refl _) _
  have HA2 := Lib.hid (show ArrB w2 v1.heap.size (V at_) by rw [hw2]; exact Blk.new v1 _ _)
  have HS := Lib.hid (HS.out.mem H.out hb2)
  have hsz2 := hb2.size
  have HW2 := Lib.hid hw2
  have hlen0 := HLEN.out at_
  clear hr1 hk1 hb2 hw2 HC1
  obtain ⟨ys, hys⟩ : ∃ ys, V at_ = ys := ⟨_, rfl⟩
  rw [hys] at hlen0 HA2 HW2 ⊢
  by_cases he : E at_ = 0
  case neg =>
    have hne : (E at_ != 0) = true := by simp [he]
    obtain ⟨se, sr⟩ := stand_err (V := V) (gen := gen) he
    have HE := Lib.hid he
    have HF := Lib.hid (HS.out.fin H.out zeroC)
    have HRES := Lib.hid HS.out.res
    have HSE := Lib.hid se
    have HSR := Lib.hid sr
    obtain ⟨e0, he0⟩ : ∃ e0, E at_ = e0 := ⟨_, rfl⟩
    rw [he0] at hne HSE HE ⊢
    clear se sr he he0
    go_wp2_with (first | (with_reducible refine halt_end ?_) | (refine wpList_alloc_blk rfl rfl ?_) | (refine wpList_store_new (.tmp 9) (.tmp 22) rfl rfl v1 ys rfl rfl (noughts 64) rfl (noughts_length 64) hlen0 ?_; rw [← HW2.out]) | (refine wpList_store_rowB (.tmp 6) (.tmp 26) 44 rfl rfl w.heap.size zeroC rfl rfl 44 _ HRES.out size_rec rfl one_zero ?_))
    refine Halt.ret (results_row3 (p := 6) (u := 7) (v := 8) rfl _ _ w.heap.size 44 zeroC _ rfl HF.out.2.2.1 Tryz.underlying44 rfl size_rec) rfl ⟨?_, HF.out.2.1, fun _ => by rw [HSE.out]; rfl, zero_told9 HSE.out HE.out⟩
    rw [HSR.out]
    exact HF.out.1
  have hne : (E at_ != 0) = false := by simp [he]
  have hby0 := HBYT.out at_
  rw [hys] at hby0
  have HBG := Lib.hid (fun (U : World) => begins_any ys gen at_ U hlen0 hby0 (by omega))
  obtain ⟨cnt, hcnt⟩ : ∃ cnt, beginsN ys gen at_ = cnt := ⟨_, rfl⟩
  rw [hcnt] at HBG
  have hcle : cnt ≤ 17 := by rw [← hcnt]; exact begins_le _ _ _
  have HCNT := Lib.hid (show beginsN (V at_) gen at_ = cnt by rw [hys]; exact hcnt)
  have HE0 := Lib.hid he
  rw [he] at hne ⊢
  clear he hcnt hby0
  go_upto_region 5 with (first | (refine wpList_alloc_blk rfl rfl ?_) | (refine wpList_store_new (.tmp 9) (.tmp 22) rfl rfl v1 ys rfl rfl (noughts 64) rfl (noughts_length 64) hlen0 ?_; rw [← HW2.out]) | (refine wpList_load_blk (.tmp 9) rfl rfl v1.heap.size 0 rfl ys hlen0 HA2.out.range ?_) | (go_at_call 112; refine (HBG.out _).mono ?_; rintro e w3 ⟨rfl, hb3⟩))
  have HS := Lib.hid (HS.out.mem H.out hb3)
  have HA3 := Lib.hid (HA2.out.below hb3 HA2.out.lt)
  have hsz3 := hb3.size
  clear hb3
  generalize newX (newX X1 v1 w2) w2 w3 = X3 at *
  by_cases hc0 : cnt = 0
  · subst hc0
    obtain ⟨se, sr⟩ := stand_none (V := V) (gen := gen) HE0.out HCNT.out
    have HF := Lib.hid (HS.out.fin H.out zeroC)
    have HRES := Lib.hid HS.out.res
    have HSE := Lib.hid se
    have HSR := Lib.hid sr
    clear se sr
    go_wp2_with (first | (with_reducible refine halt_end ?_) | (refine wpList_store_rowB (.tmp 6) (.tmp 34) 44 rfl rfl w.heap.size zeroC rfl rfl 44 _ HRES.out size_rec rfl one_zero ?_))
    refine Halt.ret (results_row3 (p := 6) (u := 7) (v := 8) rfl _ _ w.heap.size 44 zeroC _ rfl HF.out.2.2.1 Tryz.underlying44 rfl size_rec) rfl ⟨?_, HF.out.2.1, fun _ => by rw [HSE.out]; rfl, zero_told9 HSE.out (by decide)⟩
    rw [HSR.out]
    exact HF.out.1
  have hcq : ((cnt : Int) == 0) = false := by simp; omega
  obtain ⟨w4, hw4⟩ : ∃ w4, w4 = w3.alloc (.cells (cells8 ys) 84) := ⟨_, rfl⟩
  have hb4 : Below w3.heap.size w3 w4 := by rw [hw4]; exact (Below.refl _ w3).alloc (Nat.le_refl _) _
  have HO4 := Lib.hid (show w4.ownsRow (w.heap.size + 1) 84 64 (.slice (some ⟨w3.heap.size, 0, none⟩) 1 1) 1 ((flat (secsAt V at_ 1)).map (Value.int .u8)) by rw [hw4, secsAt_one, flat_one, hys]; exact own_one9 _ _ hlen0 (by omega))
  have HS4 := Lib.hid (HS.out.mem H.out hb4)
  have hlt4 : w3.heap.size < w4.heap.size := by rw [hw4]; simp
  have HX4 := Lib.hid (show ∀ g, (Value.slice (some ⟨w3.heap.size, 0, none⟩) 1 1).ownBlock = some g → newX X3 w3 w4 g from fun g hg => by injection hg with hg; subst hg; exact .inr ⟨Nat.le_refl _, hlt4⟩)
  have HW4 := Lib.hid hw4
  clear hb4 hw4 hlt4
  go_upto_region 8 with (first | (refine wpList_load_blk (.tmp 9) rfl rfl v1.heap.size 0 rfl ys hlen0 HA3.out.range ?_) | (refine wpList_lit_sec (.tmp 35) rfl rfl ys rfl hlen0 ?_; rw [← HW4.out]))
  clear HA3 HA2 HW2 HW4 hlen0 hys HS
  go_loopw [12] (fun v wr => ∃ (j : Nat) (X : Nat → Prop), 1 ≤ j ∧ j ≤ cnt ∧ StW R w X0 (stR nx st at_ j) X wr ∧ wr.ownsRow (w.heap.size + 1) 84 64 v j ((flat (secsAt V at_ j)).map (Value.int .u8)) ∧ (∀ g, v.ownBlock = some g → X g) ∧ (∀ q, 1 ≤ q → q < j → E (at_ + q) = 0)) (fun v _ => cnt - lenV9 v)
  case atStart => exact ⟨1, _, Nat.le_refl _, by omega, HS4.out, HO4.out, HX4.out, fun q h1 h2 => by omega⟩
  case round =>
    obtain ⟨j, X, hj1, hj, hS, hown, hX, hgood⟩ := hrel
    have HSEC := Lib.hid (secsAt_secs HLEN.out at_ j)
    obtain ⟨A, cap, rfl, hnc, hn0, hrow⟩ := rowK_own hown HSEC.out
    have HS := Lib.hid hS
    have HOWN := Lib.hid hown
    have HX := Lib.hid hX
    have HGOOD := Lib.hid hgood
    have HROW := Lib.hid hrow
    have HCAP := Lib.hid hnc
    have HNIL := Lib.hid hn0
    have hlw : w.heap.size < wr.heap.size := hS.res.lt
    clear hS hown hX hgood hrow hnc hn0 HS4 HO4 HX4
    by_cases hjc : j < cnt
    · have hc := H.out.call _ _ _ (at_ + j) HS.out.r (by omega)
      rw [show ((at_ + j : Nat) : Int) = (at_ : Int) + (j : Int) from by omega] at hc
      have HC := Lib.hid hc
      clear hc
      go_wp2_with fail
      refine HC.out.mono ?_
      rintro e v2 ⟨rfl, hr2, hk2⟩
      have HS := Lib.hid (HS.out.held hr2 hk2)
      have HOWN := Lib.hid (own_at9 HOWN.out hk2 HX.out)
      have hsv2 := hk2.size
      obtain ⟨zs, hzs⟩ : ∃ zs, V (at_ + j) = zs := ⟨_, rfl⟩
      have hlenz : zs.length = 64 := by rw [← hzs]; exact HLEN.out _
      obtain ⟨w5, hw5⟩ : ∃ w5, w5 = v2.alloc (.cells (cells8 zs) 84) := ⟨_, rfl⟩
      have hb5 : Below v2.heap.size v2 w5 := by rw [hw5]; exact (Below.refl _ v2).alloc (Nat.le_refl _) _
      have HA5 := Lib.hid (show ArrB w5 v2.heap.size zs by rw [hw5]; exact Blk.new v2 _ _)
      have HW5 := Lib.hid hw5
      have HZS := Lib.hid hzs
      have HS := Lib.hid (HS.out.mem H.out hb5)
      have HOWN := Lib.hid (own_below HOWN.out hb5)
      have hsz5 := hb5.size
      rw [hzs]
      have HX5 := Lib.hid (show ∀ g, (Value.slice A j cap).ownBlock = some g → newX X v2 w5 g from fun g hg => Or.inl (HX.out g hg))
      clear hr2 hk2 hw5 hzs hb5 HC
      generalize newX X v2 w5 = X5 at *
      by_cases he : E (at_ + j) = 0
      · have hne2 : (E (at_ + j) != 0) = false := by simp [he]
        have HEJ := Lib.hid he
        rw [he] at hne2 ⊢
        obtain ⟨w6, hw6⟩ : ∃ w6, w6 = w5.alloc (.cells (cells8 zs) 84) := ⟨_, rfl⟩
        have hb6 : Below w5.heap.size w5 w6 := by rw [hw6]; exact (Below.refl _ w5).alloc (Nat.le_refl _) _
        have hy6 : ArrB w6 w5.heap.size (flat [zs]) := by rw [hw6, flat_one]; exact Blk.new w5 _ _
        have hsec1 : Secs [zs] := fun x hx => by simp at hx; subst hx; exact hlenz
        have HY6 := Lib.hid (hy6.rowK hsec1 (n := 1) rfl (S := fun _ => True) trivial)
        have HSEC1 := Lib.hid hsec1
        have HW6 := Lib.hid hw6
        have HS6 := Lib.hid (HS.out.mem H.out hb6)
        have HO6 := Lib.hid (own_below HOWN.out hb6)
        have hsz6 := hb6.size
        clear he hb6 hy6 hsec1 hw6
        go_wp2_with (first
          | (refine wpList_alloc_blk rfl rfl ?_)
          | (refine wpList_store_new (.tmp 13) (.tmp 48) rfl rfl v2 zs rfl rfl (noughts 64) rfl (noughts_length 64) hlenz ?_; rw [← HW5.out])
          | (refine wpList_load_blk (.tmp 13) rfl rfl v2.heap.size 0 rfl zs hlenz HA5.out.range ?_)
          | (refine wpList_lit_sec (.tmp 55) rfl rfl zs rfl hlenz ?_; rw [← HW6.out])
          | (refine wpList_append_rowK (.tmp 54) (.tmp 56) rfl rfl (w.heap.size + 1) (.slice A j cap) j _ rfl HO6.out (fun _ => True) (some ⟨w5.heap.size, 0, none⟩) 1 1 [zs] rfl HY6.out HSEC1.out (fun h => by cases h) (by unfold maxLen; omega) (by omega) (by omega) ?_; intro v' w7 hown' hgrow' hblk'; rw [flat_one] at hown'; have HO7 := Lib.hid hown'; have HG7 := Lib.hid hgrow'; have HB7 := Lib.hid hblk'; clear hown' hgrow' hblk'))
        go_roundw
        case rel =>
          have HS7 := Lib.hid (HS6.out.grown H.out HG7.out (fun g hg => ⟨Or.inl (HX5.out g hg), (HO6.out.lt g hg).1⟩))
          have hlw7 : ∀ g, v'.ownBlock = some g → newX (newX X5 w5 w6) w6 w7 g := fun g hg => by
            rcases HB7.out with h1 | h1
            · rw [h1] at hg
              exact Or.inl (Or.inl (HX5.out g hg))
            · have h2 := (HO7.out.lt _ h1).2
              rw [h1] at hg
              injection hg with hg
              subst hg
              exact Or.inr ⟨Nat.le_refl _, h2⟩
          have hown7 : w7.ownsRow (w.heap.size + 1) 84 64 v' (j + 1) ((flat (secsAt V at_ (j + 1))).map (Value.int .u8)) := by
            rw [secsAt_succ, flat_append, List.map_append, HZS.out, flat_one]
            exact HO7.out
          have hg7 : ∀ q, 1 ≤ q → q < j + 1 → E (at_ + q) = 0 := fun q h1 h2 => by
            by_cases e : q = j
            · subst e; exact HEJ.out
            · exact HGOOD.out q h1 (by omega)
          exact ⟨j + 1, _, by omega, by omega, HS7.out, hown7, hlw7, hg7⟩
        case measure => have hlv := own_len9 HO7.out; show cnt - lenV9 v' < cnt - j; omega
      · have hne2 : (E (at_ + j) != 0) = true := by simp [he]
        obtain ⟨se, sr⟩ := stand_bad (V := V) (gen := gen) HE0.out hj1 (by rw [HCNT.out]; exact hjc) HGOOD.out he
        have HF := Lib.hid (HS.out.fin H.out zeroC)
        have HRES := Lib.hid HS.out.res
        have HE := Lib.hid he
        obtain ⟨e0, he0⟩ : ∃ e0, E (at_ + j) = e0 := ⟨_, rfl⟩
        rw [he0] at hne2 HE se ⊢
        have HSE := Lib.hid se
        have HSR := Lib.hid sr
        clear se sr he he0
        go_wp2_with (first
          | (with_reducible refine halt_end ?_)
          | (refine wpList_alloc_blk rfl rfl ?_)
          | (refine wpList_store_new (.tmp 13) (.tmp 48) rfl rfl v2 zs rfl rfl (noughts 64) rfl (noughts_length 64) hlenz ?_; rw [← HW5.out])
          | (refine wpList_store_rowB (.tmp 6) (.tmp 52) 44 rfl rfl w.heap.size zeroC rfl rfl 44 _ HRES.out size_rec rfl one_zero ?_))
        refine Halt.ret (results_row3 (p := 6) (u := 7) (v := 8) rfl _ _ w.heap.size 44 zeroC _ rfl HF.out.2.2.1 Tryz.underlying44 rfl size_rec) rfl ⟨?_, HF.out.2.1, fun _ => by rw [HSE.out]; rfl, zero_told9 HSE.out HE.out⟩
        rw [HSR.out]
        exact HF.out.1
    · obtain rfl : cnt = j := by omega
      have hall := stand_all (V := V) (gen := gen) (E := E) (at_ := at_) HE0.out (by rw [HCNT.out]; omega) (by rw [HCNT.out]; exact HGOOD.out)
      rw [HCNT.out] at hall
      have HALL := Lib.hid hall
      have HBM := Lib.hid (meants_bytes (secsAt_bytes HBYT.out at_ cnt))
      have hlxs := secsAt_length V at_ cnt
      have HJN := Lib.hid (join_any9 A cnt cap (secsAt V at_ cnt) _ wr HROW.out (fun b h => h.2.1) HSEC.out (secsAt_bytes HBYT.out at_ cnt) (by omega))
      obtain ⟨xss, hxss⟩ : ∃ xss, secsAt V at_ cnt = xss := ⟨_, rfl⟩
      rw [hxss] at HALL HBM hlxs HJN
      have HXS := Lib.hid hxss
      clear hall hxss HOWN HROW HSEC HGOOD HX
      go_wp2_with fail
      refine HJN.out.mono ?_
      rintro e w8 hjn
      by_cases hch : Chain xss
      case neg =>
        obtain ⟨rfl, hb8⟩ := hjn.2 (fun h => hch h.2)
        have HSE := Lib.hid (HALL.out.2.1 (fun h => hch h.1))
        have HS := Lib.hid (HS.out.mem H.out hb8)
        have HF := Lib.hid (HS.out.fin H.out zeroC)
        have HRES := Lib.hid HS.out.res
        clear hjn hch hb8
        go_wp2_with (first | (with_reducible refine halt_end ?_) | (refine wpList_store_rowB (.tmp 6) (.tmp 65) 44 rfl rfl w.heap.size zeroC rfl rfl 44 _ HRES.out size_rec rfl one_zero ?_))
        refine Halt.ret (results_row3 (p := 6) (u := 7) (v := 8) rfl _ _ w.heap.size 44 zeroC _ rfl HF.out.2.2.1 Tryz.underlying44 rfl size_rec) rfl ⟨?_, HF.out.2.1, fun _ => by rw [HSE.out]; rfl, zero_told9 HSE.out (by decide)⟩
        rw [HALL.out.2.2]
        exact HF.out.1
      obtain ⟨A8, c8, rfl, hr8, hb8, hc8⟩ := hjn.1 ⟨by omega, hch⟩
      have HS := Lib.hid (HS.out.mem H.out hb8)
      obtain ⟨ms, hms⟩ : ∃ ms, meants xss = ms := ⟨_, rfl⟩
      rw [hms] at hr8 hc8 HBM ⊢
      have HMS := Lib.hid hms
      have HCH := Lib.hid hch
      have HR8 := Lib.hid hr8
      have HC8 := Lib.hid hc8
      have hs8 := hb8.size
      have hml : ms.length ≤ 100000 := by rw [← hms]; have := meants_le xss; omega
      clear hms hch hr8 hb8 hjn hc8
      by_cases hdk : DecOk ms ms.length
      case neg =>
        have HDN := Lib.hid (dec_no A8 ms.length c8 ms _ w8 HR8.out (fun b h => h.2) HBM.out HC8.out hdk)
        have HSE := Lib.hid (HALL.out.2.1 (fun h => hdk (by have := h.2.1; rw [HMS.out] at this; exact this)))
        obtain ⟨eo, heo⟩ : ∃ eo, errOf ms ms.length = eo := ⟨_, rfl⟩
        have heo2 : (eo != 0) = true := by rcases errOf_cases ms ms.length with h | h <;> (rw [← heo, h]; rfl)
        rw [heo] at HDN
        clear heo hdk
        go_wp2_with fail
        refine HDN.out.mono ?_
        rintro e w9 ⟨rfl, hb9⟩
        obtain ⟨w10, hw10⟩ : ∃ w10, w10 = w9.alloc (.cells zeroC 44) := ⟨_, rfl⟩
        have hb10 : Below w9.heap.size w9 w10 := by rw [hw10]; exact (Below.refl _ w9).alloc (Nat.le_refl _) _
        have HW10 := Lib.hid hw10
        have HS := Lib.hid ((HS.out.mem H.out hb9).mem H.out hb10)
        have HF := Lib.hid (HS.out.fin H.out zeroC)
        have HRES := Lib.hid HS.out.res
        clear hb9 hw10 hb10
        go_upto_region 17 with fail
        rw [← HW10.out]
        go_wp2_with (first | (with_reducible refine halt_end ?_) | (refine wpList_store_rowB (.tmp 6) (.tmp 80) 44 rfl rfl w.heap.size zeroC rfl rfl 44 _ HRES.out size_rec rfl one_zero ?_))
        refine Halt.ret (results_row3 (p := 6) (u := 7) (v := 8) rfl _ _ w.heap.size 44 zeroC _ rfl HF.out.2.2.1 Tryz.underlying44 rfl size_rec) rfl ⟨?_, HF.out.2.1, fun _ => by rw [HSE.out]; rfl, zero_told9 HSE.out (by decide)⟩
        rw [HALL.out.2.2]
        exact HF.out.1
      have HDO := Lib.hid (dec_ok A8 ms.length c8 ms _ w8 HR8.out (fun b h => h.2) HBM.out hdk.1 HC8.out hdk.2.1 hdk.2.2)
      have HDK := Lib.hid hdk
      clear hdk
      go_wp2_with fail
      refine HDO.out.mono ?_
      rintro e w9 ⟨b1, b2, rfl, hn1, hn2, hnb, ha1, ha2, hb9⟩
      obtain ⟨nd, hnd⟩ : ∃ nd, needOf ms = nd := ⟨_, rfl⟩
      rw [hnd]
      obtain ⟨w10, hw10⟩ : ∃ w10, w10 = w9.alloc (.cells (recT9 ms b1 b2) 44) := ⟨_, rfl⟩
      have hb10 : Below w9.heap.size w9 w10 := by rw [hw10]; exact (Below.refl _ w9).alloc (Nat.le_refl _) _
      have HW10 := Lib.hid hw10
      have HRT := Lib.hid (show Blk w10 w9.heap.size 44 (recT9 ms b1 b2) by rw [hw10]; exact Blk.new w9 _ _)
      have HS := Lib.hid ((HS.out.mem H.out hb9).mem H.out hb10)
      have HA1 := Lib.hid (Blk.below ha1 hb10 (Blk.lt ha1))
      have HA2 := Lib.hid (Blk.below ha2 hb10 (Blk.lt ha2))
      have HRES := Lib.hid HS.out.res
      have HNB := Lib.hid hnb
      have hnd50 : nd ≤ 100000 := by rw [← hnd]; have := HDK.out.2.2; omega
      clear hb9 hw10 hb10 ha1 ha2 hnb
      go_upto_region 17 with fail
      rw [← HW10.out]
      by_cases hsame : nd = ms.length
      · have hq9 : ((nd : Int) != (ms.length : Nat)) = false := by simp [hsame]
        have HSE := Lib.hid (HALL.out.1 ⟨HCH.out, by rw [HMS.out]; exact HDK.out, by rw [HMS.out, hnd]; exact hsame⟩)
        have HF := Lib.hid (HS.out.fin H.out (recT9 ms b1 b2))
        clear hnd hsame
        go_wp2_with (first
          | (with_reducible refine halt_end ?_)
          | (refine wpList_load_rowB (.tmp 16) 44 rfl rfl w9.heap.size rfl 44 (recT9 ms b1 b2).toList _ Tryz.underlying44 rfl size_rec HRT.out ?_)
          | (refine wpList_store_rowB (.tmp 6) (.tmp 81) 44 rfl rfl w.heap.size (recT9 ms b1 b2) rfl rfl 44 _ HRES.out size_rec rfl (one_rec _ _ _ _ _ _ _ _ _ _) ?_))
        refine Halt.ret (results_row3 (p := 6) (u := 7) (v := 8) rfl _ _ w.heap.size 44 (recT9 ms b1 b2) _ rfl HF.out.2.2.1 Tryz.underlying44 rfl size_rec) rfl ⟨?_, HF.out.2.1, fun h => absurd HSE.out h, fun _ => ⟨ms, ?_, b1, b2, ?_, by omega, by omega, HNB.out, Blk.kept HA1.out HF.out.2.2.2 (show b1 ≠ w.heap.size by omega), Blk.kept HA2.out HF.out.2.2.2 (show b2 ≠ w.heap.size by omega)⟩⟩
        · rw [HALL.out.2.2]
          exact HF.out.1
        · rw [HCNT.out, HXS.out, HMS.out]
        · rw [HCNT.out]; rfl
      · have hq9 : ((nd : Int) != (ms.length : Nat)) = true := by simp; omega
        have HSE := Lib.hid (HALL.out.2.1 (fun h => hsame (by have := h.2.2; rw [HMS.out, hnd] at this; exact this)))
        have HF := Lib.hid (HS.out.fin H.out zeroC)
        clear hnd hsame
        go_wp2_with (first | (with_reducible refine halt_end ?_) | (refine wpList_store_rowB (.tmp 6) (.tmp 80) 44 rfl rfl w.heap.size zeroC rfl rfl 44 _ HRES.out size_rec rfl one_zero ?_))
        refine Halt.ret (results_row3 (p := 6) (u := 7) (v := 8) rfl _ _ w.heap.size 44 zeroC _ rfl HF.out.2.2.1 Tryz.underlying44 rfl size_rec) rfl ⟨?_, HF.out.2.1, fun _ => by rw [HSE.out]; rfl, zero_told9 HSE.out (by decide)⟩
        rw [HALL.out.2.2]
        exact HF.out.1
end Go.Proofs.YtodcohkblgjfeaaGreat

namespace Go.Proofs.YtodcohkblgjfeaaGreat
open Go.RowKit
set_option maxRecDepth 100000
set_option linter.unusedVariables false
set_option linter.unusedSimpArgs false
def StrR (gx gi p d n : Nat) (s : Sup) (t : Int) (k0 : Dk) (seg : Nat) (X : Nat → Prop) (k : Dk) (W : World) : Prop := StrM W X gx gi p d n s t k seg ∧ Good k ∧ k.held = k0.held
section
variable {W W' : World} {X S X0 : Nat → Prop} {gx gi p d n seg : Nat} {s : Sup} {t : Int} {k k0 : Dk}
theorem strV_held (h : k.held = k0.held) (i : Nat) : strV k s seg i = strV k0 s seg i := by unfold strV; rw [h]
theorem Good.rd_held (h : Good k) : k.rd.held = k.held := by rw [h.rd]; rfl
theorem strK_good (h : Good k) (i : Nat) : Good (strK k s i) := by unfold strK; split; exact h.read; exact h
theorem strK_held (h : Good k) (i : Nat) : (strK k s i).held = k.held := by unfold strK; split; exact h.rd_held; rfl
theorem StrM.put (h : StrM W X gx gi p d n s t k seg) (hk : Kept S W W') (hS : ∀ b, b < W.heap.size → ¬ S b → X b ∧ b ≠ gx ∧ b ≠ gi) : StrM W' (fun b => X b ∨ (W.heap.size ≤ b ∧ b < W'.heap.size)) gx gi p d n s t k seg := by
  have hs : ∀ b, b < W.heap.size → ¬ X b → S b := fun b h1 h2 => Classical.byContradiction fun h3 => h2 (hS b h1 h3).1
  have hgx : S gx := Classical.byContradiction fun h3 => (hS gx (h.off _ h.xx) h3).2.1 rfl
  have hgi : S gi := Classical.byContradiction fun h3 => (hS gi (h.off _ h.xi) h3).2.2 rfl
  refine ⟨StoreM.kept h.sto hk hs (fun b hb hy => ?_), grow_lt h.off hk.size, h.bx.kept hk hgx, h.bi.kept hk hgi, .inl h.xx, .inl h.xi⟩
  rcases hy with hy | hy
  · exact hy
  · omega
theorem StrM.back (h : StrM W X gx gi p d n s t k seg) (hx : ∀ b, X0 b → X b) (h1 : X0 gx) (h2 : X0 gi) : StrM W X0 gx gi p d n s t k seg :=
  ⟨StoreM.kept (Z := fun _ => True) h.sto (Kept.refl _ _) (fun _ _ _ => trivial) (fun b _ hb => hx b hb), fun b hb => h.off b (hx b hb), h.bx, h.bi, h1, h2⟩
theorem stored_held (hm : s.May) (hseg : (seg : Int) < s.a) (hroom : 2 + s.a * s.b ≤ (n : Int)) (hn : n ≤ 2048) (hk0 : k0.Ok n) (B : Nat) (h1 : X0 gx) (h2 : X0 gi) (hB : gx < B ∧ gi < B) :
    HeldC 115 [.pointer (some ⟨gx, 0, none⟩), .pointer (some ⟨gi, 0, none⟩)] B X0 (strV k0 s seg) (strE s) (fun k i => strK k s i) (StrR gx gi p d n s t k0 seg) := by
  have hx1 : 0 ≤ (seg : Int) * s.b ∧ (seg : Int) * s.b + s.b ≤ s.a * s.b := by
    have hb24 : 24 ≤ s.b := hm.2.2.1
    refine ⟨Int.mul_nonneg (by omega) (by omega), ?_⟩
    have := Int.mul_le_mul_of_nonneg_right (show (seg : Int) + 1 ≤ s.a by omega) (show 0 ≤ s.b by omega)
    rw [Int.add_mul, Int.one_mul] at this
    exact this
  have hlen : ∀ i, (strV k0 s seg i).length = 64 := fun i => by
    unfold strV
    split
    · refine hk0.heldSecs.get _ ?_
      rw [hk0.heldLen]
      omega
    · exact noughts_length 64
  refine ⟨fun X k W i h hi => ?_, fun X S k W W' h hk hS => ⟨h.1.put hk fun b hb hn => ⟨(hS b hb hn).1, fun e => ?_, fun e => ?_⟩, h.2⟩, fun X k W h => h.1.off, fun X k W h hx => ⟨h.1.back hx h1 h2, h.2⟩, hlen, fun i => ?_⟩
  · refine (stored1_any h.1 h.2.1 hm hseg hroom hn i hi (by rw [strV_held h.2.2]; exact hlen i)).mono ?_
    rintro e W' ⟨rfl, hs, hk⟩
    rw [strV_held h.2.2]
    exact ⟨rfl, ⟨hs, strK_good h.2.1 i, (strK_held h.2.1 i).trans h.2.2⟩, hk⟩
  · have := (hS b hb hn).2; omega
  · have := (hS b hb hn).2; omega
  · unfold strV
    split
    · exact hk0.heldBytes _
    · intro j
      unfold noughts
      simp only [List.getD, List.getElem?_replicate]
      split <;> simp
end
end Go.Proofs.YtodcohkblgjfeaaGreat

namespace Go.Proofs.YtodcohkblgjfeaaGreat
set_option linter.unusedVariables false
section
variable {P : Program} {ops : Array Oper} {Q : Exit → Act → World → Prop} {md : Region.Mode} {S : World → Prop} {st : List Nat}
def GoodL (md : Region.Mode) (ops : Array Oper) (l : Array Bool) : Prop := ∀ s o, ops[s]? = some o → l.getD s false = true → ∀ e ∈ o.after, Region.binds md e = true → l.getD e.on false = true
def goodB (md : Region.Mode) (ops : Array Oper) (l : Array Bool) : Bool := (List.range ops.size).all fun s => match ops[s]? with
  | none => true
  | some o => !(l.getD s false) || o.after.all fun e => !(Region.binds md e) || l.getD e.on false
theorem goodB_spec {l : Array Bool} (h : goodB md ops l = true) : GoodL md ops l := by
  intro s o ho hs e he hb
  have hlt : s < ops.size := (Array.getElem?_eq_some_iff.1 ho).1
  have h1 := List.all_eq_true.1 h s (List.mem_range.2 hlt)
  simp only [ho, hs, Bool.not_true, Bool.false_or] at h1
  have h2 := Array.all_eq_true'.1 h1 e he
  simpa [hb] using h2
theorem GoodL.set {l : Array Bool} {i : Nat} (h : GoodL md ops l) (hi : i ∈ Region.ready md ops l) : GoodL md ops (l.setIfInBounds i true) := by
  intro s o ho hs e he hb
  have key : l.getD e.on false = true := by
    obtain ⟨hun, oi, hoi, hall⟩ := mem_ready.1 hi
    by_cases hsi : i = s
    · subst hsi
      rw [hoi] at ho
      injection ho with ho
      subst ho
      exact hall e he hb
    · rw [getD_set_ne false hsi] at hs
      exact h s o ho hs e he hb
  by_cases hie : i = e.on
  · rw [hie]
    have h1 := un_of_ready hi
    have hlt : e.on < l.size := by
      rcases Nat.lt_or_ge e.on l.size with h' | h'
      · exact h'
      · simp [Array.getElem?_eq_none h'] at key
    simp [hlt]
  · rw [getD_set_ne false hie]
    exact key
def reaches (md : Region.Mode) (ops : Array Oper) : Nat → Nat → Nat → Bool
  | 0, _, _ => false
  | n + 1, s, i => match ops[s]? with
    | none => false
    | some o => o.after.any fun e => Region.binds md e && (e.on == i || reaches md ops n e.on i)
theorem reaches_listed {l : Array Bool} (hg : GoodL md ops l) {i : Nat} : ∀ (n s : Nat), (∀ o, ops[s]? = some o → ∀ e ∈ o.after, Region.binds md e = true → l.getD e.on false = true) → reaches md ops n s i = true → l.getD i false = true
  | 0, _, _, h => by cases h
  | n + 1, s, hs, h => by
    unfold reaches at h
    cases ho : ops[s]? with
    | none => simp only [ho] at h; cases h
    | some o =>
      simp only [ho] at h
      obtain ⟨e, he, hb⟩ := Array.any_eq_true'.1 h
      rw [Bool.and_eq_true] at hb
      have h1 := hs o ho e he hb.1
      rcases Bool.or_eq_true_iff.1 hb.2 with h2 | h2
      · rw [beq_iff_eq] at h2
        rwa [h2] at h1
      · exact reaches_listed hg n e.on (fun o' ho' e' he' hb' => hg e.on o' ho' h1 e' he' hb') h2
def waitsBy (md : Region.Mode) (ops : Array Oper) (st : List Nat) (l : Array Bool) (i : Nat) : Bool := st.all fun s => l.getD s false || reaches md ops ops.size s i
theorem waits_set {l : Array Bool} {i j : Nat} (hw : waitsBy md ops st l i = true) (hj : j < l.size) : waitsBy md ops st (l.setIfInBounds j true) i = true := by
  unfold waitsBy at *
  refine List.all_eq_true.2 fun s hs => ?_
  rcases Bool.or_eq_true_iff.1 (List.all_eq_true.1 hw s hs) with h | h
  · refine Bool.or_eq_true_iff.2 (.inl ?_)
    by_cases e : j = s
    · rw [e] at hj ⊢
      simp [hj]
    · rw [getD_set_ne false e]
      exact h
  · exact Bool.or_eq_true_iff.2 (.inr h)
theorem ready_lt {l : Array Bool} {j : Nat} (h : j ∈ Region.ready md ops l) : j < l.size := by
  have h0 := (mem_ready.1 h).1
  rcases Nat.lt_or_ge j l.size with h' | h'
  · exact h'
  · simp [Array.getElem?_eq_none h'] at h0
theorem not_lastG {l : Array Bool} {i s : Nat} (hg : GoodL md ops l) (hw : waitsBy md ops st l i = true) (hun : l.getD i false = false) (hs : s ∈ st) : s ∉ Region.ready md ops l := by
  intro h
  have hsun := un_of_ready h
  obtain ⟨_, o, ho, hall⟩ := mem_ready.1 h
  have h1 := List.all_eq_true.1 hw s hs
  rw [hsun, Bool.false_or] at h1
  have h2 := reaches_listed hg ops.size s (fun o' ho' e he hb => by rw [ho] at ho'; injection ho' with ho'; subst ho'; exact hall e he hb) h1
  rw [hun] at h2
  cases h2
theorem Tillst.firstG {i : Nat} {oi : Oper} {v : Value} (hi : ops[i]? = some oi) (hsel : ∀ (j : Nat) (o : Oper) cs b, ops[j]? = some o → o.op ≠ .select cs b) (hQ : ∀ c a w, Q (.panic c) (a.put oi.dst v) w → Q (.panic c) a w)
    : ∀ (k : Nat) (l : Array Bool) (a : Act) (w : World), GoodL md ops l → waitsBy md ops st l i = true →
      (∀ j oj, ops[j]? = some oj → j ≠ i → l.getD j true = false → (∀ e ∈ oj.after, Region.binds md e = true → e.on ≠ i) → oi.apart ops oj = true) →
      i ∈ Region.ready md ops l → YieldsIf P ops S oi v a → S w → Tillst P md ops Q S st k (l.setIfInBounds i true) (a.put oi.dst v) w → Tillst P md ops Q S st (k + 1) l a w := by
  intro k
  induction k with
  | zero =>
    intro l a w _ _ _ hr hy hS H
    refine ⟨fun h => (by rw [h] at hr; cases hr), fun j hj => ?_⟩
    by_cases e : j = i
    · rw [e]
      exact hy.wpOp hi hS ⟨fun _ => hS, H⟩
    · have := ready_mono hj e
      rw [H.1] at this
      cases this
  | succ k ih =>
    intro l a w hgd hw hfree hr hy hS H
    have hun := un_of_ready hr
    refine ⟨fun h => (by rw [h] at hr; cases hr), fun j hj => ?_⟩
    by_cases e : j = i
    · rw [e]
      exact hy.wpOp hi hS ⟨fun _ => hS, H⟩
    have hjst : st.contains j = false := by
      rcases h : st.contains j with _ | _
      · rfl
      · exact absurd hj (not_lastG hgd hw hun (by simpa using h))
    obtain ⟨hjun, oj, hoj, hall⟩ := mem_ready.1 hj
    have hno : ∀ e ∈ oj.after, Region.binds md e = true → e.on ≠ i := fun e he hb heq => by
      have := hall e he hb
      rw [heq, hun] at this
      cases this
    have hput := wpOp_putIf hoj (hfree j oj hoj e hjun hno) (fun cs b => hsel i oi cs b hi) (fun cs b => hsel j oj cs b hoj) hQ hy (H.2 j (ready_mono hj e))
    refine wpOp_mono (fun b u g => ?_) hput
    have hSu := g.2.1 hjst
    refine ⟨fun _ => hSu, ih (l.setIfInBounds j true) b u (hgd.set hj) (waits_set hw (ready_lt hj)) (fun m om hm hmi hmun hmno => ?_) (ready_mono hr (Ne.symm e)) g.1 hSu ?_⟩
    · refine hfree m om hm hmi ?_ hmno
      by_cases hjm : j = m
      · rw [← hjm]; exact hjun
      · rw [getD_set_ne true hjm] at hmun; exact hmun
    · rw [Array.setIfInBounds_comm _ _ e]
      exact g.2.2
theorem Tillst.firstF {i : Nat} {oi : Oper} {v : Value} (hi : ops[i]? = some oi) (hsel : ∀ (j : Nat) (o : Oper) cs b, ops[j]? = some o → o.op ≠ .select cs b) (hQ : ∀ c a w, Q (.panic c) (a.put oi.dst v) w → Q (.panic c) a w)
    (hst : st.contains i = true) : ∀ (k : Nat) (l : Array Bool) (a : Act) (w : World),
      (∀ j oj, ops[j]? = some oj → j ≠ i → l.getD j true = false → (∀ e ∈ oj.after, Region.binds md e = true → e.on ≠ i) → oi.apart ops oj = true) →
      i ∈ Region.ready md ops l → YieldsIf P ops (fun _ => True) oi v a → Tillst P md ops Q S st k (l.setIfInBounds i true) (a.put oi.dst v) w → Tillst P md ops Q S st (k + 1) l a w := by
  intro k
  induction k with
  | zero =>
    intro l a w _ hr hy H
    refine ⟨fun h => (by rw [h] at hr; cases hr), fun j hj => ?_⟩
    by_cases e : j = i
    · rw [e]
      exact hy.wpOp hi trivial ⟨fun h => (by rw [hst] at h; cases h), H⟩
    · have := ready_mono hj e
      rw [H.1] at this
      cases this
  | succ k ih =>
    intro l a w hfree hr hy H
    have hun := un_of_ready hr
    refine ⟨fun h => (by rw [h] at hr; cases hr), fun j hj => ?_⟩
    by_cases e : j = i
    · rw [e]
      exact hy.wpOp hi trivial ⟨fun h => (by rw [hst] at h; cases h), H⟩
    obtain ⟨hjun, oj, hoj, hall⟩ := mem_ready.1 hj
    have hno : ∀ e ∈ oj.after, Region.binds md e = true → e.on ≠ i := fun e he hb heq => by
      have := hall e he hb
      rw [heq, hun] at this
      cases this
    have hput := wpOp_putIf hoj (hfree j oj hoj e hjun hno) (fun cs b => hsel i oi cs b hi) (fun cs b => hsel j oj cs b hoj) hQ hy (H.2 j (ready_mono hj e))
    refine wpOp_mono (fun b u g => ?_) hput
    refine ⟨g.2.1, ih (l.setIfInBounds j true) b u (fun m om hm hmi hmun hmno => ?_) (ready_mono hr (Ne.symm e)) g.1 ?_⟩
    · refine hfree m om hm hmi ?_ hmno
      by_cases hjm : j = m
      · rw [← hjm]; exact hjun
      · rw [getD_set_ne true hjm] at hmun; exact hmun
    · rw [Array.setIfInBounds_comm _ _ e]
      exact g.2.2
theorem Tillst.takeF {i : Nat} {oi : Oper} {v : Value} {k : Nat} {l : Array Bool} {a : Act} {w : World} (hi : ops[i]? = some oi) (hs : Region.noSelect ops = true) (hf : Region.free md ops l i = true) (hr : (Region.ready md ops l).contains i = true)
    (hst : st.contains i = true) (hQ : ∀ c a w, Q (.panic c) (a.put oi.dst v) w → Q (.panic c) a w) (hgd : Region.wanted oi (yielded ops a.tmps) = true) (hy : ∀ w, (execOp a.eval oi).run P w = .ok (.value v) w)
    (h : Tillst P md ops Q S st k (l.setIfInBounds i true) (a.put oi.dst v) w) : Tillst P md ops Q S st (k + 1) l a w :=
  Tillst.firstF hi (Region.noSelect_spec hs) hQ hst k l a w (Region.free_spec hi hf) (by simpa using hr) (.inl ⟨hgd, fun w _ => hy w⟩) h
theorem Tillst.takeG {i : Nat} {oi : Oper} {v : Value} {k : Nat} {l : Array Bool} {a : Act} {w : World} (hi : ops[i]? = some oi) (hs : Region.noSelect ops = true) (hf : Region.free md ops l i = true) (hr : (Region.ready md ops l).contains i = true)
    (hg : goodB md ops l = true) (hw : waitsBy md ops st l i = true) (hQ : ∀ c a w, Q (.panic c) (a.put oi.dst v) w → Q (.panic c) a w) (hgd : Region.wanted oi (yielded ops a.tmps) = true) (hy : ∀ w, S w → (execOp a.eval oi).run P w = .ok (.value v) w) (hS : S w)
    (h : Tillst P md ops Q S st k (l.setIfInBounds i true) (a.put oi.dst v) w) : Tillst P md ops Q S st (k + 1) l a w :=
  Tillst.firstG hi (Region.noSelect_spec hs) hQ k l a w (goodB_spec hg) hw (Region.free_spec hi hf) (by simpa using hr) (.inl ⟨hgd, hy⟩) hS h
end
end Go.Proofs.YtodcohkblgjfeaaGreat

namespace Go.Proofs.YtodcohkblgjfeaaGreat
open Go.RowKit
attribute [local go_sem] Oper.semAt_some
set_option maxRecDepth 100000
set_option linter.unusedVariables false
set_option linter.unusedSimpArgs false
abbrev rq0 : Oper := { dst := some 20, op := Go.Op.move (Go.Operand.tmp 0), type := 26, pos := "log.go:78", after := #[], guard := none }
abbrev rq1 : Oper := { dst := some 21, op := Go.Op.nilCheck (Go.Operand.tmp 20), type := 0, pos := "log.go:78", after := #[{ on := 0, ground := Go.Ground.data }], guard := none }
abbrev rq2 : Oper := { dst := some 22, op := Go.Op.fieldAddr 117 (Go.Operand.tmp 21) 0, type := 0, pos := "log.go:78", after := #[{ on := 1, ground := Go.Ground.data }], guard := none }
abbrev rq3 : Oper := { dst := some 23, op := Go.Op.load 70 (Go.Operand.tmp 22), type := 70, pos := "log.go:78", after := #[{ on := 2, ground := Go.Ground.data }], guard := none }
abbrev rq4 : Oper := { dst := some 24, op := Go.Op.fieldAddr 46 (Go.Operand.tmp 3) 0, type := 0, pos := "log.go:78", after := #[], guard := none }
abbrev rq5 : Oper := { dst := some 25, op := Go.Op.load 3 (Go.Operand.tmp 24), type := 3, pos := "log.go:78", after := #[{ on := 4, ground := Go.Ground.data }], guard := none }
abbrev rq6 : Oper := { dst := some 26, op := Go.Op.call { callee := Go.Callee.value (Go.Operand.func 67), args := #[Go.Operand.tmp 23, Go.Operand.tmp 25], argTypes := #[70, 3] }, type := 137, pos := "log.go:78", after := #[{ on := 3, ground := Go.Ground.data }, { on := 5, ground := Go.Ground.data }], guard := none }
abbrev rq7 : Oper := { dst := some 27, op := Go.Op.fieldAddr 46 (Go.Operand.tmp 3) 1, type := 0, pos := "log.go:78", after := #[], guard := none }
abbrev rq8 : Oper := { dst := some 28, op := Go.Op.load 30 (Go.Operand.tmp 27), type := 30, pos := "log.go:78", after := #[{ on := 7, ground := Go.Ground.data }], guard := none }
abbrev rq9 : Oper := { dst := some 29, op := Go.Op.fieldAddr 46 (Go.Operand.tmp 3) 2, type := 0, pos := "log.go:78", after := #[], guard := none }
abbrev rq10 : Oper := { dst := some 30, op := Go.Op.load 3 (Go.Operand.tmp 29), type := 3, pos := "log.go:78", after := #[{ on := 9, ground := Go.Ground.data }], guard := none }
abbrev rq11 : Oper := { dst := some 31, op := Go.Op.call { callee := Go.Callee.value (Go.Operand.func 66), args := #[Go.Operand.tmp 26, Go.Operand.tmp 28, Go.Operand.tmp 30], argTypes := #[137, 30, 3] }, type := 134, pos := "log.go:78", after := #[{ on := 6, ground := Go.Ground.data }, { on := 8, ground := Go.Ground.data }, { on := 10, ground := Go.Ground.data }, { on := 6, ground := Go.Ground.chain }], guard := none }
abbrev rq12 : Oper := { dst := some 19, op := Go.Op.move (Go.Operand.tmp 31), type := 134, pos := "log.go:78", after := #[{ on := 11, ground := Go.Ground.data }], guard := none }
abbrev rq13 : Oper := { dst := some 32, op := Go.Op.extract (Go.Operand.tmp 19) 0, type := 44, pos := "log.go:78", after := #[{ on := 12, ground := Go.Ground.data }], guard := none }
abbrev rq14 : Oper := { dst := some 33, op := Go.Op.extract (Go.Operand.tmp 19) 1, type := 3, pos := "log.go:78", after := #[{ on := 12, ground := Go.Ground.data }, { on := 17, ground := Go.Ground.gcOnly Go.Departure.lateStores }], guard := none }
abbrev rq15 : Oper := { dst := some 34, op := Go.Op.extract (Go.Operand.tmp 19) 2, type := 49, pos := "log.go:78", after := #[{ on := 12, ground := Go.Ground.data }, { on := 18, ground := Go.Ground.gcOnly Go.Departure.lateStores }], guard := none }
abbrev rq16 : Oper := { dst := some 6, op := Go.Op.alloc 44, type := 0, pos := "log.go:78", after := #[], guard := none }
abbrev rq17 : Oper := { dst := none, op := Go.Op.store 44 (Go.Operand.tmp 6) (Go.Operand.tmp 32), type := 0, pos := "log.go:78", after := #[{ on := 16, ground := Go.Ground.data }, { on := 13, ground := Go.Ground.data }, { on := 11, ground := Go.Ground.chain }, { on := 0, ground := Go.Ground.phase }, { on := 1, ground := Go.Ground.phase }, { on := 2, ground := Go.Ground.phase }, { on := 3, ground := Go.Ground.phase }, { on := 4, ground := Go.Ground.phase }, { on := 5, ground := Go.Ground.phase }, { on := 6, ground := Go.Ground.phase }, { on := 7, ground := Go.Ground.phase }, { on := 8, ground := Go.Ground.phase }, { on := 9, ground := Go.Ground.phase }, { on := 10, ground := Go.Ground.phase }, { on := 11, ground := Go.Ground.phase }, { on := 12, ground := Go.Ground.phase }, { on := 13, ground := Go.Ground.phase }, { on := 14, ground := Go.Ground.textOnly Go.Departure.lateStores }, { on := 15, ground := Go.Ground.textOnly Go.Departure.lateStores }, { on := 16, ground := Go.Ground.phase }], guard := none }
abbrev rq18 : Oper := { dst := some 7, op := Go.Op.assign (Go.Operand.tmp 33), type := 3, pos := "log.go:78", after := #[{ on := 14, ground := Go.Ground.data }, { on := 17, ground := Go.Ground.chain }, { on := 0, ground := Go.Ground.phase }, { on := 1, ground := Go.Ground.phase }, { on := 2, ground := Go.Ground.phase }, { on := 3, ground := Go.Ground.phase }, { on := 4, ground := Go.Ground.phase }, { on := 5, ground := Go.Ground.phase }, { on := 6, ground := Go.Ground.phase }, { on := 7, ground := Go.Ground.phase }, { on := 8, ground := Go.Ground.phase }, { on := 9, ground := Go.Ground.phase }, { on := 10, ground := Go.Ground.phase }, { on := 11, ground := Go.Ground.phase }, { on := 12, ground := Go.Ground.phase }, { on := 13, ground := Go.Ground.phase }, { on := 14, ground := Go.Ground.phase }, { on := 15, ground := Go.Ground.textOnly Go.Departure.lateStores }, { on := 16, ground := Go.Ground.phase }, { on := 17, ground := Go.Ground.phase }], guard := none }
abbrev rq19 : Oper := { dst := some 8, op := Go.Op.assign (Go.Operand.tmp 34), type := 49, pos := "log.go:78", after := #[{ on := 15, ground := Go.Ground.data }, { on := 18, ground := Go.Ground.chain }, { on := 0, ground := Go.Ground.phase }, { on := 1, ground := Go.Ground.phase }, { on := 2, ground := Go.Ground.phase }, { on := 3, ground := Go.Ground.phase }, { on := 4, ground := Go.Ground.phase }, { on := 5, ground := Go.Ground.phase }, { on := 6, ground := Go.Ground.phase }, { on := 7, ground := Go.Ground.phase }, { on := 8, ground := Go.Ground.phase }, { on := 9, ground := Go.Ground.phase }, { on := 10, ground := Go.Ground.phase }, { on := 11, ground := Go.Ground.phase }, { on := 12, ground := Go.Ground.phase }, { on := 13, ground := Go.Ground.phase }, { on := 14, ground := Go.Ground.phase }, { on := 15, ground := Go.Ground.phase }, { on := 16, ground := Go.Ground.phase }, { on := 17, ground := Go.Ground.phase }, { on := 18, ground := Go.Ground.phase }], guard := none }
theorem zero_rec9 (w : World) : (zeroValue 44).run Tryz.prog w = .ok (.agg zeroC) w := (Tryz.zeroValue44 w).trans rfl
def RdT (V : Nat → List Int) (E : Nat → Int) (gen : Int) (at_ : Nat) (B : Nat) (W : World) (rec : Array Value) (e : Int) : Prop :=
  (rec.size = 6 ∧ rec.all (·.oneCell') = true) ∧ e = standE V E gen at_ ∧ (e ≠ 0 → rec = zeroC) ∧
  (e = 0 → ∃ (xs : List Int) (b1 b2 : Nat), xs = meants (secsAt V at_ (beginsN (V at_) gen at_)) ∧ rec = recT9 xs b1 b2 ∧ B ≤ b1 ∧ B ≤ b2 ∧ b1 ≠ b2 ∧ ArrU W b1 (keyOf xs) ∧ ArrU W b2 (valOf xs))
theorem RdT.keep {V : Nat → List Int} {E : Nat → Int} {gen : Int} {at_ B : Nat} {W W' : World} {rec : Array Value} {e : Int} {S : Nat → Prop} (h : RdT V E gen at_ B W rec e) (hk : Kept S W W') (hS : ∀ b, B ≤ b → b < W.heap.size → S b) : RdT V E gen at_ B W' rec e := by
  obtain ⟨h1, h2, h3, h4⟩ := h
  refine ⟨h1, h2, h3, fun h0 => ?_⟩
  obtain ⟨xs, b1, b2, e1, e2, e3, e4, e5, e6, e7⟩ := h4 h0
  exact ⟨xs, b1, b2, e1, e2, e3, e4, e5, Blk.kept e6 hk (hS _ e3 (Blk.lt e6)), Blk.kept e7 hk (hS _ e4 (Blk.lt e7))⟩
theorem RdT.less {V : Nat → List Int} {E : Nat → Int} {gen : Int} {at_ B B' : Nat} {W : World} {rec : Array Value} {e : Int} (h : RdT V E gen at_ B W rec e) (hB : B' ≤ B) : RdT V E gen at_ B' W rec e := by
  obtain ⟨h1, h2, h3, h4⟩ := h
  refine ⟨h1, h2, h3, fun h0 => ?_⟩
  obtain ⟨xs, b1, b2, e1, e2, e3, e4, e5, e6, e7⟩ := h4 h0
  exact ⟨xs, b1, b2, e1, e2, by omega, by omega, e5, e6, e7⟩
theorem StandT.rd {σ : Type} {R : (Nat → Prop) → σ → World → Prop} {nx : σ → Nat → σ} {X0 : Nat → Prop} {st : σ} {V : Nat → List Int} {E : Nat → Int} {gen : Int} {at_ : Nat} {w : World} {e : Ending} {w' : World} (h : StandT R nx X0 st V E gen at_ w e w') :
    ∃ rec cnt er, e = .returned (.tuple #[.agg rec, .int .i64 cnt, .int .i64 er]) ∧ RdT V E gen at_ w.heap.size w' rec er ∧ R X0 (stR nx st at_ (standR V E gen at_)) w' ∧ Kept X0 w w' := by
  obtain ⟨h1, h2, h3, h4⟩ := h
  by_cases h0 : standE V E gen at_ = 0
  · obtain ⟨xs, e1, b1, b2, e2, e3⟩ := h4 h0
    exact ⟨_, _, _, e2, ⟨⟨rfl, one_rec _ _ _ _ _ _ _ _ _ _⟩, h0.symm, fun h => absurd rfl h, fun _ => ⟨xs, b1, b2, e1, rfl, e3⟩⟩, h1, h2⟩
  · exact ⟨_, _, _, h3 h0, ⟨⟨rfl, one_zero⟩, rfl, fun _ => rfl, fun h => absurd h h0⟩, h1, h2⟩
structure RdS (l p : Nat) (sec : Int) (A : Option Addr) (m c : Nat) (br : Bool) (xs : List Seg) (w : World) (X R : Nat → Prop) (ga gr : Nat) (ad : Array Value) (Z : Nat → Prop) (W : World) : Prop where
  lb : Blk W l 117 (logC p sec A m c br)
  row : RowZ W R A m xs
  ab : Blk W ga 46 ad
  rb : Blk W gr 44 zeroC
  zl : Z l
  za : Z ga
  zr : Z gr
  zx : ∀ b, X b ∨ R b → Z b
  zt : ∀ b, Z b → b < W.heap.size
  kx : Kept X w W
theorem RdS.keep {l p : Nat} {sec : Int} {A : Option Addr} {m c : Nat} {br : Bool} {xs : List Seg} {w : World} {X R : Nat → Prop} {ga gr : Nat} {ad : Array Value} {Z S : Nat → Prop} {W W' : World} (h : RdS l p sec A m c br xs w X R ga gr ad Z W) (hk : Kept S W W') (hS : ∀ b, Z b → S b) : RdS l p sec A m c br xs w X R ga gr ad Z W' :=
  ⟨h.lb.kept hk (hS _ h.zl), h.row.kept hk (fun b hb => hS b (h.zx b (.inr hb))), h.ab.kept hk (hS _ h.za), h.rb.kept hk (hS _ h.zr), h.zl, h.za, h.zr, h.zx, fun b hb => Nat.lt_of_lt_of_le (h.zt b hb) hk.size, h.kx.trans hk (fun b hb => hS b (h.zx b (.inl hb)))⟩
theorem RdS.mem {l p : Nat} {sec : Int} {A : Option Addr} {m c : Nat} {br : Bool} {xs : List Seg} {w : World} {X R : Nat → Prop} {ga gr : Nat} {ad : Array Value} {Z : Nat → Prop} {W W' : World} (h : RdS l p sec A m c br xs w X R ga gr ad Z W) (hb : Below W.heap.size W W') : RdS l p sec A m c br xs w X R ga gr ad Z W' :=
  h.keep (Kept.of_below (S := fun b => b < W.heap.size) hb (fun b h => h)) h.zt
theorem RdS.cells {l p : Nat} {sec : Int} {A : Option Addr} {m c : Nat} {br : Bool} {xs : List Seg} {w : World} {X R : Nat → Prop} {ga gr : Nat} {ad : Array Value} {Z : Nat → Prop} {W : World} (h : RdS l p sec A m c br xs w X R ga gr ad Z W) : W.cell? ⟨l, 0, none⟩ = some (.pointer (some ⟨p, 0, none⟩)) ∧ W.cell? ⟨ga, 0, none⟩ = ad[0]? ∧ W.cell? ⟨ga, 1, none⟩ = ad[1]? ∧ W.cell? ⟨ga, 2, none⟩ = ad[2]? :=
  ⟨h.lb.cell 0, h.ab.cell 0, h.ab.cell 1, h.ab.cell 2⟩
section
variable {w : World} {X R Z X0 : Nat → Prop} {l p d n : Nat} {s : Sup} {t : Int} {k k' : Dk} {sec : Int} {A : Option Addr} {m c : Nat} {xs : List Seg} {br : Bool}
theorem rd_fin {ga gr gx gi g6 B seg at_ : Nat} {gen : Int} {ad rec : Array Value} {er : Int} {V V11 : World} {W : Nat → List Int} {E : Nat → Int} (hrds : RdS l p sec A m c br xs w X R ga gr ad Z V11) (hstr : StrM V11 X0 gx gi p d n s t k' seg) (hz : ∀ b, Z b → X0 b)
    (hrd : RdT W E gen at_ B V11 rec er) (h6 : ¬ Z g6) (hB : g6 < B ∨ V11.heap.size ≤ g6) (hx6 : X0 g6 ∨ V11.heap.size ≤ g6) (hb : Below V11.heap.size V11 V) (hb6 : Blk V g6 44 zeroC) (hgr : gr < B) (hgw : w.heap.size ≤ gr) (hl : l < w.heap.size) (hX : ∀ b, X b → b < w.heap.size) (hR : ∀ b, R b → b < w.heap.size ∧ b ≠ l) (hxl : ¬ X l) :
    Blk (V.setRow g6 rec) g6 44 rec ∧ Blk (V.setRow g6 rec) gr 44 zeroC ∧ Blk ((V.setRow g6 rec).setRow gr rec) gr 44 rec ∧ RdT W E gen at_ B ((V.setRow g6 rec).setRow gr rec) rec er ∧
    LogM ((V.setRow g6 rec).setRow gr rec) X l p d n s t k' sec A m c xs br ∧ Kept X w ((V.setRow g6 rec).setRow gr rec) := by
  have hne : gr ≠ g6 := fun e => h6 (e ▸ hrds.zr)
  have hk1 : Kept (fun b => b < V11.heap.size ∧ b ≠ g6) V11 (V.setRow g6 rec) := (Kept.of_below (S := fun b => b < V11.heap.size ∧ b ≠ g6) hb (fun b h => h.1)).setRow (g := g6) (fun h => h.2 rfl) rec
  have hk2 : Kept (fun b => b < V11.heap.size ∧ b ≠ g6 ∧ b ≠ gr) V11 ((V.setRow g6 rec).setRow gr rec) := (hk1.mono (S := fun b => b < V11.heap.size ∧ b ≠ g6 ∧ b ≠ gr) (fun b h => ⟨h.1, h.2.1⟩)).setRow (g := gr) (fun h => h.2.2 rfl) rec
  have hrb : Blk (V.setRow g6 rec) gr 44 zeroC := hrds.rb.kept hk1 ⟨hrds.zt _ hrds.zr, hne⟩
  have hlow : ∀ b, Z b → b < w.heap.size → b < V11.heap.size ∧ b ≠ g6 ∧ b ≠ gr := fun b h1 h2 => ⟨hrds.zt b h1, fun e => h6 (e ▸ h1), by omega⟩
  refine ⟨setRow_heap _ _ _ rec _ _ hb6, hrb, setRow_heap _ _ _ rec _ _ hrb, hrd.keep hk2 (fun b h1 h2 => ⟨h2, by omega, by omega⟩), ?_, hrds.kx.trans hk2 (fun b hb => hlow b (hrds.zx b (.inl hb)) (hX b hb))⟩
  have hz2 := hk2.size
  refine ⟨hrds.lb.kept hk2 (hlow l hrds.zl hl), hxl, R, ?_, hrds.row.kept hk2 (fun b hb => hlow b (hrds.zx b (.inr hb)) (hR b hb).1), fun b hb => ⟨?_, (hR b hb).2⟩⟩
  · refine StoreM.kept hstr.sto hk2 (fun b h1 h2 => ⟨h1, fun e => ?_, fun e => h2 (hz b (e ▸ hrds.zr))⟩) (fun b _ h => ?_)
    · subst e
      rcases hx6 with h | h
      · exact h2 h
      · omega
    · rcases h with h | rfl | h
      · exact hz b (hrds.zx b (.inl h))
      · exact hz _ hrds.zl
      · exact hz b (hrds.zx b (.inr h))
  · have := (hlow b (hrds.zx b (.inr hb)) (hR b hb).1).1
    omega
end
def ReadT (w : World) (X : Nat → Prop) (l p d n : Nat) (s : Sup) (t : Int) (k : Dk) (sec : Int) (A : Option Addr) (m c : Nat) (xs : List Seg) (br : Bool) (seg : Nat) (g : Int) (at_ : Nat) (e : Ending) (w' : World) : Prop :=
  ∃ rec er, e = .returned (.tuple #[.agg rec, .int .i64 er]) ∧ RdT (strV k s seg) (strE s) g at_ w.heap.size w' rec er ∧
    LogM w' X l p d n s t (stR (fun k i => strK k s i) k at_ (standR (strV k s seg) (strE s) g at_)) sec A m c xs br ∧ Kept X w w'
section
variable {w : World} {X : Nat → Prop} {l p d n : Nat} {s : Sup} {t : Int} {k : Dk} {sec : Int} {A : Option Addr} {m c : Nat} {xs : List Seg} {br : Bool}
set_option maxHeartbeats 8000000 in
theorem read_used (h : LogM w X l p d n s t k sec A m c xs br) (hX : ∀ b, X b → b < w.heap.size) (hm : m ≤ 1000) (hma : s.May) (hg : Good k) (hok : k.Ok n) (seg : Nat) (hseg : (seg : Int) < s.a) (hroom : 2 + s.a * s.b ≤ (n : Int)) (hn : n ≤ 2048) (g : Int) (at_ : Nat) (hat : at_ ≤ 90000)
    (hu : usesB xs (seg : Nat) g (at_ : Nat) = true) :
    Calls Tryz.prog 17 #[.pointer (some ⟨l, 0, none⟩), .agg #[.int .i64 (seg : Nat), .int .u64 g, .int .i64 (at_ : Nat)]] w (ReadT w X l p d n s t k sec A m c xs br seg g at_) := by
  obtain ⟨w1, hw1⟩ : ∃ w1, w1 = (w.alloc (.cells #[.int .i64 (seg : Nat), .int .u64 g, .int .i64 (at_ : Nat)] 46)).alloc (.cells zeroC 44) := ⟨_, rfl⟩
  have hb1 : Below w.heap.size w w1 := by rw [hw1]; exact ((Below.refl _ w).alloc (Nat.le_refl _) _).alloc (by simp) _
  have hz1 : w1.heap.size = w.heap.size + 2 := by rw [hw1]; simp
  have HA1 := Lib.hid (show Blk w1 w.heap.size 46 #[.int .i64 (seg : Nat), .int .u64 g, .int .i64 (at_ : Nat)] by rw [hw1]; exact (Blk.new w _ _).alloc _)
  have HR1 := Lib.hid (show Blk w1 (w.heap.size + 1) 44 zeroC by rw [hw1]; exact blk_new2 w _ _ _)
  have HU := Lib.hid (fun (W : World) (hW : LogM W X l p d n s t k sec A m c xs br) => by have h2 := uses_any hW hm (seg : Int) g (at_ : Int); rw [hu] at h2; exact h2)
  have HW1 := Lib.hid hw1
  have HB1 := Lib.hid hb1
  have HL := Lib.hid h
  have HX := Lib.hid hX
  have HMA := Lib.hid hma
  have HG := Lib.hid hg
  have HOK := Lib.hid hok
  clear hw1 hb1 h hX hma hg hok hu
  have a0 := HA1.out.cell 0
  have a1 := HA1.out.cell 1
  have a2 := HA1.out.cell 2
  go_enter Tryz.func17, Tryz.ntmps17
  go_upto_region 1 with fail
  rw [← HW1.out]
  go_upto_region 5 with (go_at_call 65; refine (HU.out _ (HL.out.below HB1.out)).mono ?_; rintro e w2 ⟨rfl, hb2⟩)
  rename World => w2
  have HB2 := Lib.hid (HB1.out.trans (hb2.mono HB1.out.size)).drew
  have hsz2 : w1.heap.size ≤ w2.heap.size := hb2.size
  have HA2 := Lib.hid (HA1.out.below hb2 HA1.out.lt).drew
  have HR2 := Lib.hid (HR1.out.below hb2 HR1.out.lt).drew
  have hszd : w2.drew.heap.size = w2.heap.size := rfl
  obtain ⟨hlb, hxl, RR, hsto, hrow, hRR⟩ := HL.out
  obtain ⟨Z, hZ⟩ : ∃ Z : Nat → Prop, Z = (fun b => (X b ∨ b = l ∨ RR b) ∨ (w.heap.size ≤ b ∧ b < w2.drew.heap.size)) := ⟨_, rfl⟩
  have HSTO := Lib.hid (show StoS w2.drew Z p d n s t k by rw [hZ]; exact StoreM.grow hsto HB2.out)
  have HZT := Lib.hid (show ∀ b, Z b → b < w2.drew.heap.size by rw [hZ]; exact grow_lt (fun b hb => by rcases hb with h | rfl | h; exact HX.out b h; exact hlb.lt; exact (hRR b h).1) HB2.out.size)
  have HRD := Lib.hid (show RdS l p sec A m c br xs w X RR w.heap.size (w.heap.size + 1) #[.int .i64 (seg : Nat), .int .u64 g, .int .i64 (at_ : Nat)] Z w2.drew from
    ⟨hlb.below HB2.out hlb.lt, hrow.below HB2.out (fun b h => (hRR b h).1), HA2.out, HR2.out, by rw [hZ]; exact .inl (.inr (.inl rfl)), by rw [hZ]; exact .inr ⟨Nat.le_refl _, by omega⟩, by rw [hZ]; exact .inr ⟨by omega, by omega⟩, fun b hb => by rw [hZ]; rcases hb with h | h; exact .inl (.inl h); exact .inl (.inr (.inr h)), HZT.out, Kept.of_below HB2.out HX.out⟩)
  have HLT := Lib.hid hlb.lt
  have HRR := Lib.hid hRR
  clear hb2 hsto hrow hRR hlb hZ a0 a1 a2 HA1 HA2 HR1 HR2 HU
  refine wp_region_noPanic ?_
  refine Tillst.region (fun W => W.cell? ⟨l, 0, none⟩ = some (.pointer (some ⟨p, 0, none⟩)) ∧ W.cell? ⟨w.heap.size, 0, none⟩ = some (.int .i64 (seg : Nat)) ∧ W.cell? ⟨w.heap.size, 1, none⟩ = some (.int .u64 g) ∧ W.cell? ⟨w.heap.size, 2, none⟩ = some (.int .i64 (at_ : Nat))) [12, 13, 14, 15, 17, 18, 19] (by kernel_rfl) HRD.out.cells (fun hHeld => ?_)
  generalize w2.drew = vd at *
  refine Tillst.takeG (i := 0) (oi := rq0) (v := ?_) rfl (by kernel_rfl) (by kernel_rfl) (by kernel_rfl) (by kernel_rfl) (by kernel_rfl) (fun _ _ _ h => h) (by rfl) ?_ hHeld ?_
  rotate_left
  · intro W hSW; (try dsimp only at hSW); unfold rq0; go_simp; with_reducible rfl
  simp only [rq0, Act.put, List.setIfInBounds_toArray, List.set_cons_zero, List.set_cons_succ]
  refine Tillst.takeG (i := 1) (oi := rq1) (v := ?_) rfl (by kernel_rfl) (by kernel_rfl) (by kernel_rfl) (by kernel_rfl) (by kernel_rfl) (fun _ _ _ h => h) (by rfl) ?_ hHeld ?_
  rotate_left
  · intro W hSW; (try dsimp only at hSW); unfold rq1; go_simp; with_reducible rfl
  simp only [rq1, Act.put, List.setIfInBounds_toArray, List.set_cons_zero, List.set_cons_succ]
  refine Tillst.takeG (i := 2) (oi := rq2) (v := ?_) rfl (by kernel_rfl) (by kernel_rfl) (by kernel_rfl) (by kernel_rfl) (by kernel_rfl) (fun _ _ _ h => h) (by rfl) ?_ hHeld ?_
  rotate_left
  · intro W hSW; (try dsimp only at hSW); unfold rq2; go_simp; with_reducible rfl
  simp only [rq2, Act.put, List.setIfInBounds_toArray, List.set_cons_zero, List.set_cons_succ]
  refine Tillst.takeG (i := 3) (oi := rq3) (v := ?_) rfl (by kernel_rfl) (by kernel_rfl) (by kernel_rfl) (by kernel_rfl) (by kernel_rfl) (fun _ _ _ h => h) (by rfl) ?_ hHeld ?_
  rotate_left
  · intro W hSW; obtain ⟨y0, y1, y2, y3⟩ := hSW; unfold rq3; go_simp; with_reducible rfl
  simp only [rq3, Act.put, List.setIfInBounds_toArray, List.set_cons_zero, List.set_cons_succ]
  refine Tillst.takeG (i := 4) (oi := rq4) (v := ?_) rfl (by kernel_rfl) (by kernel_rfl) (by kernel_rfl) (by kernel_rfl) (by kernel_rfl) (fun _ _ _ h => h) (by rfl) ?_ hHeld ?_
  rotate_left
  · intro W hSW; (try dsimp only at hSW); unfold rq4; go_simp; with_reducible rfl
  simp only [rq4, Act.put, List.setIfInBounds_toArray, List.set_cons_zero, List.set_cons_succ]
  refine Tillst.takeG (i := 5) (oi := rq5) (v := ?_) rfl (by kernel_rfl) (by kernel_rfl) (by kernel_rfl) (by kernel_rfl) (by kernel_rfl) (fun _ _ _ h => h) (by rfl) ?_ hHeld ?_
  rotate_left
  · intro W hSW; obtain ⟨y0, y1, y2, y3⟩ := hSW; unfold rq5; go_simp; with_reducible rfl
  simp only [rq5, Act.put, List.setIfInBounds_toArray, List.set_cons_zero, List.set_cons_succ]
  refine Tillst.takeG (i := 7) (oi := rq7) (v := ?_) rfl (by kernel_rfl) (by kernel_rfl) (by kernel_rfl) (by kernel_rfl) (by kernel_rfl) (fun _ _ _ h => h) (by rfl) ?_ hHeld ?_
  rotate_left
  · intro W hSW; (try dsimp only at hSW); unfold rq7; go_simp; with_reducible rfl
  simp only [rq7, Act.put, List.setIfInBounds_toArray, List.set_cons_zero, List.set_cons_succ]
  refine Tillst.takeG (i := 8) (oi := rq8) (v := ?_) rfl (by kernel_rfl) (by kernel_rfl) (by kernel_rfl) (by kernel_rfl) (by kernel_rfl) (fun _ _ _ h => h) (by rfl) ?_ hHeld ?_
  rotate_left
  · intro W hSW; obtain ⟨y0, y1, y2, y3⟩ := hSW; unfold rq8; go_simp; with_reducible rfl
  simp only [rq8, Act.put, List.setIfInBounds_toArray, List.set_cons_zero, List.set_cons_succ]
  refine Tillst.takeG (i := 9) (oi := rq9) (v := ?_) rfl (by kernel_rfl) (by kernel_rfl) (by kernel_rfl) (by kernel_rfl) (by kernel_rfl) (fun _ _ _ h => h) (by rfl) ?_ hHeld ?_
  rotate_left
  · intro W hSW; (try dsimp only at hSW); unfold rq9; go_simp; with_reducible rfl
  simp only [rq9, Act.put, List.setIfInBounds_toArray, List.set_cons_zero, List.set_cons_succ]
  refine Tillst.takeG (i := 10) (oi := rq10) (v := ?_) rfl (by kernel_rfl) (by kernel_rfl) (by kernel_rfl) (by kernel_rfl) (by kernel_rfl) (fun _ _ _ h => h) (by rfl) ?_ hHeld ?_
  rotate_left
  · intro W hSW; obtain ⟨y0, y1, y2, y3⟩ := hSW; unfold rq10; go_simp; with_reducible rfl
  simp only [rq10, Act.put, List.setIfInBounds_toArray, List.set_cons_zero, List.set_cons_succ]
  refine Tillst.two (i := 6) (j := 16) (o := rq6) (o' := rq16) (by kernel_rfl) rfl rfl ?_ ?_
  · intro K hK
    refine step_call 67 #[.tmp 23, .tmp 25] #[70, 3] rfl rfl Tryz.func67 rfl rfl [.pointer (some ⟨p, 0, none⟩), .int .i64 (seg : Nat)] rfl ?_
    refine (stored_any HSTO.out HZT.out seg).mono ?_
    rintro e v6 ⟨⟨gx, gi, rfl, hsm⟩, hb6⟩
    have HSM := Lib.hid hsm
    have HRD := Lib.hid (HRD.out.mem hb6)
    have hsz6 := hb6.size
    clear hsm hb6
    refine ⟨_, rfl, ?_⟩
    simp only [rq6, Act.put, List.setIfInBounds_toArray, List.set_cons_zero, List.set_cons_succ]
    refine hK.out _ _ (fun _ => HRD.out.cells) (fun hHeld => ?_)
    replace hHeld := hHeld (by decide)
    clear hK K
    have HZX := Lib.hid (show ∀ b, Z b → (Z b ∨ (vd.heap.size ≤ b ∧ b < v6.heap.size)) from fun b h => Or.inl h)
    refine Tillst.two (i := 11) (j := 16) (o := rq11) (o' := rq16) (by kernel_rfl) rfl rfl ?_ ?_
    · intro K hK
      refine step_call 66 #[.tmp 26, .tmp 28, .tmp 30] #[137, 30, 3] rfl rfl Tryz.func66 rfl rfl [.func (.func 115) #[] #[.pointer (some ⟨gx, 0, none⟩), .pointer (some ⟨gi, 0, none⟩)], .int .u64 g, .int .i64 (at_ : Nat)] rfl ?_
      refine (standing_stored _ _ (stored_held HMA.out hseg hroom hn HOK.out (v6).heap.size HSM.out.xx HSM.out.xi ⟨HSM.out.bx.lt, HSM.out.bi.lt⟩) ⟨HSM.out, HG.out, rfl⟩ g at_ hat).mono ?_
      intro e v11 hst
      obtain ⟨rec, cnt, er, rfl, hrd, hr, hk⟩ := hst.rd
      have HTOLD := Lib.hid hrd
      have HKX := Lib.hid hk
      have HRD := Lib.hid (HRD.out.keep hk HZX.out)
      have HSM := Lib.hid hr.1
      have hsz11 := hk.size
      have HRS := Lib.hid hrd.1
      clear hst hrd hr hk
      refine ⟨_, rfl, ?_⟩
      simp only [rq11, Act.put, List.setIfInBounds_toArray, List.set_cons_zero, List.set_cons_succ]
      refine hK.out _ _ (fun _ => HRD.out.cells) (fun hHeld => ?_)
      replace hHeld := hHeld (by decide)
      clear hK K
      refine Tillst.takeF (i := 12) (oi := rq12) (v := ?_) rfl (by kernel_rfl) (by kernel_rfl) (by kernel_rfl) (by decide) (fun _ _ _ h => h) (by rfl) ?_ ?_
      rotate_left
      · intro W; unfold rq12; go_simp; with_reducible rfl
      simp only [rq12, Act.put, List.setIfInBounds_toArray, List.set_cons_zero, List.set_cons_succ]
      refine Tillst.takeF (i := 13) (oi := rq13) (v := ?_) rfl (by kernel_rfl) (by kernel_rfl) (by kernel_rfl) (by decide) (fun _ _ _ h => h) (by rfl) ?_ ?_
      rotate_left
      · intro W; unfold rq13; go_simp; with_reducible rfl
      simp only [rq13, Act.put, List.setIfInBounds_toArray, List.set_cons_zero, List.set_cons_succ]
      refine Tillst.takeF (i := 14) (oi := rq14) (v := ?_) rfl (by kernel_rfl) (by kernel_rfl) (by kernel_rfl) (by decide) (fun _ _ _ h => h) (by rfl) ?_ ?_
      rotate_left
      · intro W; unfold rq14; go_simp; with_reducible rfl
      simp only [rq14, Act.put, List.setIfInBounds_toArray, List.set_cons_zero, List.set_cons_succ]
      refine Tillst.takeF (i := 15) (oi := rq15) (v := ?_) rfl (by kernel_rfl) (by kernel_rfl) (by kernel_rfl) (by decide) (fun _ _ _ h => h) (by rfl) ?_ ?_
      rotate_left
      · intro W; unfold rq15; go_simp; with_reducible rfl
      simp only [rq15, Act.put, List.setIfInBounds_toArray, List.set_cons_zero, List.set_cons_succ]
      refine Tillst.one (i := 16) (o := rq16) (by kernel_rfl) rfl ?_
      intro K hK
      have hba := (Below.refl (v11).heap.size (v11)).alloc (Nat.le_refl _) (.cells zeroC 44)
      have HB6 := Lib.hid (show Blk ((v11).alloc (.cells zeroC 44)) (v11).heap.size 44 zeroC from Blk.new (v11) _ _)
      have hza : ((v11).alloc (.cells zeroC 44)).heap.size = (v11).heap.size + 1 := by simp
      have HRD11 := HRD
      have HRD := Lib.hid (HRD.out.mem hba)
      refine step_alloc_row 44 rfl rfl zeroC zero_rec9 ?_
      simp only [rq16, Act.put, List.setIfInBounds_toArray, List.set_cons_zero, List.set_cons_succ]
      refine hK.out _ _ (fun _ => HRD.out.cells) (fun hHeld => ?_)
      replace hHeld := hHeld (by decide)
      clear hK K
      have HRD := HRD11
      have HF := Lib.hid (rd_fin (V := v11.alloc (.cells zeroC 44)) (g6 := v11.heap.size) HRD.out HSM.out HZX.out HTOLD.out (fun h => by have := HRD.out.zt _ h; omega) (.inr (Nat.le_refl _)) (.inr (Nat.le_refl _)) hba HB6.out (by omega) (by omega) HLT.out HX.out HRR.out hxl)
      refine Tillst.one (i := 17) (o := rq17) (by kernel_rfl) rfl ?_
      intro K hK
      refine step_store_row (.tmp 6) (.tmp 32) 44 rfl rfl (v11.heap.size) rec rfl rfl 44 zeroC HB6.out (by rw [HRS.out.1]; exact size_rec) (by rw [HRS.out.1]; rfl) HRS.out.2 ?_
      simp only [rq17, Act.put, List.setIfInBounds_toArray, List.set_cons_zero, List.set_cons_succ]
      refine hK.out _ _ (fun h => absurd h (by decide)) (fun _ => ?_)
      clear hK K hHeld
      refine Tillst.one (i := 18) (o := rq18) (by kernel_rfl) rfl ?_
      intro K hK
      refine step_value ?_ rfl ?_ ?_
      rotate_left
      · unfold rq18; go_simp; with_reducible rfl
      simp only [rq18, Act.put, List.setIfInBounds_toArray, List.set_cons_zero, List.set_cons_succ]
      refine hK.out _ _ (fun h => absurd h (by decide)) (fun _ => ?_)
      clear hK K
      refine Tillst.one (i := 19) (o := rq19) (by kernel_rfl) rfl ?_
      intro K hK
      refine step_value ?_ rfl ?_ ?_
      rotate_left
      · unfold rq19; go_simp; with_reducible rfl
      simp only [rq19, Act.put, List.setIfInBounds_toArray, List.set_cons_zero, List.set_cons_succ]
      refine hK.out _ _ (fun h => absurd h (by decide)) (fun _ => ?_)
      clear hK K
      refine Tillst.done (by kernel_rfl) ?_ _
      refine NoPanic.normal ?_
      have HSZD := Lib.hid hszd
      clear hszd
      go_wp2_with (first | (with_reducible refine halt_end ?_) | (refine wpList_load_rowB (.tmp 6) 44 rfl rfl (v11.heap.size) rfl 44 rec.toList _ Tryz.underlying44 rfl (by simp only [Array.length_toList, HRS.out.1]; exact size_rec) HF.out.1 ?_) | (refine wpList_store_rowB (.tmp 4) (.tmp 35) 44 rfl rfl (w.heap.size + 1) rec rfl rfl 44 _ HF.out.2.1 (by rw [HRS.out.1]; exact size_rec) (by rw [HRS.out.1]; rfl) HRS.out.2 ?_))
      exact Halt.ret (results_row2 rfl _ _ (w.heap.size + 1) 44 rec _ rfl HF.out.2.2.1 Tryz.underlying44 rfl (by rw [HRS.out.1]; exact size_rec)) rfl ⟨rec, er, rfl, HF.out.2.2.2.1.less (by have := HSZD.out; omega), HF.out.2.2.2.2.1, HF.out.2.2.2.2.2⟩
    · intro K hK
      have hba := (Below.refl (v6).heap.size (v6)).alloc (Nat.le_refl _) (.cells zeroC 44)
      have HB6 := Lib.hid (show Blk ((v6).alloc (.cells zeroC 44)) (v6).heap.size 44 zeroC from Blk.new (v6) _ _)
      have hza : ((v6).alloc (.cells zeroC 44)).heap.size = (v6).heap.size + 1 := by simp
      have HRD := Lib.hid (HRD.out.mem hba)
      have HSM := Lib.hid (HSM.out.grow hba)
      have HZX := Lib.hid (fun b (h : Z b) => Or.inl (b := v6.heap.size ≤ b ∧ b < (v6.alloc (.cells zeroC 44)).heap.size) (HZX.out b h))
      have hz6 := HZT.out
      clear hba
      refine step_alloc_row 44 rfl rfl zeroC zero_rec9 ?_
      simp only [rq16, Act.put, List.setIfInBounds_toArray, List.set_cons_zero, List.set_cons_succ]
      refine hK.out _ _ (fun _ => HRD.out.cells) (fun hHeld => ?_)
      replace hHeld := hHeld (by decide)
      clear hK K
      refine Tillst.one (i := 11) (o := rq11) (by kernel_rfl) rfl ?_
      intro K hK
      refine step_call 66 #[.tmp 26, .tmp 28, .tmp 30] #[137, 30, 3] rfl rfl Tryz.func66 rfl rfl [.func (.func 115) #[] #[.pointer (some ⟨gx, 0, none⟩), .pointer (some ⟨gi, 0, none⟩)], .int .u64 g, .int .i64 (at_ : Nat)] rfl ?_
      refine (standing_stored _ _ (stored_held HMA.out hseg hroom hn HOK.out (v6.alloc (.cells zeroC 44)).heap.size HSM.out.xx HSM.out.xi ⟨HSM.out.bx.lt, HSM.out.bi.lt⟩) ⟨HSM.out, HG.out, rfl⟩ g at_ hat).mono ?_
      intro e v11 hst
      obtain ⟨rec, cnt, er, rfl, hrd, hr, hk⟩ := hst.rd
      have HTOLD := Lib.hid hrd
      have HKX := Lib.hid hk
      have HRD := Lib.hid (HRD.out.keep hk HZX.out)
      have HSM := Lib.hid hr.1
      have hsz11 := hk.size
      have HRS := Lib.hid hrd.1
      clear hst hrd hr hk
      refine ⟨_, rfl, ?_⟩
      simp only [rq11, Act.put, List.setIfInBounds_toArray, List.set_cons_zero, List.set_cons_succ]
      refine hK.out _ _ (fun _ => HRD.out.cells) (fun hHeld => ?_)
      replace hHeld := hHeld (by decide)
      clear hK K
      refine Tillst.takeF (i := 12) (oi := rq12) (v := ?_) rfl (by kernel_rfl) (by kernel_rfl) (by kernel_rfl) (by decide) (fun _ _ _ h => h) (by rfl) ?_ ?_
      rotate_left
      · intro W; unfold rq12; go_simp; with_reducible rfl
      simp only [rq12, Act.put, List.setIfInBounds_toArray, List.set_cons_zero, List.set_cons_succ]
      refine Tillst.takeF (i := 13) (oi := rq13) (v := ?_) rfl (by kernel_rfl) (by kernel_rfl) (by kernel_rfl) (by decide) (fun _ _ _ h => h) (by rfl) ?_ ?_
      rotate_left
      · intro W; unfold rq13; go_simp; with_reducible rfl
      simp only [rq13, Act.put, List.setIfInBounds_toArray, List.set_cons_zero, List.set_cons_succ]
      refine Tillst.takeF (i := 14) (oi := rq14) (v := ?_) rfl (by kernel_rfl) (by kernel_rfl) (by kernel_rfl) (by decide) (fun _ _ _ h => h) (by rfl) ?_ ?_
      rotate_left
      · intro W; unfold rq14; go_simp; with_reducible rfl
      simp only [rq14, Act.put, List.setIfInBounds_toArray, List.set_cons_zero, List.set_cons_succ]
      refine Tillst.takeF (i := 15) (oi := rq15) (v := ?_) rfl (by kernel_rfl) (by kernel_rfl) (by kernel_rfl) (by decide) (fun _ _ _ h => h) (by rfl) ?_ ?_
      rotate_left
      · intro W; unfold rq15; go_simp; with_reducible rfl
      simp only [rq15, Act.put, List.setIfInBounds_toArray, List.set_cons_zero, List.set_cons_succ]
      have HB6 := Lib.hid (HB6.out.kept HKX.out (.inr ⟨Nat.le_refl _, by omega⟩))
      have HF := Lib.hid (rd_fin (V := v11) (g6 := v6.heap.size) HRD.out HSM.out HZX.out HTOLD.out (fun h => by have := hz6 _ h; omega) (.inl (by omega)) (.inl (.inr ⟨Nat.le_refl _, by omega⟩)) (Below.refl _ _) HB6.out (by omega) (by omega) HLT.out HX.out HRR.out hxl)
      refine Tillst.one (i := 17) (o := rq17) (by kernel_rfl) rfl ?_
      intro K hK
      refine step_store_row (.tmp 6) (.tmp 32) 44 rfl rfl (v6.heap.size) rec rfl rfl 44 zeroC HB6.out (by rw [HRS.out.1]; exact size_rec) (by rw [HRS.out.1]; rfl) HRS.out.2 ?_
      simp only [rq17, Act.put, List.setIfInBounds_toArray, List.set_cons_zero, List.set_cons_succ]
      refine hK.out _ _ (fun h => absurd h (by decide)) (fun _ => ?_)
      clear hK K hHeld
      refine Tillst.one (i := 18) (o := rq18) (by kernel_rfl) rfl ?_
      intro K hK
      refine step_value ?_ rfl ?_ ?_
      rotate_left
      · unfold rq18; go_simp; with_reducible rfl
      simp only [rq18, Act.put, List.setIfInBounds_toArray, List.set_cons_zero, List.set_cons_succ]
      refine hK.out _ _ (fun h => absurd h (by decide)) (fun _ => ?_)
      clear hK K
      refine Tillst.one (i := 19) (o := rq19) (by kernel_rfl) rfl ?_
      intro K hK
      refine step_value ?_ rfl ?_ ?_
      rotate_left
      · unfold rq19; go_simp; with_reducible rfl
      simp only [rq19, Act.put, List.setIfInBounds_toArray, List.set_cons_zero, List.set_cons_succ]
      refine hK.out _ _ (fun h => absurd h (by decide)) (fun _ => ?_)
      clear hK K
      refine Tillst.done (by kernel_rfl) ?_ _
      refine NoPanic.normal ?_
      have HSZD := Lib.hid hszd
      clear hszd
      go_wp2_with (first | (with_reducible refine halt_end ?_) | (refine wpList_load_rowB (.tmp 6) 44 rfl rfl (v6.heap.size) rfl 44 rec.toList _ Tryz.underlying44 rfl (by simp only [Array.length_toList, HRS.out.1]; exact size_rec) HF.out.1 ?_) | (refine wpList_store_rowB (.tmp 4) (.tmp 35) 44 rfl rfl (w.heap.size + 1) rec rfl rfl 44 _ HF.out.2.1 (by rw [HRS.out.1]; exact size_rec) (by rw [HRS.out.1]; rfl) HRS.out.2 ?_))
      exact Halt.ret (results_row2 rfl _ _ (w.heap.size + 1) 44 rec _ rfl HF.out.2.2.1 Tryz.underlying44 rfl (by rw [HRS.out.1]; exact size_rec)) rfl ⟨rec, er, rfl, HF.out.2.2.2.1.less (by have := HSZD.out; omega), HF.out.2.2.2.2.1, HF.out.2.2.2.2.2⟩
  · intro K hK
    have hba := (Below.refl (vd).heap.size (vd)).alloc (Nat.le_refl _) (.cells zeroC 44)
    have HB6 := Lib.hid (show Blk ((vd).alloc (.cells zeroC 44)) (vd).heap.size 44 zeroC from Blk.new (vd) _ _)
    have hza : ((vd).alloc (.cells zeroC 44)).heap.size = (vd).heap.size + 1 := by simp
    have HRD := Lib.hid (HRD.out.mem hba)
    have HSTA := Lib.hid (StoreM.grow HSTO.out hba)
    have hz6 := HZT.out
    have HZTA := Lib.hid (grow_lt HZT.out hba.size)
    clear hba
    refine step_alloc_row 44 rfl rfl zeroC zero_rec9 ?_
    simp only [rq16, Act.put, List.setIfInBounds_toArray, List.set_cons_zero, List.set_cons_succ]
    refine hK.out _ _ (fun _ => HRD.out.cells) (fun hHeld => ?_)
    replace hHeld := hHeld (by decide)
    clear hK K
    refine Tillst.one (i := 6) (o := rq6) (by kernel_rfl) rfl ?_
    intro K hK
    refine step_call 67 #[.tmp 23, .tmp 25] #[70, 3] rfl rfl Tryz.func67 rfl rfl [.pointer (some ⟨p, 0, none⟩), .int .i64 (seg : Nat)] rfl ?_
    refine (stored_any HSTA.out HZTA.out seg).mono ?_
    rintro e v6 ⟨⟨gx, gi, rfl, hsm⟩, hb6⟩
    have HSM := Lib.hid hsm
    have HRD := Lib.hid (HRD.out.mem hb6)
    have hsz6 := hb6.size
    have HB6 := Lib.hid (HB6.out.below hb6 HB6.out.lt)
    clear hsm hb6
    refine ⟨_, rfl, ?_⟩
    simp only [rq6, Act.put, List.setIfInBounds_toArray, List.set_cons_zero, List.set_cons_succ]
    refine hK.out _ _ (fun _ => HRD.out.cells) (fun hHeld => ?_)
    replace hHeld := hHeld (by decide)
    clear hK K
    have HZX := Lib.hid (fun b (h : Z b) => Or.inl (b := (vd.alloc (.cells zeroC 44)).heap.size ≤ b ∧ b < v6.heap.size) (Or.inl (b := vd.heap.size ≤ b ∧ b < (vd.alloc (.cells zeroC 44)).heap.size) h))
    refine Tillst.one (i := 11) (o := rq11) (by kernel_rfl) rfl ?_
    intro K hK
    refine step_call 66 #[.tmp 26, .tmp 28, .tmp 30] #[137, 30, 3] rfl rfl Tryz.func66 rfl rfl [.func (.func 115) #[] #[.pointer (some ⟨gx, 0, none⟩), .pointer (some ⟨gi, 0, none⟩)], .int .u64 g, .int .i64 (at_ : Nat)] rfl ?_
    refine (standing_stored _ _ (stored_held HMA.out hseg hroom hn HOK.out (v6).heap.size HSM.out.xx HSM.out.xi ⟨HSM.out.bx.lt, HSM.out.bi.lt⟩) ⟨HSM.out, HG.out, rfl⟩ g at_ hat).mono ?_
    intro e v11 hst
    obtain ⟨rec, cnt, er, rfl, hrd, hr, hk⟩ := hst.rd
    have HTOLD := Lib.hid hrd
    have HKX := Lib.hid hk
    have HRD := Lib.hid (HRD.out.keep hk HZX.out)
    have HSM := Lib.hid hr.1
    have hsz11 := hk.size
    have HRS := Lib.hid hrd.1
    clear hst hrd hr hk
    refine ⟨_, rfl, ?_⟩
    simp only [rq11, Act.put, List.setIfInBounds_toArray, List.set_cons_zero, List.set_cons_succ]
    refine hK.out _ _ (fun _ => HRD.out.cells) (fun hHeld => ?_)
    replace hHeld := hHeld (by decide)
    clear hK K
    refine Tillst.takeF (i := 12) (oi := rq12) (v := ?_) rfl (by kernel_rfl) (by kernel_rfl) (by kernel_rfl) (by decide) (fun _ _ _ h => h) (by rfl) ?_ ?_
    rotate_left
    · intro W; unfold rq12; go_simp; with_reducible rfl
    simp only [rq12, Act.put, List.setIfInBounds_toArray, List.set_cons_zero, List.set_cons_succ]
    refine Tillst.takeF (i := 13) (oi := rq13) (v := ?_) rfl (by kernel_rfl) (by kernel_rfl) (by kernel_rfl) (by decide) (fun _ _ _ h => h) (by rfl) ?_ ?_
    rotate_left
    · intro W; unfold rq13; go_simp; with_reducible rfl
    simp only [rq13, Act.put, List.setIfInBounds_toArray, List.set_cons_zero, List.set_cons_succ]
    refine Tillst.takeF (i := 14) (oi := rq14) (v := ?_) rfl (by kernel_rfl) (by kernel_rfl) (by kernel_rfl) (by decide) (fun _ _ _ h => h) (by rfl) ?_ ?_
    rotate_left
    · intro W; unfold rq14; go_simp; with_reducible rfl
    simp only [rq14, Act.put, List.setIfInBounds_toArray, List.set_cons_zero, List.set_cons_succ]
    refine Tillst.takeF (i := 15) (oi := rq15) (v := ?_) rfl (by kernel_rfl) (by kernel_rfl) (by kernel_rfl) (by decide) (fun _ _ _ h => h) (by rfl) ?_ ?_
    rotate_left
    · intro W; unfold rq15; go_simp; with_reducible rfl
    simp only [rq15, Act.put, List.setIfInBounds_toArray, List.set_cons_zero, List.set_cons_succ]
    have HB6 := Lib.hid (HB6.out.kept HKX.out (.inl (.inr ⟨Nat.le_refl _, by omega⟩)))
    have HF := Lib.hid (rd_fin (V := v11) (g6 := vd.heap.size) HRD.out HSM.out HZX.out HTOLD.out (fun h => by have := hz6 _ h; omega) (.inl (by omega)) (.inl (.inl (.inr ⟨Nat.le_refl _, by omega⟩))) (Below.refl _ _) HB6.out (by omega) (by omega) HLT.out HX.out HRR.out hxl)
    refine Tillst.one (i := 17) (o := rq17) (by kernel_rfl) rfl ?_
    intro K hK
    refine step_store_row (.tmp 6) (.tmp 32) 44 rfl rfl (vd.heap.size) rec rfl rfl 44 zeroC HB6.out (by rw [HRS.out.1]; exact size_rec) (by rw [HRS.out.1]; rfl) HRS.out.2 ?_
    simp only [rq17, Act.put, List.setIfInBounds_toArray, List.set_cons_zero, List.set_cons_succ]
    refine hK.out _ _ (fun h => absurd h (by decide)) (fun _ => ?_)
    clear hK K hHeld
    refine Tillst.one (i := 18) (o := rq18) (by kernel_rfl) rfl ?_
    intro K hK
    refine step_value ?_ rfl ?_ ?_
    rotate_left
    · unfold rq18; go_simp; with_reducible rfl
    simp only [rq18, Act.put, List.setIfInBounds_toArray, List.set_cons_zero, List.set_cons_succ]
    refine hK.out _ _ (fun h => absurd h (by decide)) (fun _ => ?_)
    clear hK K
    refine Tillst.one (i := 19) (o := rq19) (by kernel_rfl) rfl ?_
    intro K hK
    refine step_value ?_ rfl ?_ ?_
    rotate_left
    · unfold rq19; go_simp; with_reducible rfl
    simp only [rq19, Act.put, List.setIfInBounds_toArray, List.set_cons_zero, List.set_cons_succ]
    refine hK.out _ _ (fun h => absurd h (by decide)) (fun _ => ?_)
    clear hK K
    refine Tillst.done (by kernel_rfl) ?_ _
    refine NoPanic.normal ?_
    have HSZD := Lib.hid hszd
    clear hszd
    go_wp2_with (first | (with_reducible refine halt_end ?_) | (refine wpList_load_rowB (.tmp 6) 44 rfl rfl (vd.heap.size) rfl 44 rec.toList _ Tryz.underlying44 rfl (by simp only [Array.length_toList, HRS.out.1]; exact size_rec) HF.out.1 ?_) | (refine wpList_store_rowB (.tmp 4) (.tmp 35) 44 rfl rfl (w.heap.size + 1) rec rfl rfl 44 _ HF.out.2.1 (by rw [HRS.out.1]; exact size_rec) (by rw [HRS.out.1]; rfl) HRS.out.2 ?_))
    exact Halt.ret (results_row2 rfl _ _ (w.heap.size + 1) 44 rec _ rfl HF.out.2.2.1 Tryz.underlying44 rfl (by rw [HRS.out.1]; exact size_rec)) rfl ⟨rec, er, rfl, HF.out.2.2.2.1.less (by have := HSZD.out; omega), HF.out.2.2.2.2.1, HF.out.2.2.2.2.2⟩
end
end Go.Proofs.YtodcohkblgjfeaaGreat

namespace Go.Proofs.YtodcohkblgjfeaaGreat
open Go.RowKit
attribute [local go_sem] Oper.semAt_some
set_option maxRecDepth 100000
set_option linter.unusedVariables false
set_option linter.unusedSimpArgs false
theorem wk_sealed : sealedX 24 wkX = wkX := by
  unfold sealedX
  rw [if_neg]
  unfold sealE
  split
  · decide
  · rw [if_pos (by rw [wk_open]; decide)]; decide
theorem eql_adr9 (w : World) : (binOp .eql 46 (.agg #[.int .i64 0, .int .u64 1, .int .i64 1]) (.agg #[.int .i64 0, .int .u64 1, .int .i64 1])).run Tryz.prog w = .ok (.bool true) w := by
  go_simp
theorem wk_good : Good (bornK 4 24) := ⟨by decide +kernel, by decide +kernel, by decide +kernel⟩
theorem wk_top : topG wkX ≤ 0 := by decide +kernel
theorem wk_pend : (bornK 4 24).pend.length ≤ 0 := by decide +kernel
theorem wk_cnt : cntOf (21 + 1 + 1) = 1 := by decide +kernel
theorem born_lg {w : World} {X : Nat → Prop} {l p d : Nat} {A : Option Addr} {c : Nat} (h : LogM w X l p d 1026 wkS 0 (bornK 4 24) 24 A 4 c wkX false) (hc : 4 ≤ c) (hn : A = none → c = 0) : LgM w X l p d 1026 wkS 0 (bornK 4 24) wkX 0 where
  log := ⟨A, c, h, hc, hn⟩
  good := wk_good
  ok := ok_new ⟨by decide, by decide, by decide, by decide⟩
  top := wk_top
  may := by decide
  sin := ⟨by decide, by decide, by decide, by decide, by decide, by decide, by decide, by decide, by decide, by decide, by decide, by decide⟩
  dims := rfl
  n2 := by decide
  room := by decide
  pend := wk_pend
set_option maxHeartbeats 4000000 in
theorem wakes9 (w : World) : Calls Tryz.prog 8 #[] w fun e w' => e = .returned (.bool true) ∧ Below w.heap.size w w' := by
  have HBN := Lib.hid (born_any 4 24 w (by omega) (by omega))
  go_enter Tryz.func8, Tryz.ntmps8
  go_wp2_with fail
  refine HBN.out.mono ?_
  rintro e wb ⟨l, p, d, A, c, rfl, hlog, hc, hnil, hb⟩
  have HLG := Lib.hid (born_lg hlog hc hnil)
  have HB0 := Lib.hid hb
  have hb0 := hb.size
  have HL0 := Lib.hid hlog.1.lt
  clear hlog hc hnil hb HBN
  have hc1 := Go.Lib.run_convert_bytes_const (P := Tryz.prog) wb 42 5 #[.int .u8 97] 1 1 Tryz.underlying42 Tryz.underlying5
  have hc2 := Go.Lib.run_convert_bytes_const (P := Tryz.prog) (wb.alloc (.cells #[.int .u8 97] 5 (1, 2))) 42 5 #[.int .u8 120] 1 1 Tryz.underlying42 Tryz.underlying5
  simp only [World.size_alloc, List.size_toArray, List.length_cons, List.length_nil, Nat.zero_add, Nat.reduceAdd] at hc1 hc2
  go_upto_region 5 with fail
  clear hc1 hc2
  generalize hw1 : ((wb.alloc _).alloc _).alloc _ = w1
  have HB1 := Lib.hid (show Below wb.heap.size wb w1 by rw [← hw1]; exact (((Below.refl _ _).alloc (Nat.le_refl _) _).alloc (by simp) _).alloc (by simp; omega) _)
  have HS1 := Lib.hid (show w1.heap.size = wb.heap.size + 3 by rw [← hw1]; simp)
  have HA1 := Lib.hid (show RowI .u8 w1 (fun b => b < w1.heap.size) (some ⟨wb.heap.size, 0, none⟩) 1 [97] by
    have h := row_marked wb [97] (1, 2) 1 rfl (S := fun b => b = wb.heap.size) rfl
    rw [← hw1]
    refine ((h.keep (fun p hp => World.cell?_alloc_lt _ _ p ?_)).keep (fun p hp => World.cell?_alloc_lt _ _ p ?_)).more (fun b h => ?_) <;> simp <;> omega)
  have HV1 := Lib.hid (show RowI .u8 w1 (fun b => b < w1.heap.size) (some ⟨wb.heap.size + 1, 0, none⟩) 1 [120] by
    have h := row_marked (wb.alloc (.cells #[.int .u8 97] 5 (1, 2))) [120] (1, 2) 1 rfl (S := fun b => b = wb.heap.size + 1) (by simp)
    rw [show (wb.alloc (.cells #[.int .u8 97] 5 (1, 2))).heap.size = wb.heap.size + 1 by simp] at h
    rw [← hw1]
    refine (h.keep (fun p hp => World.cell?_alloc_lt _ _ p ?_)).more (fun b h => ?_) <;> simp <;> omega)
  have HR1 := Lib.hid (show Blk w1 (wb.heap.size + 1 + 1) 44 #[.int .i64 1, .int .u32 0, .int .u32 0, .int .u64 1, .slice (some ⟨wb.heap.size, 0, none⟩) 1 1, .slice (some ⟨wb.heap.size + 1, 0, none⟩) 1 1] by rw [← hw1]; exact blk_new3 wb _ _ _ _)
  have HLG1 := Lib.hid (HLG.out.below HB1.out)
  have HAP := Lib.hid (show Calls Tryz.prog 12 #[.pointer (some ⟨l, 0, none⟩), .agg #[.int .i64 1, .int .u32 0, .int .u32 0, .int .u64 1, .slice (some ⟨wb.heap.size, 0, none⟩) 1 1, .slice (some ⟨wb.heap.size + 1, 0, none⟩) 1 1]] w1 fun e w' =>
      e = .returned (.tuple #[.agg #[.int .i64 0, .int .u64 1, .int .i64 1], .int .i64 0]) ∧ LgM w' (fun x => x < w.heap.size) l p d 1026 (genS wkS) (nxt 0) wkK (useX (openX wkX 1) (1 : Nat)) (0 + 1) ∧ Kept (fun x => x < w.heap.size) w1 w' by
    refine (append_good HLG1.out (fun b h => by have := HS1.out; omega) (by omega) (by decide) (by decide) ⟨by omega, by omega, by omega, by omega, by omega, by omega⟩ HA1.out HV1.out (fun h => by cases h) (fun h => by cases h) (by intro j; match j with | 0 => simp | (j + 1) => simp) (by intro j; match j with | 0 => simp | (j + 1) => simp)).mono ?_
    rintro e w' ⟨h3, hk⟩
    rcases h3 with ⟨i, h, _⟩ | ⟨_, h, _⟩ | ⟨_, i, hi, rfl, hlg⟩
    · rw [wk_open] at h; omega
    · rw [wk_next] at h; omega
    · obtain rfl : i = 0 := by rw [wk_next] at hi; omega
      rw [wk_cnt] at hlg
      have e1 : sealedX (wkS).b wkX = wkX := wk_sealed
      rw [e1] at hlg
      exact ⟨rfl, hlg, hk⟩)
  clear hw1
  go_wp2_with (refine wpList_load_rowB (.tmp 3) 44 rfl rfl (wb.heap.size + 1 + 1) rfl 44 [.int .i64 1, .int .u32 0, .int .u32 0, .int .u64 1, .slice (some ⟨wb.heap.size, 0, none⟩) 1 1, .slice (some ⟨wb.heap.size + 1, 0, none⟩) 1 1] _ Tryz.underlying44 rfl size_rec HR1.out ?_)
  refine HAP.out.mono ?_
  rintro e w2 ⟨rfl, hlg, hk⟩
  have HLG2 := Lib.hid hlg
  have HK2 := Lib.hid hk
  clear hlg hk HAP
  obtain ⟨w3, hw3⟩ : ∃ w3, w3 = w2.alloc (.cells #[.int .i64 0, .int .u64 1, .int .i64 1] 46) := ⟨_, rfl⟩
  have hb3 : Below w2.heap.size w2 w3 := by rw [hw3]; exact (Below.refl _ w2).alloc (Nat.le_refl _) _
  have HA3 := Lib.hid (show Blk w3 w2.heap.size 46 #[.int .i64 0, .int .u64 1, .int .i64 1] by rw [hw3]; exact Blk.new w2 _ _)
  have hz3 : w3.heap.size = w2.heap.size + 1 := by rw [hw3]; simp
  have HLG3 := Lib.hid (HLG2.out.grow hb3)
  have HBW3 := Lib.hid (((HB0.out.trans (HB1.out.mono hb0)).trans (HK2.out.to_below (B := w.heap.size) fun b hb => hb)).trans (hb3.mono (by have := HS1.out; have : w1.heap.size ≤ w2.heap.size := HK2.out.size; omega)))
  have HW3 := Lib.hid hw3
  have hs2 : w1.heap.size ≤ w2.heap.size := HK2.out.size
  have hsb : w.heap.size ≤ w2.heap.size := by have := HS1.out; omega
  clear hb3 hw3
  have HRE := Lib.hid (show Calls Tryz.prog 17 #[.pointer (some ⟨l, 0, none⟩), .agg #[.int .i64 0, .int .u64 1, .int .i64 1]] w3 fun e w' =>
      ∃ (v0 v1 v2 v3 : Int) (b1 v4 b2 : Nat), e = .returned (.tuple #[.agg #[.int .i64 v0, .int .u32 v1, .int .u32 v2, .int .u64 v3, .slice (some ⟨b1, 0, none⟩) v4 v4, .slice (some ⟨b2, 0, none⟩) 1 1], .int .i64 0]) ∧ ArrU w' b2 [120] ∧ Kept (fun x => x < w.heap.size ∨ (w2.heap.size ≤ x ∧ x < w3.heap.size)) w3 w' by
    have hlg := HLG3.out
    obtain ⟨A2, c2, hlm, _, _⟩ := hlg.log
    have hok : wkK.Ok 1026 := by obtain ⟨_, _, R, hs, _, _⟩ := hlm; exact hs.2.1.ok
    refine (read_used hlm (fun b hb => by rcases hb with h | h <;> omega) (by decide) hlg.may hlg.good hok 0 (by decide) hlg.room hlg.n2.2 1 1 (by omega) wk_uses).mono ?_
    rintro e w' ⟨rec, er, rfl, hrd, _, hk⟩
    obtain ⟨_, h2, _, h4⟩ := hrd
    have hz : er = 0 := h2.trans wk_stands.1
    obtain ⟨xs, b1, b2, e1, e2, _, _, _, _, h7⟩ := h4 hz
    have hb : beginsN (strV wkK (genS wkS) 0 1) 1 ((1 : Nat) : Int) = 1 := wk_stands.2
    rw [hb, secsAt_one, wk_sec, wk_meants] at e1
    subst e1 e2 hz
    rw [wk_val] at h7
    exact ⟨kindOf wkB, flagsOf wkB, expOf wkB, seqOf wkB, b1, klenOf wkB, b2, by simp only [recT9, wk_vlen], h7, hk⟩)
  go_upto_region 6 with fail
  rw [← HW3.out]
  have a0 := HA3.out.cell 0
  have a1 := HA3.out.cell 1
  have a2 := HA3.out.cell 2
  go_wp2_with fail
  refine HRE.out.mono ?_
  rintro e w4 ⟨v0, v1, v2, v3, b1, v4, b2, rfl, hv, hk⟩
  have HV4 := Lib.hid hv
  have HK4 := Lib.hid hk
  have HA4 := Lib.hid (HA3.out.kept hk (.inr ⟨Nat.le_refl _, by omega⟩))
  clear hv hk HRE a0 a1 a2
  have HBW4 := Lib.hid (HBW3.out.trans (HK4.out.to_below (B := w.heap.size) fun b hb => .inl hb))
  obtain ⟨w5, hw5⟩ : ∃ w5, w5 = w4.alloc (.cells #[.int .i64 v0, .int .u32 v1, .int .u32 v2, .int .u64 v3, .slice (some ⟨b1, 0, none⟩) v4 v4, .slice (some ⟨b2, 0, none⟩) 1 1] 44) := ⟨_, rfl⟩
  have HQ5 := Lib.hid (show Blk w5 w4.heap.size 44 #[.int .i64 v0, .int .u32 v1, .int .u32 v2, .int .u64 v3, .slice (some ⟨b1, 0, none⟩) v4 v4, .slice (some ⟨b2, 0, none⟩) 1 1] by rw [hw5]; exact Blk.new w4 _ _)
  have HA5 := Lib.hid (show Blk w5 w2.heap.size 46 #[.int .i64 0, .int .u64 1, .int .i64 1] by rw [hw5]; exact HA4.out.alloc _)
  have HV5 := Lib.hid (show ArrU w5 b2 [120] by rw [hw5]; exact Blk.alloc HV4.out _)
  have HBW5 := Lib.hid (show Below w.heap.size w w5 by rw [hw5]; exact HBW4.out.alloc HBW4.out.size _)
  obtain ⟨tt, ht, hnt⟩ := conv_string (P := Tryz.prog) w5 42 9 5 Tryz.underlying42 Tryz.underlying5 Tryz.underlying9 1 (HV5.out.rowN 0 (n := 1) rfl (S := fun b => b < w5.heap.size) HV5.out.lt).toRow (by intro j; match j with | 0 => simp | (j + 1) => simp)
  obtain rfl : tt = ⟨#[120]⟩ := nums_inj (hnt.trans rfl)
  have HW5 := Lib.hid hw5
  have hea := eql_adr9 w5
  clear hw5 hnt
  go_upto_region 7 with fail
  rw [← HW5.out]
  have a0 := HA5.out.cell 0
  have a1 := HA5.out.cell 1
  have a2 := HA5.out.cell 2
  have r5 := HQ5.out.cell 5
  go_wp2_with fail
  go_ret
  exact ⟨rfl, HBW5.out⟩
end Go.Proofs.YtodcohkblgjfeaaGreat

namespace Go.Proofs.YtodcohkblgjfeaaGreat
open Go.RowKit
attribute [local go_sem] Oper.semAt_some
set_option linter.unusedVariables false
set_option linter.unusedSimpArgs false
theorem sized_rem (a m : Int) (h : 0 ≤ a) (hm : 1 ≤ m ∧ m ≤ 100) : ∃ r : Nat, a.tmod m = (r : Int) ∧ (r : Int) < m ∧ a % m = (r : Int) := by
  rw [Int.tmod_eq_emod_of_nonneg h]
  have h2 : 0 ≤ a % m ∧ a % m < m := ⟨Int.emod_nonneg _ (by omega), Int.emod_lt_of_pos _ (by omega)⟩
  exact ⟨(a % m).toNat, by omega, by omega, by omega⟩
theorem sized_told {x y x' y' : Int} (hx : x = x') (hy : y = y') : Ending.returned (Value.tuple #[.int .i64 x, .int .i64 y]) = Ending.returned (Value.tuple #[.int .i64 x', .int .i64 y']) := by rw [hx, hy]
theorem sized9_any (a b : Int) (w : World) : ∃ (m : Nat) (s : Int), (4 ≤ m ∧ m ≤ 16) ∧ (24 ≤ s ∧ s ≤ 64) ∧ Calls Tryz.prog 9 #[.int .i64 a, .int .i64 b] w fun e w' => e = .returned (.tuple #[.int .i64 m, .int .i64 s]) ∧ w' = w := by
  by_cases ha : a < 0 <;> by_cases hb : b < 0
  · refine ⟨4, 24, by omega, by omega, ?_⟩
    go_enter Tryz.func9, Tryz.ntmps9
    go_wp2
    all_goals (go_ret2; (first | exact ⟨rfl, rfl⟩ | exact ⟨sized_told (by omega) (by omega), rfl⟩))
  · obtain ⟨r, hr, hr2, hr3⟩ := sized_rem b 41 (by omega) (by omega)
    refine ⟨4, 24 + (r : Int), by omega, by omega, ?_⟩
    go_enter Tryz.func9, Tryz.ntmps9
    go_wp2
    all_goals (go_ret2; (first | exact ⟨rfl, rfl⟩ | exact ⟨sized_told (by omega) (by omega), rfl⟩))
  · obtain ⟨r, hr, hr2, hr3⟩ := sized_rem a 13 (by omega) (by omega)
    refine ⟨4 + r, 24, by omega, by omega, ?_⟩
    rw [show ((4 + r : Nat) : Int) = 4 + (r : Int) by omega]
    go_enter Tryz.func9, Tryz.ntmps9
    go_wp2
    all_goals (go_ret2; (first | exact ⟨rfl, rfl⟩ | exact ⟨sized_told (by omega) (by omega), rfl⟩))
  · obtain ⟨r, hr, hr2, hr3⟩ := sized_rem a 13 (by omega) (by omega)
    obtain ⟨q, hq, hq2, hq3⟩ := sized_rem b 41 (by omega) (by omega)
    refine ⟨4 + r, 24 + (q : Int), by omega, by omega, ?_⟩
    rw [show ((4 + r : Nat) : Int) = 4 + (r : Int) by omega]
    go_enter Tryz.func9, Tryz.ntmps9
    go_wp2
    all_goals (go_ret2; (first | exact ⟨rfl, rfl⟩ | exact ⟨sized_told (by omega) (by omega), rfl⟩))
end Go.Proofs.YtodcohkblgjfeaaGreat

namespace Go.Proofs.YtodcohkblgjfeaaGreat
set_option maxRecDepth 100000
open Go.RowKit
attribute [local go_sem] Oper.semAt_some
set_option linter.unusedVariables false
set_option linter.unusedSimpArgs false
theorem run_append_rowZ2 (w : World) (ty : TypeId) (base : Nat) (v : Value) (n : Nat) (P : List Value) (hown : w.ownsRow base 128 3 v n P)
    (S : Nat → Prop) (A : Option Addr) (m c : Nat) (ys : List Seg) (hr : RowZ w S A m ys) (hnil : A = none → c = 0) (h63 : n + m ≤ maxLen) (hby : (n + m) * 24 ≤ 140737488355328) (hbase : base ≤ w.heap.size) :
    ∃ v' w', (Builtin.append_ #[33, 33] ty #[v, .slice A m c]).run Tryz.prog w = .ok v' w' ∧ w'.ownsRow base 128 3 v' (n + m) (P ++ flatG ys) ∧ w.grownBy w' v.ownBlock ∧ (v'.ownBlock = v.ownBlock ∨ v'.ownBlock = some w.heap.size) := by
  obtain ⟨i0, hi, hz0, hz1, hz2⟩ := info_parts info_seg
  have hl := hr.1
  rcases A with _ | ad
  · have hm : m = 0 := by
      rcases Nat.eq_zero_or_pos m with h0 | h0
      · exact h0
      · obtain ⟨_, _, h1, _⟩ := hr.2 h0
        cases h1
    subst hm
    have hn : ys = [] := List.eq_nil_of_length_eq_zero hl
    subst hn
    rw [hnil rfl]
    exact ⟨v, w, run_append_owned_none (P := Tryz.prog) (w := w) base 33 ty 128 i0 3 Tryz.underlying33 hi v n P hown, by simpa [flatG] using hown, World.grownBy.refl w _, .inl rfl⟩
  · obtain ⟨v', w', h1, h2, h3, _, h4⟩ := run_append_own_at (P := Tryz.prog) w base 33 ty 128 i0 (.agg (segC seg0).toArray) 3 24 Tryz.underlying33 hi hz0 hz1 hz2 (by simp [Value.cells]) (by omega) v n P hown ad m c (flatG ys) (by rw [flatG_length, hl])
      (fun j u hu => by
        have hm : 0 < m := by
          rcases Nat.eq_zero_or_pos m with h0 | h0
          · have : ys = [] := List.eq_nil_of_length_eq_zero (by omega)
            subst this
            simp [flatG] at hu
          · exact h0
        obtain ⟨ad', e, hc⟩ := RowZ_src hr hm
        injection e with e
        subst e
        exact hc j u hu)
      (flatG_ones ys) h63 hby hbase
    exact ⟨v', w', h1, h2, h3, h4⟩
section
variable {w : World} {ops : Array Oper} {rest : List Oper} {o : Oper} {a : Act} {Q : Exit → Act → World → Prop}
theorem wpList_append_rowZ2 (s x : Operand) (ho : o.op = .call { callee := .builtin .append, args := #[s, x], argTypes := #[33, 33] }) (hgd : o.guard = none)
    (base : Nat) (v : Value) (n : Nat) (P : List Value) (hs : a.eval s = v) (hown : w.ownsRow base 128 3 v n P)
    (S : Nat → Prop) (A : Option Addr) (m c : Nat) (ys : List Seg) (hx : a.eval x = .slice A m c) (hr : RowZ w S A m ys) (hnil : A = none → c = 0) (h63 : n + m ≤ maxLen) (hby : (n + m) * 24 ≤ 140737488355328) (hbase : base ≤ w.heap.size)
    (h : ∀ v' w', w'.ownsRow base 128 3 v' (n + m) (P ++ flatG ys) → w.grownBy w' v.ownBlock → (v'.ownBlock = v.ownBlock ∨ v'.ownBlock = some w.heap.size) → wpList Tryz.prog ops Q rest (a.put o.dst v') w') :
    wpList Tryz.prog ops Q (o :: rest) a w := by
  obtain ⟨v', w', hrun, h2, h3, h4⟩ := run_append_rowZ2 w o.type base v n P hown S A m c ys hr hnil h63 hby hbase
  refine wpList_plain hgd fun K hK => ?_
  unfold Oper.wp execOp
  simp only [ho, resolve, invoke, builtin, Sem.run_bind, Sem.run_pure, Result.andThen_ok, List.map_toArray, List.map_cons, List.map_nil, hs, hx, hrun]
  exact hK _ _ (h v' w' h2 h3 h4)
end
set_option maxHeartbeats 1000000 in
theorem ref_copy_any {w : World} {A : Option Addr} {n cap : Nat} {xs : List Seg} (h : RowZ w (· < w.heap.size) A n xs) (hnil : A = none → cap = 0) (sec : Int) (hn : n * 24 ≤ 140737488351232) :
    Calls Tryz.prog 34 #[ringV sec A n cap] w fun e w' => (∃ A' cap', e = .returned (ringV sec A' n cap') ∧ n ≤ cap' ∧ (A' = none → cap' = 0) ∧ w'.ownsRow w.heap.size 128 3 (.slice A' n cap') n (flatG xs)) ∧ Below w.heap.size w w' := by
  have HO := Lib.hid (show (((w.alloc (.cells #[.int .i64 sec, .slice A n cap] 35)).alloc (.cells #[.int .i64 0, .slice none 0 0] 35)).alloc (.cells #[] 128)).ownsRow (w.heap.size + 1 + 1) 128 3 (.slice (some ⟨w.heap.size + 1 + 1, 0, none⟩) 0 0) 0 [] by
    have h := own_empty3 ((w.alloc (.cells #[.int .i64 sec, .slice A n cap] 35)).alloc (.cells #[.int .i64 0, .slice none 0 0] 35))
    have e : ((w.alloc (.cells #[.int .i64 sec, .slice A n cap] 35)).alloc (.cells #[.int .i64 0, .slice none 0 0] 35)).heap.size = w.heap.size + 1 + 1 := by simp
    rwa [e] at h)
  have HB := Lib.hid ((((Below.refl w.heap.size w).alloc (Nat.le_refl _) (.cells #[.int .i64 sec, .slice A n cap] 35)).alloc (by simp) (.cells #[.int .i64 0, .slice none 0 0] 35)).alloc (by simp; omega) (.cells #[] 128))
  have HX := Lib.hid (row_now h HB.out)
  have HK0 := Lib.hid (((Blk.new w 35 #[.int .i64 sec, .slice A n cap]).alloc (.cells #[.int .i64 0, .slice none 0 0] 35)).alloc (.cells #[] 128))
  have HK1 := Lib.hid ((blk_new2 w (.cells #[.int .i64 sec, .slice A n cap] 35) 35 #[.int .i64 0, .slice none 0 0]).alloc (.cells #[] 128))
  have HN0 := Lib.hid (show (some w.heap.size : Option Nat) ≠ (Value.slice (some ⟨w.heap.size + 1 + 1, 0, none⟩) 0 0).ownBlock from fun e => by have e2 : (some w.heap.size : Option Nat) = some (w.heap.size + 1 + 1) := e; injection e2 with e2; omega)
  have HN1 := Lib.hid (show (some (w.heap.size + 1) : Option Nat) ≠ (Value.slice (some ⟨w.heap.size + 1 + 1, 0, none⟩) 0 0).ownBlock from fun e => by have e2 : (some (w.heap.size + 1) : Option Nat) = some (w.heap.size + 1 + 1) := e; injection e2 with e2; omega)
  have HNIL := Lib.hid hnil
  have HL := Lib.hid h.1
  have h63 : (0 : Nat) + n ≤ maxLen := by unfold maxLen; omega
  have hby : ((0 : Nat) + n) * 24 ≤ 140737488355328 := by omega
  clear h hnil
  go_enter Tryz.func34, Tryz.ntmps34
  go_wp2_with (first
    | (at_builtin; refine wpList_append_rowZ2 (.tmp 3) (.tmp 5) rfl rfl (w.heap.size + 1 + 1) _ 0 [] rfl HO.out _ A n cap xs rfl HX.out HNIL.out h63 hby (by simp) ?_; rintro v' w4 ho hg _; have HB4 := Lib.hid (HB.out.grown hg HB.out.size (fun k e => Nat.le_trans (by omega) (own_least HO.out e))); have HK4 := Lib.hid (HK0.out.grown hg HN0.out); have HK5 := Lib.hid (HK1.out.grown hg HN1.out); obtain ⟨A', cap', rfl, hc, hn', hrow⟩ := rowZ_own ho (xs := xs) (by simp) (by rw [HL.out, Nat.zero_add]); rw [Nat.zero_add] at hc hrow; simp only [Nat.zero_add]; have HROW := Lib.hid ho; have HC := Lib.hid hc; have HN := Lib.hid hn'; obtain ⟨q0, q1⟩ := ring_cells HK4.out; obtain ⟨p0, p1⟩ := ring_cells HK5.out; have f0 := HK4.out.frozen 1; obtain ⟨g0, g1⟩ := And.intro (HK5.out.frozen 0) (HK5.out.frozen 1); clear ho hg hc hn' hrow)
    | (with_reducible refine halt_end ?_))
  have hne : w.heap.size + 1 ≠ w.heap.size := by omega
  have hst := ((HK5.out.far (p := ⟨w.heap.size, 1, none⟩) hne (.slice A' n cap')).set_ 0 (.int .i64 sec)).set_ 1 (.slice A' n cap')
  have hown := ownsRow_setCell_other (ownsRow_setCell_other (ownsRow_setCell_other HROW.out (a := ⟨w.heap.size, 1, none⟩) (fun e => by have := own_least HROW.out e; simp only [] at this; omega) (.slice A' n cap')) (a := ⟨w.heap.size + 1, 0, none⟩) (fun e => by have := own_least HROW.out e; simp only [] at this; omega) (.int .i64 sec)) (a := ⟨w.heap.size + 1, 1, none⟩) (fun e => by have := own_least HROW.out e; simp only [] at this; omega) (.slice A' n cap')
  rw [Nat.zero_add, List.nil_append] at hown
  have hbel := ((HB4.out.setCell (p := ⟨w.heap.size, 1, none⟩) (Nat.le_refl _) (.slice A' n cap')).setCell (p := ⟨w.heap.size + 1, 0, none⟩) (by simp) (.int .i64 sec)).setCell (p := ⟨w.heap.size + 1, 1, none⟩) (by simp) (.slice A' n cap')
  exact Halt.ret (results_row1 rfl _ _ (w.heap.size + 1) 35 #[.int .i64 sec, .slice A' n cap'] _ rfl hst Tryz.underlying35 rfl size_ring) rfl ⟨⟨A', cap', rfl, HC.out, HN.out, own_base hown (by omega)⟩, hbel⟩
set_option maxHeartbeats 4000000 in
theorem ref_right_any {w : World} {A : Option Addr} {n cap : Nat} {xs : List Seg} (h : RowZ w (· < w.heap.size) A n xs) (sec : Int) (hpos : ∀ i, i < n → 0 ≤ genG xs i) :
    Calls Tryz.prog 35 #[ringV sec A n cap] w fun e w' => e = .returned (.bool (decide (OkR sec xs))) ∧ Below w.heap.size w w' := by
  by_cases hn : n ≤ 40
  · exact ref_right h sec hn hpos
  have HX := Lib.hid h
  clear h
  by_cases hs : SizedR n sec
  case neg =>
    have hd : decide (SizedR (n : Int) sec) = false := decide_eq_false hs
    have HSI := Lib.hid (fun (W : World) => by have h := ref_sized_any n sec W; rw [hd] at h; exact h)
    have HF := Lib.hid (show ¬ OkR sec xs from fun ho => hs (by have := ho.1; rw [HX.out.1] at this; exact this))
    rw [decide_eq_false HF.out]
    clear hs hd
    go_enter Tryz.func35, Tryz.ntmps35
    go_wp2_with (go_at_call 83; refine (HSI.out _).mono ?_; rintro e w' ⟨rfl, rfl⟩)
    go_ret
    exact ⟨rfl, (Below.refl _ w).alloc (Nat.le_refl _) _⟩
  exfalso
  unfold SizedR at hs
  omega
end Go.Proofs.YtodcohkblgjfeaaGreat
