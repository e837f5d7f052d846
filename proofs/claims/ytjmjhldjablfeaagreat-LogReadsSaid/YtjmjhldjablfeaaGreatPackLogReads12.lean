/- Texts of LogReads, packed. -/
import Derived.Test.YtjmjhldjablfeaaGreatPackLogReads11
set_option linter.unusedVariables false
set_option linter.unusedSimpArgs false
set_option maxRecDepth 100000
set_option maxHeartbeats 16000000
namespace Go.Proofs.YtjmjhldjablfeaaGreat
section
open Go.RowKit
attribute [local go_sem] Oper.semAt_some
structure Tl where
 at_ : Nat
 bs : List Int
 b1 : Nat
 b2 : Nat
def Tl.two (t : Tl) : Nat × List Int := (t.at_, t.bs)
def plV (seg : Nat) (gen : Int) (t : Tl) : PlM.Pl := ⟨(seg : Int), gen, (t.at_ : Int), kindOf t.bs, flagsOf t.bs, expOf t.bs, seqOf t.bs, some ⟨t.b1, 0, none⟩, klenOf t.bs, klenOf t.bs, some ⟨t.b2, 0, none⟩, vlenOf t.bs, vlenOf t.bs⟩
abbrev scanC (g u : Int) (v : Value) : Array Value := #[.int .u64 g, .int .i64 u, v]
theorem size_pl9 : (Tryz.prog.info? 40).map (·.size) = some 9 := by kernel_rfl
theorem size_adr9 : (Tryz.prog.info? 35).map (·.size) = some 3 := by kernel_rfl
section
variable {ops : Array Oper} {rest : List Oper} {o : Oper} {a : Act} {Q : Exit → Act → World → Prop} {w : World}
end
def sect9 (w : World) (g : Nat) : Nat := match w.cell? ⟨g, 1, none⟩ with
 | some (.int _ i) => i.toNat
 | _ => 0
theorem sect9_eq {w : World} {g : Nat} {x v : Value} {a : Nat} (h : Blk w g 42 #[x, .int .i64 a, v]) : sect9 w g = a := by
 unfold sect9
 rw [show w.cell? ⟨g, 1, none⟩ = some (.int .i64 a) from h.cell 1]
 rfl
structure ToldS (w : World) (m : Nat) (seg : Nat) (gen : Int) (A : Option Addr) (c : Nat) (ts : List Tl) : Prop where
 row : PlM.RowE w (fun b => m ≤ b ∧ b < w.heap.size) A ts.length (ts.map (plV seg gen))
 cap : ts.length ≤ c
 nil : A = none → c = 0
 ent : ∀ t, t ∈ ts → m ≤ t.b1 ∧ m ≤ t.b2 ∧ ArrU w t.b1 (keyOf t.bs) ∧ ArrU w t.b2 (valOf t.bs)
def ScanX (w : World) (X : Nat → Prop) (p d n : Nat) (s : Sup) (t : Int) (k : Dk) (seg : Nat) (xss : List (List Int)) (e : Ending) (w' : World) : Prop :=
 ∃ k' A c ts gen used m, e = .returned (.tuple #[.agg (scanC gen used (.slice A ts.length c)), .int .i64 0]) ∧ w.heap.size ≤ m ∧ StoS w' (fun b => X b ∨ (m ≤ b ∧ b < w'.heap.size)) p d n s t k' ∧ Good k' ∧ k'.held = k.held ∧ k'.pend = k.pend ∧ Kept X w w' ∧
  gen = begunG (ldV xss 0) seg ∧ (gen = 0 → used = 0 ∧ ts = []) ∧
  (gen ≠ 0 → used = (scanU xss gen xss.length 1 : Nat) ∧ ts.map Tl.two = scanL xss gen xss.length 1) ∧ ToldS w' m seg gen A c ts
def ScanT (w : World) (X : Nat → Prop) (p d n : Nat) (s : Sup) (t : Int) (k : Dk) (seg : Nat) : Ending → World → Prop := ScanX w X p d n s t k seg (secsAt (strV k s seg) 0 s.b.toNat)
section
variable {w : World} {X : Nat → Prop} {p d n : Nat} {s : Sup} {t : Int} {k : Dk}
theorem scan_good (h : StoS w X p d n s t k) (hX : ∀ b, X b → b < w.heap.size) (hma : s.May) (hg : Good k) (hok : k.Ok n) (seg : Nat) (hseg : (seg : Int) < s.a) (hroom : 2 + s.a * s.b ≤ (n : Int)) (hn : n ≤ 2048) :
 Calls Tryz.prog 10 #[.pointer (some ⟨p, 0, none⟩), .int .i64 seg] w (ScanT w X p d n s t k seg) := by
 have hs16 : s.a ≤ 16 ∧ 24 ≤ s.b ∧ s.b ≤ 64 := by have := hma; unfold Sup.May MayS at this; omega
 obtain ⟨cn, hcn⟩ : ∃ cn : Nat, s.b = cn := ⟨s.b.toNat, by omega⟩
 have HCN := hI hcn
 have hcn2 : 24 ≤ cn ∧ cn ≤ 64 := by omega
 clear hcn
 obtain ⟨w1, hw1⟩ : ∃ w1, w1 = w.alloc (.cells zeroS9 42) := ⟨_, rfl⟩
 have hb1 : Below w.heap.size w w1 := by rw [hw1]; exact (Below.refl _ _).alloc (nR _) _
 have HR1 := hI (show Blk w1 w.heap.size 42 zeroS9 by rw [hw1]; exact Blk.new w _ _)
 have HS1 := hI (show StoS w1 (fun b => X b ∨ (w.heap.size ≤ b ∧ b < w1.heap.size)) p d n s t k from StoreM.grow h hb1)
 have HB1 := hI hb1
 have HW1 := hI hw1
 have HX := hI hX
 have HMA := hI hma
 have HG := hI hg
 have HOK := hI hok
 clear hw1 hb1 h hX hma hg hok
 go_enter Tryz.func10, Tryz.ntmps10
 go_wp2_with fail
 go_step3
 rw [← HW1.out]
 go_wp2_with fail
 refine (sto_base HS1.out seg hseg hs16.1 (by omega)).mono ?_
 rintro e w2 ⟨rfl, rfl⟩
 go_wp2_with fail
 refine (stored_any HS1.out (fun b hb => hb.elim (fun h => nL (HX.out b h) HB1.out.size) (fun h => h.2)) seg).mono ?_
 rintro e w3 ⟨⟨gx, gi, rfl, hsm⟩, hb3⟩
 have HSM := hI hsm
 have HB3 := hI hb3
 clear hsm hb3
 go_wp2_with fail
 refine (get_any HSM.out.sto).mono ?_
 rintro e w4 ⟨rfl, hb4⟩
 have HSM := hI (HSM.out.grow hb4)
 have HB4 := hI hb4
 clear hb4
 have hfld := run_field1 s.a s.b s.g s.r s.v s.f w4
 go_wp2_with fail
 clear hfld
 rw [HCN.out]
 have HHC := hI (stored_held (p := p) (d := d) (t := t) (X0 := fun b => ((X b ∨ (w.heap.size ≤ b ∧ b < w2.heap.size)) ∨ (w2.heap.size ≤ b ∧ b < w3.heap.size)) ∨ (w3.heap.size ≤ b ∧ b < w4.heap.size)) HMA.out hseg hroom hn HOK.out w4.heap.size HSM.out.xx HSM.out.xi ⟨HSM.out.bx.lt, HSM.out.bi.lt⟩)
 refine (loaded_stored _ _ HHC.out ⟨HSM.out, HG.out, rfl, rfl⟩ cn (by omega)).mono ?_
 rintro e w5 (⟨gl, gr, rfl, hE, hld, hr, hk, hgl, hgr⟩ | ⟨j, hj, _, hne, _⟩)
 rotate_left
 ·exfalso
  unfold strE at hne
  rw [if_pos (by have := HCN.out; omega)] at hne
  exact hne rfl
 have hbw4 : Below w.heap.size w w4 := HB1.out.trans ((HB3.out.mono HB1.out.size).trans (HB4.out.mono (nT HB1.out.size HB3.out.size)))
 have HBW4 := hI hbw4
 have HK5 := hI (show Kept X w w5 from (Kept.of_below hbw4 HX.out).trans hk (fun b hb => .inl (.inl (.inl hb))))
 have HR5 := hI (show Blk w5 w.heap.size 42 zeroS9 from ((HR1.out.below HB3.out HR1.out.lt).below HB4.out (nL HR1.out.lt HB3.out.size)).kept hk (.inl (.inl (.inr ⟨nR _, HR1.out.lt⟩))))
 have HS5 := hI (show StoS w5 (fun b => X b ∨ b = w.heap.size) p d n s t _ from StoreM.kept (Z := fun _ => True) hr.1.sto (Kept.refl _ _) (fun _ _ _ => trivial) (fun b _ hb => hb.elim (fun h => .inl (.inl (.inl h))) (fun h => .inl (.inl (.inr (by rw [h]; exact ⟨nR _, HR1.out.lt⟩))))))
 have HG5 := hI hr.2
 have HLA5 := hI (show LdAll w5 gl gr cn (secsAt (strV k s seg) 0 cn) from by
  obtain ⟨b, off, e1, h2, h3⟩ := hld.row.2 (by omega)
  injection e1 with e1
  injection e1 with e2 e3
  subst e2 e3
  exact ⟨hld.v, ⟨hld.row.1, fun _ => ⟨gr, 0, rfl, rfl, h3⟩⟩, h2.1, secsAt_length _ _ _, secsAt_secs HHC.out.len _ _, secsAt_bytes HHC.out.byt _ _, by omega⟩)
 have HSZ5 := hI (show w.heap.size ≤ w5.heap.size ∧ w.heap.size < w5.heap.size from ⟨HK5.out.size, HR5.out.lt⟩)
 clear hE hld hr hk hgl hgr hbw4 HR1 HSM HHC HB1 HB3 HB4 HW1
 obtain ⟨xss, hxss⟩ : ∃ xss, secsAt (strV k s seg) 0 cn = xss := ⟨_, rfl⟩
 have HT := hI (show ∀ e w', ScanX w X p d n s t k seg xss e w' → ScanT w X p d n s t k seg e w' from fun e w' h => by
  unfold ScanT
  rw [show s.b.toNat = cn from by rw [HCN.out]; rfl, hxss]
  exact h)
 rw [hxss] at HLA5
 clear hxss
 generalize stR (fun k i => strK k s i) k 0 cn = k5 at *
 obtain ⟨w6, hw6⟩ : ∃ w6, w6 = w5.alloc (.cells zeroS9 42) := ⟨_, rfl⟩
 have hb6 : Below w5.heap.size w5 w6 := by rw [hw6]; exact (Below.refl _ _).alloc (nR _) _
 have HO6 := hI (show Blk w6 w5.heap.size 42 zeroS9 by rw [hw6]; exact Blk.new w5 _ _)
 have HB6 := hI hb6
 have HLA6 := hI (HLA5.out.below hb6)
 have HW6 := hI hw6
 clear hw6 hb6
 go_upto_region 8 with fail
 rw [← HW6.out]
 go_wp2_with fail
 refine (begun_all HLA6.out seg (by omega)).mono ?_
 rintro e w7 ⟨rfl, hb7⟩
 have HO7 := hI (HO6.out.below hb7 HO6.out.lt)
 have HLA7 := hI (HLA6.out.below hb7)
 have HB7 := hI (HB6.out.trans (hb7.mono HB6.out.size))
 clear hb7 HO6 HLA6 HB6
 obtain ⟨gen, hgen⟩ : ∃ gen, begunG (ldV xss 0) seg = gen := ⟨_, rfl⟩
 rw [hgen]
 have HGEN := hI hgen.symm
 clear hgen
 obtain ⟨ob, hob⟩ : ∃ ob, w5.heap.size = ob := ⟨_, rfl⟩
 rw [hob] at HO7
 rw [hob]
 have HOB := hI hob
 clear hob
 have o0 : w7.cell? ⟨ob, 0, none⟩ = some (.int .u64 0) := HO7.out.cell 0
 have f0 := HO7.out.frozen 0
 obtain ⟨w8, hw8⟩ : ∃ w8, w8 = w7.setCell ⟨ob, 0, none⟩ (.int .u64 gen) := ⟨_, rfl⟩
 have HO8 := hI (show Blk w8 ob 42 (scanC gen 0 (.slice none 0 0)) by rw [hw8]; exact HO7.out.set_ 0 (.int .u64 gen))
 have HB8 := hI (show Below w5.heap.size w5 w8 by rw [hw8]; exact HB7.out.setCell (p := ⟨ob, 0, none⟩) (by have := HOB.out; show w5.heap.size ≤ ob; omega) (.int .u64 gen))
 have HLA8 := hI (HLA5.out.below HB8.out)
 have HW8 := hI hw8.symm
 clear hw8 HLA7 HB7
 go_upto_region 9 with fail
 rw [HW8.out]
 clear o0 f0 HO7 HW8
 have HR8 := hI (HR5.out.below HB8.out HR5.out.lt)
 have HFIN := hI (show ∀ (W : World) (c6 : Array Value), Below w5.heap.size w5 W → ∃ k', StoS (W.setRow w.heap.size c6) (fun b => X b ∨ (w5.heap.size ≤ b ∧ b < (W.setRow w.heap.size c6).heap.size)) p d n s t k' ∧ Good k' ∧ (k'.held = k.held ∧ k'.pend = k.pend) ∧ Kept X w (W.setRow w.heap.size c6) from fun W c6 hW => by
  have hkr : Kept (fun b => b ≠ w.heap.size) W (W.setRow w.heap.size c6) := (Kept.refl _ W).setRow (fun h => h rfl) c6
  refine ⟨k5, ?_, HG5.out.1, HG5.out.2, (HK5.out.trans (Kept.of_below (S := X) hW (fun b h => by have := HX.out b h; have := HSZ5.out; omega)) (fun b h => h)).trans hkr (fun b h => by have := HX.out b h; omega)⟩
  have h1 := StoreM.grow HS5.out hW
  refine StoreM.kept (Z := fun b => b ≠ w.heap.size) h1 hkr (fun b hb hx e => hx (.inl (.inr e))) (fun b hb hx => ?_)
  rcases hx with hx | hx
  ·exact .inl (.inl hx)
  ·exact .inr ⟨hx.1, hb⟩)
 by_cases hg0 : gen = 0
 ·subst hg0
  have o0 : w8.cell? ⟨ob, 0, none⟩ = some (.int .u64 0) := HO8.out.cell 0
  go_wp2_with (first | (with_reducible refine halt_end ?_) | (refine wpList_load_rowB (.tmp 10) 42 rfl rfl ob rfl 42 (scanC 0 0 (.slice none 0 0)).toList _ Tryz.underlying42 rfl size_scan HO8.out ?_) | (refine wpList_store_rowB (.tmp 4) (.tmp 46) 42 rfl rfl w.heap.size zeroS9 rfl rfl 42 _ HR8.out size_scan rfl one_zeroS9 ?_))
  rw [Exit.noGoto_ret]
  obtain ⟨k', g1, g2, g3, g4⟩ := HFIN.out w8 zeroS9 HB8.out
  exact bodyPost_ret (results_row2 rfl _ _ w.heap.size 42 zeroS9 _ rfl (setRow_heap _ _ _ zeroS9 _ _ HR8.out) Tryz.underlying42 rfl size_scan) rfl (HT.out _ _ ⟨k', none, 0, [], 0, 0, _, rfl, HSZ5.out.1, g1, g2, g3.1, g3.2, g4, HGEN.out, fun _ => ⟨rfl, rfl⟩, fun h => absurd rfl h, ⟨⟨rfl, fun h => absurd h (by simp)⟩, nR _, fun _ => rfl, fun t ht => by simp at ht⟩⟩)
 ·have hg0b : (gen == 0) = false := by simpa using hg0
  have o0 : w8.cell? ⟨ob, 0, none⟩ = some (.int .u64 gen) := HO8.out.cell 0
  have o1 : w8.cell? ⟨ob, 1, none⟩ = some (.int .i64 0) := HO8.out.cell 1
  have f1 := HO8.out.frozen 1
  obtain ⟨w9, hw9⟩ : ∃ w9, w9 = w8.setCell ⟨ob, 1, none⟩ (.int .i64 1) := ⟨_, rfl⟩
  have HO9 := hI (show Blk w9 ob 42 (scanC gen 1 (.slice none 0 0)) by rw [hw9]; exact HO8.out.set_ 1 (.int .i64 1))
  have HB9 := hI (show Below w5.heap.size w5 w9 by rw [hw9]; exact HB8.out.setCell (p := ⟨ob, 1, none⟩) (by have := HOB.out; show w5.heap.size ≤ ob; omega) (.int .i64 1))
  have HW9 := hI hw9.symm
  clear hw9
  go_wp2_with fail
  rw [HW9.out]
  clear o0 o1 f1 HO8 HB8 HLA8 HR8 HW9 hg0b
  have HLN := hI HLA5.out.len
  go_step3
  go_wp2_with fail
  go_loopw [48] (fun _ W => ∃ (at_ f : Nat) (v : Value) (ts : List Tl), Blk W ob 42 (scanC gen at_ v) ∧ W.ownsRow w5.heap.size 40 9 v ts.length (PlM.flatG (ts.map (plV seg gen))) ∧ Below w5.heap.size w5 W ∧
   (ts.map Tl.two ++ scanL xss gen f at_ = scanL xss gen xss.length 1 ∧ scanU xss gen f at_ = scanU xss gen xss.length 1) ∧ (1 ≤ at_ ∧ at_ ≤ xss.length ∧ xss.length ≤ at_ + f ∧ ts.length ≤ at_) ∧
   ∀ t, t ∈ ts → w5.heap.size ≤ t.b1 ∧ w5.heap.size ≤ t.b2 ∧ ArrU W t.b1 (keyOf t.bs) ∧ ArrU W t.b2 (valOf t.bs)) (fun _ W => cn - sect9 W ob)
  case atStart => exact ⟨1, xss.length, _, [], HO9.out, ⟨rfl, .inl ⟨rfl, rfl⟩⟩, HB9.out, ⟨rfl, rfl⟩, by have := HLN.out; simp only [List.length_nil]; omega, fun t ht => by simp at ht⟩
  case round =>
  clear HO9 HB9
  obtain ⟨at_, f, v, ts, ho, hown, hb, hsc, hin, hent⟩ := hrel
  have HO := hI ho
  have HOW := hI hown
  have HB := hI hb
  have HSC := hI hsc
  have HIN := hI hin
  have HEN := hI hent
  have HAT := hI (sect9_eq HO.out)
  have hat := HIN.out
  have hln := HLN.out
  have HST := hI (stand_all9 (HLA5.out.below HB.out) gen at_ (by omega))
  have o0 : wr.cell? ⟨ob, 0, none⟩ = some (.int .u64 gen) := HO.out.cell 0
  have o1 : wr.cell? ⟨ob, 1, none⟩ = some (.int .i64 at_) := HO.out.cell 1
  clear ho hown hb hsc hin hent hat hln
  go_wp2_with fail
  refine HST.out.mono ?_
  rintro e w10 ⟨hb10, hst⟩
  clear o0 o1 HST
  rcases hst with ⟨hne, rfl⟩ | ⟨he0, xs, b1, b2, hxs, rfl, hb1, hb2, hbb, ha1, ha2⟩
  ·-- none stands there: what was found is told
   obtain ⟨se, hse⟩ : ∃ se, standE (ldV xss) (ldE xss) gen at_ = se := ⟨_, rfl⟩
   have HSE := hI hse
   rw [hse] at hne ⊢
   have hneb : (se == 0) = false := by simpa using hne
   have HNE := hI hne
   clear hse hne
   obtain ⟨w11, hw11⟩ : ∃ w11, w11 = (w10.alloc (.cells zeroC 33)).setRow w10.heap.size zeroC := ⟨_, rfl⟩
   have hb11 : Below w10.heap.size w10 w11 := by rw [hw11]; exact below_setRow ((Below.refl _ _).alloc (nR _) _) (nR _) _
   have hb11w : Below wr.heap.size wr w11 := hb10.trans (hb11.mono hb10.size)
   have HO11 := hI (HO.out.below hb11w HO.out.lt)
   have HB11 := hI (HB.out.trans (hb11w.mono HB.out.size))
   have HR11 := hI (HR5.out.below HB11.out HR5.out.lt)
   have HOW11 := hI (own_below HOW.out hb11w)
   have HEN11 := hI (fun t (ht : t ∈ ts) => by
    obtain ⟨g1, g2, g3, g4⟩ := HEN.out t ht
    exact (show w5.heap.size ≤ t.b1 ∧ w5.heap.size ≤ t.b2 ∧ ArrU w11 t.b1 (keyOf t.bs) ∧ ArrU w11 t.b2 (valOf t.bs) from ⟨g1, g2, Blk.below g3 hb11w (Blk.lt g3), Blk.below g4 hb11w (Blk.lt g4)⟩))
   have HW11 := hI hw11.symm
   clear hb10 hb11 hb11w hw11
   obtain ⟨A, cap, rfl, hcap, hnil, hrow⟩ := PlM.rowZ_own HOW11.out rfl (by simp)
   have HROW := hI (And.intro hcap (And.intro hnil hrow))
   clear hcap hnil hrow
   go_wp2_with (first
    | (with_reducible refine halt_end ?_)
    | (refine wpList_store_rowB (.tmp 11) (.tmp 55) 33 rfl rfl w10.heap.size zeroC rfl rfl 33 _ (Blk.new w10 _ _) size_rec rfl one_zero ?_; rw [HW11.out])
    | (refine wpList_load_rowB (.tmp 10) 42 rfl rfl ob rfl 42 (scanC gen at_ (.slice A ts.length cap)).toList _ Tryz.underlying42 rfl size_scan HO11.out ?_)
    | (refine wpList_store_rowB (.tmp 4) (.tmp 80) 42 rfl rfl w.heap.size (scanC gen at_ (.slice A ts.length cap)) rfl rfl 42 _ HR11.out size_scan rfl (by simp [Value.oneCell']) ?_))
   rw [Exit.noGoto_ret]
   obtain ⟨k', g1, g2, g3, g4⟩ := HFIN.out w11 (scanC gen at_ (.slice A ts.length cap)) HB11.out
   have hkr : Kept (fun b => b ≠ w.heap.size) w11 (w11.setRow w.heap.size (scanC gen at_ (.slice A ts.length cap))) := (Kept.refl _ _).setRow (fun h => h rfl) _
   have hszs : w11.heap.size ≤ (w11.setRow w.heap.size (scanC gen at_ (.slice A ts.length cap))).heap.size := hkr.size
   have hw5 := HSZ5.out.2
   have hst : standE (ldV xss) (ldE xss) gen at_ ≠ 0 := by rw [HSE.out]; exact HNE.out
   refine bodyPost_ret (results_row2 rfl _ _ w.heap.size 42 (scanC gen at_ (.slice A ts.length cap)) _ rfl (setRow_heap _ _ _ _ _ _ HR11.out) Tryz.underlying42 rfl size_scan) rfl (HT.out _ _ ⟨k', A, cap, ts, gen, at_, _, rfl, HSZ5.out.1, g1, g2, g3.1, g3.2, g4, HGEN.out, fun h => absurd h hg0, fun _ => ⟨?_, ?_⟩, ⟨?_, HROW.out.1, HROW.out.2.1, fun t ht => ?_⟩⟩)
   ·rw [← HSC.out.2, scanU_end hst]
   ·rw [← HSC.out.1, scanL_end hst, List.append_nil]
   ·exact (HROW.out.2.2.kept hkr (fun b hb => by omega)).more (fun b hb => ⟨hb.1, nL hb.2 hszs⟩)
   ·obtain ⟨g5, g6, g7, g8⟩ := HEN11.out t ht
    exact ⟨g5, g6, Blk.kept g7 hkr (by omega), Blk.kept g8 hkr (by omega)⟩
  ·-- one stands there
   have hin2 := stand_in he0
   obtain ⟨cc, hcc⟩ : ∃ cc, beginsN (ldV xss at_) gen at_ = cc := ⟨_, rfl⟩
   have HE0 := hI he0
   have HCC := hI hcc
   have HXS := hI hxs
   rw [hcc] at hin2 ⊢
   have HIN2 := hI hin2
   have HBB := hI (And.intro hb1 hb2)
   clear hxs hcc he0 hbb
   obtain ⟨w11, hw11⟩ : ∃ w11, w11 = (w10.alloc (.cells zeroC 33)).setRow w10.heap.size (recT9 xs b1 b2) := ⟨_, rfl⟩
   have hb11 : Below w10.heap.size w10 w11 := by rw [hw11]; exact below_setRow ((Below.refl _ _).alloc (nR _) _) (nR _) _
   have HRC11 := hI (show Blk w11 w10.heap.size 33 (recT9 xs b1 b2) by rw [hw11]; exact setRow_heap _ _ _ _ _ _ (Blk.new w10 _ _))
   have HW11 := hI hw11.symm
   obtain ⟨w12, hw12⟩ : ∃ w12, w12 = w11.alloc (.cells #[.int .i64 (seg : Nat), .int .u64 gen, .int .i64 at_] 35) := ⟨_, rfl⟩
   have hb12 : Below w11.heap.size w11 w12 := by rw [hw12]; exact (Below.refl _ _).alloc (nR _) _
   have HAD12 := hI (show Blk w12 w11.heap.size 35 #[.int .i64 (seg : Nat), .int .u64 gen, .int .i64 at_] by rw [hw12]; exact Blk.new w11 _ _)
   have HRC12 := hI (HRC11.out.below hb12 HRC11.out.lt)
   have HW12 := hI hw12.symm
   obtain ⟨w13, hw13⟩ : ∃ w13, w13 = w12.alloc (.cells #[.int .i64 (seg : Nat), .int .u64 gen, .int .i64 at_, .int .i64 (kindOf xs), .int .u32 (flagsOf xs), .int .u32 (expOf xs), .int .u64 (seqOf xs), .slice (some ⟨b1, 0, none⟩) (klenOf xs) (klenOf xs), .slice (some ⟨b2, 0, none⟩) (vlenOf xs) (vlenOf xs)] 40) := ⟨_, rfl⟩
   have hb13 : Below w12.heap.size w12 w13 := by rw [hw13]; exact (Below.refl _ _).alloc (nR _) _
   have HL13 := hI (show PlM.RowE w13 (fun _ => True) (some ⟨w12.heap.size, 0, none⟩) 1 [plV seg gen ⟨at_, xs, b1, b2⟩] from PlM.row_of_flat (X := []) (g := w12.heap.size) (t := 40) (by rw [hw13, List.append_nil, PlM.flatG_one]; exact Blk.new w12 _ _) trivial rfl)
   have HW13 := hI hw13.symm
   have hbr11 : Below wr.heap.size wr w11 := hb10.trans (hb11.mono hb10.size)
   have hbr12 : Below wr.heap.size wr w12 := hbr11.trans (hb12.mono hbr11.size)
   have hbr13 : Below wr.heap.size wr w13 := hbr12.trans (hb13.mono hbr12.size)
   have hb10_13 : Below w10.heap.size w10 w13 := hb11.trans ((hb12.mono hb11.size).trans (hb13.mono (nT hb11.size hb12.size)))
   have HO11 := hI (HO.out.below hbr11 HO.out.lt)
   have HO12 := hI (HO.out.below hbr12 HO.out.lt)
   have HO13 := hI (HO.out.below hbr13 HO.out.lt)
   have HB13 := hI (HB.out.trans (hbr13.mono HB.out.size))
   have HOW13 := hI (own_below HOW.out hbr13)
   have HEN13 := hI (show ∀ t, t ∈ ts ++ [⟨at_, xs, b1, b2⟩] → w5.heap.size ≤ t.b1 ∧ w5.heap.size ≤ t.b2 ∧ ArrU w13 t.b1 (keyOf t.bs) ∧ ArrU w13 t.b2 (valOf t.bs) from fun t ht => by
    rcases List.mem_append.1 ht with ht | ht
    ·obtain ⟨g1, g2, g3, g4⟩ := HEN.out t ht
     exact ⟨g1, g2, Blk.below g3 hbr13 (Blk.lt g3), Blk.below g4 hbr13 (Blk.lt g4)⟩
    ·rw [List.mem_singleton.1 ht]
     exact ⟨nT HB.out.size hb1, nT HB.out.size hb2, Blk.below ha1 hb10_13 (Blk.lt ha1), Blk.below ha2 hb10_13 (Blk.lt ha2)⟩)
   have o0 : w11.cell? ⟨ob, 0, none⟩ = some (.int .u64 gen) := HO11.out.cell 0
   have o1 : w11.cell? ⟨ob, 1, none⟩ = some (.int .i64 at_) := HO11.out.cell 1
   have o2 : w12.cell? ⟨ob, 2, none⟩ = some v := HO12.out.cell 2
   clear hb1 hb2 ha1 ha2 hb10 hb11 hw11 hb12 hw12 hb13 hw13 hbr11 hbr12 hbr13 hb10_13 HOW HEN HO
   go_upto_region 16 with (refine wpList_store_rowB (.tmp 11) (.tmp 55) 33 rfl rfl w10.heap.size (recT9 xs b1 b2) rfl rfl 33 _ (Blk.new w10 _ _) size_rec rfl (one_rec _ _ _ _ _ _ _ _ _ _) ?_; rw [HW11.out])
   rw [HW12.out]
   clear o0 o1
   have HTL := hI (show ts.length + 1 ≤ 1000000 by have h1 := HIN.out; have h2 := HLN.out; omega)
   go_upto_region 17 with (first
    | (refine wpList_load_rowB (.tmp 14) 35 rfl rfl w11.heap.size rfl 35 [.int .i64 (seg : Nat), .int .u64 gen, .int .i64 at_] _ Tryz.underlying35 rfl size_adr9 HAD12.out ?_)
    | (refine wpList_load_rowB (.tmp 11) 33 rfl rfl w10.heap.size rfl 33 (recT9 xs b1 b2).toList _ Tryz.underlying33 rfl size_rec HRC12.out ?_)
    | (rw [HW13.out]; refine PlM.wpList_append_rowZ (.tmp 68) (.tmp 72) rfl rfl w5.heap.size v ts.length _ rfl HOW13.out _ _ 1 1 [plV seg gen ⟨at_, xs, b1, b2⟩] rfl HL13.out (fun h => by cases h) HTL.out HB13.out.size ?_; intro v14 w14 hown hgrow hv14; obtain ⟨A14, c14, rfl⟩ := ownsRow_slice hown; have HO14 := hI (blk_past HO13.out HOW13.out (by decide) hgrow); have q14 : w14.cell? ⟨ob, 2, none⟩ = some v := HO14.out.cell 2; have f14 := HO14.out.frozen 2))
   clear o2 q14 f14
   have HB14 := hI (below_append HB13.out HOW13.out (nR _) HB13.out.size hgrow)
   have HEN14 := hI (show ∀ t, t ∈ ts ++ [⟨at_, xs, b1, b2⟩] → w5.heap.size ≤ t.b1 ∧ w5.heap.size ≤ t.b2 ∧ ArrU w14 t.b1 (keyOf t.bs) ∧ ArrU w14 t.b2 (valOf t.bs) from fun t ht => by
    obtain ⟨g1, g2, g3, g4⟩ := HEN13.out t ht
    exact ⟨g1, g2, blk_past g3 HOW13.out (by decide) hgrow, blk_past g4 HOW13.out (by decide) hgrow⟩)
   obtain ⟨w15, hw15⟩ : ∃ w15, w15 = w14.setCell ⟨ob, 2, none⟩ (.slice A14 (ts.length + 1) c14) := ⟨_, rfl⟩
   have hk15 : Kept (fun b => b ≠ ob) w14 w15 := by rw [hw15]; exact (Kept.refl _ _).setCell (p := ⟨ob, 2, none⟩) (fun h => h rfl) _
   have HO15 := hI (show Blk w15 ob 42 (scanC gen at_ (.slice A14 (ts.length + 1) c14)) by rw [hw15]; exact HO14.out.set_ 2 (.slice A14 (ts.length + 1) c14))
   have HOW15 := hI (show w15.ownsRow w5.heap.size 40 9 (.slice A14 (ts.length + 1) c14) (ts.length + 1) _ by rw [hw15]; exact own_past hown HO14.out (by decide) 2 (.slice A14 (ts.length + 1) c14))
   have HEN15 := hI (show ∀ t, t ∈ ts ++ [⟨at_, xs, b1, b2⟩] → w5.heap.size ≤ t.b1 ∧ w5.heap.size ≤ t.b2 ∧ ArrU w15 t.b1 (keyOf t.bs) ∧ ArrU w15 t.b2 (valOf t.bs) from fun t ht => by
    obtain ⟨g1, g2, g3, g4⟩ := HEN14.out t ht
    have e1 : ArrU w14 t.b1 (keyOf t.bs) := g3
    have e2 : ArrU w14 t.b2 (valOf t.bs) := g4
    exact ⟨g1, g2, Blk.kept e1 hk15 (Blk.ne_ e1 HO14.out (by decide)), Blk.kept e2 hk15 (Blk.ne_ e2 HO14.out (by decide))⟩)
   have HB15 := hI (show Below w5.heap.size w5 w15 by rw [hw15]; exact HB14.out.setCell (p := ⟨ob, 2, none⟩) (by have := HOB.out; show w5.heap.size ≤ ob; omega) (.slice A14 (ts.length + 1) c14))
   have HW15 := hI hw15.symm
   rw [HW15.out]
   clear hw15 hk15 hown hgrow hv14
   have o1 : w15.cell? ⟨ob, 1, none⟩ = some (.int .i64 at_) := HO15.out.cell 1
   have f1 := HO15.out.frozen 1
   have HO16 := hI (show Blk (w15.setCell ⟨ob, 1, none⟩ (.int .i64 ((at_ : Int) + cc))) ob 42 (scanC gen ((at_ + cc : Nat) : Int) (.slice A14 (ts.length + 1) c14)) from HO15.out.set_ 1 (.int .i64 ((at_ + cc : Nat) : Int)))
   have HOW16 := hI (own_past HOW15.out HO15.out (by decide) 1 (.int .i64 ((at_ : Int) + cc)))
   have hk16 : Kept (fun b => b ≠ ob) w15 (w15.setCell ⟨ob, 1, none⟩ (.int .i64 ((at_ : Int) + cc))) := (Kept.refl _ _).setCell (p := ⟨ob, 1, none⟩) (fun h => h rfl) _
   have HEN16 := hI (show ∀ t, t ∈ ts ++ [⟨at_, xs, b1, b2⟩] → w5.heap.size ≤ t.b1 ∧ w5.heap.size ≤ t.b2 ∧ ArrU (w15.setCell ⟨ob, 1, none⟩ (.int .i64 ((at_ : Int) + cc))) t.b1 (keyOf t.bs) ∧ ArrU (w15.setCell ⟨ob, 1, none⟩ (.int .i64 ((at_ : Int) + cc))) t.b2 (valOf t.bs) from fun t ht => by
    obtain ⟨g1, g2, g3, g4⟩ := HEN15.out t ht
    have e1 : ArrU w15 t.b1 (keyOf t.bs) := g3
    have e2 : ArrU w15 t.b2 (valOf t.bs) := g4
    exact ⟨g1, g2, Blk.kept e1 hk16 (Blk.ne_ e1 HO15.out (by decide)), Blk.kept e2 hk16 (Blk.ne_ e2 HO15.out (by decide))⟩)
   have HB16 := hI (HB15.out.setCell (p := ⟨ob, 1, none⟩) (by have := HOB.out; show w5.heap.size ≤ ob; omega) (.int .i64 ((at_ : Int) + cc)))
   clear hk16
   have hin := HIN.out
   have hin2 := HIN2.out
   have hln := HLN.out
   have hf1 : 1 ≤ f := by omega
   obtain ⟨f', rfl⟩ := Nat.exists_eq_add_of_le' hf1
   clear hf1
   have HNX := hI (show 1 ≤ at_ + cc ∧ at_ + cc ≤ xss.length ∧ xss.length ≤ at_ + cc + f' ∧ (ts ++ [(⟨at_, xs, b1, b2⟩ : Tl)]).length ≤ at_ + cc by simp only [List.length_append, List.length_cons, List.length_nil]; omega)
   have HME := hI (show cn - (at_ + cc) < cn - at_ by omega)
   have hwr : wrap64 ((at_ : Int) + cc) = (at_ : Int) + cc := IntWalk.wrap64_in _ (by omega)
   go_wp2_with fail
   have hL : scanL xss gen (f' + 1) at_ = (at_, xs) :: scanL xss gen f' (at_ + cc) := by rw [scanL, if_pos HE0.out, HXS.out, HCC.out]
   have hU : scanU xss gen (f' + 1) at_ = scanU xss gen f' (at_ + cc) := by rw [scanU, if_pos HE0.out, HCC.out]
   have h1 := HSC.out.1
   have h2 := HSC.out.2
   rw [hL] at h1
   rw [hU] at h2
   go_roundw
   case rel =>
    refine ⟨at_ + cc, f', _, ts ++ [⟨at_, xs, b1, b2⟩], HO16.out, ?_, HB16.out, ⟨?_, h2⟩, ?_, HEN16.out⟩
    ·have h9 := HOW16.out
     rw [show (ts ++ [(⟨at_, xs, b1, b2⟩ : Tl)]).length = ts.length + 1 by simp, List.map_append, PlM.flatG_append]
     exact h9
    ·rw [List.map_append, List.append_assoc]
     exact h1
    ·exact HNX.out
   case measure =>
    rw [HAT.out, sect9_eq HO16.out]
    exact HME.out
end
end
end Go.Proofs.YtjmjhldjablfeaaGreat
