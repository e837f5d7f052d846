/- Texts of StoreApart, packed. -/
import Derived.Test.YtknfblfnfoibkaaGreatPackStoreApart14
import Derived.OwnWalk
import Derived.Great.BuildSlice
import Derived.Laws.CopyRow
import Derived.Deep.Slices
import Derived.Deep.Fields
import Derived.ChangeSame
import Derived.Lib.SmallJoins
import Derived.Lib.SlBytesConst
import Derived.Shelf.Bits.Mul64
import Derived.Lib.MakeNoZero
import Derived.Laws.CopyOwn
import Derived.Laws.Externs
set_option linter.unusedVariables false
set_option linter.unusedSimpArgs false
set_option maxRecDepth 100000
set_option maxHeartbeats 16000000
namespace Go.Proofs.YtknfblfnfoibkaaGreat
section
open Go.RowKit
attribute [local go_sem] Oper.semAt_some
def mayF (us b : List Int) : Bool := allSet (bitsOf b) (nums4 (fnv start us) b)
def mayS (bl : List (List Int)) (us : List Int) : Bool := bl.any (mayF us)
theorem mayS_yes {bl : List (List Int)} {us : List Int} {j : Nat} (hj : j < bl.length) (h : mayF us (bl.getD j []) = true) : mayS bl us = true := by
 unfold mayS
 rw [List.any_eq_true]
 refine ⟨bl.getD j [], ?_, h⟩
 simp [List.getD, hj]
theorem mayS_no {bl : List (List Int)} {us : List Int} (h : ∀ t, t < bl.length → mayF us (bl.getD t []) = false) : mayS bl us = false := by
 unfold mayS
 rw [List.any_eq_false]
 intro x hx
 obtain ⟨t, ht, rfl⟩ := List.mem_iff_getElem.1 hx
 have := h t ht
 simp only [List.getD, List.getElem?_eq_getElem ht, Option.getD_some] at this
 rw [this]; decide
section
variable {w w' : World} {X Y : Nat → Prop} {B : StB} {slots : Nat} {s : Sup} {xs : List Seg} {st : List EntS} {bl : List (List Int)} {u : Bool} {A : Option Addr} {m c : Nat} {us : List Int} {F : Nat} {fs : List (Nat × Nat)}
theorem may1_any {f h g5 : Nat} {b : List Int} {hh : Int} (H : Filt w f h b) (h0 : 0 ≤ hh) (h5 : Blk w g5 34 #[.int .u64 hh]) :
 Calls Tryz.prog 81 #[.pointer (some ⟨f, 0, none⟩), .pointer (some ⟨g5, 0, none⟩)] w fun e w' => e = .returned (.bool (allSet (bitsOf b) (nums4 hh b))) ∧ Below w.heap.size w w' := by
 have HM := hI (may_any_b w f h b hh H h0)
 have c5 : w.cell? ⟨g5, 0, none⟩ = some (.int .u64 hh) := h5.cell 0
 clear H h5
 go_enter Tryz.func81, Tryz.ntmps81
 go_wp2_with fail
 refine HM.out.mono ?_
 rintro e w2 ⟨rfl, hb⟩
 have HB := hI hb
 clear hb
 go_wp2_with fail
 go_ret
 exact ⟨rfl, HB.out⟩
theorem indexF_any {g5 : Nat} (hF : FilM w F fs bl) (hN : fs.length ≤ 16) (h5 : Blk w g5 34 #[.int .u64 (fnv start us)]) (c : Nat) :
 Calls Tryz.prog 143 #[.slice (some ⟨F, 0, none⟩) fs.length c, .func (.func 81) #[] #[.pointer (some ⟨g5, 0, none⟩)]] w fun e w' => (∃ r : Int, e = .returned (.int .i64 r) ∧ (decide (0 ≤ r) = mayS bl us)) ∧ Below w.heap.size w w' := by
 have HF := hI hF
 have H5 := hI h5
 have HN := hI hN
 have hlen := hF.len
 have HLN := hI hlen
 obtain ⟨cs, hc1, hc2⟩ := hF.row
 have HC1 := hI hc1
 have HC2 := hI hc2
 have h0 := (fnv_bounds start us (by decide)).1
 have H0 := hI h0
 obtain ⟨n, hn⟩ : ∃ n, fs.length = n := ⟨_, rfl⟩
 rw [hn] at HN HLN ⊢
 have HNN := hI hn
 clear hF h5 hN hlen hc1 hc2 h0 hn
 go_enter Tryz.func143, Tryz.ntmps143
 go_wp2_with fail
 go_loopw [8] (fun i wr => ∃ j : Nat, i = .int .i64 j ∧ j ≤ n ∧ Below w.heap.size w wr ∧ ∀ t, t < j → mayF us (bl.getD t []) = false) (fun i _ => n - (intOf i).toNat)
 case atStart => exact ⟨0, rfl, Nat.zero_le _, Below.refl _ _, fun t ht => absurd ht (by omega)⟩
 case round =>
  obtain ⟨j, rfl, hj, hB, hno⟩ := hrel
  have HNO := hI hno
  have HB := hI hB
  clear hno hB
  by_cases hjn : j < n
  ·obtain ⟨f, hf⟩ : ∃ f, fs[j]? = some f := ⟨_, List.getElem?_eq_getElem (by rw [HNN.out]; exact hjn)⟩
   have c0 : wr.cell? ⟨F, j, none⟩ = some (.pointer (some ⟨f.1, 0, none⟩)) := by
    have h9 := (HC1.out.below HB.out HC1.out.lt).cell j
    rw [HC2.out j f hf] at h9
    exact h9
   have HCALL := hI (may1_any ((HF.out.fil j f hf).belowAll HB.out) H0.out (H5.out.below HB.out H5.out.lt))
   clear hf
   obtain ⟨b, hb⟩ : ∃ b, mayF us (bl.getD j []) = b := ⟨_, rfl⟩
   have hb2 : allSet (bitsOf (bl.getD j [])) (nums4 (fnv start us) (bl.getD j [])) = b := hb
   rw [hb2] at HCALL
   have HV := hI hb
   have HJ := hI hjn
   clear hb hb2
   have h16 := HN.out
   cases b with
   | true =>
    go_wp2_with fail
    refine HCALL.out.mono ?_
    rintro e w2 ⟨rfl, hb2⟩
    go_wp2_with fail
    go_ret
    refine ⟨⟨j, rfl, ?_⟩, HB.out.trans (hb2.mono HB.out.size)⟩
    rw [mayS_yes (j := j) (by have := HLN.out; omega) HV.out]
    simp
   | false =>
    go_wp2_with fail
    refine HCALL.out.mono ?_
    rintro e w2 ⟨rfl, hb2⟩
    go_wp2_with fail
    go_roundw
    case rel =>
     refine ⟨j + 1, by simp, by omega, HB.out.trans (hb2.mono HB.out.size), fun t ht => ?_⟩
     by_cases e : t = j
     ·rw [e, HV.out]
     ·exact HNO.out t (by omega)
    case measure => show n - (Int.toNat ((j : Int) + 1)) < n - (Int.toNat (j : Int)); omega
  ·obtain rfl : j = n := by omega
   go_wp2_with fail
   go_ret
   refine ⟨⟨-1, rfl, ?_⟩, HB.out⟩
   rw [mayS_no (fun t ht => HNO.out t (by have := HLN.out; omega))]
   decide
theorem containsF_any {g5 : Nat} (hF : FilM w F fs bl) (hN : fs.length ≤ 16) (h5 : Blk w g5 34 #[.int .u64 (fnv start us)]) (c : Nat) :
 Calls Tryz.prog 80 #[.slice (some ⟨F, 0, none⟩) fs.length c, .func (.func 81) #[] #[.pointer (some ⟨g5, 0, none⟩)]] w fun e w' => e = .returned (.bool (mayS bl us)) ∧ Below w.heap.size w w' := by
 have HI := hI (indexF_any hF hN h5 c)
 clear hF hN h5
 go_enter Tryz.func80, Tryz.ntmps80
 go_wp2_with fail
 refine HI.out.mono ?_
 rintro e w2 ⟨⟨r, rfl, hr⟩, hb⟩
 have HB := hI hb
 clear hb
 cases hv : mayS bl us with
 | true =>
  rw [hv] at hr
  have HV := hI hv
  clear hv
  go_wp2_with fail
  go_ret
  exact ⟨ret_bool HV.out.symm, HB.out⟩
 | false =>
  rw [hv] at hr
  have HV := hI hv
  clear hv
  go_wp2_with fail
  go_ret
  exact ⟨ret_bool HV.out.symm, HB.out⟩
theorem may_s14 (h : StoM2 w X B slots s xs st bl u) (hN : bl.length ≤ 16) (hk : RowI .u8 w (· < w.heap.size) A m us) (hb : Bytes us) (hm : m ≤ 1000000) :
 Calls Tryz.prog 23 #[.pointer (some ⟨B.q, 0, none⟩), .slice A m c] w fun e w' => e = .returned (.bool (mayS bl us)) ∧ Below w.heap.size w w' := by
 have HM := hI h
 have HNN := hI hN
 have HH := hI (hash_any A m c us w.heap.size w hk.toRow hb (by omega))
 clear h hk hb hm hN
 go_enter Tryz.func23, Tryz.ntmps23
 go_wp2_with fail
 refine HH.out.mono ?_
 rintro e w1 ⟨rfl, rfl⟩
 obtain ⟨w2, hw2⟩ : ∃ w2, w2 = w.alloc (.cells #[.int .u64 (fnv start us)] 34) := ⟨_, rfl⟩
 have hb2 : Below w.heap.size w w2 := by rw [hw2]; exact (Below.refl _ _).alloc (nR _) _
 have H5 := hI (show Blk w2 w.heap.size 34 #[.int .u64 (fnv start us)] by rw [hw2]; exact Blk.new w _ _)
 have HM2 := hI (HM.out.below hb2)
 have HB2 := hI hb2
 have HW2 := hI hw2
 clear hb2 hw2 HH
 have hmf : ∀ (fn : Fn) (first cap : Array Value) (w : World), (Instr.makeFunc fn first cap).run Tryz.prog w = .ok (.func fn first cap) w := fun _ _ _ _ => rfl
 go_upto_region 4 with fail
 rw [← HW2.out]
 have q2 := HM2.out.cells.2.2.1
 have HIX := hI (containsF_any (us := us) HM2.out.fm (by rw [HM2.out.fm.len]; exact HNN.out) H5.out B.c)
 go_wp2_with fail
 refine HIX.out.mono ?_
 rintro e w3 ⟨rfl, hb3⟩
 have HB3 := hI (HB2.out.trans (hb3.mono HB2.out.size))
 clear hb3 q2 HIX
 go_wp2_with fail
 go_ret
 exact ⟨rfl, HB3.out⟩
end
end
section
open Go.RowKit
def wb1 : List Int := recB 1 0 0 1 [107, 97] [120]
def wb2 : List Int := recB 2 0 0 2 [107, 97] []
theorem wb1_key : keyOf wb1 = [107, 97] := by decide +kernel
theorem wb1_val : valOf wb1 = [120] := by decide +kernel
theorem wb1_seq : seqOf wb1 = 1 := by decide +kernel
theorem wb1_exp : expOf wb1 = 0 := by decide +kernel
theorem wb1_vlen : vlenOf wb1 = 1 := by decide +kernel
theorem wb1_cnt : cntOf wb1.length = 1 := by decide +kernel
theorem wb2_cnt : cntOf wb2.length = 1 := by decide +kernel
theorem wk_sealed14 : sealedX 24 wkX = wkX := by
 unfold sealedX
 rw [if_neg]
 unfold sealE
 split
 ·decide
 ·rw [if_pos (by rw [wk_open]; decide)]; decide
theorem wk_app1 : appR wkS wkX 1 = some (0, genS wkS, openX wkX 1) := by
 unfold appR
 have h1 := wk_left
 rw [if_neg (by show ¬ ((1 : Nat) : Int) ≤ leftR 24 wkX; omega), if_neg (by rw [wk_next]; decide), wk_next, show sealedX wkS.b wkX = wkX from wk_sealed14]
 rfl
theorem wk_left2 : leftR 24 (useX (openX wkX 1) (1 : Nat)) = 22 := by decide +kernel
theorem wk_app2 : ∃ r, appR (genS wkS) (useX (openX wkX 1) (1 : Nat)) 1 = some r := by
 unfold appR
 rw [if_pos (by show ((1 : Nat) : Int) ≤ leftR 24 _; rw [wk_left2]; decide)]
 exact ⟨_, rfl⟩
theorem wk_may : mayS (addB (List.replicate 4 (List.replicate 128 0)) 0 [107, 97]) [107, 97] = true := by decide +kernel
theorem key0 : keyL 0 = [107, 97] := by decide
theorem one_st {a : Int × Int × Int} : hasS [(a, wb1)] [107, 97] = some (a, wb1) := by
 unfold hasS
 rw [List.find?_cons_of_pos (by rw [wb1_key]; decide)]
theorem one_get {a : Int × Int × Int} : getS [(a, wb1)] 0 0 [107, 97] = some wb1 := by
 unfold getS
 rw [one_st]
 exact if_neg (by rw [wb1_seq, wb1_exp]; decide)
theorem one_out {a : Int × Int × Int} : outS [(a, wb1)] [107, 97] = [] := by
 unfold outS
 rw [List.filter_cons_of_neg (by rw [wb1_key]; decide)]
 rfl
theorem none_out : outS [] [107, 97] = [] := rfl
theorem none_full : fullS [] [107, 97] 2 = false := by decide
end
section
open Go.RowKit
attribute [local go_sem] Oper.semAt_some
theorem wakes14 (w : World) : Calls Tryz.prog 9 #[] w fun e w' => e = .returned (.bool true) ∧ Below w.heap.size w w' := by
 go_enter Tryz.func9, Tryz.ntmps9
 go_wp2_with fail
 refine (logs_any w).mono ?_
 rintro e w1 ⟨l, p, d, rfl, hl, hb1⟩
 have HL1 := hI hl
 have HB1 := hI hb1
 clear hl hb1
 go_wp2_with fail
 refine (new_s14 (slots := 2) HL1.out (fun b h => nL h HB1.out.size) (by omega) (by omega)).mono ?_
 rintro e w2 ⟨q, x, F, c, fs, rfl, hm, hb2⟩
 obtain ⟨B, hB⟩ : ∃ B : StB, (⟨l, p, d, 98, q, x, F, c, 0, logK, 0, fs⟩ : StB) = B := ⟨_, rfl⟩
 rw [hB] at hm
 have HBQ := hI (show B.q = q ∧ B.pe = 0 ∧ B.k = logK by rw [← hB]; exact ⟨rfl, rfl, rfl⟩)
 have HM2 := hI hm
 have HB2 := hI (HB1.out.trans (hb2.mono HB1.out.size))
 clear hm hb2 hB
 go_wp2_with fail
 refine (key_any 0 w2).mono ?_
 rintro e w3 ⟨g3, rfl, hg3, hr3, hb3⟩
 rw [key0] at hr3
 have HR3 := hI hr3
 have HG3 := hI (show w2.heap.size ≤ g3 ∧ g3 < w3.heap.size from ⟨hg3, Blk.lt hr3⟩)
 have HB3 := hI hb3
 clear hr3 hb3 hg3
 have hc1 := Go.Lib.run_convert_bytes_const (P := Tryz.prog) w3 40 5 #[.int .u8 120] 1 1 Tryz.underlying40 Tryz.underlying5
 go_wp2_with fail
 clear hc1
 obtain ⟨w4, hw4⟩ : ∃ w4, w4 = w3.alloc (.cells #[.int .u8 120] 5 (1, 2)) := ⟨_, rfl⟩
 have hb4 : Below w3.heap.size w3 w4 := by rw [hw4]; exact (Below.refl _ _).alloc (nR _) _
 have hz4 : w4.heap.size = w3.heap.size + 1 := by rw [hw4]; simp
 have hV : RowI .u8 w4 (fun b => b = w3.heap.size) (some ⟨w3.heap.size, 0, none⟩) 1 [120] := by rw [hw4]; exact row_marked w3 [120] (1, 2) 1 rfl (S := fun b => b = w3.heap.size) rfl
 have hKr : RowI .u8 w4 (fun b => b = g3) (some ⟨g3, 0, none⟩) 2 [107, 97] := Arr.rowN (S := fun b => b = g3) (Blk.below HR3.out hb4 HG3.out.2) 0 rfl rfl
 have HM4 := hI (HM2.out.grow (HB3.out.trans (hb4.mono HB3.out.size)))
 have hg3 := HG3.out
 have hs3 := HB3.out.size
 have HPUT := hI (put_s14 (dy := false) (f0 := 0) (x0 := 0) (q0 := 1) HM4.out (hKr.more (fun b h => .inr ⟨by omega, by omega⟩)) (hV.more (fun b h => .inr ⟨by omega, by omega⟩)) (by intro j; match j with | 0 => simp | 1 => simp | (j + 2) => simp) (by intro j; match j with | 0 => simp | (j + 1) => simp) (fun h => by cases h) (fun h => by cases h) (c := 2) (c2 := 1) (by unfold May; omega) ⟨by omega, by omega, by omega, by omega, by omega, by omega⟩ (by rw [HBQ.out.2.1]; omega) (by decide))
 rw [HBQ.out.1, show recB 1 0 0 1 [107, 97] [120] = wb1 by unfold wb1; rfl] at HPUT
 have HB4 := hI (HB2.out.trans ((HB3.out.trans (hb4.mono HB3.out.size)).mono HB2.out.size))
 rw [← hw4]
 clear hw4 hb4 hz4 hV hKr hg3 hs3
 refine HPUT.out.mono ?_
 rintro e w5 ⟨hk5, h5⟩
 rw [wb1_cnt, wb1_key] at h5
 rcases h5 with ⟨hf, _⟩ | ⟨_, hno, _⟩ | ⟨_, i, s1, xs1, t1, k1, hsome, hs1, rfl, hm5⟩
 ·rw [none_full] at hf; cases hf
 ·rw [wk_app1] at hno; cases hno
 rw [wk_app1] at hsome
 have hs9 := Option.some.inj hsome
 obtain ⟨ei, e2⟩ := Prod.mk.inj hs9
 obtain ⟨es, ex⟩ := Prod.mk.inj e2
 subst ei es ex
 clear hs9 e2
 rw [none_out, List.nil_append] at hm5
 have HM5 := hI hm5
 have HB5 := hI (HB4.out.trans (hk5.to_below (B := w.heap.size) (fun b hb => .inl hb)))
 clear hk5 hm5 HPUT hs1 hsome
 go_wp2_with fail
 refine (key_any 0 w5).mono ?_
 rintro e w6 ⟨g6, rfl, hg6, hr6, hb6⟩
 rw [key0] at hr6
 have HM6 := hI (HM5.out.grow hb6)
 have HGT := hI (get_s (c := 2) HM6.out ((Arr.rowN (S := fun b => b = g6) hr6 0 (n := 2) rfl rfl).more (fun b h => .inr ⟨by omega, by have := Blk.lt hr6; omega⟩)) (by intro j; match j with | 0 => simp | 1 => simp | (j + 2) => simp) (by omega) 0)
 have HB6 := hI (HB5.out.trans (hb6.mono HB5.out.size))
 clear hg6 hr6 hb6
 have hq6 : ({ B with t := t1, k := k1, pe := B.pe + 17 } : StB).q = q := HBQ.out.1
 rw [hq6] at HGT
 clear hq6
 go_wp2_with fail
 refine HGT.out.mono ?_
 rintro e w7 ⟨⟨k7, hm7, hk7⟩, hkp7, h7⟩
 rcases h7 with ⟨hno, _⟩ | ⟨bs, b1, b2, hyes, rfl, _, _, _, _, hv7⟩
 ·rw [show (genS wkS).f = 0 from rfl, one_get] at hno; cases hno
 rw [show (genS wkS).f = 0 from rfl, one_get] at hyes
 injection hyes with hyes
 subst hyes
 rw [wb1_val] at hv7
 have HV7 := hI hv7
 have HM7 := hI (hm7.less (X := fun x => x < w.heap.size) (fun b h => .inl (.inl h)))
 have HB7 := hI (HB6.out.trans (hkp7.to_below (B := w.heap.size) (fun b hb => .inl (.inl hb))))
 clear hm7 hk7 hkp7 hv7 HGT
 obtain ⟨w8, hw8⟩ : ∃ w8, w8 = w7.alloc (.cells (itmC wb1 b1 b2) 42) := ⟨_, rfl⟩
 have hb8 : Below w7.heap.size w7 w8 := by rw [hw8]; exact (Below.refl _ _).alloc (nR _) _
 have HI8 := hI (show Blk w8 w7.heap.size 42 (itmC wb1 b1 b2) by rw [hw8]; exact Blk.new w7 _ _)
 have HM8 := hI (HM7.out.below hb8)
 have HB8 := hI (HB7.out.trans (hb8.mono HB7.out.size))
 have HV8 := hI (Blk.below HV7.out hb8 (Blk.lt HV7.out))
 have HW8 := hI hw8
 clear hb8 hw8
 go_upto_region 6 with fail
 rw [← HW8.out]
 obtain ⟨tt, ht, hnt⟩ := conv_string (P := Tryz.prog) w8 40 9 5 Tryz.underlying40 Tryz.underlying5 Tryz.underlying9 1 (Arr.rowN (S := fun b => b < w8.heap.size) (show ArrU w8 b2 [120] from HV8.out) 0 (n := 1) rfl (Blk.lt HV8.out)).toRow (by intro j; match j with | 0 => simp | (j + 1) => simp)
 obtain rfl : tt = ⟨#[120]⟩ := nums_inj (hnt.trans rfl)
 have i1 : w8.cell? ⟨w7.heap.size, 1, none⟩ = some (.slice (some ⟨b2, 0, none⟩) 1 1) := by
  have h9 := HI8.out.cell 1
  rw [show (itmC wb1 b1 b2)[1]? = some (.slice (some ⟨b2, 0, none⟩) (vlenOf wb1) (vlenOf wb1)) from rfl, wb1_vlen] at h9
  exact h9
 clear hnt
 go_wp2_with fail
 clear ht i1
 refine (key_any 0 w8).mono ?_
 rintro e w9 ⟨g9, rfl, hg9, hr9, hb9⟩
 rw [key0] at hr9
 have HM9 := hI (HM8.out.below hb9)
 have HB9 := hI (HB8.out.trans (hb9.mono HB8.out.size))
 have HMY := hI (may_s14 (c := 2) HM9.out (by unfold addB; rw [List.length_set, List.length_replicate]; decide) (Arr.rowN (S := fun b => b < w9.heap.size) hr9 0 (n := 2) rfl (Blk.lt hr9)) (by intro j; match j with | 0 => simp | 1 => simp | (j + 2) => simp) (by omega))
 rw [show (List.replicate wkX.length (List.replicate 128 (0 : Int))) = List.replicate 4 (List.replicate 128 0) from rfl, wk_may] at HMY
 replace HMY := hI (show Calls Tryz.prog 23 #[.pointer (some ⟨q, 0, none⟩), .slice (some ⟨g9, 0, none⟩) 2 2] w9 (fun e w' => e = .returned (.bool true) ∧ Below w9.heap.size w9 w') from HMY.out)
 clear hr9 hb9 hg9
 go_wp2_with fail
 refine HMY.out.mono ?_
 rintro e w10 ⟨rfl, hb10⟩
 have HM10 := hI (HM9.out.below hb10)
 have HB10 := hI (HB9.out.trans (hb10.mono HB9.out.size))
 have HLN := hI (show Calls Tryz.prog 28 #[.pointer (some ⟨q, 0, none⟩)] w10 (fun e w' => e = .returned (.int .i64 1) ∧ w' = w10) from len_s HM10.out)
 clear hb10 HMY
 go_wp2_with fail
 refine HLN.out.mono ?_
 rintro e w11 ⟨rfl, rfl⟩
 clear HLN
 go_wp2_with fail
 refine (key_any 0 w11).mono ?_
 rintro e w12 ⟨g12, rfl, hg12, hr12, hb12⟩
 rw [key0] at hr12
 have HM12 := hI (HM10.out.grow hb12)
 have HB12 := hI (HB10.out.trans (hb12.mono HB10.out.size))
 have HKL := hI (kill_s14 (c := 2) (q0 := 2) HM12.out ((Arr.rowN (S := fun b => b = g12) hr12 0 (n := 2) rfl rfl).more (fun b h => .inr ⟨by omega, by have := Blk.lt hr12; omega⟩)) (by intro j; match j with | 0 => simp | 1 => simp | (j + 2) => simp) (by unfold May; omega) ⟨by omega, by omega, by omega, by omega, by omega, by omega⟩ (show B.pe + 17 ≤ 900000 by rw [HBQ.out.2.1]; omega) (by decide))
 rw [show recB 2 0 0 2 [107, 97] [] = wb2 by unfold wb2; rfl] at HKL
 replace HKL := hI (show Calls Tryz.prog 16 #[.pointer (some ⟨q, 0, none⟩), .slice (some ⟨g12, 0, none⟩) 2 2, .int .u64 2] w12 _ from HKL.out)
 clear hg12 hr12 hb12
 go_wp2_with fail
 refine HKL.out.mono ?_
 rintro e w13 ⟨hk13, h13⟩
 rw [wb2_cnt, one_out] at h13
 rcases h13 with ⟨hno, _⟩ | ⟨i2, s2, xs2, t2, k2, _, _, rfl, hm13⟩
 ·obtain ⟨r, hr⟩ := wk_app2
  rw [hr] at hno; cases hno
 have HB13 := hI (HB12.out.trans (hk13.to_below (B := w.heap.size) (fun b hb => .inl hb)))
 have HLN := hI (show Calls Tryz.prog 28 #[.pointer (some ⟨q, 0, none⟩)] w13 (fun e w' => e = .returned (.int .i64 0) ∧ w' = w13) from len_s hm13)
 clear hk13 hm13 HKL
 go_wp2_with fail
 refine HLN.out.mono ?_
 rintro e w14 ⟨rfl, rfl⟩
 clear HLN
 go_wp2_with fail
 go_ret
 exact ⟨rfl, HB13.out⟩
end
section
open Go.RowKit
attribute [local go_sem] Oper.semAt_some
abbrev rp0 : Oper := ⟨some 67, .move (.tmp 10), 3, "bytes.go:672", #[], none⟩
abbrev rp1 : Oper := ⟨some 68, .move (.tmp 9), 40, "bytes.go:672", #[], none⟩
abbrev rp2 : Oper := ⟨some 69, .move (.tmp 10), 3, "bytes.go:672", #[], none⟩
abbrev rp3 : Oper := ⟨some 70, .slice 40 (.tmp 68) (some (.tmp 69)) none none, 40, "bytes.go:672", #[⟨1, .data⟩, ⟨2, .data⟩], none⟩
abbrev rp4 : Oper := ⟨some 71, .move (.tmp 9), 40, "bytes.go:672", #[], none⟩
abbrev rp5 : Oper := ⟨some 72, .move (.tmp 11), 3, "bytes.go:672", #[], none⟩
abbrev rp6 : Oper := ⟨some 73, .slice 40 (.tmp 71) none (some (.tmp 72)) none, 40, "bytes.go:672", #[⟨4, .data⟩, ⟨5, .data⟩], none⟩
abbrev rp7 : Oper := ⟨some 74, .call { callee := .builtin Go.Builtin.copy, args := #[.tmp 70, .tmp 73], argTypes := #[40, 40] }, 3, "bytes.go:672", #[⟨3, .data⟩, ⟨6, .data⟩], none⟩
abbrev rp8 : Oper := ⟨some 75, .binOp Go.BinOp.add 3 (.tmp 67) (.tmp 74) 3, 3, "bytes.go:672", #[⟨0, .data⟩, ⟨7, .data⟩], none⟩
abbrev rp9 : Oper := ⟨some 10, .assign (.tmp 75), 3, "bytes.go:672", #[⟨8, .data⟩, ⟨7, .chain⟩, ⟨0, .phase⟩, ⟨1, .phase⟩, ⟨2, .phase⟩, ⟨3, .phase⟩, ⟨4, .phase⟩, ⟨5, .phase⟩, ⟨6, .phase⟩, ⟨7, .phase⟩, ⟨8, .phase⟩], none⟩
theorem copy_known {P : Program} {w : World} {ops : Array Oper} {rest : List Oper} {o : Oper} {a : Act} {Q : Exit → Act → World → Prop} (hgd : o.guard = none) (d s : Operand) (t t' : TypeId)
 (ho : o.op = .call { callee := .builtin .copy, args := #[d, s], argTypes := #[t, t'] }) (v u : Value) (hd : a.eval d = v) (hs : a.eval s = u) {v' : Value} {w' : World}
 (hr : (Builtin.copy_ #[t, t'] o.type #[v, u]).run P w = .ok v' w') (h : wpList P ops Q rest (a.put o.dst v') w') : wpList P ops Q (o :: rest) a w := by
 refine wpList_plain hgd fun K hK => ?_
 unfold Oper.wp
 simp [execOp, ho, resolve, invoke, builtin, hd, hs, hr, Result.andThen]
 exact hK _ _ h
theorem step_copy14 {P : Program} {w : World} {ops : Array Oper} {o : Oper} {a : Act} {Q : Exit → Act → World → Prop} {K : Act → World → Prop} {E : Prop} (d s : Operand) (t t' : TypeId)
 (ho : o.op = .call { callee := .builtin .copy, args := #[d, s], argTypes := #[t, t'] }) (hgd : Region.wanted o (yielded ops a.tmps) = true) (v u : Value) (hd : a.eval d = v) (hs : a.eval s = u) {v' : Value} {w' : World}
 (hr : (Builtin.copy_ #[t, t'] o.type #[v, u]).run P w = .ok v' w') (h : K (a.put o.dst v') w') : if Region.wanted o (yielded ops a.tmps) = true then Oper.wp P o a w K Q else E := by
 rw [if_pos hgd]
 unfold Oper.wp
 simp [execOp, ho, resolve, invoke, builtin, hd, hs, hr, Result.andThen]
 exact h
theorem mul64_one (n : Nat) (hn : n ≤ 513) (w : World) : Calls Tryz.prog 200 #[.int .u64 1, .int .u64 n] w fun e w' => e = .returned (.tuple #[.int .u64 0, .int .u64 n]) ∧ w' = w := by
 have hm : bits .and .u64 (n : Int) 4294967295 = n := by
  rw [Mul64.maskN n (by omega), Nat.mod_eq_of_lt (by omega)]
 have h1 : bits .and .u64 1 4294967295 = 1 := by decide
 have hd : (n : Int) / 4294967296 = 0 := Int.ediv_eq_zero_of_lt (by omega) (by omega)
 go_enter Tryz.func200, Tryz.ntmps200
 go_wp2
 skip
 go_ret2
 exact ⟨rfl, rfl⟩
theorem mul_one (n : Nat) (hn : n ≤ 513) (w : World) : Calls Tryz.prog 136 #[.int .u64 1, .int .u64 n] w fun e w' => e = .returned (.tuple #[.int .u64 0, .int .u64 n]) ∧ w' = w := by
 have HM := hI (mul64_one n hn w)
 go_enter Tryz.func136, Tryz.ntmps136
 go_wp2_with fail
 refine HM.out.mono ?_
 rintro e w1 ⟨rfl, rfl⟩
 go_wp2
 (first | go_ret | go_ret2)
 exact ⟨rfl, rfl⟩
def RepB (w0 wr : World) (g n : Nat) (b : Int) (k : Nat) : Prop := Below g w0 wr ∧ ∃ cs, Blk wr g 5 cs ∧ n ≤ cs.size ∧ ∀ j, j < k → cs[j]? = some (.int .u8 b)
theorem RepB.copy {w0 wr : World} {g n : Nat} {b : Int} {k : Nat} (h : RepB w0 wr g n b k) (ty : TypeId) (ch sLen dLen dCap sCap : Nat) (a : Addr) (hmin : ch = Nat.min sLen dLen) (hk : k + ch ≤ n) (hsrc : ∀ j, j < ch → wr.cell? (a.add j) = some (.int .u8 b)) :
 ∃ wr', (Builtin.copy_ #[40, 40] ty #[.slice (some ⟨g, k, none⟩) dLen dCap, .slice (some a) sLen sCap]).run Tryz.prog wr = .ok (.int .i64 ch) wr' ∧ RepB w0 wr' g n b (k + ch) := by
 obtain ⟨hb, cs, hB, hs, hc⟩ := h
 have hr := run_copy_row (P := Tryz.prog) wr 40 40 ty 5 g k dLen dCap a sLen sCap cs 5 (List.replicate ch (.int .u8 b)) Tryz.underlying40 size_u8 hB (by rw [List.length_replicate]; exact hmin)
  (fun j v hj => by
    rw [List.getElem?_replicate] at hj
    split at hj
    ·rename_i h1
     cases hj
     exact hsrc j h1
    ·cases hj) (by rw [List.length_replicate]; omega) (fun v hv => by rw [(List.mem_replicate.1 hv).2]; rfl)
 rw [List.length_replicate] at hr
 refine ⟨_, hr, below_setRow hb (nR _) _, _, setRow_heap _ _ _ _ _ _ hB, ?_, fun j hj => ?_⟩
 ·simp
  omega
 ·have hcl : cs.toList.length = cs.size := by simp
  rw [List.getElem?_toArray, List.append_assoc]
  rcases Nat.lt_or_ge j k with h1 | h1
  ·rw [List.getElem?_append_left (by rw [List.length_take]; omega), List.getElem?_take, if_pos h1, Array.getElem?_toList]
   exact hc j h1
  ·rw [List.getElem?_append_right (by rw [List.length_take]; omega), List.length_take, Nat.min_eq_left (by omega), List.getElem?_append_left (by rw [List.length_replicate]; omega), List.getElem?_replicate, if_pos (by omega)]
theorem RepB.cell {w0 wr : World} {g n : Nat} {b : Int} {k : Nat} (h : RepB w0 wr g n b k) (j : Nat) (hj : j < k) : wr.cell? ⟨g, j, none⟩ = some (.int .u8 b) := by
 obtain ⟨hb, cs, hB, hs, hc⟩ := h
 rw [← hc j hj]
 exact hB.cell j
theorem repeat_zero {S : Nat → Prop} (q o c : Nat) (b : Int) (w : World) : Calls Tryz.prog 63 #[.slice (some ⟨q, o, none⟩) 1 c, .int .i64 0] w fun e w' => (∃ g c', e = .returned (.slice (some ⟨g, 0, none⟩) 0 c')) ∧ Below w.heap.size w w' := by
 go_enter Tryz.func63, Tryz.ntmps63
 go_wp2
 (first | go_ret | go_ret2)
 exact ⟨⟨_, _, rfl⟩, (Below.refl _ w).alloc (nR _) _⟩
theorem repeat_one (q o c n : Nat) (b : Int) (hn : n ≤ 513) (h0 : 0 < n) (w : World) (hq : w.cell? ⟨q, o, none⟩ = some (.int .u8 b)) :
 Calls Tryz.prog 63 #[.slice (some ⟨q, o, none⟩) 1 c, .int .i64 n] w fun e w' => (∃ g, e = .returned (.slice (some ⟨g, 0, none⟩) n n) ∧ w.heap.size ≤ g ∧ RepB w w' g n b n) := by
 have HM := hI (mul_one n hn w)
 have HQ := hI hq
 obtain ⟨cs, hrunM, hle, _⟩ := Lib.run_makeNoZero (P := Tryz.prog) w #[3] 40 5 Tryz.underlying40 n (by omega)
 have hcall : (callFunc 137 #[.int .i64 (n : Int)]).run Tryz.prog w = .ok (.value (.slice (some ⟨w.heap.size, 0, none⟩) n cs.size)) ((w.alloc (.cells cs 5)).drewN 2) := by
  rw [run_callFunc_extern Tryz.func137 (by kernel_rfl) (by kernel_rfl) (by kernel_rfl) (e := Extern.BytealgMakeNoZero.makeNoZero #[3] #[40]) (by kernel_rfl), hrunM]
  rfl
 clear hrunM hq
 have i1 : (n : Int) ≤ (cs.size : Int) := by omega
 have hB0 : RepB w ((w.alloc (.cells cs 5)).drewN 2) w.heap.size n b 0 := ⟨⟨rfl, rfl, rfl, by simp, fun k hk => heap_alloc_old w _ hk⟩, cs, Blk.new w _ _, hle, fun j hj => by omega⟩
 obtain ⟨w1, hr1, hB1⟩ := hB0.copy 3 1 1 n n c ⟨q, o, none⟩ (by show 1 = min 1 n; omega) (by omega) (fun j hj => by
  obtain rfl : j = 0 := by omega
  have h1 := World.block_lt_of_cell? w _ HQ.out
  rw [show (Addr.add ⟨q, o, none⟩ 0) = ⟨q, o, none⟩ from rfl, hB0.1.cell (p := ⟨q, o, none⟩) h1]
  exact HQ.out)
 have HB1 := hI hB1
 clear hB0 hB1
 go_enter Tryz.func63, Tryz.ntmps63
 go_wp2_with fail
 refine HM.out.mono ?_
 rintro e w2 ⟨rfl, rfl⟩
 go_wp2_with (at_builtin; refine copy_known _ rfl _ _ 40 40 rfl _ _ rfl rfl hr1 ?_)
 clear hcall i1 hr1 HM HQ
 go_loopw [10] (fun v wr => ∃ k : Nat, 1 ≤ k ∧ k ≤ n ∧ v = .int .i64 k ∧ RepB w2 wr w2.heap.size n b k) (fun v _ => n - (intOf v).toNat)
 case atStart => exact ⟨1, by omega, by omega, rfl, HB1.out⟩
 case round =>
  obtain ⟨k, hk1, hk2, rfl, hR⟩ := hrel
  have HR := hI hR
  clear hR
  by_cases hlt : k < n
  ·obtain ⟨ch, hch⟩ : ∃ ch, ch = min k (n - k) := ⟨_, rfl⟩
   obtain ⟨w3, hr3, hR3⟩ := (show RepB w2 wr.drew w2.heap.size n b k from ⟨HR.out.1.drew, HR.out.2⟩).copy 3 ch k (n - k) (n - k) n ⟨w2.heap.size, 0, none⟩ (by rw [hch]) (by omega) (fun j hj => by
    rw [show (Addr.add ⟨w2.heap.size, 0, none⟩ j) = ⟨w2.heap.size, j, none⟩ by rw [add_plain, Nat.zero_add]]
    exact HR.out.cell j (by omega))
   have HR3 := hI hR3
   have HCH := hI hch
   have hc1 : 1 ≤ ch := by omega
   have hc2 : k + ch ≤ n := by omega
   have hmn : ∀ (ts : Array TypeId) (t : TypeId) (W : World), (Builtin.min_ ts t #[.int .i64 (k : Int), .int .i64 (n : Int)]).run Tryz.prog W = .ok (.int .i64 (k : Int)) W := fun ts t W => by
    simp [Builtin.min_, Builtin.min2]
    try (intro h; omega)
   have hs1 : ∀ W, (Instr.slice 40 (.slice (some ⟨w2.heap.size, 0, none⟩) n n) (some (.int .i64 (k : Int))) none none).run Tryz.prog W = .ok (.slice (some ⟨w2.heap.size, k, none⟩) (n - k) (n - k)) W := fun W => by
    have hu : Tryz.prog.underlying 40 = some (.slice (Tryz.prog.elem 40)) := by kernel_rfl
    have he : Tryz.prog.elem 40 = 5 := by kernel_rfl
    rw [run_slice_l (P := Tryz.prog) W 40 (some ⟨w2.heap.size, 0, none⟩) n n hu .i64 k (by omega) (by omega), he, Tryz.sizeOf5]
    have hne : ¬ n = k := by omega
    simp [Result.andThen, sliced, hne, add_plain]
   have hs2 : ∀ W, (Instr.slice 40 (.slice (some ⟨w2.heap.size, 0, none⟩) n n) none (some (.int .i64 (k : Int))) none).run Tryz.prog W = .ok (.slice (some ⟨w2.heap.size, 0, none⟩) k n) W := fun W => by
    have hu : Tryz.prog.underlying 40 = some (.slice (Tryz.prog.elem 40)) := by kernel_rfl
    have he : Tryz.prog.elem 40 = 5 := by kernel_rfl
    rw [run_slice_h (P := Tryz.prog) W 40 (some ⟨w2.heap.size, 0, none⟩) n n hu .i64 k (by omega) (by omega), he, Tryz.sizeOf5]
    have hne : ¬ n = 0 := by omega
    simp [Result.andThen, sliced, hne, add_plain]
   clear hR3 hch
   go_upto_region 20 with fail
   refine Tillst.region (fun W => True) [] (by kernel_rfl) trivial (fun hė => ?_)
   generalize wr.drew = vd at *
   refine Tillst.tk 0 rp0 (v := ?_) rfl (by kernel_rfl) (by rfl) ?_ hė ?_
   rotate_left
   ·intro W hSW; (try dsimp only at hSW); unfold rp0; go_simp; with_reducible rfl
   simp only [rp0, Act.put, sA, sZ, sS]
   refine Tillst.tk 1 rp1 (v := ?_) rfl (by kernel_rfl) (by rfl) ?_ hė ?_
   rotate_left
   ·intro W hSW; (try dsimp only at hSW); unfold rp1; go_simp; with_reducible rfl
   simp only [rp1, Act.put, sA, sZ, sS]
   refine Tillst.tk 2 rp2 (v := ?_) rfl (by kernel_rfl) (by rfl) ?_ hė ?_
   rotate_left
   ·intro W hSW; (try dsimp only at hSW); unfold rp2; go_simp; with_reducible rfl
   simp only [rp2, Act.put, sA, sZ, sS]
   refine Tillst.tk 3 rp3 (v := ?_) rfl (by kernel_rfl) (by rfl) ?_ hė ?_
   rotate_left
   ·intro W hSW; (try dsimp only at hSW); unfold rp3; go_simp; with_reducible rfl
   simp only [rp3, Act.put, sA, sZ, sS]
   refine Tillst.tk 4 rp4 (v := ?_) rfl (by kernel_rfl) (by rfl) ?_ hė ?_
   rotate_left
   ·intro W hSW; (try dsimp only at hSW); unfold rp4; go_simp; with_reducible rfl
   simp only [rp4, Act.put, sA, sZ, sS]
   refine Tillst.tk 5 rp5 (v := ?_) rfl (by kernel_rfl) (by rfl) ?_ hė ?_
   rotate_left
   ·intro W hSW; (try dsimp only at hSW); unfold rp5; go_simp; with_reducible rfl
   simp only [rp5, Act.put, sA, sZ, sS]
   refine Tillst.tk 6 rp6 (v := ?_) rfl (by kernel_rfl) (by rfl) ?_ hė ?_
   rotate_left
   ·intro W hSW; (try dsimp only at hSW); unfold rp6; go_simp; with_reducible rfl
   simp only [rp6, Act.put, sA, sZ, sS]
   refine Tillst.one (i := 7) (o := rp7) (by kernel_rfl) rfl ?_
   intro K hK
   refine step_copy14 (.tmp 70) (.tmp 73) 40 40 rfl rfl _ _ rfl rfl hr3 ?_
   simp only [rp7, Act.put, sA, sZ, sS]
   refine hK.out _ _ (fun _ => trivial) (fun hė => ?_)
   replace hė := hė (by decide)
   clear hK K
   have hwr : IntKind.i64.wrap ((k : Int) + (ch : Int)) = ((k + ch : Nat) : Int) := by rw [IntKind.wrap_i64]; omega
   refine Tillst.tk 8 rp8 (v := .int .i64 ((k + ch : Nat) : Int)) rfl (by kernel_rfl) (by rfl) ?_ hė ?_
   ·intro W hSW; clear hSW; unfold rp8; go_simp
   simp only [rp8, Act.put, sA, sZ, sS]
   refine Tillst.tk 9 rp9 (v := ?_) rfl (by kernel_rfl) (by rfl) ?_ hė ?_
   rotate_left
   ·intro W hSW; (try dsimp only at hSW); unfold rp9; go_simp; with_reducible rfl
   simp only [rp9, Act.put, sA, sZ, sS]
   refine Tillst.done (by kernel_rfl) ?_ _
   go_roundw
   case rel =>
    (repeat apply Exists.intro)
    exact ⟨⟨k + ch, by omega, hc2, by go_num, HR3.out⟩, rfl⟩
   case measure => simp [intOf]; omega
  ·obtain rfl : k = n := by omega
   go_wp2
   (first | go_ret | go_ret2)
   exact ⟨_, rfl, nR _, HR.out⟩
end
section
open Go.RowKit
attribute [local go_sem] Oper.semAt_some
abbrev im0 : Oper := ⟨some 3, .fieldAddr 37 (.tmp 1) 1, 0, "law.go:34", #[], none⟩
abbrev im1 : Oper := ⟨some 4, .load 3 (.tmp 3), 3, "law.go:34", #[⟨0, .data⟩], none⟩
abbrev im2 : Oper := ⟨some 5, .call { callee := .value (.func 17), args := #[.tmp 4], argTypes := #[3] }, 40, "law.go:34", #[⟨1, .data⟩], none⟩
abbrev im3 : Oper := ⟨some 6, .fieldAddr 37 (.tmp 1) 4, 0, "law.go:34", #[], none⟩
abbrev im4 : Oper := ⟨some 7, .load 34 (.tmp 6), 34, "law.go:34", #[⟨3, .data⟩], none⟩
abbrev im5 : Oper := ⟨some 8, .convert 34 5 (.tmp 7), 5, "law.go:34", #[⟨4, .data⟩], none⟩
abbrev im6 : Oper := ⟨some 9, .buildSlice 40 1 #[(0, .tmp 8)], 40, "law.go:34", #[⟨5, .data⟩], none⟩
abbrev im7 : Oper := ⟨some 10, .fieldAddr 37 (.tmp 1) 2, 0, "law.go:34", #[], none⟩
abbrev im8 : Oper := ⟨some 11, .load 3 (.tmp 10), 3, "law.go:34", #[⟨7, .data⟩], none⟩
abbrev im9 : Oper := ⟨some 12, .convert 3 32 (.tmp 11), 32, "law.go:34", #[⟨8, .data⟩], none⟩
abbrev im10 : Oper := ⟨some 13, .binOp Go.BinOp.rem 32 (.tmp 12) (.const (.int .u64 514)) 32, 32, "law.go:34", #[⟨9, .data⟩], none⟩
abbrev im11 : Oper := ⟨some 14, .convert 32 3 (.tmp 13), 3, "law.go:34", #[⟨10, .data⟩], none⟩
abbrev im12 : Oper := ⟨some 15, .call { callee := .value (.func 63), args := #[.tmp 9, .tmp 14], argTypes := #[40, 3] }, 40, "law.go:34", #[⟨6, .data⟩, ⟨11, .data⟩, ⟨2, .chain⟩], none⟩
abbrev im13 : Oper := ⟨some 16, .fieldAddr 37 (.tmp 1) 2, 0, "law.go:34", #[], none⟩
abbrev im14 : Oper := ⟨some 17, .load 3 (.tmp 16), 3, "law.go:34", #[⟨13, .data⟩], none⟩
abbrev im15 : Oper := ⟨some 18, .convert 3 35 (.tmp 17), 35, "law.go:34", #[⟨14, .data⟩], none⟩
abbrev im16 : Oper := ⟨some 19, .fieldAddr 37 (.tmp 1) 5, 0, "law.go:34", #[], none⟩
abbrev im17 : Oper := ⟨some 20, .load 35 (.tmp 19), 35, "law.go:34", #[⟨16, .data⟩], none⟩
abbrev im18 : Oper := ⟨some 21, .fieldAddr 37 (.tmp 1) 4, 0, "law.go:34", #[], none⟩
abbrev im19 : Oper := ⟨some 22, .load 34 (.tmp 21), 34, "law.go:34", #[⟨18, .data⟩], none⟩
abbrev im20 : Oper := ⟨some 23, .fieldAddr 37 (.tmp 1) 2, 0, "law.go:34", #[], none⟩
abbrev im21 : Oper := ⟨some 24, .load 3 (.tmp 23), 3, "law.go:34", #[⟨20, .data⟩], none⟩
abbrev im22 : Oper := ⟨some 25, .binOp Go.BinOp.rem 3 (.tmp 24) (.const (.int .i64 2)) 3, 3, "law.go:34", #[⟨21, .data⟩], none⟩
abbrev im23 : Oper := ⟨some 26, .binOp Go.BinOp.eql 3 (.tmp 25) (.const (.int .i64 0)) 3, 4, "law.go:34", #[⟨22, .data⟩], none⟩
abbrev im24 : Oper := ⟨some 27, .build 42 #[(0, .tmp 5), (1, .tmp 15), (2, .tmp 18), (3, .tmp 20), (4, .tmp 22), (5, .tmp 26)], 42, "law.go:34", #[⟨2, .data⟩, ⟨12, .data⟩, ⟨15, .data⟩, ⟨17, .data⟩, ⟨19, .data⟩, ⟨23, .data⟩], none⟩
abbrev im25 : Oper := ⟨none, .store 42 (.tmp 2) (.tmp 27), 0, "law.go:34", #[⟨24, .data⟩, ⟨12, .chain⟩, ⟨0, .phase⟩, ⟨1, .phase⟩, ⟨2, .phase⟩, ⟨3, .phase⟩, ⟨4, .phase⟩, ⟨5, .phase⟩, ⟨6, .phase⟩, ⟨7, .phase⟩, ⟨8, .phase⟩, ⟨9, .phase⟩, ⟨10, .phase⟩, ⟨11, .phase⟩, ⟨12, .phase⟩, ⟨13, .phase⟩, ⟨14, .phase⟩, ⟨15, .phase⟩, ⟨16, .phase⟩, ⟨17, .phase⟩, ⟨18, .phase⟩, ⟨19, .phase⟩, ⟨20, .phase⟩, ⟨21, .phase⟩, ⟨22, .phase⟩, ⟨23, .phase⟩, ⟨24, .phase⟩], none⟩
theorem repeat_any (q n : Nat) (b : Int) (hn : n ≤ 513) (w : World) (hq : w.cell? ⟨q, 0, none⟩ = some (.int .u8 b)) :
 Calls Tryz.prog 63 #[.slice (some ⟨q, 0, none⟩) 1 1, .int .i64 n] w fun e w' => ∃ g c, e = .returned (.slice (some ⟨g, 0, none⟩) n c) ∧ RowI .u8 w' (fun b => w.heap.size ≤ b) (some ⟨g, 0, none⟩) n (List.replicate n b) ∧ Below w.heap.size w w' := by
 rcases Nat.eq_zero_or_pos n with rfl | h0
 ·refine (repeat_zero (S := fun _ => True) q 0 1 b w).mono ?_
  rintro e w1 ⟨⟨g, c', rfl⟩, hb⟩
  exact ⟨g, c', rfl, RowG.nil _ _ _ _ _, hb⟩
 ·refine (repeat_one q 0 1 n b hn h0 w hq).mono ?_
  rintro e w1 ⟨g, rfl, hg, hr⟩
  refine ⟨g, n, rfl, ⟨List.length_replicate, fun _ => ⟨g, 0, rfl, hg, fun j hj => ?_⟩⟩, hr.1.mono hg⟩
  rw [Nat.zero_add, hr.cell j hj]
  simp [List.getD, List.getElem?_replicate, hj]
section
variable {w : World} {o : Oper} {a : Act} {Q : Exit → Act → World → Prop} {K : Act → World → Prop} {E : Prop} {ops : Array Oper}
theorem step_lit1 (x : Operand) (ho : o.op = .buildSlice 40 1 #[(0, x)]) (hgd : Region.wanted o (yielded ops a.tmps) = true) (b : Int) (hx : a.eval x = .int .u8 b)
 (h : K (a.put o.dst (.slice (some ⟨w.heap.size, 0, none⟩) 1 1)) (w.alloc (.cells #[.int .u8 b] 5))) :
 if Region.wanted o (yielded ops a.tmps) = true then Oper.wp Tryz.prog o a w K Q else E := by
 rw [if_pos hgd]
 obtain ⟨i0, hi, hz0, hz1, hz2⟩ := info_parts info_u8
 refine wp_buildSlice 40 5 1 #[(0, x)] ho #[.int .u8 b] i0 _ Tryz.underlying40 hi hz0 (by rw [hz1]; decide) (by rw [hz1]; decide) ?_ h
 rw [hz1]
 have e : (Array.map (fun (p : Nat × Operand) => (p.1, a.eval p.2)) #[(0, x)]).toList = [(0, .int .u8 b)] := by simp [hx]
 refine (congrArg _ e).trans ?_
 kernel_rfl
end
def itN (sz : Int) : Nat := (sz % 18446744073709551616 % 514).toNat
theorem itN_le (sz : Int) : itN sz ≤ 513 := by unfold itN; omega
abbrev itCs (g : Nat) (g2 c2 : Nat) (sz x q : Int) : Array Value := #[.slice (some ⟨g, 0, none⟩) 2 2, .slice (some ⟨g2, 0, none⟩) (itN sz) c2, .int .u32 (sz % 4294967296), .int .u32 x, .int .u64 q, .bool (sz.tmod 2 == 0)]
def ItemH (w : World) (ky sz x q : Int) (e : Ending) (w' : World) : Prop :=
 ∃ g g2 c2, e = .returned (.agg (itCs g g2 c2 sz x q)) ∧ w.heap.size ≤ g ∧ ArrU w' g (keyL ky) ∧ RowI .u8 w' (fun b => w.heap.size ≤ b) (some ⟨g2, 0, none⟩) (itN sz) (List.replicate (itN sz) (q % 256)) ∧ Below w.heap.size w w'
theorem item_ok (kd ky sz at' q x : Int) (w : World) :
 Calls Tryz.prog 15 #[.agg #[.int .i64 kd, .int .i64 ky, .int .i64 sz, .int .i64 at', .int .u64 q, .int .u32 x]] w (ItemH w ky sz x q) := by
 obtain ⟨w1, hw1⟩ : ∃ w1, w1 = (w.alloc (.cells #[.int .i64 kd, .int .i64 ky, .int .i64 sz, .int .i64 at', .int .u64 q, .int .u32 x] 37)).alloc (.cells itm0C 42) := ⟨_, rfl⟩
 have hb1 : Below w.heap.size w w1 := by rw [hw1]; exact ((Below.refl _ w).alloc (nR _) _).alloc (by simp) _
 have HO1 := hI (show Blk w1 w.heap.size 37 #[.int .i64 kd, .int .i64 ky, .int .i64 sz, .int .i64 at', .int .u64 q, .int .u32 x] by rw [hw1]; exact (Blk.new w _ _).alloc _)
 have HI1 := hI (show Blk w1 (w.heap.size + 1) 42 itm0C by rw [hw1]; exact blk_new2 w _ _ _)
 have HC := hI (show ∀ W, Below w1.heap.size w1 W → W.cell? ⟨w.heap.size, 1, none⟩ = some (.int .i64 ky) ∧ W.cell? ⟨w.heap.size, 2, none⟩ = some (.int .i64 sz) ∧ W.cell? ⟨w.heap.size, 4, none⟩ = some (.int .u64 q) ∧ W.cell? ⟨w.heap.size, 5, none⟩ = some (.int .u32 x) from fun W hW => by
  have h9 := HO1.out.below hW HO1.out.lt
  exact ⟨h9.cell 1, h9.cell 2, h9.cell 4, h9.cell 5⟩)
 have HB1 := hI hb1
 have HW1 := hI hw1
 clear hb1 hw1
 go_enter Tryz.func15, Tryz.ntmps15
 go_upto_region 1 with fail
 rw [← HW1.out]
 refine Tillst.region (fun W => Below w1.heap.size w1 W) [25] (by kernel_rfl) ((Below.refl _ _).drew) (fun hė => ?_)
 generalize w1.drew = vd at *
 have hw8 : IntKind.u8.wrap q = q % 256 := IntKind.wrap_u8 q
 have hw64 : IntKind.u64.wrap sz = sz % 18446744073709551616 := IntKind.wrap_u64 sz
 have hw32 : IntKind.u32.wrap sz = sz % 4294967296 := IntKind.wrap_u32 sz
 have hwn : IntKind.i64.wrap (sz % 18446744073709551616 % 514) = (itN sz : Nat) := by rw [IntKind.wrap_i64]; unfold itN; omega
 refine Tillst.takeG (i := 0) (oi := im0) (v := ?_) rfl (by kernel_rfl) (by kernel_rfl) (by kernel_rfl) (by kernel_rfl) (by kernel_rfl) (fun _ _ _ h => h) (by rfl) ?_ hė ?_
 rotate_left
 ·intro W hSW; (try dsimp only at hSW); unfold im0; go_simp; with_reducible rfl
 simp only [im0, Act.put, sA, sZ, sS]
 refine Tillst.takeG (i := 1) (oi := im1) (v := ?_) rfl (by kernel_rfl) (by kernel_rfl) (by kernel_rfl) (by kernel_rfl) (by kernel_rfl) (fun _ _ _ h => h) (by rfl) ?_ hė ?_
 rotate_left
 ·intro W hSW; have h9 := (HC.out W hSW).1; clear hSW; unfold im1; go_simp; with_reducible rfl
 simp only [im1, Act.put, sA, sZ, sS]
 refine Tillst.takeG (i := 3) (oi := im3) (v := ?_) rfl (by kernel_rfl) (by kernel_rfl) (by kernel_rfl) (by kernel_rfl) (by kernel_rfl) (fun _ _ _ h => h) (by rfl) ?_ hė ?_
 rotate_left
 ·intro W hSW; (try dsimp only at hSW); unfold im3; go_simp; with_reducible rfl
 simp only [im3, Act.put, sA, sZ, sS]
 refine Tillst.takeG (i := 4) (oi := im4) (v := ?_) rfl (by kernel_rfl) (by kernel_rfl) (by kernel_rfl) (by kernel_rfl) (by kernel_rfl) (fun _ _ _ h => h) (by rfl) ?_ hė ?_
 rotate_left
 ·intro W hSW; have h9 := (HC.out W hSW).2.2.1; clear hSW; unfold im4; go_simp; with_reducible rfl
 simp only [im4, Act.put, sA, sZ, sS]
 refine Tillst.takeG (i := 5) (oi := im5) (v := .int .u8 (q % 256)) rfl (by kernel_rfl) (by kernel_rfl) (by kernel_rfl) (by kernel_rfl) (by kernel_rfl) (fun _ _ _ h => h) (by rfl) ?_ hė ?_
 ·intro W hSW; clear hSW; unfold im5; go_simp
 simp only [im5, Act.put, sA, sZ, sS]
 refine Tillst.takeG (i := 7) (oi := im7) (v := ?_) rfl (by kernel_rfl) (by kernel_rfl) (by kernel_rfl) (by kernel_rfl) (by kernel_rfl) (fun _ _ _ h => h) (by rfl) ?_ hė ?_
 rotate_left
 ·intro W hSW; (try dsimp only at hSW); unfold im7; go_simp; with_reducible rfl
 simp only [im7, Act.put, sA, sZ, sS]
 refine Tillst.takeG (i := 8) (oi := im8) (v := ?_) rfl (by kernel_rfl) (by kernel_rfl) (by kernel_rfl) (by kernel_rfl) (by kernel_rfl) (fun _ _ _ h => h) (by rfl) ?_ hė ?_
 rotate_left
 ·intro W hSW; have h9 := (HC.out W hSW).2.1; clear hSW; unfold im8; go_simp; with_reducible rfl
 simp only [im8, Act.put, sA, sZ, sS]
 refine Tillst.takeG (i := 9) (oi := im9) (v := .int .u64 (sz % 18446744073709551616)) rfl (by kernel_rfl) (by kernel_rfl) (by kernel_rfl) (by kernel_rfl) (by kernel_rfl) (fun _ _ _ h => h) (by rfl) ?_ hė ?_
 ·intro W hSW; clear hSW; unfold im9; go_simp
 simp only [im9, Act.put, sA, sZ, sS]
 refine Tillst.takeG (i := 10) (oi := im10) (v := .int .u64 (sz % 18446744073709551616 % 514)) rfl (by kernel_rfl) (by kernel_rfl) (by kernel_rfl) (by kernel_rfl) (by kernel_rfl) (fun _ _ _ h => h) (by rfl) ?_ hė ?_
 ·intro W hSW; clear hSW; unfold im10; go_simp; exact Int.tmod_eq_emod_of_nonneg (by omega)
 simp only [im10, Act.put, sA, sZ, sS]
 refine Tillst.takeG (i := 11) (oi := im11) (v := .int .i64 (itN sz : Nat)) rfl (by kernel_rfl) (by kernel_rfl) (by kernel_rfl) (by kernel_rfl) (by kernel_rfl) (fun _ _ _ h => h) (by rfl) ?_ hė ?_
 ·intro W hSW; clear hSW; unfold im11; go_simp
 simp only [im11, Act.put, sA, sZ, sS]
 refine Tillst.takeG (i := 13) (oi := im13) (v := ?_) rfl (by kernel_rfl) (by kernel_rfl) (by kernel_rfl) (by kernel_rfl) (by kernel_rfl) (fun _ _ _ h => h) (by rfl) ?_ hė ?_
 rotate_left
 ·intro W hSW; (try dsimp only at hSW); unfold im13; go_simp; with_reducible rfl
 simp only [im13, Act.put, sA, sZ, sS]
 refine Tillst.takeG (i := 14) (oi := im14) (v := ?_) rfl (by kernel_rfl) (by kernel_rfl) (by kernel_rfl) (by kernel_rfl) (by kernel_rfl) (fun _ _ _ h => h) (by rfl) ?_ hė ?_
 rotate_left
 ·intro W hSW; have h9 := (HC.out W hSW).2.1; clear hSW; unfold im14; go_simp; with_reducible rfl
 simp only [im14, Act.put, sA, sZ, sS]
 refine Tillst.takeG (i := 15) (oi := im15) (v := .int .u32 (sz % 4294967296)) rfl (by kernel_rfl) (by kernel_rfl) (by kernel_rfl) (by kernel_rfl) (by kernel_rfl) (fun _ _ _ h => h) (by rfl) ?_ hė ?_
 ·intro W hSW; clear hSW; unfold im15; go_simp
 simp only [im15, Act.put, sA, sZ, sS]
 refine Tillst.takeG (i := 16) (oi := im16) (v := ?_) rfl (by kernel_rfl) (by kernel_rfl) (by kernel_rfl) (by kernel_rfl) (by kernel_rfl) (fun _ _ _ h => h) (by rfl) ?_ hė ?_
 rotate_left
 ·intro W hSW; (try dsimp only at hSW); unfold im16; go_simp; with_reducible rfl
 simp only [im16, Act.put, sA, sZ, sS]
 refine Tillst.takeG (i := 17) (oi := im17) (v := ?_) rfl (by kernel_rfl) (by kernel_rfl) (by kernel_rfl) (by kernel_rfl) (by kernel_rfl) (fun _ _ _ h => h) (by rfl) ?_ hė ?_
 rotate_left
 ·intro W hSW; have h9 := (HC.out W hSW).2.2.2; clear hSW; unfold im17; go_simp; with_reducible rfl
 simp only [im17, Act.put, sA, sZ, sS]
 refine Tillst.takeG (i := 18) (oi := im18) (v := ?_) rfl (by kernel_rfl) (by kernel_rfl) (by kernel_rfl) (by kernel_rfl) (by kernel_rfl) (fun _ _ _ h => h) (by rfl) ?_ hė ?_
 rotate_left
 ·intro W hSW; (try dsimp only at hSW); unfold im18; go_simp; with_reducible rfl
 simp only [im18, Act.put, sA, sZ, sS]
 refine Tillst.takeG (i := 19) (oi := im19) (v := ?_) rfl (by kernel_rfl) (by kernel_rfl) (by kernel_rfl) (by kernel_rfl) (by kernel_rfl) (fun _ _ _ h => h) (by rfl) ?_ hė ?_
 rotate_left
 ·intro W hSW; have h9 := (HC.out W hSW).2.2.1; clear hSW; unfold im19; go_simp; with_reducible rfl
 simp only [im19, Act.put, sA, sZ, sS]
 refine Tillst.takeG (i := 20) (oi := im20) (v := ?_) rfl (by kernel_rfl) (by kernel_rfl) (by kernel_rfl) (by kernel_rfl) (by kernel_rfl) (fun _ _ _ h => h) (by rfl) ?_ hė ?_
 rotate_left
 ·intro W hSW; (try dsimp only at hSW); unfold im20; go_simp; with_reducible rfl
 simp only [im20, Act.put, sA, sZ, sS]
 refine Tillst.takeG (i := 21) (oi := im21) (v := ?_) rfl (by kernel_rfl) (by kernel_rfl) (by kernel_rfl) (by kernel_rfl) (by kernel_rfl) (fun _ _ _ h => h) (by rfl) ?_ hė ?_
 rotate_left
 ·intro W hSW; have h9 := (HC.out W hSW).2.1; clear hSW; unfold im21; go_simp; with_reducible rfl
 simp only [im21, Act.put, sA, sZ, sS]
 refine Tillst.takeG (i := 22) (oi := im22) (v := .int .i64 (sz.tmod 2)) rfl (by kernel_rfl) (by kernel_rfl) (by kernel_rfl) (by kernel_rfl) (by kernel_rfl) (fun _ _ _ h => h) (by rfl) ?_ hė ?_
 ·intro W hSW; clear hSW; unfold im22; go_simp
 simp only [im22, Act.put, sA, sZ, sS]
 refine Tillst.takeG (i := 23) (oi := im23) (v := .bool (sz.tmod 2 == 0)) rfl (by kernel_rfl) (by kernel_rfl) (by kernel_rfl) (by kernel_rfl) (by kernel_rfl) (fun _ _ _ h => h) (by rfl) ?_ hė ?_
 ·intro W hSW; clear hSW; unfold im23; go_simp
 simp only [im23, Act.put, sA, sZ, sS]
 clear hw8 hw64 hw32 hwn
 refine Tillst.two (i := 2) (j := 6) (o := im2) (o' := im6) (by kernel_rfl) rfl rfl ?_ ?_
 ·intro K hK
  refine step_call 17 #[.tmp 4] #[3] rfl rfl Tryz.func17 rfl rfl [.int .i64 ky] rfl ((key_any ky vd).mono ?_)
  rintro e w4 ⟨g, rfl, hg4, hr4, hb4⟩
  refine ⟨_, rfl, ?_⟩
  simp only [im2, Act.put, sA, sZ, sS]
  have hH4 := hė.trans (hb4.mono hė.size)
  have HKY4 := hI hr4
  have HG := hI (nT hė.size hg4)
  refine hK.out _ _ (fun _ => hH4) (fun hė => ?_)
  replace hė := hė (by decide)
  clear hK K hH4 hr4 hb4 hg4
  refine Tillst.one (i := 6) (o := im6) (by kernel_rfl) rfl ?_
  intro K hK
  refine step_lit1 (.tmp 8) rfl rfl (q % 256) rfl ?_
  simp only [im6, Act.put, sA, sZ, sS]
  have hal := (Below.refl w4.heap.size w4).alloc (nR _) (.cells #[.int .u8 (q % 256)] 5)
  have HBT := hI (Blk.new w4 5 #[.int .u8 (q % 256)])
  have HKY := hI (Blk.below HKY4.out hal (Blk.lt HKY4.out))
  have hH5 := hė.trans (hal.mono hė.size)
  generalize w4.heap.size = qb at *
  generalize w4.alloc _ = wz at *
  refine hK.out _ _ (fun _ => hH5) (fun hė => ?_)
  replace hė := hė (by decide)
  clear hK K hH5 hal
  refine Tillst.one (i := 12) (o := im12) (by kernel_rfl) rfl ?_
  intro K hK
  refine step_call 63 #[.tmp 9, .tmp 14] #[40, 3] rfl rfl Tryz.func63 rfl rfl [.slice (some ⟨qb, 0, none⟩) 1 1, .int .i64 (itN sz : Nat)] rfl ((repeat_any qb (itN sz) (q % 256) (itN_le sz) wz (HBT.out.cell 0)).mono ?_)
  rintro e w6 ⟨g2, c2, rfl, hr6, hb6⟩
  refine ⟨_, rfl, ?_⟩
  simp only [im12, Act.put, sA, sZ, sS]
  have hH6 := hė.trans (hb6.mono hė.size)
  have HKY6 := hI (Blk.below HKY.out hb6 (Blk.lt HKY.out))
  have HR6 := hI (hr6.more (T := fun b => w1.heap.size ≤ b) (fun b h => nT hė.size h))
  refine hK.out _ _ (fun _ => hH6) (fun hė => ?_)
  replace hė := hė (by decide)
  clear hK K hH6 hr6 hb6
  refine Tillst.takeG (i := 24) (oi := im24) (v := .agg (itCs g g2 c2 sz x q)) rfl (by kernel_rfl) (by kernel_rfl) (by kernel_rfl) (by kernel_rfl) (by kernel_rfl) (fun _ _ _ h => h) (by rfl) ?_ hė ?_
  ·intro W hSW; clear hSW; unfold im24; go_simp
  simp only [im24, Act.put, sA, sZ, sS]
  have HI6 := hI (HI1.out.below hė HI1.out.lt)
  refine Tillst.one (i := 25) (o := im25) (by kernel_rfl) rfl ?_
  intro K hK
  refine step_store14 (.tmp 2) (.tmp 27) 42 rfl rfl (w.heap.size + 1) (itCs g g2 c2 sz x q) rfl rfl 42 _ HI6.out size_itm rfl (by simp [Value.oneCell']) ?_
  simp only [im25, Act.put, sA, sZ, sS]
  have HH6 := hI hė
  refine hK.out _ _ (fun h => by cases h) (fun _ => ?_)
  clear hK K hė
  refine Tillst.done (by kernel_rfl) ?_ _
  go_wp2_with (with_reducible refine halt_end ?_)
  have hk7 : Kept (fun b => b ≠ w.heap.size + 1) w6 (w6.setRow (w.heap.size + 1) (itCs g g2 c2 sz x q)) := (Kept.refl _ _).setRow (fun h => h rfl) _
  have hlt1 := HI1.out.lt
  refine Halt.ret (results_row1 rfl _ _ (w.heap.size + 1) 42 (itCs g g2 c2 sz x q) _ rfl (setRow_heap _ _ _ _ _ _ HI6.out) Tryz.underlying42 rfl size_itm) rfl ⟨g, g2, c2, rfl, nT HB1.out.size HG.out, Blk.kept HKY6.out hk7 (by have := HG.out; omega), (HR6.out.kept hk7 (fun b h => by omega)).more (fun b h => nT HB1.out.size h), below_setRow (HB1.out.trans (HH6.out.mono HB1.out.size)) (by omega) _⟩
 ·intro K hK
  refine step_lit1 (.tmp 8) rfl rfl (q % 256) rfl ?_
  simp only [im6, Act.put, sA, sZ, sS]
  have hal := (Below.refl vd.heap.size vd).alloc (nR _) (.cells #[.int .u8 (q % 256)] 5)
  have HBT4 := hI (Blk.new vd 5 #[.int .u8 (q % 256)])
  have hH4 := hė.trans (hal.mono hė.size)
  generalize vd.heap.size = qb at *
  generalize vd.alloc _ = w4 at *
  refine hK.out _ _ (fun _ => hH4) (fun hė => ?_)
  replace hė := hė (by decide)
  clear hK K hH4 hal
  refine Tillst.one (i := 2) (o := im2) (by kernel_rfl) rfl ?_
  intro K hK
  refine step_call 17 #[.tmp 4] #[3] rfl rfl Tryz.func17 rfl rfl [.int .i64 ky] rfl ((key_any ky w4).mono ?_)
  rintro e wz ⟨g, rfl, hg4, hr4, hb4⟩
  refine ⟨_, rfl, ?_⟩
  simp only [im2, Act.put, sA, sZ, sS]
  have hH5 := hė.trans (hb4.mono hė.size)
  have HKY := hI hr4
  have HG := hI (nT hė.size hg4)
  have HBT := hI (HBT4.out.below hb4 HBT4.out.lt)
  refine hK.out _ _ (fun _ => hH5) (fun hė => ?_)
  replace hė := hė (by decide)
  clear hK K hH5 hr4 hb4 hg4
  refine Tillst.one (i := 12) (o := im12) (by kernel_rfl) rfl ?_
  intro K hK
  refine step_call 63 #[.tmp 9, .tmp 14] #[40, 3] rfl rfl Tryz.func63 rfl rfl [.slice (some ⟨qb, 0, none⟩) 1 1, .int .i64 (itN sz : Nat)] rfl ((repeat_any qb (itN sz) (q % 256) (itN_le sz) wz (HBT.out.cell 0)).mono ?_)
  rintro e w6 ⟨g2, c2, rfl, hr6, hb6⟩
  refine ⟨_, rfl, ?_⟩
  simp only [im12, Act.put, sA, sZ, sS]
  have hH6 := hė.trans (hb6.mono hė.size)
  have HKY6 := hI (Blk.below HKY.out hb6 (Blk.lt HKY.out))
  have HR6 := hI (hr6.more (T := fun b => w1.heap.size ≤ b) (fun b h => nT hė.size h))
  refine hK.out _ _ (fun _ => hH6) (fun hė => ?_)
  replace hė := hė (by decide)
  clear hK K hH6 hr6 hb6
  refine Tillst.takeG (i := 24) (oi := im24) (v := .agg (itCs g g2 c2 sz x q)) rfl (by kernel_rfl) (by kernel_rfl) (by kernel_rfl) (by kernel_rfl) (by kernel_rfl) (fun _ _ _ h => h) (by rfl) ?_ hė ?_
  ·intro W hSW; clear hSW; unfold im24; go_simp
  simp only [im24, Act.put, sA, sZ, sS]
  have HI6 := hI (HI1.out.below hė HI1.out.lt)
  refine Tillst.one (i := 25) (o := im25) (by kernel_rfl) rfl ?_
  intro K hK
  refine step_store14 (.tmp 2) (.tmp 27) 42 rfl rfl (w.heap.size + 1) (itCs g g2 c2 sz x q) rfl rfl 42 _ HI6.out size_itm rfl (by simp [Value.oneCell']) ?_
  simp only [im25, Act.put, sA, sZ, sS]
  have HH6 := hI hė
  refine hK.out _ _ (fun h => by cases h) (fun _ => ?_)
  clear hK K hė
  refine Tillst.done (by kernel_rfl) ?_ _
  go_wp2_with (with_reducible refine halt_end ?_)
  have hk7 : Kept (fun b => b ≠ w.heap.size + 1) w6 (w6.setRow (w.heap.size + 1) (itCs g g2 c2 sz x q)) := (Kept.refl _ _).setRow (fun h => h rfl) _
  have hlt1 := HI1.out.lt
  refine Halt.ret (results_row1 rfl _ _ (w.heap.size + 1) 42 (itCs g g2 c2 sz x q) _ rfl (setRow_heap _ _ _ _ _ _ HI6.out) Tryz.underlying42 rfl size_itm) rfl ⟨g, g2, c2, rfl, nT HB1.out.size HG.out, Blk.kept HKY6.out hk7 (by have := HG.out; omega), (HR6.out.kept hk7 (fun b h => by omega)).more (fun b h => nT HB1.out.size h), below_setRow (HB1.out.trans (HH6.out.mono HB1.out.size)) (by omega) _⟩
end
section
open Go.RowKit
attribute [local go_sem] Oper.semAt_some
theorem same_zero14 (w : World) : Calls Tryz.prog 20 #[.agg itm0C, .agg itm0C] w fun e w' => e = .returned (.bool true) ∧ Below w.heap.size w w' := by
 have HB := hI (((Below.refl w.heap.size w).alloc (nR _) (.cells itm0C 42)).alloc (by simp) (.cells itm0C 42))
 have HE := hI (fun W : World => equal_yes none none 0 0 0 [] (fun b => b < W.heap.size) (fun b => b < W.heap.size) W (RowG.nil _ _ _ _ _) (RowG.nil _ _ _ _ _) (fun b h => h) (fun b h => h))
 go_enter Tryz.func20, Tryz.ntmps20
 go_wp2_with fail
 refine (HE.out _ (fun j => by simp)).mono ?_
 rintro e w1 ⟨rfl, rfl⟩
 go_wp2_with fail
 refine (HE.out _ (fun j => by simp)).mono ?_
 rintro e w1 ⟨rfl, rfl⟩
 go_wp2_with fail
 (first | go_ret | go_ret2)
 exact ⟨rfl, HB.out⟩
end
section
open Go.RowKit
attribute [local go_sem] Oper.semAt_some
theorem same_yes14 {S T : Nat → Prop} (A : Option Addr) (n c c' : Nat) (A' B B' : Option Addr) (m d d' : Nat) (us vs : List Int) (f x q : Int) (dy : Bool) (w : World)
 (hk : RowI .u8 w S A n us) (hk' : RowI .u8 w T A' n us) (hv : RowI .u8 w S B m vs) (hv' : RowI .u8 w T B' m vs) (hS : ∀ b, S b → b < w.heap.size) (hT : ∀ b, T b → b < w.heap.size) (hu : Bytes us) (hb : Bytes vs) :
 Calls Tryz.prog 20 #[itmV A n c B m d f x q dy, itmV A' n c' B' m d' f x q dy] w fun e w' => e = .returned (.bool true) ∧ Below w.heap.size w w' := by
 obtain ⟨w2, hw2⟩ : ∃ w2, w2 = (w.alloc (.cells #[.slice A n c, .slice B m d, .int .u32 f, .int .u32 x, .int .u64 q, .bool dy] 42)).alloc (.cells #[.slice A' n c', .slice B' m d', .int .u32 f, .int .u32 x, .int .u64 q, .bool dy] 42) := ⟨_, rfl⟩
 have hb2 : Below w.heap.size w w2 := by rw [hw2]; exact ((Below.refl _ w).alloc (nR _) _).alloc (by simp) _
 have HA := hI (show Blk w2 w.heap.size 42 #[.slice A n c, .slice B m d, .int .u32 f, .int .u32 x, .int .u64 q, .bool dy] by rw [hw2]; exact (Blk.new w _ _).alloc _)
 have HB := hI (show Blk w2 (w.heap.size + 1) 42 #[.slice A' n c', .slice B' m d', .int .u32 f, .int .u32 x, .int .u64 q, .bool dy] by rw [hw2]; exact blk_new2 w _ _ _)
 have hl : ∀ b, b < w.heap.size → b < w2.heap.size := fun b h => nL h hb2.size
 have HE1 := hI (equal_yes A A' n c c' us S T w2 (hk.below hb2 hS) (hk'.below hb2 hT) (fun b h => hl b (hS b h)) (fun b h => hl b (hT b h)) hu)
 have HE2 := hI (equal_yes B B' m d d' vs S T w2 (hv.below hb2 hS) (hv'.below hb2 hT) (fun b h => hl b (hS b h)) (fun b h => hl b (hT b h)) hb)
 have HBL := hI hb2
 have HW := hI hw2
 have f0 : w2.cell? ⟨w.heap.size, 0, none⟩ = some (.slice A n c) := HA.out.cell 0
 have f1 : w2.cell? ⟨w.heap.size, 1, none⟩ = some (.slice B m d) := HA.out.cell 1
 have f2 : w2.cell? ⟨w.heap.size, 2, none⟩ = some (.int .u32 f) := HA.out.cell 2
 have f3 : w2.cell? ⟨w.heap.size, 3, none⟩ = some (.int .u32 x) := HA.out.cell 3
 have f4 : w2.cell? ⟨w.heap.size, 4, none⟩ = some (.int .u64 q) := HA.out.cell 4
 have f5 : w2.cell? ⟨w.heap.size, 5, none⟩ = some (.bool dy) := HA.out.cell 5
 have g0 : w2.cell? ⟨w.heap.size + 1, 0, none⟩ = some (.slice A' n c') := HB.out.cell 0
 have g1 : w2.cell? ⟨w.heap.size + 1, 1, none⟩ = some (.slice B' m d') := HB.out.cell 1
 have g2 : w2.cell? ⟨w.heap.size + 1, 2, none⟩ = some (.int .u32 f) := HB.out.cell 2
 have g3 : w2.cell? ⟨w.heap.size + 1, 3, none⟩ = some (.int .u32 x) := HB.out.cell 3
 have g4 : w2.cell? ⟨w.heap.size + 1, 4, none⟩ = some (.int .u64 q) := HB.out.cell 4
 have g5 : w2.cell? ⟨w.heap.size + 1, 5, none⟩ = some (.bool dy) := HB.out.cell 5
 clear hk hk' hv hv' hS hT hu hb hb2 hw2 hl
 go_enter Tryz.func20, Tryz.ntmps20
 go_upto_region 1 with fail
 rw [← HW.out]
 go_wp2_with fail
 refine HE1.out.mono ?_
 rintro r w3 ⟨rfl, rfl⟩
 go_wp2_with fail
 refine HE2.out.mono ?_
 rintro r w4 ⟨rfl, rfl⟩
 go_wp2_with fail
 (first | go_ret | go_ret2)
 exact ⟨rfl, HBL.out⟩
end
section
open Go.RowKit
attribute [local go_sem] Oper.semAt_some
def kindT : List Int := [0, 0, 0, 1, 2, 3, 4, 5, 6, 7, 8, 9]
def kindI (kd : Int) : Nat := (kd % 18446744073709551616 % 12).toNat
def kindN (kd : Int) : Int := kindT.getD (kindI kd) 0
theorem kind_idx (r : Nat) (h : r < 12) (W : World) : (Instr.index 121 (.agg #[.int .i64 0, .int .i64 0, .int .i64 0, .int .i64 1, .int .i64 2, .int .i64 3, .int .i64 4, .int .i64 5, .int .i64 6, .int .i64 7, .int .i64 8, .int .i64 9]) (.int .u64 (r : Int))).run Tryz.prog W = .ok (.int .i64 (kindT.getD r 0)) W := by
 obtain rfl | rfl | rfl | rfl | rfl | rfl | rfl | rfl | rfl | rfl | rfl | rfl : r = 0 ∨ r = 1 ∨ r = 2 ∨ r = 3 ∨ r = 4 ∨ r = 5 ∨ r = 6 ∨ r = 7 ∨ r = 8 ∨ r = 9 ∨ r = 10 ∨ r = 11 := by omega
 all_goals kernel_rfl
theorem kind_ok (kd ky sz at' q x : Int) (w : World) :
 Calls Tryz.prog 13 #[.agg #[.int .i64 kd, .int .i64 ky, .int .i64 sz, .int .i64 at', .int .u64 q, .int .u32 x]] w fun e w' => e = .returned (.int .i64 (kindN kd)) ∧ Below w.heap.size w w' := by
 obtain ⟨w1, hw1⟩ : ∃ w1, w1 = w.alloc (.cells #[.int .i64 kd, .int .i64 ky, .int .i64 sz, .int .i64 at', .int .u64 q, .int .u32 x] 37) := ⟨_, rfl⟩
 have hb1 : Below w.heap.size w w1 := by rw [hw1]; exact (Below.refl _ w).alloc (nR _) _
 have HO1 := hI (show Blk w1 w.heap.size 37 #[.int .i64 kd, .int .i64 ky, .int .i64 sz, .int .i64 at', .int .u64 q, .int .u32 x] by rw [hw1]; exact Blk.new w _ _)
 have c0 : w1.cell? ⟨w.heap.size, 0, none⟩ = some (.int .i64 kd) := HO1.out.cell 0
 have hw : IntKind.u64.wrap kd = kd % 18446744073709551616 := IntKind.wrap_u64 kd
 have HB1 := hI hb1
 have HW1 := hI hw1
 have hr : (kd % 18446744073709551616).tmod 12 = (kindI kd : Nat) := by
  rw [Int.tmod_eq_emod_of_nonneg (by omega)]
  unfold kindI
  omega
 have hlt : kindI kd < 12 := by unfold kindI; omega
 unfold kindN
 have hix := kind_idx (kindI kd) hlt
 generalize kindI kd = r at *
 clear hb1 hw1
 go_enter Tryz.func13, Tryz.ntmps13
 go_upto_region 1 with fail
 rw [← HW1.out]
 go_wp2
 (first | go_ret | go_ret2)
 exact ⟨rfl, HB1.out⟩
theorem few_any14 (A : Option Addr) (n c m : Nat) (hm : m = min n 50) (hnc : n ≤ c) (hA : A = none → c = 0) (w : World) : Calls Tryz.prog 12 #[.slice A n c] w fun e w' => e = .returned (.slice A m c) ∧ w' = w := by
 have HMN := hI (show (min (n : Int) 50).toNat = m by omega)
 have h2 : min (n : Int) 50 ≤ c := by omega
 have h3 : 0 ≤ min (n : Int) 50 := by omega
 clear hm hnc
 go_enter Tryz.func12, Tryz.ntmps12
 go_wp2
 all_goals (first | go_ret | go_ret2)
 all_goals exact ⟨by rw [← HMN.out]; rfl, rfl⟩
end
section
open Go.RowKit
attribute [local go_sem] Oper.semAt_some
abbrev ka0 : Oper := ⟨some 101, .move (.tmp 9), 28, "outright.go:99", #[], none⟩
abbrev ka1 : Oper := ⟨some 102, .move (.tmp 16), 3, "outright.go:99", #[], none⟩
abbrev ka2 : Oper := ⟨some 103, .call { callee := .value (.func 17), args := #[.tmp 102], argTypes := #[3] }, 40, "outright.go:99", #[⟨1, .data⟩], none⟩
abbrev ka3 : Oper := ⟨some 104, .fieldAddr 37 (.tmp 15) 4, 0, "outright.go:99", #[], none⟩
abbrev ka4 : Oper := ⟨some 105, .load 34 (.tmp 104), 34, "outright.go:99", #[⟨3, .data⟩], none⟩
abbrev ka5 : Oper := ⟨some 106, .call { callee := .value (.func 16), args := #[.tmp 101, .tmp 103, .tmp 105], argTypes := #[28, 40, 34] }, 29, "outright.go:99", #[⟨0, .data⟩, ⟨2, .data⟩, ⟨4, .data⟩, ⟨2, .chain⟩], none⟩
abbrev ka6 : Oper := ⟨some 18, .assign (.tmp 106), 29, "outright.go:99", #[⟨5, .data⟩, ⟨5, .chain⟩, ⟨0, .phase⟩, ⟨1, .phase⟩, ⟨2, .phase⟩, ⟨3, .phase⟩, ⟨4, .phase⟩, ⟨5, .phase⟩], none⟩
abbrev kb0 : Oper := ⟨some 112, .move (.tmp 16), 3, "outright.go:101", #[], none⟩
abbrev kb1 : Oper := ⟨some 113, .move (.tmp 1), 3, "outright.go:101", #[], none⟩
abbrev kb2 : Oper := ⟨some 114, .binOp Go.BinOp.eql 3 (.tmp 112) (.tmp 113) 3, 4, "outright.go:101", #[⟨0, .data⟩, ⟨1, .data⟩], none⟩
abbrev kb3 : Oper := ⟨some 115, .move (.tmp 114), 4, "outright.go:101", #[⟨2, .data⟩], none⟩
abbrev kb4 : Oper := ⟨some 116, .move (.tmp 11), 28, "outright.go:101", #[⟨3, .guard⟩], some (3, true)⟩
abbrev kb5 : Oper := ⟨some 117, .move (.tmp 16), 3, "outright.go:101", #[⟨3, .guard⟩], some (3, true)⟩
abbrev kb6 : Oper := ⟨some 118, .call { callee := .value (.func 17), args := #[.tmp 117], argTypes := #[3] }, 40, "outright.go:101", #[⟨5, .data⟩, ⟨3, .chain⟩, ⟨3, .guard⟩], some (3, true)⟩
abbrev kb7 : Oper := ⟨some 119, .fieldAddr 37 (.tmp 15) 4, 0, "outright.go:101", #[⟨3, .guard⟩], some (3, true)⟩
abbrev kb8 : Oper := ⟨some 120, .load 34 (.tmp 119), 34, "outright.go:101", #[⟨7, .data⟩, ⟨3, .guard⟩], some (3, true)⟩
abbrev kb9 : Oper := ⟨some 121, .call { callee := .value (.func 16), args := #[.tmp 116, .tmp 118, .tmp 120], argTypes := #[28, 40, 34] }, 29, "outright.go:101", #[⟨4, .data⟩, ⟨6, .data⟩, ⟨8, .data⟩, ⟨6, .chain⟩, ⟨3, .guard⟩], some (3, true)⟩
abbrev kb10 : Oper := ⟨some 122, .move (.tmp 18), 29, "outright.go:101", #[⟨3, .guard⟩], some (3, true)⟩
abbrev kb11 : Oper := ⟨some 123, .binOp Go.BinOp.neq 29 (.tmp 121) (.tmp 122) 29, 4, "outright.go:101", #[⟨9, .data⟩, ⟨10, .data⟩, ⟨3, .guard⟩], some (3, true)⟩
abbrev kb12 : Oper := ⟨some 124, .pick (.tmp 115) (.tmp 123) (.const (.bool false)), 4, "outright.go:101", #[⟨3, .data⟩, ⟨11, .data⟩], none⟩
abbrev kb13 : Oper := ⟨some 125, .move (.tmp 124), 4, "outright.go:101", #[⟨12, .data⟩, ⟨9, .chain⟩], none⟩
abbrev kb14 : Oper := ⟨some 126, .move (.tmp 13), 4, "outright.go:101", #[⟨13, .guard⟩], some (13, true)⟩
abbrev kb15 : Oper := ⟨some 127, .unOp Go.UnOp.not 4 (.tmp 126), 4, "outright.go:101", #[⟨14, .data⟩, ⟨13, .guard⟩], some (13, true)⟩
abbrev kb16 : Oper := ⟨some 128, .pick (.tmp 125) (.tmp 127) (.const (.bool false)), 4, "outright.go:101", #[⟨13, .data⟩, ⟨15, .data⟩], none⟩
theorem size_opA : (Tryz.prog.info? 37).map (·.size) = some 6 := by kernel_rfl
section
variable {P : Program} {w : World} {ops : Array Oper} {rest : List Oper} {o : Oper} {a : Act} {Q : Exit → Act → World → Prop}
theorem wpList_load_at14 (x : Operand) (ty : TypeId) (ho : o.op = .load ty x) (hgd : Region.wanted o (yielded ops a.tmps) = true) (b off : Nat) (hx : a.eval x = .pointer (some ⟨b, off, none⟩))
 (cs : List Value) (d : TypeDesc) (hu : P.underlying ty = some d) (hd : d.isRow = true) (hi : (P.info? ty).map (·.size) = some cs.length) (hc : w.rangeAt b off cs)
 (h : wpList P ops Q rest (a.put o.dst (.agg cs.toArray)) w) : wpList P ops Q (o :: rest) a w := by
 refine wpList_step fun K hK => ?_
 rw [if_pos hgd]
 exact wp_load_mid ty x ho b off hx cs d hc hu hd hi (hK _ _ h)
end
def kI (a : Int) : Int := a % 18446744073709551616 % 8
theorem kI_in (a : Int) : 0 ≤ kI a ∧ kI a < 8 := by unfold kI; omega
theorem kI_key (a : Int) : keyL (kI a) = keyL a := keyL_mod a
theorem kI_ways (a : Int) : IntKind.u64.wrap a = a % 18446744073709551616 ∧ (a % 18446744073709551616).tmod 8 = kI a ∧ IntKind.i64.wrap (kI a) = kI a := by
 refine ⟨IntKind.wrap_u64 a, Int.tmod_eq_emod_of_nonneg (by omega), ?_⟩
 rw [IntKind.wrap_i64]
 unfold kI
 omega
theorem rep_bytes (n : Nat) (q : Int) : Bytes (List.replicate n (q % 256)) := by
 intro j
 by_cases h : j < n
 ·simp [List.getD, List.getElem?_replicate, h]; omega
 ·simp [List.getD, List.getElem?_replicate, h]
theorem GotI.parts {w0 w' : World} {o : Option (List Int)} {e : Ending} (h : GotI w0 w' o e) : ∃ it er, e = .returned (.tuple #[.agg it, .int .i64 er]) ∧ it.size = 6 ∧ it.all (·.oneCell') = true ∧
 ((o = none ∧ it = itm0C ∧ er = 4) ∨ ∃ bs b1 b2, o = some bs ∧ it = itmC bs b1 b2 ∧ er = 0 ∧ w0.heap.size ≤ b1 ∧ w0.heap.size ≤ b2 ∧ ArrU w' b1 (keyOf bs) ∧ ArrU w' b2 (valOf bs) ∧ RecOk bs) := by
 rcases h with ⟨h1, h2⟩ | ⟨bs, b1, b2, h1, h2, h3⟩
 ·exact ⟨_, _, h2, rfl, by simp [Value.oneCell'], .inl ⟨h1, rfl, rfl⟩⟩
 ·exact ⟨_, _, h2, rfl, by simp [Value.oneCell'], .inr ⟨bs, b1, b2, h1, rfl, rfl, h3⟩⟩
abbrev opC (kd ky sz pl q x : Int) : Array Value := #[.int .i64 kd, .int .i64 ky, .int .i64 sz, .int .i64 pl, .int .u64 q, .int .u32 x]
theorem apart_law14 (a1 : Int) {A : Option Addr} {n cap : Nat} {z : List OpM.Op6} {w : World} (ho : IsOps14 w A n cap z) :
 Calls Tryz.prog 3 #[.slice A n cap, .int .i64 a1] w fun e w' => e = .returned (.bool true) ∧ Below w.heap.size w w' := by
 obtain ⟨m, hm⟩ : ∃ m, m = min n 50 := ⟨_, rfl⟩
 have hm50 : m ≤ 50 := by omega
 have hmn : m ≤ n := by omega
 have HO := hI ho
 have HFEW := hI (few_any14 A n cap m hm ho.nc ho.nA)
 clear ho hm
 go_enter Tryz.func3, Tryz.ntmps3
 go_wp2_with fail
 refine (wakes14 w).mono ?_
 rintro e w1 ⟨rfl, hb1⟩
 have HB1 := hI hb1
 clear hb1
 go_wp2_with fail
 refine (logs_any w1).mono ?_
 rintro e w2 ⟨l1, p1, d1, rfl, hl1, hb2⟩
 have HB2 := hI hb2
 have HL1 := hI hl1
 clear hb2 hl1
 go_wp2_with fail
 refine (logs_any w2).mono ?_
 rintro e w3 ⟨l2, p2, d2, rfl, hl2, hb3⟩
 have HL1 := hI (HL1.out.grow hb3)
 have HL2 := hI hl2
 have HB3 := hI hb3
 clear hb3 hl2
 go_wp2_with fail
 refine (new_s14 (slots := 8) HL1.out (fun b h => by have := HB2.out.size; have := HB3.out.size; omega) (by omega) (by omega)).mono ?_
 rintro e w4 ⟨q1, x1, F1, c1, f1, rfl, hs1, hb4⟩
 have HS1 := hI hs1
 have HL2 := hI (HL2.out.grow hb4)
 have HB4 := hI hb4
 clear hb4 hs1
 go_wp2_with fail
 refine (new_s14 (slots := 8) HL2.out (fun b h => by have := HB3.out.size; have := HB4.out.size; omega) (by omega) (by omega)).mono ?_
 rintro e w5 ⟨q2, x2, F2, c2, f2, rfl, hs2, hb5⟩
 have HM := hI (show ApM w5 (fun b => b < w1.heap.size) q1 q2 (keyL (kI a1)) 0 false from ApM.start HS1.out hs2 hb5 HB2.out.size ⟨rfl, rfl⟩)
 have HB5 := hI (show Below w.heap.size w w5 from
  (((HB1.out.trans (HB2.out.mono HB1.out.size)).trans (HB3.out.mono (nT HB1.out.size HB2.out.size))).trans (HB4.out.mono (nT (nT HB1.out.size HB2.out.size) HB3.out.size))).trans (hb5.mono (nT (nT (nT HB1.out.size HB2.out.size) HB3.out.size) HB4.out.size)))
 have HM5 := hI (HM.out.less (Z2 := fun b => b < w.heap.size) (fun b h => nL h HB1.out.size))
 clear hs2 hb5 HM HS1 HL1 HL2
 obtain ⟨k64, krem, kwr⟩ := kI_ways a1
 have HK0 := hI (kI_in a1)
 generalize hk0 : kI a1 = k0 at *
 clear hk0
 go_wp2_with fail
 clear k64 krem kwr
 refine (HFEW.out w5).mono ?_
 rintro e w6 ⟨rfl, rfl⟩
 clear HFEW
 go_wp2_with fail
 go_loopw [13, 62] (fun fv cv wr => ∃ (i : Nat) (full : Bool), fv = .bool full ∧ cv = .int .i64 i ∧ i ≤ m ∧ ApM wr (fun b => b < w.heap.size) q1 q2 (keyL k0) i full ∧ Below w.heap.size w wr) (fun _ cv _ => m - (intOf cv).toNat)
 case atStart => exact ⟨0, false, rfl, rfl, Nat.zero_le _, HM5.out, HB5.out⟩
 case round =>
 clear HM5 HB5 HB1 HB2 HB3 HB4
 obtain ⟨i, full, rfl, rfl, him, hm, hb⟩ := hrel
 have HM := hI hm
 have HB := hI hb
 clear hm hb
 by_cases hlt : i < m
 ·obtain ⟨b, off, rfl, hbS, hcells⟩ := HO.out.row.2 (by omega)
  have hr := hcells i (by omega)
  have hfin := HO.out.fin i (by omega)
  obtain ⟨o, ho⟩ : ∃ o, z.getD i OpM.ent0 = o := ⟨_, rfl⟩
  rw [ho] at hr hfin
  clear ho
  obtain ⟨kd, ky, sz, pl, q, x⟩ := o
  have HRNG := hI (show wr.rangeAt b (off + i * 6) (OpM.entV ⟨kd, ky, sz, pl, q, x⟩) from fun j v hv => (HB.out.cell (p := ⟨b, _, none⟩) hbS).trans (hr j v hv))
  have HFIN := hI (show (0 ≤ q ∧ q ≤ 18446744073709551615) ∧ 0 ≤ x ∧ x ≤ 4294967295 from hfin)
  clear hr hfin hcells
  obtain ⟨w5, hw5⟩ : ∃ w5, w5 = wr.alloc (.cells (opC kd ky sz pl q x) 37) := ⟨_, rfl⟩
  have hb5 : Below wr.heap.size wr w5 := by rw [hw5]; exact (Below.refl _ _).alloc (nR _) _
  have HOP5 := hI (show Blk w5 wr.heap.size 37 (opC kd ky sz pl q x) by rw [hw5]; exact Blk.new wr _ _)
  have HM5 := hI (HM.out.grow hb5)
  have HB5 := hI (HB.out.trans (hb5.mono HB.out.size))
  have HW5 := hI hw5.symm
  clear hw5 hb5 HM
  have p1 : w5.cell? ⟨wr.heap.size, 1, none⟩ = some (.int .i64 ky) := HOP5.out.cell 1
  obtain ⟨k64, krem, kwr⟩ := kI_ways ky
  go_upto_region 14 with (refine wpList_load_at14 (.tmp 64) 37 rfl rfl b (off + i * 6) rfl (OpM.entV ⟨kd, ky, sz, pl, q, x⟩) _ Tryz.underlying37 rfl size_opA HRNG.out ?_)
  rw [HW5.out]
  go_wp2_with (refine wpList_load_rowB (.tmp 15) 37 rfl rfl wr.heap.size rfl 37 (OpM.entV ⟨kd, ky, sz, pl, q, x⟩) _ Tryz.underlying37 rfl size_opA HOP5.out ?_)
  clear p1 k64 krem kwr
  refine (kind_ok kd ky sz pl q x w5).mono ?_
  rintro e w6 ⟨rfl, hb6⟩
  have HOP6 := hI (HOP5.out.below hb6 HOP5.out.lt)
  have HM6 := hI (HM5.out.grow hb6)
  have HB6 := hI (HB5.out.trans (hb6.mono HB5.out.size))
  have HZ5 := hI HOP5.out.lt
  clear hb6 HW5 HRNG
  generalize kindN kd = kn at *
  by_cases e0 : kn = 0
  ·subst e0
   clear HM5 HB5 HOP5
   go_wp2_with (refine wpList_load_rowB (.tmp 15) 37 rfl rfl wr.heap.size rfl 37 (OpM.entV ⟨kd, ky, sz, pl, q, x⟩) _ Tryz.underlying37 rfl size_opA HOP6.out ?_)
   refine (item_ok kd ky sz pl q x w6).mono ?_
   rintro e w7 ⟨g7, g72, c72, rfl, hg7, hr7, hv7, hb7⟩
   have HPT := hI ((HM6.out.grow hb7).put (f := sz % 4294967296) (x := x) (q := q) (dy := sz.tmod 2 == 0) (c := 2) (c2 := c72) (by omega) ((Arr.rowN (S := fun b => b = g7) hr7 0 (n := 2) rfl rfl).more (fun b h => .inr ⟨by omega, by have := Blk.lt hr7; omega⟩)) (hv7.bound.more (fun b h => .inr ⟨h.1, h.2⟩)) (keyL_bytes ky) (rep_bytes _ _) (fun h => by cases h) (fun h => by cases h) ⟨by omega, by omega, HFIN.out.2.1, HFIN.out.2.2, HFIN.out.1.1, HFIN.out.1.2⟩)
   have HOP7 := hI (HOP6.out.below hb7 HOP6.out.lt)
   have HB7 := hI (HB6.out.trans (hb7.mono HB6.out.size))
   clear hg7 hr7 hv7 hb7
   go_wp2_with fail
   refine HPT.out.mono ?_
   rintro e w8 ⟨er, rfl, hh8, hk8⟩
   have HH8 := hI hh8
   have HOP8 := hI (HOP7.out.kept hk8 (.inl (.inl (.inr ⟨nR _, HZ5.out⟩))))
   have HB8 := hI (HB7.out.trans (hk8.to_below (B := w.heap.size) (fun b hb => .inl (.inl (.inl hb)))))
   clear hh8 hk8 HPT HOP6 HOP7 HB6 HB7 HM6
   obtain ⟨b6, hfl⟩ : ∃ b6, (full || (er == 6)) = b6 := ⟨_, rfl⟩
   have HFL := hI hfl
   have hcase : (full = true ∧ b6 = true) ∨ (full = false ∧ (er == 6) = b6) := by
    cases full
    ·exact .inr ⟨rfl, by simpa using hfl⟩
    ·exact .inl ⟨rfl, by simpa using hfl.symm⟩
   clear hfl
   by_cases hkk : kI ky = k0
   ·subst hkk
    rw [kI_key] at HH8
    rcases hcase with ⟨rfl, rfl⟩ | ⟨rfl, h6b⟩
    all_goals
     -- the item is put into the second one, too
     go_wp2_with (refine wpList_load_rowB (.tmp 15) 37 rfl rfl wr.heap.size rfl 37 (OpM.entV ⟨kd, ky, sz, pl, q, x⟩) _ Tryz.underlying37 rfl size_opA HOP8.out ?_)
     refine (item_ok kd ky sz pl q x w8).mono ?_
     rintro e w9 ⟨g9, g92, c92, rfl, hg9, hr9, hv9, hb9⟩
     have HH9 := hI (HH8.out.grow hb9)
     have HPT9 := hI (HH9.out.put_two (dy := sz.tmod 2 == 0) (c := 2) (c2 := c92) (by omega) ((Arr.rowN (S := fun b => b = g9) hr9 0 (n := 2) rfl rfl).more (fun b h => .inr ⟨by omega, by have := Blk.lt hr9; omega⟩)) (hv9.bound.more (fun b h => .inr ⟨h.1, h.2⟩)) (keyL_bytes ky) (rep_bytes _ _) (fun h => by cases h) (fun h => by cases h) ⟨by omega, by omega, HFIN.out.2.1, HFIN.out.2.2, HFIN.out.1.1, HFIN.out.1.2⟩)
     have HB9 := hI (HB8.out.trans (hb9.mono HB8.out.size))
     clear hg9 hr9 hv9 hb9
     go_wp2_with fail
     refine HPT9.out.mono ?_
     rintro e w10 ⟨er', rfl, hm10, hk10, hor⟩
     rw [HFL.out] at hm10
     have HBZ := hI (HB9.out.trans (hk10.to_below (B := w.heap.size) (fun b hb => .inl (.inl (.inl (.inl hb))))))
     have HM10 := hI (hm10.less (Z2 := fun b => b < w.heap.size) (fun b hb => .inl (.inl (.inl (.inl hb)))))
     clear hm10 hk10 HPT9
     by_cases hee : er' = er
     ·subst hee
      clear hor
      go_wp2_with fail
      go_roundw
      case rel =>
       refine ⟨i + 1, _, rfl, rfl, by omega, (by rw [kI_key]; exact HM10.out), HBZ.out⟩
      case measure =>
       simp only [intOf]
       omega
     ·have hne : (er' != er) = true := by simpa using hee
      try (obtain rfl : b6 = true := (by rcases hor with e | e | e; cases e; rw [e] at h6b; exact h6b.symm; exact absurd e hee))
      go_wp2_with fail
      go_roundw
      case rel =>
       refine ⟨i + 1, _, rfl, rfl, by omega, (by rw [kI_key]; exact HM10.out), HBZ.out⟩
      case measure =>
       simp only [intOf]
       omega
   ·have hkb : (kI ky == k0) = false := by simpa using hkk
    have hm9 := HH8.out.put_one (fun e => hkk ((keyL_inj (kI_in ky) HK0.out).1 ((kI_key ky).trans e.symm)))
    rw [HFL.out] at hm9
    have HM9 := hI (hm9.less (Z2 := fun b => b < w.heap.size) (fun b hb => .inl (.inl (.inl hb))))
    clear hm9
    have HBZ := hI HB8.out
    rcases hcase with ⟨rfl, rfl⟩ | ⟨rfl, h6b⟩
    all_goals
     go_wp2_with fail
     go_roundw
     case rel =>
      refine ⟨i + 1, _, rfl, rfl, by omega, HM9.out, HBZ.out⟩
     case measure =>
      simp only [intOf]
      omega
  ·have e0b : (kn == 0) = false := by simpa using e0
   by_cases e2 : kn = 2
   ·subst e2
    clear e0b e0 HM5 HB5 HOP5
    have HCD6 := hI (show ∀ W, Below w6.heap.size w6 W → W.cell? ⟨wr.heap.size, 4, none⟩ = some (.int .u64 q) from fun W hW => (HOP6.out.below hW HOP6.out.lt).cell 4)
    go_upto_region 22 with fail
    refine Tillst.region (fun W => W.cell? ⟨wr.heap.size, 4, none⟩ = some (.int .u64 q)) [] (by kernel_rfl) (HCD6.out _ (Below.refl _ _).drew) (fun hė => ?_)
    have HBD := hI ((Below.refl w6.heap.size w6).drew)
    generalize w6.drew = vd at *
    refine Tillst.tk 0 ka0 (v := ?_) rfl (by kernel_rfl) (by rfl) ?_ hė ?_
    rotate_left
    ·intro W hSW; (try dsimp only at hSW); unfold ka0; go_simp; with_reducible rfl
    simp only [ka0, Act.put, sA, sZ, sS]
    refine Tillst.tk 1 ka1 (v := ?_) rfl (by kernel_rfl) (by rfl) ?_ hė ?_
    rotate_left
    ·intro W hSW; (try dsimp only at hSW); unfold ka1; go_simp; with_reducible rfl
    simp only [ka1, Act.put, sA, sZ, sS]
    refine Tillst.tk 3 ka3 (v := ?_) rfl (by kernel_rfl) (by rfl) ?_ hė ?_
    rotate_left
    ·intro W hSW; (try dsimp only at hSW); unfold ka3; go_simp; with_reducible rfl
    simp only [ka3, Act.put, sA, sZ, sS]
    refine Tillst.tk 4 ka4 (v := ?_) rfl (by kernel_rfl) (by rfl) ?_ hė ?_
    rotate_left
    ·intro W hSW; (try dsimp only at hSW); unfold ka4; go_simp; with_reducible rfl
    simp only [ka4, Act.put, sA, sZ, sS]
    refine Tillst.one (i := 2) (o := ka2) (by kernel_rfl) rfl ?_
    intro K hK
    refine step_call 17 #[.tmp 102] #[3] rfl rfl Tryz.func17 rfl rfl [.int .i64 (kI ky)] rfl ((key_any (kI ky) vd).mono ?_)
    rintro e w7 ⟨g7, rfl, hg7, hr7, hb7⟩
    refine ⟨_, rfl, ?_⟩
    simp only [ka2, Act.put, sA, sZ, sS]
    have hb67 := HBD.out.trans (hb7.mono HBD.out.size)
    have hc7 := HCD6.out w7 hb67
    rw [kI_key] at hr7
    have HPT := hI (((HM6.out.grow HBD.out).grow hb7).kill (q := q) (c := 2) (by omega) ((Arr.rowN (S := fun b => b = g7) hr7 0 (n := 2) rfl rfl).more (fun b h => .inr ⟨by omega, by have := Blk.lt hr7; omega⟩)) (keyL_bytes ky) HFIN.out.1)
    have HOP7 := hI (HOP6.out.below hb67 HOP6.out.lt)
    have HB7 := hI (HB6.out.trans (hb67.mono HB6.out.size))
    refine hK.out _ _ (fun _ => hc7) (fun hė => ?_)
    replace hė := hė (by decide)
    clear hK K hc7 hg7 hr7 hb7 hb67
    refine Tillst.one (i := 5) (o := ka5) (by kernel_rfl) rfl ?_
    intro K hK
    refine step_call 16 #[.tmp 101, .tmp 103, .tmp 105] #[28, 40, 34] rfl rfl Tryz.func16 rfl rfl [.pointer (some ⟨q1, 0, none⟩), .slice (some ⟨g7, 0, none⟩) 2 2, .int .u64 q] rfl (HPT.out.mono ?_)
    rintro e w8 ⟨er, rfl, hh8, hk8⟩
    refine ⟨_, rfl, ?_⟩
    simp only [ka5, Act.put, sA, sZ, sS]
    have HH8 := hI hh8
    have HOP8 := hI (HOP7.out.kept hk8 (.inl (.inl (.inl (.inr ⟨nR _, HZ5.out⟩)))))
    have HB8 := hI (HB7.out.trans (hk8.to_below (B := w.heap.size) (fun b hb => .inl (.inl (.inl (.inl hb))))))
    have hc8 : w8.cell? ⟨wr.heap.size, 4, none⟩ = some (.int .u64 q) := HOP8.out.cell 4
    refine hK.out _ _ (fun _ => hc8) (fun hė => ?_)
    replace hė := hė (by decide)
    clear hK K hc8 hh8 hk8 HPT HOP6 HOP7 HB6 HB7 HM6 HCD6 HBD
    refine Tillst.tk 6 ka6 (v := ?_) rfl (by kernel_rfl) (by rfl) ?_ hė ?_
    rotate_left
    ·intro W hSW; (try dsimp only at hSW); unfold ka6; go_simp; with_reducible rfl
    simp only [ka6, Act.put, sA, sZ, sS]
    refine Tillst.done (by kernel_rfl) ?_ _
    clear hė
    have HCD := hI (show ∀ W, Below w8.heap.size w8 W → W.cell? ⟨wr.heap.size, 4, none⟩ = some (.int .u64 q) from fun W hW => (HOP8.out.below hW HOP8.out.lt).cell 4)
    obtain ⟨b6, hfl⟩ : ∃ b6, (full || (er == 6)) = b6 := ⟨_, rfl⟩
    have HFL := hI hfl
    have hcase : (full = true ∧ b6 = true) ∨ (full = false ∧ (er == 6) = b6) := by
     cases full
     ·exact .inr ⟨rfl, by simpa using hfl⟩
     ·exact .inl ⟨rfl, by simpa using hfl.symm⟩
    clear hfl
    by_cases hkk : kI ky = k0
    ·subst hkk
     rw [kI_key] at HH8
     rcases hcase with ⟨rfl, rfl⟩ | ⟨rfl, h6b⟩
     all_goals
      go_upto_region 24 with fail
      refine Tillst.region (fun W => W.cell? ⟨wr.heap.size, 4, none⟩ = some (.int .u64 q)) [] (by kernel_rfl) (HCD.out _ (Below.refl _ _).drew) (fun hė => ?_)
      have HBD := hI ((Below.refl w8.heap.size w8).drew)
      generalize w8.drew = vd at *
      refine Tillst.tk 0 kb0 (v := ?_) rfl (by kernel_rfl) (by rfl) ?_ hė ?_
      rotate_left
      ·intro W hSW; (try dsimp only at hSW); unfold kb0; go_simp; with_reducible rfl
      simp only [kb0, Act.put, sA, sZ, sS]
      refine Tillst.tk 1 kb1 (v := ?_) rfl (by kernel_rfl) (by rfl) ?_ hė ?_
      rotate_left
      ·intro W hSW; (try dsimp only at hSW); unfold kb1; go_simp; with_reducible rfl
      simp only [kb1, Act.put, sA, sZ, sS]
      refine Tillst.tk 2 kb2 (v := .bool true) rfl (by kernel_rfl) (by rfl) ?_ hė ?_
      ·intro W hSW; clear hSW; unfold kb2; go_simp
      simp only [kb2, Act.put, sA, sZ, sS]
      refine Tillst.tk 3 kb3 (v := ?_) rfl (by kernel_rfl) (by rfl) ?_ hė ?_
      rotate_left
      ·intro W hSW; (try dsimp only at hSW); unfold kb3; go_simp; with_reducible rfl
      simp only [kb3, Act.put, sA, sZ, sS]
      refine Tillst.tk 4 kb4 (v := ?_) rfl (by kernel_rfl) (by rfl) ?_ hė ?_
      rotate_left
      ·intro W hSW; (try dsimp only at hSW); unfold kb4; go_simp; with_reducible rfl
      simp only [kb4, Act.put, sA, sZ, sS]
      refine Tillst.tk 5 kb5 (v := ?_) rfl (by kernel_rfl) (by rfl) ?_ hė ?_
      rotate_left
      ·intro W hSW; (try dsimp only at hSW); unfold kb5; go_simp; with_reducible rfl
      simp only [kb5, Act.put, sA, sZ, sS]
      refine Tillst.tk 7 kb7 (v := ?_) rfl (by kernel_rfl) (by rfl) ?_ hė ?_
      rotate_left
      ·intro W hSW; (try dsimp only at hSW); unfold kb7; go_simp; with_reducible rfl
      simp only [kb7, Act.put, sA, sZ, sS]
      refine Tillst.tk 8 kb8 (v := ?_) rfl (by kernel_rfl) (by rfl) ?_ hė ?_
      rotate_left
      ·intro W hSW; (try dsimp only at hSW); unfold kb8; go_simp; with_reducible rfl
      simp only [kb8, Act.put, sA, sZ, sS]
      refine Tillst.tk 10 kb10 (v := ?_) rfl (by kernel_rfl) (by rfl) ?_ hė ?_
      rotate_left
      ·intro W hSW; (try dsimp only at hSW); unfold kb10; go_simp; with_reducible rfl
      simp only [kb10, Act.put, sA, sZ, sS]
      refine Tillst.one (i := 6) (o := kb6) (by kernel_rfl) rfl ?_
      intro K hK
      refine step_call 17 #[.tmp 117] #[3] rfl rfl Tryz.func17 rfl rfl [.int .i64 (kI ky)] rfl ((key_any (kI ky) vd).mono ?_)
      rintro e w9 ⟨g9, rfl, hg9, hr9, hb9⟩
      refine ⟨_, rfl, ?_⟩
      simp only [kb6, Act.put, sA, sZ, sS]
      have hc9 := HCD.out w9 (HBD.out.trans (hb9.mono HBD.out.size))
      have HOP9 := hI (HOP8.out.below (HBD.out.trans (hb9.mono HBD.out.size)) HOP8.out.lt)
      rw [kI_key] at hr9
      have HH9 := hI ((HH8.out.grow HBD.out).grow hb9)
      have HPT9 := hI (HH9.out.kill_two (c := 2) (by omega) ((Arr.rowN (S := fun b => b = g9) hr9 0 (n := 2) rfl rfl).more (fun b h => .inr ⟨by omega, by have := Blk.lt hr9; omega⟩)) (keyL_bytes ky) HFIN.out.1)
      have HB9 := hI ((HB8.out.trans (HBD.out.mono HB8.out.size)).trans (hb9.mono (HB8.out.trans (HBD.out.mono HB8.out.size)).size))
      refine hK.out _ _ (fun _ => hc9) (fun hė => ?_)
      replace hė := hė (by decide)
      clear hK K hc9 hg9 hr9 hb9
      refine Tillst.one (i := 9) (o := kb9) (by kernel_rfl) rfl ?_
      intro K hK
      refine step_call 16 #[.tmp 116, .tmp 118, .tmp 120] #[28, 40, 34] rfl rfl Tryz.func16 rfl rfl [.pointer (some ⟨q2, 0, none⟩), .slice (some ⟨g9, 0, none⟩) 2 2, .int .u64 q] rfl (HPT9.out.mono ?_)
      rintro e w10 ⟨er', rfl, hm10, hk10, hor⟩
      rw [HFL.out] at hm10
      refine ⟨_, rfl, ?_⟩
      simp only [kb9, Act.put, sA, sZ, sS]
      have HBZ := hI (HB9.out.trans (hk10.to_below (B := w.heap.size) (fun b hb => .inl (.inl (.inl (.inl (.inl (.inl hb))))))))
      have HM10 := hI (hm10.less (Z2 := fun b => b < w.heap.size) (fun b hb => .inl (.inl (.inl (.inl (.inl (.inl hb)))))))
      have hc10 : w10.cell? ⟨wr.heap.size, 4, none⟩ = some (.int .u64 q) := (HOP9.out.kept hk10 (.inl (.inl (.inl (.inl (.inl (.inr ⟨nR _, HZ5.out⟩))))))).cell 4
      refine hK.out _ _ (fun _ => hc10) (fun hė => ?_)
      replace hė := hė (by decide)
      clear hK K hm10 hk10 HPT9 hc10
      by_cases hee : er' = er
      ·subst hee
       clear hor
       refine Tillst.tk 11 kb11 (v := .bool false) rfl (by kernel_rfl) (by rfl) ?_ hė ?_
       ·intro W hSW; clear hSW; unfold kb11; go_simp
       simp only [kb11, Act.put, sA, sZ, sS]
       refine Tillst.tk 12 kb12 (v := ?_) rfl (by kernel_rfl) (by rfl) ?_ hė ?_
       rotate_left
       ·intro W hSW; (try dsimp only at hSW); unfold kb12; go_simp; with_reducible rfl
       simp only [kb12, Act.put, sA, sZ, sS]
       refine Tillst.tk 13 kb13 (v := ?_) rfl (by kernel_rfl) (by rfl) ?_ hė ?_
       rotate_left
       ·intro W hSW; (try dsimp only at hSW); unfold kb13; go_simp; with_reducible rfl
       simp only [kb13, Act.put, sA, sZ, sS]
       refine Tillst.skip (i := 14) (oi := kb14) rfl (by kernel_rfl) (by kernel_rfl) (by kernel_rfl) (by kernel_rfl) (fun _ _ _ h => h) (by rfl) hė ?_
       simp only [kb14, Act.put, sA, sZ, sS]
       refine Tillst.skip (i := 15) (oi := kb15) rfl (by kernel_rfl) (by kernel_rfl) (by kernel_rfl) (by kernel_rfl) (fun _ _ _ h => h) (by rfl) hė ?_
       simp only [kb15, Act.put, sA, sZ, sS]
       refine Tillst.tk 16 kb16 (v := ?_) rfl (by kernel_rfl) (by rfl) ?_ hė ?_
       rotate_left
       ·intro W hSW; (try dsimp only at hSW); unfold kb16; go_simp; with_reducible rfl
       simp only [kb16, Act.put, sA, sZ, sS]
       refine Tillst.done (by kernel_rfl) ?_ _
       go_wp2_with fail
       go_roundw
       case rel =>
        refine ⟨i + 1, _, rfl, rfl, by omega, (by rw [kI_key]; exact HM10.out), HBZ.out⟩
       case measure =>
        simp only [intOf]
        omega
      ·have hne : (er' != er) = true := by simpa using hee
       try (obtain rfl : b6 = true := (by rcases hor with e | e | e; cases e; rw [e] at h6b; exact h6b.symm; exact absurd e hee))
       refine Tillst.tk 11 kb11 (v := .bool true) rfl (by kernel_rfl) (by rfl) ?_ hė ?_
       ·intro W hSW; clear hSW; unfold kb11; go_simp
       simp only [kb11, Act.put, sA, sZ, sS]
       refine Tillst.tk 12 kb12 (v := ?_) rfl (by kernel_rfl) (by rfl) ?_ hė ?_
       rotate_left
       ·intro W hSW; (try dsimp only at hSW); unfold kb12; go_simp; with_reducible rfl
       simp only [kb12, Act.put, sA, sZ, sS]
       refine Tillst.tk 13 kb13 (v := ?_) rfl (by kernel_rfl) (by rfl) ?_ hė ?_
       rotate_left
       ·intro W hSW; (try dsimp only at hSW); unfold kb13; go_simp; with_reducible rfl
       simp only [kb13, Act.put, sA, sZ, sS]
       refine Tillst.tk 14 kb14 (v := ?_) rfl (by kernel_rfl) (by rfl) ?_ hė ?_
       rotate_left
       ·intro W hSW; (try dsimp only at hSW); unfold kb14; go_simp; with_reducible rfl
       simp only [kb14, Act.put, sA, sZ, sS]
       refine Tillst.tk 15 kb15 (v := ?_) rfl (by kernel_rfl) (by rfl) ?_ hė ?_
       rotate_left
       ·intro W hSW; (try dsimp only at hSW); unfold kb15; go_simp; with_reducible rfl
       simp only [kb15, Act.put, sA, sZ, sS]
       refine Tillst.tk 16 kb16 (v := ?_) rfl (by kernel_rfl) (by rfl) ?_ hė ?_
       rotate_left
       ·intro W hSW; (try dsimp only at hSW); unfold kb16; go_simp; with_reducible rfl
       simp only [kb16, Act.put, sA, sZ, sS]
       refine Tillst.done (by kernel_rfl) ?_ _
       go_wp2_with fail
       go_roundw
       case rel =>
        refine ⟨i + 1, _, rfl, rfl, by omega, (by rw [kI_key]; exact HM10.out), HBZ.out⟩
       case measure =>
        simp only [intOf]
        omega
    ·have hkb : (kI ky == k0) = false := by simpa using hkk
     have hm9 := HH8.out.kill_one (fun e => hkk ((keyL_inj (kI_in ky) HK0.out).1 ((kI_key ky).trans e.symm)))
     rw [HFL.out] at hm9
     have HM9 := hI (hm9.less (Z2 := fun b => b < w.heap.size) (fun b hb => .inl (.inl (.inl (.inl hb)))))
     clear hm9
     rcases hcase with ⟨rfl, rfl⟩ | ⟨rfl, h6b⟩
     all_goals
      go_upto_region 24 with fail
      refine Tillst.region (fun W => W.cell? ⟨wr.heap.size, 4, none⟩ = some (.int .u64 q)) [] (by kernel_rfl) (HCD.out _ (Below.refl _ _).drew) (fun hė => ?_)
      have HBD := hI ((Below.refl w8.heap.size w8).drew)
      generalize w8.drew = vd at *
      refine Tillst.tk 0 kb0 (v := ?_) rfl (by kernel_rfl) (by rfl) ?_ hė ?_
      rotate_left
      ·intro W hSW; (try dsimp only at hSW); unfold kb0; go_simp; with_reducible rfl
      simp only [kb0, Act.put, sA, sZ, sS]
      refine Tillst.tk 1 kb1 (v := ?_) rfl (by kernel_rfl) (by rfl) ?_ hė ?_
      rotate_left
      ·intro W hSW; (try dsimp only at hSW); unfold kb1; go_simp; with_reducible rfl
      simp only [kb1, Act.put, sA, sZ, sS]
      refine Tillst.tk 2 kb2 (v := .bool false) rfl (by kernel_rfl) (by rfl) ?_ hė ?_
      ·intro W hSW; clear hSW; unfold kb2; go_simp
      simp only [kb2, Act.put, sA, sZ, sS]
      refine Tillst.tk 3 kb3 (v := ?_) rfl (by kernel_rfl) (by rfl) ?_ hė ?_
      rotate_left
      ·intro W hSW; (try dsimp only at hSW); unfold kb3; go_simp; with_reducible rfl
      simp only [kb3, Act.put, sA, sZ, sS]
      refine Tillst.skip (i := 4) (oi := kb4) rfl (by kernel_rfl) (by kernel_rfl) (by kernel_rfl) (by kernel_rfl) (fun _ _ _ h => h) (by rfl) hė ?_
      simp only [kb4, Act.put, sA, sZ, sS]
      refine Tillst.skip (i := 5) (oi := kb5) rfl (by kernel_rfl) (by kernel_rfl) (by kernel_rfl) (by kernel_rfl) (fun _ _ _ h => h) (by rfl) hė ?_
      simp only [kb5, Act.put, sA, sZ, sS]
      refine Tillst.skip (i := 6) (oi := kb6) rfl (by kernel_rfl) (by kernel_rfl) (by kernel_rfl) (by kernel_rfl) (fun _ _ _ h => h) (by rfl) hė ?_
      simp only [kb6, Act.put, sA, sZ, sS]
      refine Tillst.skip (i := 7) (oi := kb7) rfl (by kernel_rfl) (by kernel_rfl) (by kernel_rfl) (by kernel_rfl) (fun _ _ _ h => h) (by rfl) hė ?_
      simp only [kb7, Act.put, sA, sZ, sS]
      refine Tillst.skip (i := 8) (oi := kb8) rfl (by kernel_rfl) (by kernel_rfl) (by kernel_rfl) (by kernel_rfl) (fun _ _ _ h => h) (by rfl) hė ?_
      simp only [kb8, Act.put, sA, sZ, sS]
      refine Tillst.skip (i := 9) (oi := kb9) rfl (by kernel_rfl) (by kernel_rfl) (by kernel_rfl) (by kernel_rfl) (fun _ _ _ h => h) (by rfl) hė ?_
      simp only [kb9, Act.put, sA, sZ, sS]
      refine Tillst.skip (i := 10) (oi := kb10) rfl (by kernel_rfl) (by kernel_rfl) (by kernel_rfl) (by kernel_rfl) (fun _ _ _ h => h) (by rfl) hė ?_
      simp only [kb10, Act.put, sA, sZ, sS]
      refine Tillst.skip (i := 11) (oi := kb11) rfl (by kernel_rfl) (by kernel_rfl) (by kernel_rfl) (by kernel_rfl) (fun _ _ _ h => h) (by rfl) hė ?_
      simp only [kb11, Act.put, sA, sZ, sS]
      refine Tillst.tk 12 kb12 (v := ?_) rfl (by kernel_rfl) (by rfl) ?_ hė ?_
      rotate_left
      ·intro W hSW; (try dsimp only at hSW); unfold kb12; go_simp; with_reducible rfl
      simp only [kb12, Act.put, sA, sZ, sS]
      refine Tillst.tk 13 kb13 (v := ?_) rfl (by kernel_rfl) (by rfl) ?_ hė ?_
      rotate_left
      ·intro W hSW; (try dsimp only at hSW); unfold kb13; go_simp; with_reducible rfl
      simp only [kb13, Act.put, sA, sZ, sS]
      refine Tillst.skip (i := 14) (oi := kb14) rfl (by kernel_rfl) (by kernel_rfl) (by kernel_rfl) (by kernel_rfl) (fun _ _ _ h => h) (by rfl) hė ?_
      simp only [kb14, Act.put, sA, sZ, sS]
      refine Tillst.skip (i := 15) (oi := kb15) rfl (by kernel_rfl) (by kernel_rfl) (by kernel_rfl) (by kernel_rfl) (fun _ _ _ h => h) (by rfl) hė ?_
      simp only [kb15, Act.put, sA, sZ, sS]
      refine Tillst.tk 16 kb16 (v := ?_) rfl (by kernel_rfl) (by rfl) ?_ hė ?_
      rotate_left
      ·intro W hSW; (try dsimp only at hSW); unfold kb16; go_simp; with_reducible rfl
      simp only [kb16, Act.put, sA, sZ, sS]
      refine Tillst.done (by kernel_rfl) ?_ _
      have HM10 := hI ((HM9.out.grow HBD.out).less (Z2 := fun b => b < w.heap.size) (fun b hb => .inl hb))
      have HBZ := hI (HB8.out.trans (HBD.out.mono HB8.out.size))
      go_wp2_with fail
      go_roundw
      case rel =>
       refine ⟨i + 1, _, rfl, rfl, by omega, HM10.out, HBZ.out⟩
      case measure =>
       simp only [intOf]
       omega
   ·have e2b : (kn == 2) = false := by simpa using e2
    clear e0 e2
    by_cases e4 : kn = 4
    ·subst e4
     clear e0b e2b HM5 HB5 HOP5
     have p4 : w6.cell? ⟨wr.heap.size, 4, none⟩ = some (.int .u64 q) := HOP6.out.cell 4
     go_wp2_with fail
     refine (HM6.out.flush (by omega) q HFIN.out.1.2).mono ?_
     rintro e w7 ⟨rfl, hf7, hk7⟩
     have HF7 := hI hf7
     have HOP7 := hI (HOP6.out.kept hk7 (.inl (.inr ⟨nR _, HZ5.out⟩)))
     have HB7 := hI (HB6.out.trans (hk7.to_below (B := w.heap.size) (fun b hb => .inl (.inl hb))))
     clear hf7 hk7 p4
     have p4 : w7.cell? ⟨wr.heap.size, 4, none⟩ = some (.int .u64 q) := HOP7.out.cell 4
     go_wp2_with fail
     refine (HF7.out.flush (by omega) HFIN.out.1.2).mono ?_
     rintro e w8 ⟨rfl, hm8, hk8⟩
     have HM8 := hI (hm8.less (Z2 := fun b => b < w.heap.size) (fun b hb => .inl (.inl hb))).next
     have HBZ := hI (HB7.out.trans (hk8.to_below (B := w.heap.size) (fun b hb => .inl (.inl hb))))
     clear hm8 hk8 p4
     go_wp2_with fail
     go_roundw
     case rel =>
      refine ⟨i + 1, _, rfl, rfl, by omega, HM8.out, HBZ.out⟩
     case measure =>
      simp only [intOf]
      omega
    ·have e4b : (kn == 4) = false := by simpa using e4
     clear e4
     have HM8 := hI (HM6.out.less (Z2 := fun b => b < w.heap.size) (fun b hb => .inl (.inl hb))).next
     have HBZ := hI HB6.out
     clear HM5 HB5 HOP5 HM6 HOP6
     go_wp2_with fail
     go_roundw
     case rel =>
      refine ⟨i + 1, _, rfl, rfl, by omega, HM8.out, HBZ.out⟩
     case measure =>
      simp only [intOf]
      omega
 ·obtain rfl : i = m := by omega
  clear HO
  go_wp2_with fail
  refine (key_any k0 wr).mono ?_
  rintro e w7 ⟨g7, rfl, hg7, hr7, hb7⟩
  have HGT := hI ((HM.out.grow hb7).get (c := 2) ((Arr.rowN (S := fun b => b = g7) hr7 0 (n := 2) rfl rfl).more (fun b h => .inr ⟨by omega, by have := Blk.lt hr7; omega⟩)) (keyL_bytes k0) (by omega))
  have HB7 := hI (HB.out.trans (hb7.mono HB.out.size))
  clear hg7 hr7 hb7 HM HB
  go_wp2_with fail
  refine HGT.out.mono ?_
  rintro e w8 ⟨o1, hg8, hk8, ht8⟩
  obtain ⟨it1, e1, rfl, hz1, ho1, hw1⟩ := ht8.parts
  have HG8 := hI hg8
  have HZ1 := hI hz1
  have HO1 := hI ho1
  have HW1 := hI hw1
  have HB8 := hI (HB7.out.trans (hk8.to_below (B := w.heap.size) (fun b hb => .inl hb)))
  clear hg8 hk8 ht8 hz1 ho1 hw1 HGT
  obtain ⟨w9, hw9⟩ : ∃ w9, w9 = (w8.alloc (.cells itm0C 42)).setRow w8.heap.size it1 := ⟨_, rfl⟩
  have hb9 : Below w8.heap.size w8 w9 := by rw [hw9]; exact below_setRow ((Below.refl _ _).alloc (nR _) _) (nR _) _
  have HI9 := hI (show Blk w9 w8.heap.size 42 it1 by rw [hw9]; exact setRow_heap _ _ _ _ _ _ (Blk.new w8 _ _))
  have HG9 := hI (HG8.out.grow hb9)
  have HBL9 := hI hb9
  have HB9 := hI (HB8.out.trans (hb9.mono HB8.out.size))
  have HW9 := hI hw9.symm
  clear hw9 hb9 HG8
  go_wp2_with (refine wpList_store_rowB (.tmp 19) (.tmp 145) 42 rfl rfl w8.heap.size it1 rfl rfl 42 _ (Blk.new w8 _ _) (by rw [HZ1.out]; exact size_itm) (by rw [HZ1.out]; rfl) HO1.out ?_; rw [HW9.out])
  refine (key_any k0 w9).mono ?_
  rintro e w10 ⟨g10, rfl, hg10, hr10, hb10⟩
  have HGT := hI ((HG9.out.grow hb10).get (c := 2) ((Arr.rowN (S := fun b => b = g10) hr10 0 (n := 2) rfl rfl).more (fun b h => .inr ⟨by omega, by have := Blk.lt hr10; omega⟩)) (keyL_bytes k0) (by omega))
  have HB10 := hI (HB9.out.trans (hb10.mono HB9.out.size))
  have HBL10 := hI hb10
  clear hg10 hr10 hb10
  go_wp2_with fail
  refine HGT.out.mono ?_
  rintro e w11 ⟨o2, ho2, hk11, ht11⟩
  obtain ⟨it2, e2, rfl, hz2, hone2, hw2⟩ := ht11.parts
  have HZ2 := hI hz2
  have HO2 := hI hone2
  have HW2 := hI hw2
  have HOO := hI ho2
  have HK11 := hI hk11
  have HB11 := hI (HB10.out.trans (hk11.to_below (B := w.heap.size) (fun b hb => .inl (.inl (.inl (.inl hb))))))
  clear hk11 ht11 hz2 hone2 hw2 ho2 HGT
  obtain ⟨w12, hw12⟩ : ∃ w12, w12 = (w11.alloc (.cells itm0C 42)).setRow w11.heap.size it2 := ⟨_, rfl⟩
  have hb12 : Below w11.heap.size w11 w12 := by rw [hw12]; exact below_setRow ((Below.refl _ _).alloc (nR _) _) (nR _) _
  have HI12 := hI (show Blk w12 w11.heap.size 42 it2 by rw [hw12]; exact setRow_heap _ _ _ _ _ _ (Blk.new w11 _ _))
  have HB12 := hI (HB11.out.trans (hb12.mono HB11.out.size))
  have HBL12 := hI hb12
  have HW12 := hI hw12.symm
  clear hw12 hb12
  -- what was made in between stands still
  have HS8 := hI (show ∀ b t cs, w7.heap.size ≤ b → Blk w8 b t cs → Blk w12 b t cs from fun b t cs hb hB => by
   have h9 := hB.below HBL9.out hB.lt
   have h10 := h9.below HBL10.out h9.lt
   have h11 := h10.kept HK11.out (.inl (.inl (.inr ⟨hb, hB.lt⟩)))
   exact h11.below HBL12.out h11.lt)
  have HS9 := hI (show ∀ b t cs, w8.heap.size ≤ b → Blk w9 b t cs → Blk w12 b t cs from fun b t cs hb hB => by
   have h10 := hB.below HBL10.out hB.lt
   have h11 := h10.kept HK11.out (.inl (.inr ⟨hb, hB.lt⟩))
   exact h11.below HBL12.out h11.lt)
  have HS11 := hI (show ∀ b t cs, Blk w11 b t cs → Blk w12 b t cs from fun b t cs hB => hB.below HBL12.out hB.lt)
  have HX1 := hI (HS9.out _ _ _ (nR _) HI9.out)
  clear HI9 HG9 HW9 HBL9 HBL10 HBL12 HK11 HB7 HB8 HB9 HB10 HB11 HS9
  cases full
  ·have hoo : o2 = o1 := HOO.out.resolve_left (by decide)
   subst hoo
   rcases HW1.out with ⟨g1, rfl, rfl⟩ | ⟨bs, b1, b2, g1, rfl, rfl, k1, k2, k3, k4, k5⟩
   ·rcases HW2.out with ⟨g2, rfl, rfl⟩ | ⟨bs', b1', b2', g2, _⟩
    ·have HEQ := hI (same_zero14 w12)
     clear HW1 HW2 HOO HS8 HS11
     go_wp2_with (first
      | (refine wpList_store_rowB (.tmp 20) (.tmp 152) 42 rfl rfl w11.heap.size itm0C rfl rfl 42 _ (Blk.new w11 _ _) size_itm rfl one_itm0 ?_; rw [HW12.out])
      | (refine wpList_load_rowB (.tmp 19) 42 rfl rfl w8.heap.size rfl 42 itm0C.toList _ Tryz.underlying42 rfl size_itm HX1.out ?_)
      | (refine wpList_load_rowB (.tmp 20) 42 rfl rfl w11.heap.size rfl 42 itm0C.toList _ Tryz.underlying42 rfl size_itm HI12.out ?_))
     refine HEQ.out.mono ?_
     rintro e w13 ⟨rfl, hb13⟩
     have HB13 := hI (HB12.out.trans (hb13.mono HB12.out.size))
     clear hb13
     go_wp2_with fail
     go_ret
     exact ⟨rfl, HB13.out⟩
    ·rw [g1] at g2; cases g2
   ·rcases HW2.out with ⟨g2, _⟩ | ⟨bs', b1', b2', g2, rfl, rfl, l1, l2, l3, l4, l5⟩
    ·rw [g1] at g2; cases g2
    ·rw [g1] at g2
     injection g2 with g2
     subst g2
     have hkl : (keyOf bs).length = klenOf bs := by
      have h1 := k5.need
      unfold needOf at h1
      unfold keyOf
      rw [List.length_take, List.length_drop]
      omega
     have hvl : (valOf bs).length = vlenOf bs := by
      have h1 := k5.need
      unfold needOf at h1
      unfold valOf
      rw [List.length_take, List.length_drop]
      omega
     have r1 := Arr.rowN (S := fun b => b < w12.heap.size) (HS8.out _ _ _ k1 k3) 0 (n := klenOf bs) hkl (HS8.out _ _ _ k1 k3).lt
     have r2 := Arr.rowN (S := fun b => b < w12.heap.size) (HS8.out _ _ _ k2 k4) 0 (n := vlenOf bs) hvl (HS8.out _ _ _ k2 k4).lt
     have r3 := Arr.rowN (S := fun b => b < w12.heap.size) (HS11.out _ _ _ l3) 0 (n := klenOf bs) hkl (HS11.out _ _ _ l3).lt
     have r4 := Arr.rowN (S := fun b => b < w12.heap.size) (HS11.out _ _ _ l4) 0 (n := vlenOf bs) hvl (HS11.out _ _ _ l4).lt
     have HEQ := hI (same_yes14 (some ⟨b1, 0, none⟩) (klenOf bs) (klenOf bs) (klenOf bs) (some ⟨b1', 0, none⟩) (some ⟨b2, 0, none⟩) (some ⟨b2', 0, none⟩) (vlenOf bs) (vlenOf bs) (vlenOf bs) (keyOf bs) (valOf bs) (flagsOf bs) (expOf bs) (seqOf bs) false w12 r1 r3 r2 r4 (fun b h => h) (fun b h => h) (by unfold keyOf; exact bytes_part k5.byt 21 _) (by unfold valOf; exact bytes_part k5.byt _ _))
     clear HW1 HW2 HOO HS8 HS11 r1 r2 r3 r4 hkl hvl g1 k1 k2 k3 k4 k5 l1 l2 l3 l4 l5
     go_wp2_with (first
      | (refine wpList_store_rowB (.tmp 20) (.tmp 152) 42 rfl rfl w11.heap.size (itmC bs b1' b2') rfl rfl 42 _ (Blk.new w11 _ _) size_itm rfl (one_itm bs b1' b2') ?_; rw [HW12.out])
      | (refine wpList_load_rowB (.tmp 19) 42 rfl rfl w8.heap.size rfl 42 (itmC bs b1 b2).toList _ Tryz.underlying42 rfl size_itm HX1.out ?_)
      | (refine wpList_load_rowB (.tmp 20) 42 rfl rfl w11.heap.size rfl 42 (itmC bs b1' b2').toList _ Tryz.underlying42 rfl size_itm HI12.out ?_))
     refine HEQ.out.mono ?_
     rintro e w13 ⟨rfl, hb13⟩
     have HB13 := hI (HB12.out.trans (hb13.mono HB12.out.size))
     clear hb13
     go_wp2_with fail
     go_ret
     exact ⟨rfl, HB13.out⟩
  ·clear HW1 HW2 HOO HS8 HS11
   go_wp2_with (refine wpList_store_rowB (.tmp 20) (.tmp 152) 42 rfl rfl w11.heap.size it2 rfl rfl 42 _ (Blk.new w11 _ _) (by rw [HZ2.out]; exact size_itm) (by rw [HZ2.out]; rfl) HO2.out ?_; rw [HW12.out])
   go_ret
   exact ⟨rfl, HB12.out⟩
end
end Go.Proofs.YtknfblfnfoibkaaGreat
