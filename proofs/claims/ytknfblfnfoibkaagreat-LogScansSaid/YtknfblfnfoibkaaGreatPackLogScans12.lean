/- Texts of LogScans, packed. -/
import Derived.Test.YtknfblfnfoibkaaGreatPackLogScans11
set_option linter.unusedVariables false
set_option linter.unusedSimpArgs false
set_option maxRecDepth 100000
set_option maxHeartbeats 16000000
namespace Go.Proofs.YtknfblfnfoibkaaGreat
section
open Go.RowKit
attribute [local go_sem] Oper.semAt_some
theorem size_stamp9 : (Tryz.prog.info? 189).map (·.size) = some 3 := by kernel_rfl
def RRecT (xss : List (List Int)) (gen : Int) (at_ : Nat) (w : World) (e : Ending) (w' : World) : Prop :=
 Below w.heap.size w w' ∧
 ((standE (ldV xss) (ldE xss) gen at_ ≠ 0 ∧ e = .returned (.tuple #[.agg zeroC, .int .i64 0])) ∨
  (standE (ldV xss) (ldE xss) gen at_ = 0 ∧ ∃ (xs : List Int) (A1 : Option Addr) (c1 : Nat) (A2 : Option Addr) (c2 : Nat), xs = meants (secsAt (ldV xss) at_ (beginsN (ldV xss at_) gen at_)) ∧
   e = .returned (.tuple #[.agg #[.int .i64 (kindOf xs), .int .u32 (flagsOf xs), .int .u32 (expOf xs), .int .u64 (seqOf xs), .slice A1 (klenOf xs) c1, .slice A2 (vlenOf xs) c2], .int .i64 (beginsN (ldV xss at_) gen at_ : Nat)]) ∧
   RowI .u8 w' (fun b => w.heap.size ≤ b ∧ b < w'.heap.size) A1 (klenOf xs) (keyOf xs) ∧ RowI .u8 w' (fun b => w.heap.size ≤ b ∧ b < w'.heap.size) A2 (vlenOf xs) (valOf xs)))
theorem rrecord_any (A : Option Addr) (n c : Nat) (xss : List (List Int)) (S : Nat → Prop) (w : World) (hx : RowK w S A n xss) (hS : ∀ b, S b → b < w.heap.size) (hs : Secs xss) (hby : ∀ i, Bytes (xss.getD i [])) (hn : n ≤ 80000) (hnc : n ≤ c) (gen : Int) (at_ : Nat) (hat : at_ ≤ 90000) :
 Calls Tryz.prog 113 #[.slice A n c, .int .u64 gen, .int .i64 at_] w (RRecT xss gen at_ w) := by
 have HX := hI hx
 have HS := hI hS
 have hln := hx.1
 have HSC := hI hs
 have HBY := hI hby
 obtain ⟨w1, hw1⟩ : ∃ w1, w1 = w.alloc (.cells zeroC 69) := ⟨_, rfl⟩
 have hb1 : Below w.heap.size w w1 := by rw [hw1]; exact (Below.refl _ _).alloc (nR _) _
 have HR1 := hI (show Blk w1 w.heap.size 69 zeroC by rw [hw1]; exact Blk.new w _ _)
 have HB1 := hI hb1
 have HW1 := hI hw1
 clear hx hS hs hby hw1 hb1
 by_cases hlt : at_ < n
 ·obtain ⟨b, off, rfl, hbS, hc⟩ := (HX.out.below HB1.out HS.out).2 (by omega)
  have hr := hc at_ hlt
  obtain ⟨ys, hys⟩ : ∃ ys, xss.getD at_ [] = ys := ⟨_, rfl⟩
  have hyl : ys.length = 64 := by rw [← hys]; exact HSC.out.get at_ (by omega)
  have hyb : Bytes ys := by rw [← hys]; exact HBY.out at_
  have hV : ldV xss at_ = ys := by unfold ldV; rw [if_pos (by omega)]; exact hys
  rw [hys] at hr
  have HYR := hI hr
  have HYL := hI hyl
  have HYB := hI hyb
  have HV := hI hV
  have HRR := hI (rread_any9 ys w1 hyl hyb)
  clear hr hyl hyb hV hys hc
  have hlt2 : ¬ ((n : Int) ≤ at_) := by omega
  go_enter Tryz.func113, Tryz.ntmps113
  go_upto_region 1 with fail
  rw [← HW1.out]
  go_wp2_with (refine wpList_load_blk (.tmp 25) rfl rfl b (off + at_ * 64) rfl ys HYL.out HYR.out ?_)
  refine HRR.out.mono ?_
  rintro e w2 ⟨hyes, hno⟩
  cases hst : stamped ys with
  | false =>
   obtain ⟨rfl, hb2⟩ := hno hst
   have HNO := hI (show standE (ldV xss) (ldE xss) gen at_ ≠ 0 from stand_not (by
    have h9 := HV.out
    unfold beginsN
    rw [h9, if_neg (fun h => by rw [hst] at h; cases h.1)]))
   obtain ⟨w3, hw3⟩ : ∃ w3, w3 = (w2.alloc (.cells #[.int .u64 0, .int .u32 0, .int .i64 0] 189)).setRow w2.heap.size #[.int .u64 0, .int .u32 0, .int .i64 0] := ⟨_, rfl⟩
   have hb3 : Below w2.heap.size w2 w3 := by rw [hw3]; exact below_setRow ((Below.refl _ _).alloc (nR _) _) (nR _) _
   have hb13 : Below w1.heap.size w1 w3 := hb2.trans (hb3.mono hb2.size)
   have HRX := hI (HR1.out.below hb13 HR1.out.lt)
   have HBX := hI (HB1.out.trans (hb13.mono HB1.out.size))
   have HWS := hI hw3.symm
   clear hyes hno hst hb2 hb3 hb13 hw3
   go_wp2_with (first
    | (with_reducible refine halt_end ?_)
    | (refine wpList_store_rowB (.tmp 6) (.tmp 46) 69 rfl rfl w.heap.size zeroC rfl rfl 69 _ HRX.out size_rec rfl one_zero ?_)
    | (refine wpList_store_rowB (.tmp 8) (.tmp 28) 189 rfl rfl w2.heap.size #[.int .u64 0, .int .u32 0, .int .i64 0] rfl rfl 189 _ (Blk.new w2 _ _) size_stamp9 rfl (by simp [Value.oneCell']) ?_; rw [HWS.out]))
   exact Halt.ret (results_row2 rfl _ _ w.heap.size 69 zeroC _ rfl (setRow_heap _ _ _ zeroC _ _ HRX.out) Tryz.underlying69 rfl size_rec) rfl ⟨below_setRow HBX.out (nR _) _, .inl ⟨HNO.out, rfl⟩⟩
  | true =>
   obtain ⟨A2, c2, rfl, hrow2, hb2, hcp2⟩ := hyes hst
   obtain ⟨w3, hw3⟩ : ∃ w3, w3 = (w2.alloc (.cells #[.int .u64 0, .int .u32 0, .int .i64 0] 189)).setRow w2.heap.size #[.int .u64 (genOf ys), .int .u32 (posOf ys), .int .i64 (fillOf ys)] := ⟨_, rfl⟩
   have hb3 : Below w2.heap.size w2 w3 := by rw [hw3]; exact below_setRow ((Below.refl _ _).alloc (nR _) _) (nR _) _
   have HST3 := hI (show Blk w3 w2.heap.size 189 #[.int .u64 (genOf ys), .int .u32 (posOf ys), .int .i64 (fillOf ys)] by rw [hw3]; exact setRow_heap _ _ _ _ _ _ (Blk.new w2 _ _))
   have hb13 : Below w1.heap.size w1 w3 := hb2.trans (hb3.mono hb2.size)
   have HR3 := hI (HR1.out.below hb13 HR1.out.lt)
   have HB3 := hI (HB1.out.trans (hb13.mono HB1.out.size))
   have HM3 := hI ((hrow2.below hb3 (fun b h => h.2)).more (T := fun b => b < w3.heap.size) (fun b h => nL h.2 hb3.size))
   have HWS := hI hw3.symm
   have HCP := hI hcp2
   have HST := hI hst
   clear hyes hno hst hb2 hb3 hb13 hw3 hrow2 hcp2
   go_upto_region 4 with (refine wpList_store_rowB (.tmp 8) (.tmp 28) 189 rfl rfl w2.heap.size #[.int .u64 (genOf ys), .int .u32 (posOf ys), .int .i64 (fillOf ys)] rfl rfl 189 _ (Blk.new w2 _ _) size_stamp9 rfl (by simp [Value.oneCell']) ?_; rw [HWS.out])
   have d0 : w3.cell? ⟨w2.heap.size, 0, none⟩ = some (.int .u64 (genOf ys)) := HST3.out.cell 0
   have d1 : w3.cell? ⟨w2.heap.size, 1, none⟩ = some (.int .u32 (posOf ys)) := HST3.out.cell 1
   have hwr : IntKind.u32.wrap (at_ : Int) = (at_ : Int) := by rw [IntKind.wrap_u32]; omega
   by_cases hg : genOf ys = gen
   case neg =>
    have HNO := hI (show standE (ldV xss) (ldE xss) gen at_ ≠ 0 from stand_not (by
     have h9 := HV.out
     unfold beginsN
     rw [h9, if_neg (fun h => hg h.2.1)]))
    have hgb : (genOf ys != gen) = true := by simpa using hg
    have HRX := HR3
    have HBX := HB3
    clear hg
    go_wp2_with (first
     | (with_reducible refine halt_end ?_)
     | (refine wpList_store_rowB (.tmp 6) (.tmp 46) 69 rfl rfl w.heap.size zeroC rfl rfl 69 _ HRX.out size_rec rfl one_zero ?_))
    exact Halt.ret (results_row2 rfl _ _ w.heap.size 69 zeroC _ rfl (setRow_heap _ _ _ zeroC _ _ HRX.out) Tryz.underlying69 rfl size_rec) rfl ⟨below_setRow HBX.out (nR _) _, .inl ⟨HNO.out, rfl⟩⟩
   by_cases hp : posOf ys = at_
   case neg =>
    have HNO := hI (show standE (ldV xss) (ldE xss) gen at_ ≠ 0 from stand_not (by
     have h9 := HV.out
     unfold beginsN
     rw [h9, if_neg (fun h => hp h.2.2.1)]))
    have hpb : (posOf ys != (at_ : Int)) = true := by simpa using hp
    have HRX := HR3
    have HBX := HB3
    clear hp
    go_wp2_with (first
     | (with_reducible refine halt_end ?_)
     | (refine wpList_store_rowB (.tmp 6) (.tmp 46) 69 rfl rfl w.heap.size zeroC rfl rfl 69 _ HRX.out size_rec rfl one_zero ?_))
    exact Halt.ret (results_row2 rfl _ _ w.heap.size 69 zeroC _ rfl (setRow_heap _ _ _ zeroC _ _ HRX.out) Tryz.underlying69 rfl size_rec) rfl ⟨below_setRow HBX.out (nR _) _, .inl ⟨HNO.out, rfl⟩⟩
   have HG := hI hg
   have HP := hI hp
   go_upto_region 6 with fail
   clear hg hp d0 d1 hwr
   go_wp2_with fail
   refine (rneed_all A2 _ c2 (meantOf ys) (fun b => b < w3.heap.size) w3 HM3.out (fun b h => h) (by unfold meantOf; split; exact bytes_part HYB.out 16 _; exact fun j => by simp) HCP.out).mono ?_
   rintro e w4 ⟨rfl, hb4⟩
   have HR4 := hI (HR3.out.below hb4 HR3.out.lt)
   have HB4 := hI (HB3.out.trans (hb4.mono HB3.out.size))
   clear hb4
   by_cases hne : needE (meantOf ys) (meantOf ys).length = 0
   case neg =>
    have HNO := hI (show standE (ldV xss) (ldE xss) gen at_ ≠ 0 from stand_not (by
     have h9 := HV.out
     unfold beginsN
     rw [h9, if_neg (fun h => hne h.2.2.2)]))
    generalize needE (meantOf ys) (meantOf ys).length = ne at *
    have hnb : (ne != 0) = true := by simpa using hne
    have HRX := HR4
    have HBX := HB4
    clear hne
    go_wp2_with (first
     | (with_reducible refine halt_end ?_)
     | (refine wpList_store_rowB (.tmp 6) (.tmp 54) 69 rfl rfl w.heap.size zeroC rfl rfl 69 _ HRX.out size_rec rfl one_zero ?_))
    exact Halt.ret (results_row2 rfl _ _ w.heap.size 69 zeroC _ rfl (setRow_heap _ _ _ zeroC _ _ HRX.out) Tryz.underlying69 rfl size_rec) rfl ⟨below_setRow HBX.out (nR _) _, .inl ⟨HNO.out, rfl⟩⟩
   have HBG := hI (show beginsN (ldV xss at_) gen at_ = cntOf (needK (meantOf ys) (meantOf ys).length) by
    have h9 := HV.out
    unfold beginsN
    rw [h9, if_pos ⟨HST.out, HG.out, HP.out, hne⟩])
   have HNF := hI (show ∀ k, 1 ≤ k → needK (meantOf ys) (meantOf ys).length = needOf (meants (secsAt (ldV xss) at_ k)) from fun k h1 => by
    have h9 := need_first (at_ := at_) (ldV xss) h1 (by rw [HV.out]; exact hne)
    rw [HV.out] at h9
    exact h9.1)
   rw [hne]
   have hnk := needK_le (meantOf ys) (meantOf ys).length
   clear hne
   generalize needK (meantOf ys) (meantOf ys).length = nk at *
   go_wp2_with fail
   refine (rsectors_any_s5 nk w4 (by omega)).mono ?_
   rintro e w5 ⟨rfl, rfl⟩
   have hck : 1 ≤ cntOf nk ∧ cntOf nk ≤ 17 := by unfold cntOf; omega
   have HCK := hI hck
   have hwa : wrap64 ((at_ : Int) + cntOf nk) = (at_ : Int) + cntOf nk := IntWalk.wrap64_in _ (by omega)
   by_cases hfit : at_ + cntOf nk ≤ n
   case neg =>
    have HNO := hI (show standE (ldV xss) (ldE xss) gen at_ ≠ 0 from fun h => by
     have h8 := stand_in h
     rw [HBG.out] at h8
     omega)
    have hgt : (n : Int) < (at_ : Int) + cntOf nk := by omega
    have HRX := HR4
    have HBX := HB4
    clear hck hfit
    go_wp2_with (first
     | (with_reducible refine halt_end ?_)
     | (refine wpList_store_rowB (.tmp 6) (.tmp 63) 69 rfl rfl w.heap.size zeroC rfl rfl 69 _ HRX.out size_rec rfl one_zero ?_))
    exact Halt.ret (results_row2 rfl _ _ w.heap.size 69 zeroC _ rfl (setRow_heap _ _ _ zeroC _ _ HRX.out) Tryz.underlying69 rfl size_rec) rfl ⟨below_setRow HBX.out (nR _) _, .inl ⟨HNO.out, rfl⟩⟩
   have hng : ¬ ((n : Int) < (at_ : Int) + cntOf nk) := by omega
   have HFIT := hI hfit
   clear hck hnk
   generalize hkk : cntOf nk = kk at *
   go_upto_region 12 with fail
   clear hng
   go_wp2_with fail
   have HKK := hI hkk
   clear hkk hwa
   have hVl : ∀ i, (ldV xss i).length = 64 := fun i => by
    unfold ldV
    split
    ·exact HSC.out.get i (by assumption)
    ·exact noughts_length 64
   have hVb : ∀ i, Bytes (ldV xss i) := fun i => by
    unfold ldV
    split
    ·exact HBY.out i
    ·exact noughts_bytes9 64
   have hXP : RowK w4 S (some ⟨b, off + at_ * 64, none⟩) kk (secsAt (ldV xss) at_ kk) := by
    rw [secsAt_drop (by have := HFIT.out; omega)]
    exact (HX.out.below HB4.out HS.out).part HFIT.out hln
   refine (rjoin_any9 _ kk _ (secsAt (ldV xss) at_ kk) S w4 hXP (fun b h => nL (HS.out b h) HB4.out.size) (secsAt_secs hVl _ _) (secsAt_bytes hVb _ _) (by have := HCK.out; omega)).mono ?_
   have HSI := hI (show standE (ldV xss) (ldE xss) gen at_ = 0 ↔ StandsIn (secsAt (ldV xss) at_ kk) by
    have h1 := HBG.out
    have h2 := stand_iff (xss := xss) (gen := gen) (at_ := at_) (by rw [h1]; exact HCK.out.1) (by rw [h1, hln]; exact HFIT.out)
    rw [h1] at h2
    exact h2)
   have HNK := hI (HNF.out kk HCK.out.1)
   rintro e w6 ⟨hyes, hno⟩
   by_cases hch : Chain (secsAt (ldV xss) at_ kk)
   case neg =>
    obtain ⟨⟨A6, n6, c6, rfl⟩, hb6⟩ := hno (fun h => hch h.2)
    have HNO := hI (show standE (ldV xss) (ldE xss) gen at_ ≠ 0 from fun h => hch (HSI.out.1 h).1)
    have HRX := hI (HR4.out.below hb6 HR4.out.lt)
    have HBX := hI (HB4.out.trans (hb6.mono HB4.out.size))
    clear hyes hno hch hb6 hVl hVb hXP
    go_wp2_with (first
     | (with_reducible refine halt_end ?_)
     | (refine wpList_store_rowB (.tmp 6) (.tmp 82) 69 rfl rfl w.heap.size zeroC rfl rfl 69 _ HRX.out size_rec rfl one_zero ?_))
    exact Halt.ret (results_row2 rfl _ _ w.heap.size 69 zeroC _ rfl (setRow_heap _ _ _ zeroC _ _ HRX.out) Tryz.underlying69 rfl size_rec) rfl ⟨below_setRow HBX.out (nR _) _, .inl ⟨HNO.out, rfl⟩⟩
   obtain ⟨A6, c6, rfl, hrow6, hb6, hcp6⟩ := hyes ⟨by rw [secsAt_length]; exact HCK.out.1, hch⟩
   have HCH := hI hch
   have HR6 := hI (HR4.out.below hb6 HR4.out.lt)
   have HB6 := hI (HB4.out.trans (hb6.mono HB4.out.size))
   have HROW := hI hrow6
   have HCP6 := hI hcp6
   have HMB := hI (show Bytes (meants (secsAt (ldV xss) at_ kk)) from meants_bytes (secsAt_bytes hVb _ _))
   clear hyes hno hch hb6 hVl hVb hXP hrow6 hcp6
   obtain ⟨xs, hxs⟩ : ∃ xs, meants (secsAt (ldV xss) at_ kk) = xs := ⟨_, rfl⟩
   rw [hxs] at HROW HCP6 HMB HNK
   rw [hxs]
   have HXS := hI hxs
   clear hxs
   by_cases hlen : xs.length = nk
   case neg =>
    have HNO := hI (show standE (ldV xss) (ldE xss) gen at_ ≠ 0 from fun h => by
     have h1 := (HSI.out.1 h).2.2
     rw [HXS.out] at h1
     exact hlen (h1.symm.trans HNK.out.symm))
    have hlb : ((xs.length : Int) != (nk : Int)) = true := by simp; omega
    have HRX := HR6
    have HBX := HB6
    clear hlen
    go_wp2_with (first
     | (with_reducible refine halt_end ?_)
     | (refine wpList_store_rowB (.tmp 6) (.tmp 82) 69 rfl rfl w.heap.size zeroC rfl rfl 69 _ HRX.out size_rec rfl one_zero ?_))
    exact Halt.ret (results_row2 rfl _ _ w.heap.size 69 zeroC _ rfl (setRow_heap _ _ _ zeroC _ _ HRX.out) Tryz.underlying69 rfl size_rec) rfl ⟨below_setRow HBX.out (nR _) _, .inl ⟨HNO.out, rfl⟩⟩
   subst hlen
   go_wp2_with fail
   by_cases hd : DecOk xs xs.length
   case neg =>
    have HNO := hI (show standE (ldV xss) (ldE xss) gen at_ ≠ 0 from fun h => by
     have h1 := (HSI.out.1 h).2.1
     rw [HXS.out] at h1
     exact hd h1)
    refine (rdec_no A6 _ c6 xs _ w6 HROW.out (fun b h => h.2) HMB.out HCP6.out hd).mono ?_
    rintro e w7 ⟨rfl, hb7⟩
    have herr : errOf xs xs.length ≠ 0 := by rcases errOf_cases xs xs.length with e | e <;> rw [e] <;> decide
    generalize errOf xs xs.length = er at *
    have heb : (er != 0) = true := by simpa using herr
    obtain ⟨w8, hw8⟩ : ∃ w8, w8 = (w7.alloc (.cells zeroC 69)).setRow w7.heap.size zeroC := ⟨_, rfl⟩
    have hb8 : Below w7.heap.size w7 w8 := by rw [hw8]; exact below_setRow ((Below.refl _ _).alloc (nR _) _) (nR _) _
    have hb68 : Below w6.heap.size w6 w8 := hb7.trans (hb8.mono hb7.size)
    have HRX := hI (HR6.out.below hb68 HR6.out.lt)
    have HBX := hI (HB6.out.trans (hb68.mono HB6.out.size))
    have HW8 := hI hw8.symm
    clear herr hw8 hb8 hb7 hb68 hd
    go_upto_region 16 with (refine wpList_store_rowB (.tmp 15) (.tmp 86) 69 rfl rfl w7.heap.size zeroC rfl rfl 69 _ (Blk.new w7 _ _) size_rec rfl one_zero ?_; rw [HW8.out])
    go_wp2_with (first
     | (with_reducible refine halt_end ?_)
     | (refine wpList_store_rowB (.tmp 6) (.tmp 91) 69 rfl rfl w.heap.size zeroC rfl rfl 69 _ HRX.out size_rec rfl one_zero ?_))
    exact Halt.ret (results_row2 rfl _ _ w.heap.size 69 zeroC _ rfl (setRow_heap _ _ _ zeroC _ _ HRX.out) Tryz.underlying69 rfl size_rec) rfl ⟨below_setRow HBX.out (nR _) _, .inl ⟨HNO.out, rfl⟩⟩
   have hd2 := hd
   unfold DecOk at hd2
   refine (rdec_ok A6 _ c6 xs _ w6 HROW.out (fun b h => h.2) HMB.out hd2.1 HCP6.out hd2.2.1 hd2.2.2).mono ?_
   rintro e w7 ⟨A1, c1, A2', c2', rfl, hr1, hr2, hb7⟩
   have HSE := hI (show standE (ldV xss) (ldE xss) gen at_ = 0 from HSI.out.2 ⟨HCH.out, by rw [HXS.out]; exact hd, by rw [HXS.out]; exact HNK.out.symm⟩)
   obtain ⟨rc, hrc⟩ : ∃ rc : Array Value, rc = #[.int .i64 (kindOf xs), .int .u32 (flagsOf xs), .int .u32 (expOf xs), .int .u64 (seqOf xs), .slice A1 (klenOf xs) c1, .slice A2' (vlenOf xs) c2'] := ⟨_, rfl⟩
   have hrs : rc.size = 6 := by rw [hrc]; rfl
   have hro : rc.all (·.oneCell') = true := by rw [hrc]; simp [Value.oneCell']
   obtain ⟨w8, hw8⟩ : ∃ w8, w8 = (w7.alloc (.cells zeroC 69)).setRow w7.heap.size rc := ⟨_, rfl⟩
   have hb8 : Below w7.heap.size w7 w8 := by rw [hw8]; exact below_setRow ((Below.refl _ _).alloc (nR _) _) (nR _) _
   have HRC8 := hI (show Blk w8 w7.heap.size 69 rc by rw [hw8]; exact setRow_heap _ _ _ _ _ _ (Blk.new w7 _ _))
   have hb68 : Below w6.heap.size w6 w8 := hb7.trans (hb8.mono hb7.size)
   have HR8 := hI (HR6.out.below hb68 HR6.out.lt)
   have HB8 := hI (HB6.out.trans (hb68.mono HB6.out.size))
   have HK1 := hI (hr1.below hb8 (fun b h => h.2))
   have HK2 := hI (hr2.below hb8 (fun b h => h.2))
   have HSZ := hI (show w.heap.size < w6.heap.size ∧ w6.heap.size ≤ w7.heap.size ∧ w7.heap.size ≤ w8.heap.size from ⟨HR6.out.lt, hb7.size, hb8.size⟩)
   have HW8 := hI hw8.symm
   have HRS := hI (And.intro hrs hro)
   have HRC := hI hrc
   rw [← hrc]
   clear hrs hro hrc hw8 hb8 hb7 hb68 hd hd2 hr1 hr2
   go_upto_region 16 with (refine wpList_store_rowB (.tmp 15) (.tmp 86) 69 rfl rfl w7.heap.size rc rfl rfl 69 _ (Blk.new w7 _ _) (by rw [HRS.out.1]; exact size_rec) (by rw [HRS.out.1]; rfl) HRS.out.2 ?_; rw [HW8.out])
   go_wp2_with (first
    | (with_reducible refine halt_end ?_)
    | (refine wpList_load_rowB (.tmp 15) 69 rfl rfl w7.heap.size rfl 69 rc.toList _ Tryz.underlying69 rfl (by simp only [Array.length_toList, HRS.out.1]; exact size_rec) HRC8.out ?_)
    | (refine wpList_store_rowB (.tmp 6) (.tmp 92) 69 rfl rfl w.heap.size rc rfl rfl 69 _ HR8.out (by rw [HRS.out.1]; exact size_rec) (by rw [HRS.out.1]; rfl) HRS.out.2 ?_))
   have hkr : Kept (fun b => b ≠ w.heap.size) w8 (w8.setRow w.heap.size rc) := (Kept.refl _ _).setRow (fun h => h rfl) _
   have hsz := HSZ.out
   have hkz : w8.heap.size ≤ (w8.setRow w.heap.size rc).heap.size := hkr.size
   refine Halt.ret (results_row2 rfl _ _ w.heap.size 69 rc _ rfl (setRow_heap _ _ _ rc _ _ HR8.out) Tryz.underlying69 rfl (by rw [HRS.out.1]; exact size_rec)) rfl ⟨below_setRow HB8.out (nR _) _, .inr ⟨HSE.out, xs, A1, c1, A2', c2', ?_, ?_, ?_, ?_⟩⟩
   ·rw [HBG.out]; exact HXS.out.symm
   ·rw [HBG.out]
    show Ending.returned (.tuple #[.agg rc, .int .i64 (kk : Nat)]) = _
    rw [HRC.out]
   ·exact (HK1.out.kept hkr (fun b h => by have := h.1; omega)).more (fun b h => ⟨by have := h.1; omega, by have := h.2; omega⟩)
   ·exact (HK2.out.kept hkr (fun b h => by have := h.1; omega)).more (fun b h => ⟨by have := h.1; omega, by have := h.2; omega⟩)
 ·have HNO := hI (show standE (ldV xss) (ldE xss) gen at_ ≠ 0 from fun h => by have := stand_in h; omega)
  have hge : (n : Int) ≤ at_ := by omega
  have HRX := hI HR1.out
  have HBX := hI HB1.out
  have HWS := hI (rfl : (0 : Nat) = 0)
  go_enter Tryz.func113, Tryz.ntmps113
  go_upto_region 1 with fail
  rw [← HW1.out]
  go_wp2_with (first
   | (with_reducible refine halt_end ?_)
   | (refine wpList_store_rowB (.tmp 6) (.tmp 21) 69 rfl rfl w.heap.size zeroC rfl rfl 69 _ HRX.out size_rec rfl one_zero ?_)
   | (refine wpList_store_rowB (.tmp 8) (.tmp 28) 189 rfl rfl w1.heap.size zeroC rfl rfl 189 _ (Blk.new w1 _ _) size_stamp9 rfl (by simp [Value.oneCell']) ?_; rw [HWS.out]))
  exact Halt.ret (results_row2 rfl _ _ w.heap.size 69 zeroC _ rfl (setRow_heap _ _ _ zeroC _ _ HRX.out) Tryz.underlying69 rfl size_rec) rfl ⟨below_setRow HBX.out (nR _) _, .inl ⟨HNO.out, rfl⟩⟩
end
end Go.Proofs.YtknfblfnfoibkaaGreat
