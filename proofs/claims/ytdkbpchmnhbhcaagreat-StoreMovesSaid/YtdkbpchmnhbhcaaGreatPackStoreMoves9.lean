/- Texts of StoreMoves, packed. -/
import Derived.Test.YtdkbpchmnhbhcaaGreatPackStoreMoves8
import Derived.BigQuiet
import Derived.Deep.DeepCutAuto
set_option linter.unusedVariables false
set_option linter.unusedSimpArgs false
set_option maxRecDepth 100000
set_option maxHeartbeats 16000000
namespace Go.Proofs.YtdkbpchmnhbhcaaGreat
open Go.RowKit
section
abbrev lp0:Oper:=⟨some 28,.move (.tmp 0),24,"log.go:51",#[],none⟩
abbrev lp1:Oper:=⟨some 29,.nilCheck (.tmp 28),0,"log.go:51",#[⟨0,.data⟩],none⟩
abbrev lp2:Oper:=⟨some 30,.fieldAddr 103 (.tmp 29) 1,0,"log.go:51",#[⟨1,.data⟩],none⟩
abbrev lp3:Oper:=⟨some 31,.load 95 (.tmp 30),95,"log.go:51",#[⟨2,.data⟩],none⟩
abbrev lp4:Oper:=⟨some 32,.call { callee:=.value (.func 46),args:=#[.tmp 31],argTypes:=#[95] },3,"log.go:51",#[⟨3,.data⟩],none⟩
abbrev lp5:Oper:=⟨some 33,.load 33 (.tmp 3),33,"log.go:51",#[],none⟩
abbrev lp6:Oper:=⟨some 34,.call { callee:=.value (.func 47),args:=#[.tmp 33],argTypes:=#[33] },3,"log.go:51",#[⟨5,.data⟩,⟨4,.chain⟩],none⟩
abbrev lp7:Oper:=⟨some 35,.binOp Go.BinOp.lss 3 (.tmp 32) (.tmp 34) 3,4,"log.go:51",#[⟨4,.data⟩,⟨6,.data⟩],none⟩
theorem size_rec9:(Tryz.prog.info? 33).map (·.size)=some 6:=by kernel_rfl
section
variable {w w':World} {X Y:Nat→Prop} {l p d n:Nat} {s:Sup} {t:Int} {k:Dk} {xs:List Seg} {pe:Nat}
def AppT (w : World) (X : Nat → Prop) (l p d n : Nat) (s : Sup) (t : Int) (k : Dk) (xs : List Seg) (pe K : Nat) (bs : List Int) (e : Ending) (w' : World) : Prop :=
 ((∃ i:Nat,opnR xs=(i:Nat)∧(K:Int)≤leftR s.b xs∧e=.returned (.tuple #[.agg #[.int .i64 (i:Int),.int .u64 (genG xs i),.int .i64 (usedG xs i)],.int .i64 0])∧LgM w' X l p d n s t (layK k s xs i bs) (useX xs (K:Nat)) (pe+K)) ∨
  (leftR s.b xs<(K:Int)∧nxtR xs<0∧e=.returned (.tuple #[.agg #[.int .i64 0,.int .u64 0,.int .i64 0],.int .i64 6])∧LgM w' X l p d n s t k xs pe) ∨
  (leftR s.b xs<(K:Int)∧∃ i:Nat,nxtR xs=(i:Nat)∧e=.returned (.tuple #[.agg #[.int .i64 (i:Int),.int .u64 (s.g+1),.int .i64 1],.int .i64 0]) ∧
    LgM w' X l p d n (genS s) (nxt t) (layK (begK k s t i) (genS s) (openX (sealedX s.b xs) (s.g+1)) i bs) (useX (openX (sealedX s.b xs) (s.g+1)) (K:Nat)) (0+K)))∧Kept X w w'
theorem append_good (h:LgM w X l p d n s t k xs pe) (hX:∀ b,X b→b<w.heap.size) (hpe:pe≤900000) (hgm:s.g+1≤18446744073709551615) {k1 f x s1:Int} {A1 A2:Option Addr} {n1 c1 n2 c2:Nat} {us vs:List Int} (hm:May k1 f x s1 n1 n2) (hr:Rng f x s1)
 (hx:RowI .u8 w (·<w.heap.size) A1 n1 us) (hy:RowI .u8 w (·<w.heap.size) A2 n2 vs) (hn1:A1=none→c1=0) (hn2:A2=none→c2=0) (hbu:Bytes us) (hbv:Bytes vs) :
 Calls Tryz.prog 9 #[.pointer (some ⟨l,0,none⟩),.agg #[.int .i64 k1,.int .u32 f,.int .u32 x,.int .u64 s1,.slice A1 n1 c1,.slice A2 n2 c2]] w fun e w'=>AppT w X l p d n s t k xs pe (cntOf (21+n1+n2)) (recB k1 f x s1 us vs) e w':=by
 have HLG:=hI h
 have hbs:=recB_bytes (k:=k1) (f:=f) (x:=x) (s:=s1) (by have h9:=hm; unfold May at h9; omega) hbu hbv
 have HBS:=hI hbs
 have HPE:=hI hpe
 have HGM:=hI hgm
 have hsecb:=h.may.2.2
 obtain ⟨A,c,h,hmc,hnil⟩:=h.log
 have hlw:leftW s.b xs=leftR s.b xs:=by unfold leftW; rw[if_pos HLG.out.ok]
 have HLW:=hI hlw
 obtain ⟨m,hmm⟩:∃ m,xs.length=m:=⟨_,rfl⟩
 obtain ⟨sec,hsec⟩:∃ sec,s.b=sec:=⟨_,rfl⟩
 rw[hmm,hsec] at h
 rw[hsec] at HLW
 have HSEC:=hI hsec
 have HSB:=hI hsecb
 have hlen1:=hx.1
 have hlen2:=hy.1
 have HLEN:=hI (And.intro hlen1 hlen2)
 have HL:=hI h
 have HX:=hI hX
 clear hmm hsec hlw hbs hbu hbv hmc hnil hpe hgm hsecb hlen1 hlen2
 have HM:=hI hm
 have HB0:=hI (((Below.refl w.heap.size w).alloc (nR _) (.cells #[.int .i64 k1,.int .u32 f,.int .u32 x,.int .u64 s1,.slice A1 n1 c1,.slice A2 n2 c2] 33)).alloc (by simp) (.cells #[.int .i64 0,.int .u64 0,.int .i64 0] 35))
 have HK:=hI (blk_new2 w (.cells #[.int .i64 k1,.int .u32 f,.int .u32 x,.int .u64 s1,.slice A1 n1 c1,.slice A2 n2 c2] 33) 35 #[.int .i64 0,.int .u64 0,.int .i64 0])
 have HRC:=hI ((Blk.new w 33 #[.int .i64 k1,.int .u32 f,.int .u32 x,.int .u64 s1,.slice A1 n1 c1,.slice A2 n2 c2]).alloc (.cells #[.int .i64 0,.int .u64 0,.int .i64 0] 35))
 have HEN:=hI (encode_yes k1 f x s1 A1 A2 n1 c1 n2 c2 us vs _ ((w.alloc (.cells #[.int .i64 k1,.int .u32 f,.int .u32 x,.int .u64 s1,.slice A1 n1 c1,.slice A2 n2 c2] 33)).alloc (.cells #[.int .i64 0,.int .u64 0,.int .i64 0] 35)) hm hr (hx.below HB0.out (fun b h=>h)) (hy.below HB0.out (fun b h=>h)) (fun b h=>nL h HB0.out.size) hn1 hn2)
 have HL0:=hI (h.below HB0.out)
 clear h hX hm hr hx hy hn1 hn2
 go_enter Tryz.func9,Tryz.ntmps9
 go_wp2_with fail
 refine HEN.out.mono ?_
 rintro e v6 ⟨vb,rfl,hown,hb6⟩
 have HOWN:=hI hown
 have HB6:=hI (HB0.out.trans (hb6.mono HB0.out.size))
 have HL6:=hI (HL.out.below HB6.out)
 have HK6:=hI (HK.out.below hb6 HK.out.lt)
 have HR6:=hI (HRC.out.below hb6 HRC.out.lt)
 obtain ⟨_,_,_,c3⟩:=log_cells HL6.out
 clear hown hb6
 go_upto_region 8 with fail
 clear c3
 go_cut [35] (fun t wy=>t=.bool (decide (leftW sec xs<((cntOf (21+n1+n2):Nat):Int)))∧Below v6.heap.size v6 wy)
 case first J KK hJ hKK =>
  have HOP:=hI (show ∀ W,Below v6.heap.size v6 W→RowZ W (·<W.heap.size) A m xs from fun W hW=>(HL6.out.below hW).now)
  have HL1:=hI (show ∀ W,Below v6.heap.size v6 W→W.rangeAt l 1 [.int .i64 sec,.slice A m c] from fun W hW q u hu=>by
   have hb:=HL6.out.1.below hW HL6.out.1.lt
   match q,hu with
   | 0,hu=>exact (hb.cell 1).trans hu
   | 1,hu=>exact (hb.cell 2).trans hu)
  have HR1:=hI (show ∀ W,Below v6.heap.size v6 W→W.rangeAt w.heap.size 0 [.int .i64 k1,.int .u32 f,.int .u32 x,.int .u64 s1,.slice A1 n1 c1,.slice A2 n2 c2] from fun W hW=>(show Blk W w.heap.size 33 (List.toArray [.int .i64 k1,.int .u32 f,.int .u32 x,.int .u64 s1,.slice A1 n1 c1,.slice A2 n2 c2]) from HR6.out.below hW HR6.out.lt).rangeL)
  have hu35:=Tryz.underlying95
  have hu44:=Tryz.underlying33
  refine wp_region_noPanic ?_
  refine Tillst.region (fun W=>Below v6.heap.size v6 W) [] (by kernel_rfl) (Below.refl _ _).drew (fun hė=>?_)
  refine tK 0 lp0 (v:=?_) ?_ hė ?_
  rotate_left
  ·intro W hSW; unfold lp0; go_simp; with_reducible rfl
  simp only[lp0,Act.put,sA,sZ,sS]
  refine tK 1 lp1 (v:=?_) ?_ hė ?_
  rotate_left
  ·intro W hSW; unfold lp1; go_simp; with_reducible rfl
  simp only[lp1,Act.put,sA,sZ,sS]
  refine tK 2 lp2 (v:=?_) ?_ hė ?_
  rotate_left
  ·intro W hSW; unfold lp2; go_simp; with_reducible rfl
  simp only[lp2,Act.put,sA,sZ,sS]
  refine tK 3 lp3 (v:=?_) ?_ hė ?_
  rotate_left
  ·intro W' hSW; refine exec_load_row (.tmp 30) 95 ?_ l 1 ?_ [.int .i64 sec,.slice A m c] _ hu35 rfl size_ring (HL1.out W' hSW) <;> rfl
  simp only[lp3,Act.put,sA,sZ,sS]
  refine tK 5 lp5 (v:=?_) ?_ hė ?_
  rotate_left
  ·intro W' hSW; refine exec_load_row (.tmp 3) 33 ?_ w.heap.size 0 ?_ [.int .i64 k1,.int .u32 f,.int .u32 x,.int .u64 s1,.slice A1 n1 c1,.slice A2 n2 c2] _ hu44 rfl size_rec9 (HR1.out W' hSW) <;> rfl
  simp only[lp5,Act.put,sA,sZ,sS]
  refine tO 4 lp4 ?_
  intro K hK
  refine step_call 46 #[.tmp 31] #[95] rfl rfl Tryz.func46 rfl rfl [.agg #[.int .i64 sec,.slice A m c]] rfl ?_
  refine (left_ring (HOP.out _ hė) sec).mono ?_
  rintro e v8 ⟨rfl,hbn⟩
  have hS8:=hė.trans (hbn.mono hė.size)
  clear hbn
  refine ⟨_,rfl,?_⟩
  simp only[lp4,Act.put,sA,sZ,sS]
  refine hK.out _ _ (fun _=>hS8) (fun hė=>?_)
  replace hė:=hė (by decide)
  clear hK K hS8
  refine tO 6 lp6 ?_
  intro K hK
  refine step_call 47 #[.tmp 33] #[33] rfl rfl Tryz.func47 rfl rfl [.agg #[.int .i64 k1,.int .u32 f,.int .u32 x,.int .u64 s1,.slice A1 n1 c1,.slice A2 n2 c2]] rfl ?_
  refine (rec_sectors k1 f x s1 A1 A2 n1 c1 n2 c2 _ HM.out (by obtain ⟨_,_,h1,h2,_⟩:=HM.out; omega)).mono ?_
  rintro e v9 ⟨rfl,hbn⟩
  have hS8:=hė.trans (hbn.mono hė.size)
  clear hbn
  refine ⟨_,rfl,?_⟩
  simp only[lp6,Act.put,sA,sZ,sS]
  refine hK.out _ _ (fun _=>hS8) (fun hė=>?_)
  replace hė:=hė (by decide)
  clear hK K hS8
  refine tK 7 lp7 (v:=?_) ?_ hė ?_
  rotate_left
  ·intro W hSW; unfold lp7; go_simp; with_reducible rfl
  simp only[lp7,Act.put,sA,sZ,sS]
  refine Tillst.done (by kernel_rfl) ?_ _
  refine NoPanic.normal ?_
  refine hKK _ _ (Met.intro (hJ _ _ ?_))
  (repeat apply Exists.intro)
  exact ⟨⟨rfl,hė⟩,rfl⟩
 case rest =>
  obtain ⟨rfl,hb⟩:=hcut
  have HB8:=hI (HB6.out.trans (hb.mono HB6.out.size))
  have HB68:=hI hb
  have HK8:=hI (HK6.out.below hb HK6.out.lt)
  have hkl:=HK6.out.lt
  clear hb
  obtain ⟨B,hB⟩:∃ B,21+n1+n2=B:=⟨_,rfl⟩
  have HB17:=hI (show cntOf B≤17∧1≤cntOf B∧B≤16384 by have h9:=HM.out; unfold May at h9; unfold cntOf; omega)
  have HBL:=hI (show (recB k1 f x s1 us vs).length=B by rw[recB_length,HLEN.out.1,HLEN.out.2]; exact hB)
  rw[hB]
  obtain ⟨bs,hbse⟩:∃ bs,recB k1 f x s1 us vs=bs:=⟨_,rfl⟩
  rw[hbse] at HBS HOWN HBL
  have HBE:=hI hbse
  have HBB:=hI hB
  clear hB hbse
  have HG8:=hI (HLG.out.grow HB8.out)
  have HX8:=hI (grow_lt HX.out HB8.out.size)
  have hown:=HOWN.out
  rw[HBL.out] at hown
  obtain ⟨A5,c5,rfl,hbc,hbn,hrow⟩:=rowG_own (mk:=Value.int .u8) 0 hown
  have HROW:=hI (show RowI .u8 wc (·<wc.heap.size) A5 B bs from (hrow.below HB68.out (fun b hb=>hb.2.1)).more (fun b hb=>nL hb.2.1 HB68.out.size))
  have HBN:=hI (And.intro hbn hbc)
  have HXR:=hI (show ∀ b,b<wc.heap.size∧w.heap.size+2≤b→(X b∨(w.heap.size≤b∧b<wc.heap.size)) from fun b hb=>.inr ⟨by omega,hb.1⟩)
  have HROW2:=hI (show RowI .u8 wc (fun b=>w.heap.size+2≤b∧b<wc.heap.size) A5 B bs from (hrow.below HB68.out (fun b hb=>hb.2.1)).more (fun b hb=>⟨by have:=hb.1; simp at this; omega,nL hb.2.1 HB68.out.size⟩))
  have hX1:=(show (fun b=>X b∨(w.heap.size≤b∧b<wc.heap.size)) (w.heap.size+1) from .inr ⟨by omega,HK8.out.lt⟩)
  have HX1:=hI hX1
  have hB17:=HB17.out
  have hleft:=HLW.out
  rw[hleft]
  clear hown hrow hbn hbc hX1 hleft
  by_cases hlt:leftR sec xs<((cntOf B:Nat):Int)
  ·have HT:=hI (turn_lg HG8.out HX8.out HPE.out HGM.out)
   have HLT:=hI (show leftR s.b xs<((cntOf (21+n1+n2):Nat):Int) by rw[HSEC.out,HBB.out]; exact hlt)
   rw[decide_eq_true hlt]
   clear hlt hB17
   go_wp2_with fail
   refine HT.out.mono ?_
   rintro e v9 ⟨ht,hk9⟩
   have HK9:=hI (HK8.out.kept hk9 HX1.out)
   have HKX9:=hI ((Kept.of_below HB8.out HX.out).trans hk9 (fun b h=>.inl h))
   have HKZ9:=hI hk9
   clear hk9
   rcases ht with ⟨hn,rfl,hg9⟩ | ⟨i,hi,rfl,hg9⟩
   ·have HG9:=hI hg9
    have HN9:=hI hn
    have q0:=HK9.out.cell 0
    have q1:=HK9.out.cell 1
    have q2:=HK9.out.cell 2
    simp only[List.getElem?_toArray,List.getElem?_cons_zero,List.getElem?_cons_succ] at q0 q1 q2
    obtain ⟨g0,g1,g2⟩:=And.intro (HK9.out.frozen 0) (And.intro (HK9.out.frozen 1) (HK9.out.frozen 2))
    clear hg9 hn
    go_wp2_with (with_reducible refine halt_end ?_)
    have hso:=HG9.out.setOff3 (X:=X) HK9.out HX1.out (fun b h=>.inl h) (fun b h=>by have:=HX.out b h; omega) (.int .i64 0) (.int .u64 0) (.int .i64 0)
    exact Halt.ret (results_row2 (p:=4) (u:=5) rfl _ _ (w.heap.size+1) 35 #[.int .i64 0,.int .u64 0,.int .i64 0] _ rfl hso.2.1 Tryz.underlying35 rfl size_addr) rfl
     ⟨.inr (.inl ⟨HLT.out,HN9.out,rfl,hso.1⟩),hso.2.2 _ HKX9.out⟩
   ·obtain ⟨u1,u2,u3,u4⟩:=turn_facts HLG.out hi
    have HLY:=hI (lay_lg (i:=i) (c0:=c5) hg9 (fun b h=>nL (HX8.out b h) HKZ9.out.size) (by omega) u1 (by show ((cntOf B:Nat):Int)≤leftR s.b _; rw[u4]; have h8:=HSB.out; have h9:=HB17.out; omega) ((HROW2.out.kept HKZ9.out (fun b hb=>HXR.out b ⟨hb.2,hb.1⟩)).more (fun b hb=>nL hb.2 HKZ9.out.size)) HBN.out.1 HBN.out.2 HB17.out.2.2 HBS.out)
    rw[u2,u3] at HLY
    have HII:=hI hi
    clear u1 u2 u3 u4 hi hg9
    go_wp2_with fail
    refine HLY.out.mono ?_
    rintro e v10 ⟨rfl,hg10,hk10⟩
    have HK10:=hI (HK9.out.kept hk10 HX1.out)
    have HKX10:=hI (HKX9.out.trans hk10 (fun b h=>.inl h))
    have HG10:=hI hg10
    have q0:=HK10.out.cell 0
    have q1:=HK10.out.cell 1
    have q2:=HK10.out.cell 2
    simp only[List.getElem?_toArray,List.getElem?_cons_zero,List.getElem?_cons_succ] at q0 q1 q2
    obtain ⟨g0,g1,g2⟩:=And.intro (HK10.out.frozen 0) (And.intro (HK10.out.frozen 1) (HK10.out.frozen 2))
    clear hg10 hk10
    go_wp2_with (with_reducible refine halt_end ?_)
    have hso:=HG10.out.setOff3 (X:=X) HK10.out HX1.out (fun b h=>.inl h) (fun b h=>by have:=HX.out b h; omega) (.int .i64 (i:Int)) (.int .u64 (s.g+1)) (.int .i64 1)
    refine Halt.ret (results_row2 (p:=4) (u:=5) rfl _ _ (w.heap.size+1) 35 #[.int .i64 (i:Int),.int .u64 (s.g+1),.int .i64 1] _ rfl hso.2.1 Tryz.underlying35 rfl size_addr) rfl
     ⟨.inr (.inr ⟨HLT.out,i,HII.out,rfl,?_⟩),hso.2.2 _ HKX10.out⟩
    rw[HBB.out,HBE.out]
    exact hso.1
  ·rw[decide_eq_false hlt]
   have HLT:=hI (show ((cntOf (21+n1+n2):Nat):Int)≤leftR s.b xs by rw[HSEC.out,HBB.out]; omega)
   clear hlt hB17
   obtain ⟨i,hi⟩:=left_open HLG.out.ok (by rw[HBB.out]; have:=HB17.out; omega) HLT.out
   have HLY:=hI (lay_lg (i:=i) (c0:=c5) HG8.out HX8.out HPE.out hi (by have h9:=HLT.out; rw[HBB.out] at h9; exact h9) HROW.out HBN.out.1 HBN.out.2 HB17.out.2.2 HBS.out)
   have HII:=hI hi
   obtain ⟨gi,hgi⟩:∃ gi,genG xs i=gi:=⟨_,rfl⟩
   obtain ⟨ui,hui⟩:∃ ui,usedG xs i=ui:=⟨_,rfl⟩
   rw[hgi,hui] at HLY
   have HGU:=hI (And.intro hgi hui)
   clear hi hgi hui
   go_wp2_with fail
   refine HLY.out.mono ?_
   rintro e v10 ⟨rfl,hg10,hk10⟩
   have HK10:=hI (HK8.out.kept hk10 HX1.out)
   have HKX10:=hI ((Kept.of_below HB8.out HX.out).trans hk10 (fun b h=>.inl h))
   have HG10:=hI hg10
   have q0:=HK10.out.cell 0
   have q1:=HK10.out.cell 1
   have q2:=HK10.out.cell 2
   simp only[List.getElem?_toArray,List.getElem?_cons_zero,List.getElem?_cons_succ] at q0 q1 q2
   obtain ⟨g0,g1,g2⟩:=And.intro (HK10.out.frozen 0) (And.intro (HK10.out.frozen 1) (HK10.out.frozen 2))
   clear hg10 hk10
   go_wp2_with (with_reducible refine halt_end ?_)
   have hso:=HG10.out.setOff3 (X:=X) HK10.out HX1.out (fun b h=>.inl h) (fun b h=>by have:=HX.out b h; omega) (.int .i64 (i:Int)) (.int .u64 gi) (.int .i64 ui)
   refine Halt.ret (results_row2 (p:=4) (u:=5) rfl _ _ (w.heap.size+1) 35 #[.int .i64 (i:Int),.int .u64 gi,.int .i64 ui] _ rfl hso.2.1 Tryz.underlying35 rfl size_addr) rfl
    ⟨.inl ⟨i,HII.out,HLT.out,by rw[HGU.out.1,HGU.out.2]; rfl,?_⟩,hso.2.2 _ HKX10.out⟩
   rw[HBB.out,HBE.out]
   exact hso.1
end
end
section
structure StrM (W:World) (X:Nat→Prop) (gx gi p d n:Nat) (s:Sup) (t:Int) (k:Dk) (seg:Nat):Prop where
 sto:StoS W X p d n s t k
 off:∀ b,X b→b<W.heap.size
 bx:Blk W gx 45 #[.pointer (some ⟨p,0,none⟩)]
 bi:Blk W gi 3 #[.int .i64 seg]
 xx:X gx
 xi:X gi
section
variable {W W':World} {X Y:Nat→Prop} {gx gi p d n:Nat} {s:Sup} {t:Int} {k:Dk} {seg:Nat}
theorem StrM.grow (h:StrM W X gx gi p d n s t k seg) (hb:Below W.heap.size W W'):StrM W' (fun b=>X b∨(W.heap.size≤b∧b<W'.heap.size)) gx gi p d n s t k seg :=
 ⟨StoreM.grow h.sto hb,grow_lt h.off hb.size,h.bx.below hb h.bx.lt,h.bi.below hb h.bi.lt,.inl h.xx,.inl h.xi⟩
theorem StrM.kept {S:Nat→Prop} {k2:Dk} (h:StrM W Y gx gi p d n s t k seg) (hk:Kept S W W') (hs:StoS W' Y p d n s t k2) (hx:S gx) (hi:S gi) (hX:∀ b,X b→Y b) (h1:X gx) (h2:X gi):StrM W' X gx gi p d n s t k2 seg :=
 ⟨StoreM.kept (Z:=fun _=>True) hs (Kept.refl _ _) (fun _ _ _=>trivial) (fun b _ h=>hX b h),fun b hb=>nL (h.off b (hX b hb)) hk.size,h.bx.kept hk hx,h.bi.kept hk hi,h1,h2⟩
def strV (k:Dk) (s:Sup) (seg i:Nat):List Int:=if (i:Int)<s.b then k.held.getD (2+(seg:Int)*s.b+i).toNat [] else noughts 64
def strE (s:Sup) (i:Nat):Int:=if (i:Int)<s.b then 0 else 4
def strK (k:Dk) (s:Sup) (i:Nat):Dk:=if (i:Int)<s.b then k.rd else k
theorem run_field1 (a b g r v f:Int) (w:World):(Instr.field 115 (.agg (supC a b g r v f)) 1).run Tryz.prog w=.ok (.int .i64 b) w:=by
 unfold Instr.field
 simp[Sem.run_bind,run_underlying (Tryz.underlying115),asAgg,part,isAgg,run_underlying (Tryz.underlying3)]
theorem stored1_any (h:StrM W X gx gi p d n s t k seg) (hg:Good k) (hm:s.May) (hseg:(seg:Int)<s.a) (hroom:2+s.a*s.b≤(n:Int)) (hn:n≤2048) (i:Nat) (hi:i≤100000) (hlen:(strV k s seg i).length=64) :
 Calls Tryz.prog 122 #[.int .i64 i,.pointer (some ⟨gx,0,none⟩),.pointer (some ⟨gi,0,none⟩)] W fun e W' =>
  e=.returned (.tuple #[.agg (cells8 (strV k s seg i)),.int .i64 (strE s i)])∧StrM W' X gx gi p d n s t (strK k s i) seg∧Kept X W W':=by
 have HS:=hI h
 have HG:=hI hg
 obtain ⟨w1,hw1⟩:∃ w1,w1=W.alloc (.cells (cells8 (noughts 64)) 186):=⟨_,rfl⟩
 have HB1:=hI (show Below W.heap.size W w1 by rw[hw1]; exact (Below.refl _ W).alloc (nR _) _)
 have HR1:=hI (show ArrB w1 W.heap.size (noughts 64) by rw[hw1]; exact Blk.new W _ _)
 have HW1:=hI hw1
 have h1:=h.grow HB1.out
 have HS1:=hI h1
 have HBA:=hI (sto_base h1.sto seg hseg hm.2.1 ⟨by have:=hm.2.2.1; omega,hm.2.2.2.1⟩)
 have c0:=h1.bx.cell 0
 have c1:=h1.bi.cell 0
 have hb24:24≤s.b:=hm.2.2.1
 have hb64:s.b≤64:=hm.2.2.2.1
 have hx1:0≤(seg:Int)*s.b∧(seg:Int)*s.b+s.b≤s.a*s.b:=by
  refine ⟨Int.mul_nonneg (by omega) (by omega),?_⟩
  have:=Int.mul_le_mul_of_nonneg_right (show (seg:Int)+1≤s.a by omega) (show 0≤s.b by omega)
  rw[Int.add_mul,Int.one_mul] at this
  exact this
 obtain ⟨M,hM⟩:∃ M:Int,(seg:Int)*s.b=M:=⟨_,rfl⟩
 rw[hM] at HBA hx1
 have HV:=hI (show strV k s seg i=if (i:Int)<s.b then k.held.getD (2+M+i).toNat [] else noughts 64 by unfold strV; rw[hM])
 have HLEN:=hI hlen
 rw[hw1] at c0 c1
 clear h hg hm hseg hw1 h1 hM hlen
 go_enter Tryz.func122,Tryz.ntmps122
 go_wp2_with (refine wpList_alloc_blk rfl rfl ?_)
 rw[← HW1.out]
 refine HBA.out.mono ?_
 rintro e w2 ⟨rfl,rfl⟩
 clear c0 c1
 have HGT:=hI (get_any HS1.out.sto)
 have c0:=HS1.out.bx.cell 0
 have c1:=HS1.out.bi.cell 0
 go_wp2_with fail
 unfold supC at HGT
 refine HGT.out.mono ?_
 rintro e w3 ⟨rfl,hb3⟩
 have HB3:=hI (HB1.out.trans (hb3.mono HB1.out.size))
 have HR3:=hI (HR1.out.below hb3 HR1.out.lt)
 have HS3:=hI (HS.out.grow HB3.out)
 have hr0:=HR1.out.lt
 have hs3:=hb3.size
 clear hb3 c0 c1
 have c0:=HS3.out.bx.cell 0
 have hfld:=run_field1 s.a s.b s.g s.r s.v s.f w3
 by_cases hib:(i:Int)<s.b
 ·obtain ⟨j,hj⟩:∃ j:Nat,(2:Int)+M+(i:Int)=(j:Nat):=⟨(2+M+i).toNat,by omega⟩
  have hjn:j<n:=by omega
  have hib2:¬ ((i:Int)≥s.b):=by omega
  have hib3:decide (s.b≤(i:Int))=false:=decide_eq_false (by omega)
  have HV2:=hI (show strV k s seg i=k.held.getD j [] by rw[HV.out,if_pos hib,hj]; simp)
  have HEK:=hI (show strE s i=0∧strK k s i=k.rd by unfold strE strK; rw[if_pos hib,if_pos hib]; exact ⟨rfl,rfl⟩)
  have hrd:=read_k HS3.out.sto.2.1 (fun b hb=>by
   rcases hb with hb | hb
   ·exact HS3.out.off b hb
   ·rw[hb]; exact HS3.out.sto.1.lt) j hjn
  rw[HG.out.rde,HG.out.rdv] at hrd
  have HRD:=hI hrd
  obtain ⟨ys,hys⟩:∃ ys,k.held.getD j []=ys:=⟨_,rfl⟩
  rw[hys] at HRD HV2
  have HYL:=hI (show ys.length=64 by rw[← HV2.out]; exact HLEN.out)
  clear hrd hys
  go_wp2_with fail
  refine (sto_disk HS3.out.sto).mono ?_
  rintro e w4 ⟨rfl,rfl⟩
  go_wp2_with fail
  refine HRD.out.mono ?_
  rintro e w5 ⟨rfl,hd5,hk5⟩
  have HR5:=hI (show ArrB w5 W.heap.size (noughts 64) from Blk.kept HR3.out hk5 (.inl (.inr ⟨nR _,by omega⟩)))
  have HD5:=hI (show StoS w5 (fun b=>X b∨(W.heap.size≤b∧b<w4.heap.size)) p d n s t k.rd from ⟨HS3.out.sto.1.kept hk5 (.inr rfl),hd5,HS3.out.sto.2.2⟩)
  have HK5:=hI hk5
  clear hd5 hk5 c0
  go_wp2_with (first | (with_reducible refine halt_end ?_) | (refine wpList_store_blk (.tmp 4) (.tmp 32) rfl rfl W.heap.size ys rfl rfl 186 (noughts 64) HR5.out (noughts_length 64) HYL.out ?_))
  have hks:=(HK5.out.mono (S:=fun b=>X b∨(W.heap.size≤b∧b<w4.heap.size)) (fun b h=>.inl h))
  have hkr:=(Kept.refl (fun b=>b≠W.heap.size) w5).setRow (g:=W.heap.size) (fun h=>h rfl) (cells8 ys)
  have hxn:∀ b,X b→b≠W.heap.size:=fun b hb=>Nat.ne_of_lt (HS.out.off b hb)
  refine Halt.ret (results_blk2 rfl _ _ W.heap.size 186 ys rfl (setRow_heap _ _ _ _ _ _ HR5.out) HYL.out) rfl ⟨?_,?_,?_⟩
  ·rw[HV2.out,HEK.out.1]; rfl
  ·rw[HEK.out.2]
   refine ⟨StoreM.kept HD5.out hkr (fun b _ hx e=>hx (.inr ⟨by omega,by omega⟩)) (fun b _ hb=>.inl hb),fun b hb=>?_,(HS3.out.bx.kept hks (.inl HS.out.xx)).kept hkr (hxn _ HS.out.xx),(HS3.out.bi.kept hks (.inl HS.out.xi)).kept hkr (hxn _ HS.out.xi),HS.out.xx,HS.out.xi⟩
   have:=HS.out.off b hb
   have:=HB3.out.size
   have:=HK5.out.size
   have:=hkr.size
   omega
  ·exact ((Kept.of_below HB3.out HS.out.off).trans hks (fun b h=>.inl h)).trans hkr hxn
 ·have hib2:(i:Int)≥s.b:=by omega
  have HV2:=hI (show strV k s seg i=noughts 64 by rw[HV.out,if_neg hib])
  have HEK:=hI (show strE s i=4∧strK k s i=k by unfold strE strK; rw[if_neg hib,if_neg hib]; exact ⟨rfl,rfl⟩)
  clear c0
  go_wp2_with (first | (with_reducible refine halt_end ?_) | (refine wpList_build_blk rfl rfl ?_) | (refine wpList_store_blk (.tmp 4) (.tmp 25) rfl rfl W.heap.size (noughts 64) rfl rfl 186 (noughts 64) HR3.out (noughts_length 64) (noughts_length 64) ?_))
  have hkr:=(Kept.refl (fun b=>b≠W.heap.size) w3).setRow (g:=W.heap.size) (fun h=>h rfl) (cells8 (noughts 64))
  have hxn:∀ b,X b→b≠W.heap.size:=fun b hb=>Nat.ne_of_lt (HS.out.off b hb)
  refine Halt.ret (results_blk2 rfl _ _ W.heap.size 186 (noughts 64) rfl (setRow_heap _ _ _ _ _ _ HR3.out) (noughts_length 64)) rfl ⟨?_,?_,?_⟩
  ·rw[HV2.out,HEK.out.1]; rfl
  ·rw[HEK.out.2]
   refine ⟨StoreM.kept HS3.out.sto hkr (fun b _ hx e=>hx (.inr ⟨by omega,by omega⟩)) (fun b _ hb=>.inl hb),fun b hb=>?_,HS3.out.bx.kept hkr (hxn _ HS.out.xx),HS3.out.bi.kept hkr (hxn _ HS.out.xi),HS.out.xx,HS.out.xi⟩
   have:=HS.out.off b hb
   have:=HB3.out.size
   have:=hkr.size
   omega
  ·exact (Kept.of_below HB3.out HS.out.off).trans hkr hxn
end
theorem stored_any {w:World} {X:Nat→Prop} {p d n:Nat} {s:Sup} {t:Int} {k:Dk} (h:StoS w X p d n s t k) (hX:∀ b,X b→b<w.heap.size) (seg:Nat) :
 Calls Tryz.prog 52 #[.pointer (some ⟨p,0,none⟩),.int .i64 seg] w fun e w'=>(∃ gx gi,e=.returned (.func (.func 122) #[] #[.pointer (some ⟨gx,0,none⟩),.pointer (some ⟨gi,0,none⟩)]) ∧
  StrM w' (fun b=>X b∨(w.heap.size≤b∧b<w'.heap.size)) gx gi p d n s t k seg)∧Below w.heap.size w w':=by
 have HS:=hI h
 have HX:=hI hX
 have hb:=(((Below.refl w.heap.size w).alloc (nR _) (.cells #[.pointer (some ⟨p,0,none⟩)] 45)).alloc (by simp) (.cells #[.int .i64 seg] 3))
 have HB:=hI hb
 have HK1:=hI ((Blk.new w 45 #[.pointer (some ⟨p,0,none⟩)]).alloc (.cells #[.int .i64 seg] 3))
 have HK2:=hI (blk_new2 w (.cells #[.pointer (some ⟨p,0,none⟩)] 45) 3 #[.int .i64 seg])
 clear h hX hb
 go_enter Tryz.func52,Tryz.ntmps52
 go_wp2
 go_ret
 exact ⟨⟨w.heap.size,w.heap.size+1,rfl,StoreM.grow HS.out HB.out,grow_lt HX.out HB.out.size,HK1.out,HK2.out,.inr ⟨nR _,by simp; omega⟩,.inr ⟨by omega,by simp⟩⟩,HB.out⟩
end
section
def beginsN (ys:List Int) (gen:Int) (at_:Int):Nat :=
 if stamped ys=true∧genOf ys=gen∧posOf ys=at_∧needE (meantOf ys) (meantOf ys).length=0 then cntOf (needK (meantOf ys) (meantOf ys).length) else 0
theorem needK_le (xs:List Int) (n:Nat):needK xs n≤783:=by
 unfold needK
 split
 ·rename_i h
  have h2:=h.2
  unfold MayB May at h2
  unfold needOf
  omega
 ·omega
theorem begins_le (ys:List Int) (gen at_:Int):beginsN ys gen at_≤17:=by
 unfold beginsN
 split
 ·have:=needK_le (meantOf ys) (meantOf ys).length
  unfold cntOf
  omega
 ·omega
theorem begins_any (ys:List Int) (gen:Int) (at_:Nat) (w:World) (hl:ys.length=64) (hb:Bytes ys) (hat:at_≤100000) :
 Calls Tryz.prog 127 #[.agg (cells8 ys),.int .u64 gen,.int .i64 at_] w fun e w'=>e=.returned (.int .i64 (beginsN ys gen at_:Nat))∧Below w.heap.size w w':=by
 have HB0:=hI ((Below.refl w.heap.size w).alloc (nR _) (.cells (cells8 ys) 186))
 have HX0:=hI (show ArrB (w.alloc (.cells (cells8 ys) 186)) w.heap.size ys from Blk.new w _ _)
 have HL:=hI hl
 have HBY:=hI hb
 have hwr:IntKind.u32.wrap (at_:Int)=(at_:Int):=by rw[IntKind.wrap_u32]; omega
 cases hst:stamped ys with
 | false =>
  have HN:=hI (show beginsN ys gen at_=0 by unfold beginsN; rw[if_neg (fun h=>by rw[hst] at h; cases h.1)])
  have HRD:=hI (fun (W:World)=>read_bad ys W hl hb hst)
  clear hl hb hst
  go_enter Tryz.func127,Tryz.ntmps127
  go_wp2_with (refine wpList_load_blk (.tmp 3) rfl rfl w.heap.size 0 rfl ys HL.out HX0.out.range ?_)
  refine (HRD.out _).mono ?_
  rintro e w2 ⟨rfl,hb2⟩
  have HB2:=hI (HB0.out.trans (hb2.mono HB0.out.size))
  clear hb2
  go_wp2_with fail
  go_ret
  rw[HN.out]
  exact ⟨rfl,HB2.out.alloc HB2.out.size _⟩
 | true =>
  have HRD:=hI (fun (W:World)=>read_ok2 ys W hl hb hst)
  have HMB:=hI (show Bytes (meantOf ys) by unfold meantOf; split; exact bytes_part hb 16 _; exact fun j=>by simp)
  have hkk:=needK_le (meantOf ys) (meantOf ys).length
  have hDEF:beginsN ys gen at_=if genOf ys=gen∧posOf ys=(at_:Int)∧needE (meantOf ys) (meantOf ys).length=0 then cntOf (needK (meantOf ys) (meantOf ys).length) else 0:=by
   unfold beginsN
   simp[hst]
  have HDEF:=hI hDEF
  obtain ⟨gg,hgg⟩:∃ g,genOf ys=g:=⟨_,rfl⟩
  obtain ⟨pp,hpp⟩:∃ g,posOf ys=g:=⟨_,rfl⟩
  obtain ⟨ff,hff⟩:∃ g,fillOf ys=g:=⟨_,rfl⟩
  have HND:=hI (fun (A:Option Addr) (c:Nat) (W:World) (hx:RowI .u8 W (·<W.heap.size) A (meantOf ys).length (meantOf ys)) (hc:(meantOf ys).length≤c)=>need_all A _ c (meantOf ys) _ W hx (fun b h=>h) HMB.out hc)
  obtain ⟨ms,hms⟩:∃ g,meantOf ys=g:=⟨_,rfl⟩
  obtain ⟨nk,hnk⟩:∃ g,needK ms ms.length=g:=⟨_,rfl⟩
  obtain ⟨ne,hne⟩:∃ g,needE ms ms.length=g:=⟨_,rfl⟩
  unfold ReadTold2 at HRD
  rw[hgg,hpp,hff,hms] at HRD
  rw[hms,hnk,hne] at HND
  rw[hgg,hpp,hms,hnk,hne] at HDEF
  rw[hms,hnk] at hkk
  clear hl hb hst hDEF hgg hpp hff hms hnk hne
  go_enter Tryz.func127,Tryz.ntmps127
  go_wp2_with (refine wpList_load_blk (.tmp 3) rfl rfl w.heap.size 0 rfl ys HL.out HX0.out.range ?_)
  refine (HRD.out _).mono ?_
  rintro e w2 ⟨A,c,rfl,hrow,hb2,hnil,hcap⟩
  have HB2:=hI (HB0.out.trans (hb2.mono HB0.out.size))
  have HB3:=hI ((Below.refl w2.heap.size w2).alloc (nR _) (.cells #[.int .u64 gg,.int .u32 pp,.int .i64 (ff:Nat)] 203))
  have HROW:=hI ((hrow.below HB3.out (fun b h=>h.2)).more (T:=(·<(w2.alloc (.cells #[.int .u64 gg,.int .u32 pp,.int .i64 (ff:Nat)] 203)).heap.size)) (fun b h=>nL h.2 HB3.out.size))
  have HCAP:=hI hcap
  have hk:=Blk.new w2 203 #[.int .u64 gg,.int .u32 pp,.int .i64 (ff:Nat)]
  have c0:=hk.cell 0
  have c1:=hk.cell 1
  simp only[List.getElem?_toArray,List.getElem?_cons_zero,List.getElem?_cons_succ] at c0 c1
  clear hrow hb2 hnil hcap hk
  by_cases hg:gg=gen
  ·by_cases hp:pp=(at_:Int)
   ·have hN:=HND.out A c _ HROW.out HCAP.out
    have HN:=hI hN
    subst hg hp
    clear hN
    go_wp2_with fail
    refine HN.out.mono ?_
    rintro e w4 ⟨rfl,hb4⟩
    have HB4:=hI ((HB2.out.trans (HB3.out.mono HB2.out.size)).trans (hb4.mono (by have:=HB2.out.size; have:=HB3.out.size; omega)))
    clear hb4 c0 c1
    by_cases he:ne=0
    ·subst he
     have HSC:=hI (sectors_any nk w4 (by omega))
     clear hkk
     go_wp2_with fail
     refine HSC.out.mono ?_
     rintro e w5 ⟨rfl,rfl⟩
     go_wp2
     go_ret
     rw[HDEF.out,if_pos (by simp)]
     exact ⟨rfl,HB4.out⟩
    ·have HE:=hI he
     have hneb:(ne != 0)=true:=by simpa using he
     clear hkk he
     go_wp2
     go_ret
     rw[HDEF.out,if_neg (fun h=>HE.out h.2.2)]
     exact ⟨rfl,HB4.out⟩
   ·have HP:=hI hp
    have hpb:(pp != (at_:Int))=true:=by simpa using hp
    subst hg
    clear hp hkk
    go_wp2
    go_ret
    rw[HDEF.out,if_neg (fun h=>HP.out h.2.1)]
    exact ⟨rfl,HB2.out.trans (HB3.out.mono HB2.out.size)⟩
  ·have HGN:=hI hg
   have hgb:(gg != gen)=true:=by simpa using hg
   clear hg hkk
   go_wp2
   go_ret
   rw[HDEF.out,if_neg (fun h=>HGN.out h.1)]
   exact ⟨rfl,HB2.out.trans (HB3.out.mono HB2.out.size)⟩
end
section
attribute [local go_sem] Oper.semAt_some
def JoinTold9 (xss:List (List Int)) (w:World) (e:Ending) (w':World):Prop :=
 ∃ A c,e=.returned (.tuple #[.slice A (meants xss).length c,.int .i64 0])∧RowI .u8 w' (fun b=>w.heap.size≤b∧b<w'.heap.size) A (meants xss).length (meants xss)∧Below w.heap.size w w'∧(meants xss).length≤c
def JoinAny9 (xss:List (List Int)) (w:World) (e:Ending) (w':World):Prop:=(1≤xss.length∧Chain xss→JoinTold9 xss w e w')∧(¬ (1≤xss.length∧Chain xss)→JoinBad w e w')
theorem join_no9 {xss:List (List Int)} {w:World} {e:Ending} {w':World} (h:¬ (1≤xss.length∧Chain xss)) (hb:JoinBad w e w'):JoinAny9 xss w e w':=⟨fun k=>absurd k h,fun _=>hb⟩
theorem join_any9 (A:Option Addr) (n c:Nat) (xss:List (List Int)) (S:Nat→Prop) (w:World) (hx:RowK w S A n xss) (hS:∀ b,S b→b<w.heap.size) (hs:Secs xss) (hby:∀ i,Bytes (xss.getD i [])) (hn:n≤1000000) :
 Calls Tryz.prog 128 #[.slice A n c] w (JoinAny9 xss w):=by
 obtain ⟨i0,hi,hz0,hz1,hz2⟩:=info_parts info_u8
 have HX:=hI hx
 have HL:=hI hx.1
 have HS:=hI hs
 have HBY:=hI hby
 clear hx hs hby
 by_cases h0:n=0
 ·subst h0
  have hno:=hI (show ¬ (1≤xss.length∧Chain xss) from fun h=>by have:=HL.out; omega)
  go_enter Tryz.func128,Tryz.ntmps128
  go_wp2
  go_ret2
  exact join_no9 hno.out ⟨rfl,Below.refl _ _⟩
 have e0:((n:Int)==0)=false:=by simp; omega
 have hn1:1≤n:=by omega
 clear h0
 go_enter Tryz.func128,Tryz.ntmps128
 go_wp2_with fail
 have HJ0:=hI (show Joining xss w (w.alloc (.cells #[.int .u64 0,.int .u32 0,.int .i64 0] 203)) (.slice none 0 0) 0 from
  ⟨World.ownsRow_nil _ _ _ _,Blk.new w _ _,(Below.refl _ _).alloc (nR _) _,fun i h=>by omega⟩)
 go_loopw [4,16] (fun o i wr=>∃ k:Nat,k≤n∧i=.int .i64 k∧Joining xss w wr o k) (fun _ i _=>n-(intOf i).toNat)
 case atStart=>exact ⟨0,by omega,rfl,HJ0.out⟩
 case round =>
  obtain ⟨k,hk,rfl,hj⟩:=hrel
  by_cases hlt:k<n
  ·obtain ⟨b, off, rfl, hb, hc⟩ := (HX.out.below hj.bel hS).2 (by omega)
   have hr:=hc k hlt
   have hxl:=HS.out.get k (by have:=HL.out; omega)
   have hxb:=HBY.out k
   have hbw:=hS b hb
   have HJ:=hI hj
   have HXK:=hI (show xss.getD k []=xss.getD k [] from rfl)
   obtain ⟨xs,hxs⟩:∃ xs,xs=xss.getD k []:=⟨_,rfl⟩
   rw[← hxs] at hr hxl hxb
   have HXS:=hI hxs
   have HR:=hI hr
   have HXL:=hI hxl
   have HXB:=hI hxb
   obtain ⟨w1,hw1⟩:∃ w1,w1=wr.alloc (.cells (cells8 xs) 186):=⟨_,rfl⟩
   have HW1:=hI hw1
   have HX1:=hI (show ArrB w1 wr.heap.size xs by rw[hw1]; exact Blk.new wr _ _)
   have HB1:=hI (show Below wr.heap.size wr w1 by rw[hw1]; exact (Below.refl _ _).alloc (nR _) _)
   clear hc hj hxs hr hxl hxb hw1
   go_wp2_with (first
    | (refine wpList_load_blk (.tmp 19) rfl rfl b (off+k*64) rfl xs HXL.out HR.out ?_)
    | (refine wpList_alloc_blk rfl rfl ?_)
    | (refine wpList_store_new (.tmp 7) (.tmp 20) rfl rfl wr xs rfl rfl (noughts 64) rfl (noughts_length 64) HXL.out ?_; rw[← HW1.out])
    | (refine wpList_load_blk (.tmp 7) rfl rfl wr.heap.size 0 rfl xs HXL.out HX1.out.range ?_))
   by_cases hst:stamped xs=true
   case neg =>
    have hst:stamped xs=false:=by simpa using hst
    have hno:=hI (not_chain (k:=k) (xss:=xss) (by have:=HL.out; omega) (fun h=>by have h:=h.1; rw[← HXS.out,hst] at h; cases h))
    refine (read_bad xs w1 HXL.out HXB.out hst).mono ?_
    rintro e w2 ⟨rfl,hb2⟩
    have HB2:=hI ((HJ.out.bel.trans (HB1.out.mono HJ.out.bel.size)).trans (hb2.mono (nT HJ.out.bel.size HB1.out.size)))
    clear hst hb2
    go_wp2_with fail
    go_ret2
    exact join_no9 hno.out ⟨rfl,HB2.out.alloc HB2.out.size _⟩
   refine (read_ok_s5 xs w1 HXL.out HXB.out hst).mono ?_
   rintro e w2 ⟨A2,c2,rfl,hr2,hb2,hn2⟩
   have HN2:=hI hn2
   clear hn2
   have HST:=hI hst
   have HR2:=hI hr2
   have HB2:=hI (HB1.out.trans (hb2.mono HB1.out.size))
   obtain ⟨w3,hw3⟩:∃ w3,w3=w2.alloc (.cells #[.int .u64 (genOf xs),.int .u32 (posOf xs),.int .i64 (fillOf xs)] 203):=⟨_,rfl⟩
   have hb3:Below w2.heap.size w2 w3:=by rw[hw3]; exact (Below.refl _ _).alloc (nR _) _
   have HS3:=hI (show Blk w3 w2.heap.size 203 #[.int .u64 (genOf xs),.int .u32 (posOf xs),.int .i64 (fillOf xs)] by rw[hw3]; exact Blk.new w2 _ _)
   have HR3:=hI (HR2.out.below hb3 (fun b h=>h.2))
   have HB3:=hI (HB2.out.trans (hb3.mono HB2.out.size))
   have HW3:=hI hw3
   clear hst hr2 hb2 hw3 hb3
   by_cases hk0:k=0
   ·subst hk0
    have HCH:=hI (show ChainAt xss 0 from ⟨by rw[← HXS.out]; exact HST.out,fun h=>by omega⟩)
    have ho4:=own_below HJ.out.own HB3.out
    have HO4:=hI ho4
    have hlo:=meants_length xss 0 (by have:=HL.out; omega)
    have hml:=meant_le xs
    have HLT:=hI HJ.out.own.lt
    have hsz4:w.heap.size+1≤w3.heap.size:=by have:=HJ.out.st.lt; have:=HB3.out.size; omega
    clear ho4
    go_wp2_with (first
     | rw[← HW3.out]
     | (at_builtin; refine wpList_append_rowG rfl (.tmp 39) (.tmp 40) 31 rfl (w.heap.size+1) 5 i0 (.int .u8 0) 1 Tryz.underlying31 hi hz0 hz1 hz2 rfl (fun _=>rfl) u4 _ _ rfl HO4.out _ A2 (meantOf xs).length c2 (meantOf xs) rfl HR3.out HN2.out (by unfold maxLen; omega) (by omega) hsz4 ?_; intro v' w5 hown' hgrow' _; have HO5:=hI hown'; have HG5:=hI hgrow'; clear hown' hgrow';
         have hs5:Blk w5 w2.heap.size 203 #[.int .u64 (genOf xs),.int .u32 (posOf xs),.int .i64 (fillOf xs)]:=HS3.out.grown HG5.out (fun e=>by have:=HLT.out _ e.symm; have:=HB2.out.size; omega);
         have ha5:Blk w5 w.heap.size 203 (aheadOf xss 0):=(HJ.out.st.below HB3.out HJ.out.st.lt).grown HG5.out (fun e=>by have:=HLT.out _ e.symm; omega);
         obtain ⟨a0,a1,a2,ha⟩:∃ a0 a1 a2:Value,aheadOf xss 0=#[a0,a1,a2]:=by { unfold aheadOf; split <;> exact ⟨_,_,_,rfl⟩ };
         rw[ha] at ha5; clear ha;
         have p0:=hs5.cell 0; have p1:=hs5.cell 1; have p2:=hs5.cell 2; have q0:=ha5.cell 0; have q1:=ha5.cell 1; have q2:=ha5.cell 2; have y0:=ha5.frozen 0; have y1:=ha5.frozen 1; have y2:=ha5.frozen 2;
         simp only[List.getElem?_toArray,List.getElem?_cons_zero,List.getElem?_cons_succ] at p0 p1 p2 q0 q1 q2;
         clear hs5 ha5))
    go_roundw
    case rel=>exact ⟨0+1,by omega,by go_num,HJ.out.next (by have:=HL.out; omega) HXS.out HCH.out HB3.out HO5.out HG5.out⟩
    case measure=>(simp[intOf] <;> omega)
   ·have HA3:=hI (show Blk w3 w.heap.size 203 #[.int .u64 (genOf (xss.getD (k-1) [])),.int .u32 (posOf (xss.getD (k-1) [])),.int .i64 (fillOf (xss.getD (k-1) []))] by
     have:=HJ.out.st.below HB3.out HJ.out.st.lt
     unfold aheadOf at this
     rw[if_neg hk0] at this
     exact this)
    have hk1:(0:Int)<k:=by omega
    have hpb:=pos_bounds HXB.out HXL.out
    have hpl:=HS.out.get (k-1) (by have:=HL.out; omega)
    have hpf:=fill_lt (HBY.out (k-1))
    obtain ⟨ps,hps⟩:∃ ps,ps=xss.getD (k-1) []:=⟨_,rfl⟩
    rw[← hps] at HA3 hpl hpf
    have HPS:=hI hps
    have HK0:=hI hk0
    have hfol:=fun W=>follows_any (genOf ps) (posOf ps) (fillOf ps) (genOf xs) (posOf xs) (fillOf xs) W hpb.1 hpb.2 (by omega) (by omega)
    obtain ⟨lb,hlb⟩:∃ lb,linkB ps xs=lb:=⟨_,rfl⟩
    have hlb':folB (genOf ps) (posOf ps) (fillOf ps) (genOf xs) (posOf xs)=lb:=hlb
    rw[hlb'] at hfol
    have HFOL:=hI hfol
    have HLB:=hI hlb
    have g0:=HS3.out.cell 0
    have g1:=HS3.out.cell 1
    have g2:=HS3.out.cell 2
    have f0:=HA3.out.cell 0
    have f1:=HA3.out.cell 1
    have f2:=HA3.out.cell 2
    simp only[List.getElem?_toArray,List.getElem?_cons_zero,List.getElem?_cons_succ] at g0 g1 g2 f0 f1 f2
    clear hfol hlb hlb' hps hk0 hpl hpb
    cases lb with
    | false =>
     have hno:=hI (not_chain (k:=k) (xss:=xss) (by have:=HL.out; omega) (fun h=>by have h:=h.2 (by omega); rw[← HXS.out,← HPS.out,HLB.out] at h; cases h))
     go_wp2_with (first
      | rw[← HW3.out]
      | (go_at_call 177; refine (HFOL.out _).mono ?_; rintro e w4 ⟨rfl,hb4⟩; have HB4:=hI hb4; clear hb4))
     go_ret2
     exact join_no9 hno.out ⟨rfl,(HJ.out.bel.trans (HB3.out.mono HJ.out.bel.size)).trans (HB4.out.mono (nT HJ.out.bel.size HB3.out.size))⟩
    | true =>
     have HCH:=hI (show ChainAt xss k from ⟨by rw[← HXS.out]; exact HST.out,fun _=>by rw[← HXS.out,← HPS.out]; exact HLB.out⟩)
     go_wp2_with (rw[← HW3.out])
     refine (HFOL.out _).mono ?_
     rintro e w4 ⟨rfl,hb4⟩
     have HB34:=hI (HB3.out.trans (hb4.mono HB3.out.size))
     have HR4:=hI (HR3.out.below hb4 (fun b h=>by have:=h.2; have:=HS3.out.lt; omega))
     have HS4:=hI (HS3.out.below hb4 HS3.out.lt)
     clear hb4 g0 g1 g2 f0 f1 f2
     have ho4:=own_below HJ.out.own HB34.out
     have HO4:=hI ho4
     have hlo:=meants_length xss k (by have:=HL.out; omega)
     have hml:=meant_le xs
     have HLT:=hI HJ.out.own.lt
     have hsz4:w.heap.size+1≤w4.heap.size:=by have:=HJ.out.st.lt; have:=HB34.out.size; omega
     clear ho4
     go_wp2_with (first
      | (at_builtin; refine wpList_append_rowG rfl (.tmp 39) (.tmp 40) 31 rfl (w.heap.size+1) 5 i0 (.int .u8 0) 1 Tryz.underlying31 hi hz0 hz1 hz2 rfl (fun _=>rfl) u4 _ _ rfl HO4.out _ A2 (meantOf xs).length c2 (meantOf xs) rfl HR4.out HN2.out (by unfold maxLen; omega) (by omega) hsz4 ?_; intro v' w5 hown' hgrow' _; have HO5:=hI hown'; have HG5:=hI hgrow'; clear hown' hgrow';
          have hs5:Blk w5 w2.heap.size 203 #[.int .u64 (genOf xs),.int .u32 (posOf xs),.int .i64 (fillOf xs)]:=HS4.out.grown HG5.out (fun e=>by have:=HLT.out _ e.symm; have:=HB2.out.size; omega);
          have ha5:Blk w5 w.heap.size 203 (aheadOf xss k):=(HJ.out.st.below HB34.out HJ.out.st.lt).grown HG5.out (fun e=>by have:=HLT.out _ e.symm; omega);
          obtain ⟨a0,a1,a2,ha⟩:∃ a0 a1 a2:Value,aheadOf xss k=#[a0,a1,a2]:=by { unfold aheadOf; split <;> exact ⟨_,_,_,rfl⟩ };
          rw[ha] at ha5; clear ha;
          have p0:=hs5.cell 0; have p1:=hs5.cell 1; have p2:=hs5.cell 2; have q0:=ha5.cell 0; have q1:=ha5.cell 1; have q2:=ha5.cell 2; have y0:=ha5.frozen 0; have y1:=ha5.frozen 1; have y2:=ha5.frozen 2;
          simp only[List.getElem?_toArray,List.getElem?_cons_zero,List.getElem?_cons_succ] at p0 p1 p2 q0 q1 q2;
          clear hs5 ha5))
     go_roundw
     case rel=>exact ⟨k+1,by omega,by go_num,HJ.out.next (by have:=HL.out; omega) HXS.out HCH.out HB34.out HO5.out HG5.out⟩
     case measure=>(simp[intOf] <;> omega)
  ·obtain rfl:k=n:=by omega
   have hch:Chain xss:=fun i hi=>hj.chain i (by have:=HL.out; omega)
   have hmt:meants (xss.take k)=meants xss:=by rw[List.take_of_length_le (by have:=HL.out; omega)]
   have ho:=hj.own
   rw[hmt] at ho
   obtain ⟨A2,c2,rfl,hc1,hc2,hr2⟩:=rowG_own 0 ho
   have HR2:=hI hr2
   have HCH:=hI hch
   have HBEL:=hI hj.bel
   have HC9:=hI hc1
   clear hch hmt ho hj hr2 hc1 hc2
   go_wp2
   go_ret2
   exact ⟨fun _=>⟨_,_,rfl,HR2.out.more (fun b h=>⟨by omega,h.2.1⟩),HBEL.out,HC9.out⟩,fun h=>absurd ⟨by have:=HL.out; omega,HCH.out⟩ h⟩
end
section
structure HeldC {σ:Type} (f:Nat) (cs:List Value) (B:Nat) (X0:Nat→Prop) (V:Nat→List Int) (E:Nat→Int) (nx:σ→Nat→σ) (R:(Nat→Prop)→σ→World→Prop):Prop where
 call:∀ (X:Nat→Prop) (st:σ) (W:World) (i:Nat),R X st W→i≤100000→Calls Tryz.prog f ((Value.int .i64 (i:Nat))::cs).toArray W fun e W'=>e=.returned (.tuple #[.agg (cells8 (V i)),.int .i64 (E i)])∧R X (nx st i) W'∧Kept X W W'
 put:∀ (X S:Nat→Prop) (st:σ) (W W':World),R X st W→Kept S W W'→(∀ b,b<W.heap.size→¬ S b→X b∧B≤b)→R (fun b=>X b∨(W.heap.size≤b∧b<W'.heap.size)) st W'
 lt:∀ (X:Nat→Prop) (st:σ) (W:World),R X st W→∀ b,X b→b<W.heap.size
 back:∀ (X:Nat→Prop) (st:σ) (W:World),R X st W→(∀ b,X0 b→X b)→R X0 st W
 len:∀ i,(V i).length=64
 byt:∀ i,Bytes (V i)
def stR {σ:Type} (nx:σ→Nat→σ) (st:σ) (at_:Nat):Nat→σ
 | 0=>st
 | j+1=>nx (stR nx st at_ j) (at_+j)
def badAt (E:Nat→Int) (at_:Nat):Nat→Nat→Nat
 | 0,j=>j
 | f+1,j=>if E (at_+j)=0 then badAt E at_ f (j+1) else j
theorem badAt_done (E:Nat→Int) (at_:Nat):∀ (f j:Nat),(∀ q,j≤q→q<j+f→E (at_+q)=0)→badAt E at_ f j=j+f
 | 0,j,_=>rfl
 | f+1,j,h=>by
  unfold badAt
  rw[if_pos (h j (nR _) (by omega)),badAt_done E at_ f (j+1) fun q h1 h2=>h q (by omega) (by omega)]
  omega
theorem badAt_hit (E:Nat→Int) (at_:Nat):∀ (f j k:Nat),(∀ q,j≤q→q<k→E (at_+q)=0)→j≤k→k<j+f→E (at_+k)≠0→badAt E at_ f j=k
 | 0,j,k,_,h1,h2,_=>by omega
 | f + 1, j, k, h, h1, h2, h3 => by
  unfold badAt
  by_cases e:j=k
  ·subst e; rw[if_neg h3]
  ·rw[if_pos (h j (nR _) (by omega))]
   exact badAt_hit E at_ f (j+1) k (fun q h4 h5=>h q (by omega) h5) (by omega) (by omega) h3
def secsAt (V:Nat→List Int) (at_ c:Nat):List (List Int):=(List.range c).map fun j=>V (at_+j)
theorem secsAt_length (V:Nat→List Int) (at_ c:Nat):(secsAt V at_ c).length=c:=by simp[secsAt]
theorem secsAt_succ (V:Nat→List Int) (at_ c:Nat):secsAt V at_ (c+1)=secsAt V at_ c++[V (at_+c)]:=by simp[secsAt,List.range_succ]
theorem secsAt_one (V:Nat→List Int) (at_:Nat):secsAt V at_ 1=[V at_]:=by simp[secsAt,List.range_succ]
theorem secsAt_secs {V:Nat→List Int} (h:∀ i,(V i).length=64) (at_ c:Nat):Secs (secsAt V at_ c):=fun x hx=>by
 obtain ⟨j,_,rfl⟩:=List.mem_map.1 hx
 exact h _
theorem bytes_nil9:Bytes ([]:List Int):=fun j=>by simp
theorem secsAt_bytes {V:Nat→List Int} (h:∀ i,Bytes (V i)) (at_ c i:Nat):Bytes ((secsAt V at_ c).getD i []):=by
 unfold secsAt
 simp only[List.getD,List.getElem?_map]
 cases (List.range c)[i]? with
 | none=>exact bytes_nil9
 | some j=>exact h _
def StandsIn (xss:List (List Int)):Prop:=Chain xss∧DecOk (meants xss) (meants xss).length∧needOf (meants xss)=(meants xss).length
noncomputable section
open Classical
def standE (V:Nat→List Int) (E:Nat→Int) (gen:Int) (at_:Nat):Int :=
 if E at_≠0 then E at_ else
 if beginsN (V at_) gen at_=0 then 4 else
 if badAt E at_ (beginsN (V at_) gen at_-1) 1<beginsN (V at_) gen at_ then E (at_+badAt E at_ (beginsN (V at_) gen at_-1) 1) else
 if StandsIn (secsAt V at_ (beginsN (V at_) gen at_)) then 0 else 4
def standR (V:Nat→List Int) (E:Nat→Int) (gen:Int) (at_:Nat):Nat :=
 if E at_≠0 then 1 else
 if beginsN (V at_) gen at_=0 then 1 else
 min (badAt E at_ (beginsN (V at_) gen at_-1) 1+1) (beginsN (V at_) gen at_)
def StandT {σ:Type} (R:(Nat→Prop)→σ→World→Prop) (nx:σ→Nat→σ) (X0:Nat→Prop) (st:σ) (V:Nat→List Int) (E:Nat→Int) (gen:Int) (at_:Nat) (w:World) (e:Ending) (w':World):Prop :=
 R X0 (stR nx st at_ (standR V E gen at_)) w'∧Kept X0 w w' ∧
 (standE V E gen at_≠0→e=.returned (.tuple #[.agg #[.int .i64 0,.int .u32 0,.int .u32 0,.int .u64 0,.slice none 0 0,.slice none 0 0],.int .i64 0,.int .i64 (standE V E gen at_)])) ∧
 (standE V E gen at_=0→∃ xs:List Int,xs=meants (secsAt V at_ (beginsN (V at_) gen at_))∧∃ b1 b2,e=.returned (.tuple #[.agg #[.int .i64 (kindOf xs),.int .u32 (flagsOf xs),.int .u32 (expOf xs),.int .u64 (seqOf xs),.slice (some ⟨b1,0,none⟩) (klenOf xs) (klenOf xs),.slice (some ⟨b2,0,none⟩) (vlenOf xs) (vlenOf xs)],.int .i64 (beginsN (V at_) gen at_:Nat),.int .i64 0]) ∧
   w.heap.size≤b1∧w.heap.size≤b2∧b1≠b2∧ArrU w' b1 (keyOf xs)∧ArrU w' b2 (valOf xs)∧∃ Z:Nat→Prop,(∀ b,X0 b→Z b)∧Z b1∧Z b2∧R Z (stR nx st at_ (standR V E gen at_)) w')
end
section
variable {V:Nat→List Int} {E:Nat→Int} {gen:Int} {at_:Nat}
theorem stand_err (h:E at_≠0):standE V E gen at_=E at_∧standR V E gen at_=1:=by
 unfold standE standR; rw[if_pos h,if_pos h]; exact ⟨rfl,rfl⟩
theorem stand_none (h:E at_=0) (h2:beginsN (V at_) gen at_=0):standE V E gen at_=4∧standR V E gen at_=1:=by
 have hn:¬ (E at_≠0):=fun k=>k h
 unfold standE standR
 refine ⟨(if_neg hn).trans (if_pos h2),(if_neg hn).trans (if_pos h2)⟩
theorem stand_bad {k:Nat} (h:E at_=0) (h1:1≤k) (h2:k<beginsN (V at_) gen at_) (h3:∀ q,1≤q→q<k→E (at_+q)=0) (h4:E (at_+k)≠0):standE V E gen at_=E (at_+k)∧standR V E gen at_=k+1:=by
 have e:=badAt_hit E at_ (beginsN (V at_) gen at_-1) 1 k h3 h1 (by omega) h4
 have hn:¬ (E at_≠0):=fun k=>k h
 have hb:¬ (beginsN (V at_) gen at_=0):=by omega
 unfold standE standR
 rw[e]
 refine ⟨(if_neg hn).trans ((if_neg hb).trans (if_pos h2)),(if_neg hn).trans ((if_neg hb).trans ?_)⟩
 omega
theorem stand_all (h:E at_=0) (h2:beginsN (V at_) gen at_≠0) (h3:∀ q,1≤q→q<beginsN (V at_) gen at_→E (at_+q)=0) :
 (StandsIn (secsAt V at_ (beginsN (V at_) gen at_))→standE V E gen at_=0)∧(¬ StandsIn (secsAt V at_ (beginsN (V at_) gen at_))→standE V E gen at_=4)∧standR V E gen at_=beginsN (V at_) gen at_:=by
 have e:=badAt_done E at_ (beginsN (V at_) gen at_-1) 1 fun q h4 h5=>h3 q h4 (by omega)
 have hn:¬ (E at_≠0):=fun k=>k h
 have e2:badAt E at_ (beginsN (V at_) gen at_-1) 1=beginsN (V at_) gen at_:=by omega
 have hl:¬ (beginsN (V at_) gen at_<beginsN (V at_) gen at_):=Nat.lt_irrefl _
 unfold standE standR
 rw[e2]
 exact ⟨fun hs=>(if_neg hn).trans ((if_neg h2).trans ((if_neg hl).trans (if_pos hs))),fun hs=>(if_neg hn).trans ((if_neg h2).trans ((if_neg hl).trans (if_neg hs))),(if_neg hn).trans ((if_neg h2).trans (by omega))⟩
end
end
section
attribute [local go_sem] Oper.semAt_some
def usesB (xs:List Seg) (sg g sc:Int):Bool:=decide (0≤sg∧sg<(xs.length:Nat))&&((g==(xs.getD sg.toNat seg0).2.1)&&(decide (1≤sc)&&decide (sc<(xs.getD sg.toNat seg0).2.2)))
section
variable {w:World} {X:Nat→Prop} {l p d n:Nat} {s:Sup} {t:Int} {k:Dk} {sec:Int} {A:Option Addr} {m c:Nat} {xs:List Seg} {br:Bool}
theorem uses_out {xs:List Seg} {sg g sc:Int} (h:¬ (0≤sg∧sg<(xs.length:Nat))):usesB xs sg g sc=false:=by
 unfold usesB; rw[decide_eq_false h]; rfl
theorem uses_in {xs:List Seg} {i:Nat} {g sc:Int} (h:i<xs.length):usesB xs (i:Nat) g sc=((g==(xs.getD i seg0).2.1)&&(decide (1≤sc)&&decide (sc<(xs.getD i seg0).2.2))):=by
 unfold usesB; rw[decide_eq_true (by omega:0≤(i:Int)∧(i:Int)<(xs.length:Nat))]; rfl
theorem uses_any (h:LogM w X l p d n s t k sec A m c xs br) (hm:m≤1000) (sg g sc:Int) :
 Calls Tryz.prog 58 #[.pointer (some ⟨l,0,none⟩),.agg #[.int .i64 sg,.int .u64 g,.int .i64 sc]] w fun e w'=>e=.returned (.bool (usesB xs sg g sc))∧Below w.heap.size w w':=by
 obtain ⟨w1,hw1⟩:∃ w1,w1=w.alloc (.cells #[.int .i64 sg,.int .u64 g,.int .i64 sc] 35):=⟨_,rfl⟩
 have hb1:Below w.heap.size w w1:=by rw[hw1]; exact (Below.refl _ w).alloc (nR _) _
 have HA:=hI (show Blk w1 w.heap.size 35 #[.int .i64 sg,.int .u64 g,.int .i64 sc] by rw[hw1]; exact Blk.new w _ _)
 have hl1:=h.below hb1
 have HROW:=hI hl1.now
 have hlen:=hl1.now.1
 obtain ⟨l0,l1,l2,l3⟩:=log_cells hl1
 have a0:=HA.out.cell 0
 have a1:=HA.out.cell 1
 have a2:=HA.out.cell 2
 have HB1:=hI hb1
 have HW1:=hI hw1
 clear h hl1 hb1 hw1
 by_cases hin:0≤sg∧sg<(m:Nat)
 case neg =>
  have e:=uses_out (xs:=xs) (g:=g) (sc:=sc) (show ¬ (0≤sg∧sg<(xs.length:Nat)) by rw[hlen]; exact hin)
  rw[e]
  clear e
  by_cases h0:sg<0
  ·clear hin
   go_enter Tryz.func58,Tryz.ntmps58
   go_upto_region 1 with fail
   rw[← HW1.out]
   go_quiet (fail)
   go_wp2
   go_ret
   exact ⟨rfl,below_drewN HB1.out _⟩
  ·have h1:(m:Int)≤sg:=by omega
   clear hin
   go_enter Tryz.func58,Tryz.ntmps58
   go_upto_region 1 with fail
   rw[← HW1.out]
   go_quiet (fail)
   go_wp2
   go_ret
   exact ⟨rfl,below_drewN HB1.out _⟩
 obtain ⟨i,rfl⟩:∃ i:Nat,sg=(i:Int):=⟨sg.toNat,by omega⟩
 have him:i<m:=by omega
 have e:=uses_in (xs:=xs) (i:=i) (g:=g) (sc:=sc) (by rw[hlen]; exact him)
 rw[e]
 obtain ⟨b,off,rfl,_,hc⟩:=HROW.out.2 (by omega)
 have z0:=hc i him 0 _ rfl
 have z1:=hc i him 1 _ rfl
 have z2:=hc i him 2 _ rfl
 obtain ⟨⟨s0,s1,s2⟩,hs⟩:∃ s,xs.getD i seg0=s:=⟨_,rfl⟩
 rw[hs] at z0 z1 z2 ⊢
 replace z0:w1.cell? ⟨b,off+i*3,none⟩=some (.int .i64 s0):=z0
 replace z1:w1.cell? ⟨b,off+i*3+1,none⟩=some (.int .u64 s1):=z1
 replace z2:w1.cell? ⟨b,off+i*3+2,none⟩=some (.int .i64 s2):=z2
 have q0:decide ((i:Int)<0)=false:=by simp
 have q1:decide ((m:Int)≤(i:Int))=false:=by simp; omega
 have hz:∀ (v:Nat) (q:Addr) (u:Value),w1.cell? q=some u→((w1.drewN v).alloc (.cells #[.int .i64 0,.int .u64 0,.int .i64 0] 126)).cell? q=some u:=fun v q u hq=>by
  have hlt:q.block<w1.heap.size:=by
   by_cases h:q.block<w1.heap.size
   ·exact h
   ·have:w1.heap[q.block]? = none:=by simp; omega
    simp[World.cell?,this] at hq
  exact (World.cell?_alloc_lt (w1.drewN v) _ q (by simpa using hlt)).trans hq
 have y0:=fun v=>hz v _ _ a0
 have y1:=fun v=>hz v _ _ l2
 have y2:=fun v=>hz v _ _ z0
 have y3:=fun v=>hz v _ _ z1
 have y4:=fun v=>hz v _ _ z2
 have hn:∀ v,Blk ((w1.drewN v).alloc (.cells #[.int .i64 0,.int .u64 0,.int .i64 0] 126)) w1.heap.size 126 #[.int .i64 0,.int .u64 0,.int .i64 0]:=fun v=>Blk.new (w1.drewN v) _ _
 have n0:=fun v=>(hn v).cell 0
 have n1:=fun v=>(hn v).cell 1
 have n2:=fun v=>(hn v).cell 2
 have f0:=fun v=>(hn v).frozen 0
 have f1:=fun v=>(hn v).frozen 1
 have f2:=fun v=>(hn v).frozen 2
 simp only[List.getElem?_toArray,List.getElem?_cons_zero,List.getElem?_cons_succ] at n0 n1 n2
 have HN:=hI hn
 clear hz hn
 clear hc hs e hin hlen HROW
 go_enter Tryz.func58,Tryz.ntmps58
 go_upto_region 1 with fail
 rw[← HW1.out]
 go_quiet (fail)
 go_upto_region 3 with fail
 go_region
 have HSG:=hI ((HN.out (nq+1)).set3 (.int .i64 s0) (.int .u64 s1) (.int .i64 s2))
 have HBZ:=hI (((((below_drewN (Below.refl w1.heap.size w1) (nq+1)).alloc (by simp) (.cells #[.int .i64 0,.int .u64 0,.int .i64 0] 126)).setCell (p:=⟨w1.heap.size,0,none⟩) (nR _) (.int .i64 s0)).setCell (p:=⟨w1.heap.size,1,none⟩) (nR _) (.int .u64 s1)).setCell (p:=⟨w1.heap.size,2,none⟩) (nR _) (.int .i64 s2))
 generalize (((((w1.drewN (nq+1)).alloc (.cells #[.int .i64 0,.int .u64 0,.int .i64 0] 126)).setCell ⟨w1.heap.size,0,none⟩ (.int .i64 s0)).setCell ⟨w1.heap.size,1,none⟩ (.int .u64 s1)).setCell ⟨w1.heap.size,2,none⟩ (.int .i64 s2))=wz at *
 have HAZ:=HA.out.below HBZ.out HA.out.lt
 have p1:=HAZ.cell 1
 have p2:=HAZ.cell 2
 have r1:=HSG.out.cell 1
 have r2:=HSG.out.cell 2
 have HEND:=hI (HB1.out.trans (HBZ.out.mono HB1.out.size))
 clear HAZ y0 y1 y2 y3 y4 n0 n1 n2 f0 f1 f2 z0 z1 z2 l0 l1 l2 l3 a0 a1 a2 HN HSG HBZ
 cases hb1:(g==s1) <;> cases hb2:decide (1≤sc) <;> cases hb3:decide (sc<s2)
 all_goals
  go_wp2
  go_ret
  exact ⟨by simp[hb1,hb2,hb3],HEND.out⟩
end
end
section
def StrR (gx gi p d n:Nat) (s:Sup) (t:Int) (k0:Dk) (seg:Nat) (X:Nat→Prop) (k:Dk) (W:World):Prop:=StrM W X gx gi p d n s t k seg∧Good k∧k.held=k0.held∧k.pend=k0.pend
section
variable {W W':World} {X S X0:Nat→Prop} {gx gi p d n seg:Nat} {s:Sup} {t:Int} {k k0:Dk}
theorem strV_held (h:k.held=k0.held) (i:Nat):strV k s seg i=strV k0 s seg i:=by unfold strV; rw[h]
theorem Good.rd_held (h:Good k):k.rd.held=k.held:=by rw[h.rd]; rfl
theorem strK_good (h:Good k) (i:Nat):Good (strK k s i):=by unfold strK; split; exact h.read; exact h
theorem strK_held (h:Good k) (i:Nat):(strK k s i).held=k.held:=by unfold strK; split; exact h.rd_held; rfl
theorem strK_pd (h:Good k) (i:Nat):(strK k s i).pend=k.pend:=by
 unfold strK
 split
 ·rw[h.rd]
 ·rfl
theorem StrM.put (h:StrM W X gx gi p d n s t k seg) (hk:Kept S W W') (hS:∀ b,b<W.heap.size→¬ S b→X b∧b≠gx∧b≠gi):StrM W' (fun b=>X b∨(W.heap.size≤b∧b<W'.heap.size)) gx gi p d n s t k seg:=by
 have hs:∀ b,b<W.heap.size→¬ X b→S b:=fun b h1 h2=>Classical.byContradiction fun h3=>h2 (hS b h1 h3).1
 have hgx:S gx:=Classical.byContradiction fun h3=>(hS gx (h.off _ h.xx) h3).2.1 rfl
 have hgi:S gi:=Classical.byContradiction fun h3=>(hS gi (h.off _ h.xi) h3).2.2 rfl
 refine ⟨StoreM.kept h.sto hk hs (fun b hb hy=>?_),grow_lt h.off hk.size,h.bx.kept hk hgx,h.bi.kept hk hgi,.inl h.xx,.inl h.xi⟩
 rcases hy with hy | hy
 ·exact hy
 ·omega
theorem StrM.back (h:StrM W X gx gi p d n s t k seg) (hx:∀ b,X0 b→X b) (h1:X0 gx) (h2:X0 gi):StrM W X0 gx gi p d n s t k seg :=
 ⟨StoreM.kept (Z:=fun _=>True) h.sto (Kept.refl _ _) (fun _ _ _=>trivial) (fun b _ hb=>hx b hb),fun b hb=>h.off b (hx b hb),h.bx,h.bi,h1,h2⟩
theorem stored_held (hm:s.May) (hseg:(seg:Int)<s.a) (hroom:2+s.a*s.b≤(n:Int)) (hn:n≤2048) (hk0:k0.Ok n) (B:Nat) (h1:X0 gx) (h2:X0 gi) (hB:gx<B∧gi<B) :
 HeldC 122 [.pointer (some ⟨gx,0,none⟩),.pointer (some ⟨gi,0,none⟩)] B X0 (strV k0 s seg) (strE s) (fun k i=>strK k s i) (StrR gx gi p d n s t k0 seg):=by
 have hx1:0≤(seg:Int)*s.b∧(seg:Int)*s.b+s.b≤s.a*s.b:=by
  have hb24:24≤s.b:=hm.2.2.1
  refine ⟨Int.mul_nonneg (by omega) (by omega),?_⟩
  have:=Int.mul_le_mul_of_nonneg_right (show (seg:Int)+1≤s.a by omega) (show 0≤s.b by omega)
  rw[Int.add_mul,Int.one_mul] at this
  exact this
 have hlen:∀ i,(strV k0 s seg i).length=64:=fun i=>by
  unfold strV
  split
  ·refine hk0.heldSecs.get _ ?_
   rw[hk0.heldLen]
   omega
  ·exact noughts_length 64
 refine ⟨fun X k W i h hi=>?_,fun X S k W W' h hk hS=>⟨h.1.put hk fun b hb hn=>⟨(hS b hb hn).1,fun e=>?_,fun e=>?_⟩,h.2⟩,fun X k W h=>h.1.off,fun X k W h hx=>⟨h.1.back hx h1 h2,h.2⟩,hlen,fun i=>?_⟩
 ·refine (stored1_any h.1 h.2.1 hm hseg hroom hn i hi (by rw[strV_held h.2.2.1]; exact hlen i)).mono ?_
  rintro e W' ⟨rfl,hs,hk⟩
  rw[strV_held h.2.2.1]
  exact ⟨rfl,⟨hs,strK_good h.2.1 i,(strK_held h.2.1 i).trans h.2.2.1,(strK_pd h.2.1 i).trans h.2.2.2⟩,hk⟩
 ·have:=(hS b hb hn).2; omega
 ·have:=(hS b hb hn).2; omega
 ·unfold strV
  split
  ·exact hk0.heldBytes _
  ·intro j
   unfold noughts
   simp only[List.getD,List.getElem?_replicate]
   split <;> simp
end
end
section
structure RecOk (bs:List Int):Prop where
 byt:Bytes bs
 may:MayB bs
 need:needOf bs=bs.length
theorem RecOk.len {bs:List Int} (h:RecOk bs):22≤bs.length∧bs.length≤783:=by
 have h1:=h.may
 have h2:=h.need
 unfold MayB May at h1
 unfold needOf at h2
 omega
theorem rec_ok {k f x s:Int} {us vs:List Int} (hm:May k f x s us.length vs.length) (hr:Rng f x s) (hu:Bytes us) (hv:Bytes vs):RecOk (recB k f x s us vs):=by
 have hm2:=hm
 unfold May at hm2
 obtain ⟨f0,f1,x0,x1,s0,s1⟩:=hr
 have e:recB k f x s us vs=recB k f x s us vs++[]:=by rw[List.append_nil]
 have e1:kindOf (recB k f x s us vs)=k:=by rw[e]; exact rec_kind
 have e2:flagsOf (recB k f x s us vs)=f:=by rw[e]; exact rec_flags (by omega) (by omega)
 have e3:expOf (recB k f x s us vs)=x:=by rw[e]; exact rec_exp (by omega) (by omega)
 have e4:seqOf (recB k f x s us vs)=s:=by rw[e]; exact rec_seq (by omega) (by omega)
 have e5:klenOf (recB k f x s us vs)=us.length:=by rw[e]; exact rec_klen (by omega)
 have e6:vlenOf (recB k f x s us vs)=vs.length:=by rw[e]; exact rec_vlen (by omega)
 refine ⟨recB_bytes (by omega) hu hv,?_,?_⟩
 ·unfold MayB; rw[e1,e2,e3,e4,e5,e6]; exact hm
 ·unfold needOf; rw[e5,e6,recB_length]
theorem rec_stands {V:Nat→List Int} {E:Nat→Int} {gen:Int} {at_:Nat} {bs:List Int} (hr:RecOk bs) (hV:∀ j,j<cntOf bs.length→V (at_+j)=packL gen ((at_:Int)+j) (partOf bs j)) (hE:∀ j,j<cntOf bs.length→E (at_+j)=0)
 (hg:1≤gen∧gen≤18446744073709551615) (hat:at_≤100000) :
 standE V E gen at_=0∧beginsN (V at_) gen at_=cntOf bs.length∧meants (secsAt V at_ (cntOf bs.length))=bs:=by
 have hl:=hr.len
 have hc1:1≤cntOf bs.length∧cntOf bs.length≤17:=by unfold cntOf; omega
 have hsecs:secsAt V at_ (cntOf bs.length)=splitL gen at_ bs:=by
  unfold secsAt splitL
  refine List.map_congr_left fun j hj=>?_
  exact hV j (List.mem_range.1 hj)
 have h0:V at_=(splitL gen (at_:Int) bs).getD 0 []:=by
  rw[split_get gen _ bs 0 (by omega)]
  exact hV 0 (by omega)
 have hs:=split_said (xs:=bs) hg.1 hg.2 (pos:=(at_:Int)) (by omega) 0 (by omega) (by omega)
 rw[← h0] at hs
 obtain ⟨s1,s2,_,s4,s5⟩:=hs
 have hp:(partOf bs 0)=bs.take 48:=by unfold partOf; simp
 rw[hp] at s4
 have hmb:MayB (bs.take 48):=by
  unfold MayB
  rw[kind_take _ _ (by omega),flags_take _ _ (by omega),exp_take _ _ (by omega),seq_take _ _ (by omega),klen_take _ _ (by omega),vlen_take _ _ (by omega)]
  exact hr.may
 have hnd:needOf (bs.take 48)=bs.length:=by
  unfold needOf
  rw[klen_take _ _ (by omega),vlen_take _ _ (by omega)]
  exact hr.need
 have h21:21≤(bs.take 48).length:=by rw[List.length_take]; omega
 have hb:beginsN (V at_) gen at_=cntOf bs.length:=by
  unfold beginsN
  rw[s4,show needE (bs.take 48) (bs.take 48).length=0 from if_pos ⟨h21,hmb⟩,show needK (bs.take 48) (bs.take 48).length=bs.length from (if_pos ⟨h21,hmb⟩).trans hnd]
  rw[if_pos ⟨s5,s1,by rw[s2]; simp,rfl⟩]
 have hst:StandsIn (secsAt V at_ (beginsN (V at_) gen at_)):=by
  rw[hb,hsecs]
  have hme:=split_meants (xs:=bs) hg.1 hg.2 (pos:=(at_:Int)) (by omega) (by omega)
  refine ⟨split_chain hg.1 hg.2 (by omega) (by omega),?_,?_⟩
  ·rw[hme]; exact ⟨by omega,hr.may,by rw[hr.need]; exact nR _⟩
  ·rw[hme]; exact hr.need
 refine ⟨(stand_all (by have:=hE 0 (by omega); simpa using this) (by omega) (fun q h1 h2=>hE q (by omega))).1 hst,hb,?_⟩
 rw[hsecs]
 exact split_meants hg.1 hg.2 (by omega) (by omega)
def setL (H:List (List Int)) (i:Nat):List (List Int)→List (List Int)
 | []=>H
 | y::r=>setL (H.set i y) (i+1) r
theorem setL_get:∀ (xss H:List (List Int)) (i j:Nat),i+xss.length≤H.length→(setL H i xss).getD j []=if i≤j∧j<i+xss.length then xss.getD (j-i) [] else H.getD j []
 | [],H,i,j,_=>by
  unfold setL
  rw[if_neg (by simp)]
 | y :: r, H, i, j, h => by
  unfold setL
  simp only[List.length_cons] at h ⊢
  rw[setL_get r (H.set i y) (i+1) j (by rw[List.length_set]; omega)]
  by_cases h1:i=j
  ·subst h1
   rw[if_neg (by omega),if_pos (by omega)]
   have hi:i<H.length:=by omega
   simp[List.getD,List.getElem?_set_self hi]
  ·by_cases h2:i+1≤j∧j<i+1+r.length
   ·rw[if_pos h2,if_pos (by omega)]
    rw[show j-i=(j-(i+1))+1 by omega]
    simp[List.getD]
   ·rw[if_neg h2,if_neg (by omega)]
    simp[List.getD,List.getElem?_set_ne h1]
theorem wrs_held:∀ (xss:List (List Int)) (k:Dk) (i:Nat),Good k→(wrs k i xss).1.held=setL k.held i xss
 | [],k,i,h=>rfl
 | ys::r,k,i,h=>by
  unfold wrs
  rw[if_pos h.wre,wrs_held r _ (i+1) (h.put i ys),h.held_put]
  rfl
theorem pos_apart {b p q i j:Nat} (hi:i<b) (hj:j<b) (h:p*b+i=q*b+j):p=q∧i=j:=by
 rcases Nat.lt_trichotomy p q with h1 | h1 | h1
 ·have:=Nat.mul_le_mul_right b (show p+1≤q by omega)
  rw[Nat.add_mul,Nat.one_mul] at this
  omega
 ·subst h1; omega
 ·have:=Nat.mul_le_mul_right b (show q+1≤p by omega)
  rw[Nat.add_mul,Nat.one_mul] at this
  omega
theorem pos_in {b p a i n:Nat} (hp:p<a) (hi:i≤b) (hn:2+a*b≤n):2+(p*b+i)≤n:=by
 have:=Nat.mul_le_mul_right b (show p+1≤a by omega)
 rw[Nat.add_mul,Nat.one_mul] at this
 omega
theorem pos_nat (i b u:Nat):(2+(i:Int)*(b:Int)+(u:Int)).toNat=2+(i*b+u):=by
 rw[← Int.natCast_mul]
 generalize i*b=M
 omega
section
variable {k:Dk} {s:Sup} {xs:List Seg} {n:Nat}
theorem lay_V {bs:List Int} (hg:Good k) {a b u i:Nat} (ha:s.a=a) (hb:s.b=b) (hu:usedG xs i=u) (hn:k.held.length=n) (hroom:2+a*b≤n) (hi:i<a) (hfit:u+cntOf bs.length≤b) (seg j:Nat) (hj:j<b) :
 strV (layK k s xs i bs) s seg j=if seg=i∧u≤j∧j<u+cntOf bs.length then packL (genG xs i) (j:Int) (partOf bs (j-u)) else strV k s seg j:=by
 have hpos:(2+(i:Int)*s.b+usedG xs i).toNat=2+(i*b+u):=by
  rw[hb,hu]
  exact pos_nat i b u
 have hp2:(2+(seg:Int)*s.b+(j:Int)).toNat=2+(seg*b+j):=by
  rw[hb]
  exact pos_nat seg b j
 have hw:=pos_in hi (show u+cntOf bs.length≤b from hfit) hroom
 unfold strV
 rw[if_pos (by omega),hp2]
 unfold layK
 rw[wrs_held _ _ _ hg,hpos,setL_get _ _ _ _ (by rw[split_length,hn]; omega),split_length]
 by_cases h:2+(i*b+u)≤2+(seg*b+j)∧2+(seg*b+j)<2+(i*b+u)+cntOf bs.length
 ·obtain ⟨e1,e2⟩:=pos_apart (p:=seg) (q:=i) (i:=j) (j:=u+(seg*b+j-(i*b+u))) hj (by omega) (by omega)
  subst e1
  rw[if_pos h,if_pos ⟨rfl,by omega,by omega⟩,show 2+(seg*b+j)-(2+(seg*b+u))=j-u by omega,split_get _ _ _ _ (by omega),hu,show (u:Int)+((j-u:Nat):Int)=(j:Int) by omega]
 ·rw[if_neg h,if_neg (fun h2=>h (by obtain ⟨rfl,h3,h4⟩:=h2; omega)),if_pos (show (j:Int)<s.b by omega)]
theorem sec_lt (t:Int):secOf t<2:=by unfold secOf; omega
theorem beg_V (hg:Good k) {b i:Nat} (hb:s.b=b) (t:Int) (seg j:Nat) (hj:j<b) (hj1:1≤j∨seg≠i):strV (begK k s t i) (genS s) seg j=strV k s seg j:=by
 have hp1:(2+(i:Int)*s.b).toNat=2+(i*b+0):=by
  rw[hb]
  have h9:=pos_nat i b 0
  simpa using h9
 have hp2:(2+(seg:Int)*s.b+(j:Int)).toNat=2+(seg*b+j):=by
  rw[hb]
  exact pos_nat seg b j
 have hs:=sec_lt t
 have hne:¬ (2+(i*b+0)=2+(seg*b+j)):=fun e=>by
  obtain ⟨e1,e2⟩:=pos_apart (p:=i) (q:=seg) (i:=0) (j:=j) (by omega) hj (by omega)
  omega
 unfold strV
 rw[if_pos (show (j:Int)<(genS s).b by show (j:Int)<s.b; omega),if_pos (by omega)]
 show (begK k s t i).held.getD (2+(seg:Int)*s.b+j).toNat []=_
 rw[hp2]
 unfold begK setK
 rw[((hg.put _ _).sync.put _ _).held_sync,(hg.put _ _).sync.held_put,(hg.put _ _).held_sync,hg.held_put,hp1]
 simp only[List.getD]
 rw[List.getElem?_set_ne hne,List.getElem?_set_ne (by omega)]
end
structure AtR (k:Dk) (s:Sup) (xs:List Seg) (a:Int × Int × Int) (bs:List Int):Prop where
 rok:RecOk bs
 here:∃ i c:Nat,a=((i:Int),genG xs i,(c:Int))∧i<xs.length∧1≤c∧(c:Int)+cntOf bs.length≤usedG xs i∧∀ j,j<cntOf bs.length→strV k s i (c+j)=packL (genG xs i) ((c:Int)+j) (partOf bs j)
section
variable {k k':Dk} {s:Sup} {xs:List Seg} {a:Int × Int × Int} {bs:List Int}
theorem AtR.held (h:AtR k s xs a bs) (hk:k'.held=k.held):AtR k' s xs a bs:=by
 obtain ⟨h1,i,c,e,h2,h3,h4,h5⟩:=h
 exact ⟨h1,i,c,e,h2,h3,h4,fun j hj=>by rw[strV_held hk]; exact h5 j hj⟩
theorem used_free {sec:Int} {xs:List Seg} (h:OkR sec xs) {j:Nat} (hj:j<xs.length) (h0:stG xs j=0):usedG xs j=0:=by
 have hm:=may_at h.2.1 hj
 unfold MayG at hm
 rw[if_pos h0] at hm
 exact hm.2
theorem used_le {sec:Int} {xs:List Seg} (h:OkR sec xs) {j:Nat} (hj:j<xs.length):usedG xs j≤sec∧24≤sec∧sec≤64:=by
 have hz:=h.1
 unfold SizedR at hz
 refine ⟨?_,by omega,by omega⟩
 by_cases h0:stG xs j=0
 ·rw[used_free h hj h0]; omega
 ·exact (may_live (may_at h.2.1 hj) h0).2.2.2
theorem lay_at {n:Nat} (hg:Good k) (hok:OkR s.b xs) (hn:k.held.length=n) (hroom:2+s.a*s.b≤(n:Int)) (hdim:(xs.length:Int)=s.a) {i:Nat} (ho:opnR xs=(i:Nat)) {bs2:List Int} (hr:RecOk bs2) (hfit:((cntOf bs2.length:Nat):Int)≤leftR s.b xs) :
 AtR (layK k s xs i bs2) s (useX xs ((cntOf bs2.length:Nat):Int)) ((i:Int),genG xs i,usedG xs i) bs2 ∧
 ∀ a bs,AtR k s xs a bs→AtR (layK k s xs i bs2) s (useX xs ((cntOf bs2.length:Nat):Int)) a bs∧a≠((i:Int),genG xs i,usedG xs i):=by
 obtain ⟨o1,o2,o3,o4,o5,o6⟩:=opn_bounds hok ho
 have hE:=use_zero hok (n:=((cntOf bs2.length:Nat):Int)) (by omega) (by omega) hfit
 obtain ⟨i2,u1,u2,u3,u4,u5,u6,u7,u8,u9,u10,u11⟩:=use_facts hE
 obtain rfl:i2=i:=by omega
 have hc2:1≤cntOf bs2.length:=by unfold cntOf; omega
 obtain ⟨b,hb⟩:∃ b:Nat,s.b=b:=⟨s.b.toNat,by have hz:=hok.1; unfold SizedR at hz; omega⟩
 obtain ⟨u,hu⟩:∃ u:Nat,usedG xs i2=u:=⟨(usedG xs i2).toNat,by omega⟩
 have hroomN:2+xs.length*b≤n:=by
  rw[← hdim,hb] at hroom
  have:((xs.length*b:Nat):Int)=(xs.length:Int)*(b:Int):=by push_cast; rfl
  omega
 have hV:=fun seg j hj=>lay_V (seg:=seg) (j:=j) (bs:=bs2) hg (a:=xs.length) (b:=b) (u:=u) (i:=i2) hdim.symm hb hu hn hroomN u1 (by omega) hj
 have hused:∀ j,j<xs.length→usedG xs j≤usedG (useX xs ((cntOf bs2.length:Nat):Int)) j:=fun j hj=>by
  rw[u10,used_set9 u1]
  by_cases e:i2=j
  ·subst e; rw[if_pos rfl]; show usedG xs i2≤usedG xs i2+_; omega
  ·rw[if_neg e]; omega
 have hgen:∀ j,genG (useX xs ((cntOf bs2.length:Nat):Int)) j=genG xs j:=fun j=>by
  rw[u10,gen_set u1]
  by_cases e:i2=j
  ·subst e; rw[if_pos rfl]
  ·rw[if_neg e]
 refine ⟨⟨hr,i2,u,by rw[hgen,hu],by omega,by omega,by rw[u8,hu]; omega,fun j hj=>?_⟩,fun a bs h=>?_⟩
 ·rw[hV i2 (u+j) (by omega),if_pos ⟨rfl,by omega,by omega⟩,hgen,show u+j-u=j by omega]
  push_cast
  rfl
 ·obtain ⟨h1,j,c,e,h2,h3,h4,h5⟩:=h
  refine ⟨⟨h1,j,c,by rw[hgen]; exact e,by omega,h3,by have:=hused j h2; omega,fun q hq=>?_⟩,fun e2=>?_⟩
  ·have hub:usedG xs j≤b:=by
    by_cases ej:j=i2
    ·subst ej; omega
    ·have:=used_le hok h2; omega
   rw[hV j (c+q) (by omega),hgen]
   by_cases ej:j=i2
   ·subst ej
    rw[if_neg (by omega)]
    exact h5 q hq
   ·rw[if_neg (fun h=>ej h.1)]
    exact h5 q hq
  ·rw[e] at e2
   injection e2 with e3 e4
   injection e4 with e5 e6
   have:j=i2:=by omega
   subst this
   have:1≤cntOf bs.length:=by unfold cntOf; omega
   omega
theorem beg_at (hg:Good k) (hok:OkR s.b xs) (hdim:(xs.length:Int)=s.a) (t:Int) {i:Nat} (hi:nxtR xs=(i:Nat)) (hE:openE s.b (sealedX s.b xs) (s.g+1)=0) (h:AtR k s xs a bs):AtR (begK k s t i) (genS s) (openX (sealedX s.b xs) (s.g+1)) a bs:=by
 have hz:sealedX s.b xs=if sealE s.b xs=0 then sealX xs else xs:=rfl
 obtain ⟨z1,z2,z3,z4,z5,z6,z7⟩:=seal_facts hok hz
 obtain ⟨j,j1,j2,j3,j4,j5,j6,j7,j8,j9,j10,j11⟩:=open_facts hE
 obtain rfl:j=i:=by omega
 obtain ⟨b,hb⟩:∃ b:Nat,s.b=b:=⟨s.b.toNat,by have hz:=hok.1; unfold SizedR at hz; omega⟩
 have hst:stG xs j=0:=by
  rcases nxt_or xs with ⟨e,_⟩ | ⟨q,q1,q2,q3,_⟩
  ·omega
  ·rw[q2] at hi
   have:(latR xs+1+(q:Nat)).toNat % xs.length=j:=by omega
   rw[this] at q3
   exact q3
 have hu0:=used_free hok (by omega) hst
 obtain ⟨h1,p,c,e,h2,h3,h4,h5⟩:=h
 have hc:1≤cntOf bs.length:=by unfold cntOf; omega
 have hpj:p≠j:=fun e=>by subst e; omega
 have hub:=used_le hok h2
 have hg2:genG (openX (sealedX s.b xs) (s.g+1)) p=genG xs p:=by
  rw[j11,gen_set j1,if_neg (Ne.symm hpj)]; exact (z7 p).2.1
 have hu2:usedG (openX (sealedX s.b xs) (s.g+1)) p=usedG xs p:=by
  rw[j11,used_set9 j1,if_neg (Ne.symm hpj)]; exact (z7 p).2.2
 refine ⟨h1,p,c,by rw[hg2]; exact e,by omega,h3,by rw[hu2]; exact h4,fun q hq=>?_⟩
 rw[hg2,beg_V hg hb t p (c+q) (by omega) (.inl (by omega))]
 exact h5 q hq
end
end
section
attribute [local go_sem] Oper.semAt_some
section
variable {σ:Type} {f:Nat} {cs:List Value} {X0 X Y S:Nat→Prop} {V:Nat→List Int} {E:Nat→Int} {nx:σ→Nat→σ} {R:(Nat→Prop)→σ→World→Prop} {w W W':World} {st:σ}
structure StW (R:(Nat→Prop)→σ→World→Prop) (w:World) (X0:Nat→Prop) (st:σ) (X:Nat→Prop) (W:World):Prop where
 r:R X st W
 x0:∀ b,X0 b→X b
 lt0:∀ b,X0 b→b<w.heap.size
 k:Kept X0 w W
 res:Blk W w.heap.size 33 zeroC
 xr:X w.heap.size
abbrev newX (X:Nat→Prop) (W W':World):Nat→Prop:=fun b=>X b∨(W.heap.size≤b∧b<W'.heap.size)
theorem StW.start (H:HeldC f cs w.heap.size X0 V E nx R) (h:R X0 st w):StW R w X0 st (newX X0 w (w.alloc (.cells zeroC 33))) (w.alloc (.cells zeroC 33)):=by
 have hk:Kept (fun b=>b<w.heap.size) w (w.alloc (.cells zeroC 33)):=(Kept.refl _ w).alloc (fun b h=>h) _
 exact ⟨H.put X0 _ st w _ h hk (fun b hb hn=>absurd hb hn),fun b hb=>.inl hb,H.lt _ _ _ h,hk.mono (H.lt _ _ _ h),Blk.new w _ _,.inr ⟨nR _,by simp⟩⟩
theorem StW.mem (H:HeldC f cs w.heap.size X0 V E nx R) (h:StW R w X0 st X W) (hb:Below W.heap.size W W'):StW R w X0 st (newX X W W') W':=by
 have hk:Kept (fun b=>b<W.heap.size) W W':=Kept.of_below hb (fun b h=>h)
 exact ⟨H.put X _ st W _ h.r hk (fun b hb hn=>absurd hb hn),fun b hb=>.inl (h.x0 b hb),h.lt0,h.k.trans hk (fun b hb=>nL (h.lt0 b hb) h.k.size),h.res.below hb h.res.lt,.inl h.xr⟩
theorem StW.held (h:StW R w X0 st X W) {st':σ} (hr:R X st' W') (hk:Kept X W W'):StW R w X0 st' X W' :=
 ⟨hr,h.x0,h.lt0,h.k.trans hk h.x0,h.res.kept hk h.xr,h.xr⟩
theorem StW.grown (H:HeldC f cs w.heap.size X0 V E nx R) (h:StW R w X0 st X W) {row:Option Nat} (hg:W.grownBy W' row) (hr:∀ g,row=some g→X g∧w.heap.size<g):StW R w X0 st (newX X W W') W':=by
 have hk:Kept (fun b=>b<W.heap.size∧row≠some b) W W':=⟨hg.os,hg.tape,hg.output,hg.size,fun k hk=>hg.block k hk.1 (fun e=>hk.2 e.symm)⟩
 refine ⟨H.put X _ st W _ h.r hk (fun b hb hn=>?_),fun b hb=>.inl (h.x0 b hb),h.lt0,h.k.trans hk (fun b hb=>⟨nL (h.lt0 b hb) h.k.size,fun e=>?_⟩),h.res.kept hk ⟨h.res.lt,fun e=>?_⟩,.inl h.xr⟩
 ·by_cases e:row=some b
  ·exact ⟨(hr b e).1,Nat.le_of_lt (hr b e).2⟩
  ·exact absurd ⟨hb,e⟩ hn
 ·have h1:=(hr b e).2; have h2:=h.lt0 b hb; omega
 ·have h1:=(hr _ e).2; omega
theorem StW.finZ (H:HeldC f cs w.heap.size X0 V E nx R) (h:StW R w X0 st X W) (c6:Array Value):∃ Z:Nat→Prop,(∀ b,X b→Z b)∧(∀ b,X0 b→Z b)∧R Z st (W.setRow w.heap.size c6):=by
 have hk:Kept (fun b=>b≠w.heap.size) W (W.setRow w.heap.size c6):=(Kept.refl _ W).setRow (g:=w.heap.size) (fun h=>h rfl) c6
 refine ⟨_,fun b hb=>.inl hb,fun b hb=>.inl (h.x0 b hb),H.put X _ st W _ h.r hk (fun b hb hn=>?_)⟩
 have e:b=w.heap.size:=by by_cases e:b=w.heap.size; exact e; exact absurd e hn
 subst e
 exact ⟨h.xr,nR _⟩
theorem StW.fin (H:HeldC f cs w.heap.size X0 V E nx R) (h:StW R w X0 st X W) (c6:Array Value):R X0 st (W.setRow w.heap.size c6)∧Kept X0 w (W.setRow w.heap.size c6)∧Blk (W.setRow w.heap.size c6) w.heap.size 33 c6∧Kept (fun b=>b≠w.heap.size) W (W.setRow w.heap.size c6):=by
 have hk:Kept (fun b=>b≠w.heap.size) W (W.setRow w.heap.size c6):=(Kept.refl _ W).setRow (g:=w.heap.size) (fun h=>h rfl) c6
 refine ⟨H.back _ _ _ (H.put X _ st W _ h.r hk (fun b hb hn=>?_)) (fun b hb=>.inl (h.x0 b hb)),h.k.trans hk (fun b hb=>Nat.ne_of_lt (h.lt0 b hb)),setRow_heap _ _ _ c6 _ _ h.res,hk⟩
 have e:b=w.heap.size:=by by_cases e:b=w.heap.size; exact e; exact absurd e hn
 subst e
 exact ⟨h.xr,nR _⟩
theorem own_at9 {base size n:Nat} {e:TypeId} {v:Value} {xs:List Value} (ho:W.ownsRow base e size v n xs) (hk:Kept X W W') (hX:∀ g,v.ownBlock=some g→X g):W'.ownsRow base e size v n xs:=by
 rcases ho.2 with h0 | ⟨g',cap,cur,rfl,hbs,hh,rest⟩
 ·exact ⟨ho.1,.inl h0⟩
 ·exact ⟨ho.1,.inr ⟨g',cap,cur,rfl,hbs,(hk.block g' (hX g' (by simp[Value.ownBlock]))).trans hh,rest⟩⟩
end
theorem own_one9 (w:World) (base:Nat) {ys:List Int} (hl:ys.length=64) (hb:base≤w.heap.size):(w.alloc (.cells (cells8 ys) 186)).ownsRow base 186 64 (.slice (some ⟨w.heap.size,0,none⟩) 1 1) 1 (ys.map (Value.int .u8)) :=
 ⟨by simp[hl],.inr ⟨w.heap.size,1,_,rfl,hb,heap_alloc_last w _,nR _,by decide,by simp[cells8_size,hl],by rw[List.take_of_length_le (by simp[cells8_size,hl])]; rfl⟩⟩
def lenV9:Value→Nat
 | .slice _ n _=>n
 | _=>0
theorem own_len9 {w:World} {base size n:Nat} {e:TypeId} {v:Value} {xs:List Value} (ho:w.ownsRow base e size v n xs):lenV9 v=n:=by
 rcases ho.2 with ⟨rfl,rfl⟩ | ⟨g',cap,cur,rfl,_⟩ <;> rfl
theorem meantOf_bytes9 {ys:List Int} (hb:Bytes ys):Bytes (meantOf ys):=by
 unfold meantOf
 split
 ·exact bytes_part hb 16 _
 ·exact fun j=>by simp
theorem meants_bytes:∀ {xss:List (List Int)},(∀ i,Bytes (xss.getD i []))→Bytes (meants xss)
 | [],_=>fun j=>by simp[meants]
 | xs::xss,h=>by
  have h1:=meantOf_bytes9 (h 0)
  have h2:=meants_bytes (xss:=xss) fun i=>h (i+1)
  have e:meants (xs::xss)=meantOf xs++meants xss:=by simp[meants]
  rw[e]
  exact bytes_append h1 h2
theorem meants_le:∀ (xss:List (List Int)),(meants xss).length≤48*xss.length
 | []=>by simp[meants]
 | xs::xss=>by
  have h1:=meant_le xs
  have h2:=meants_le xss
  have e:meants (xs::xss)=meantOf xs++meants xss:=by simp[meants]
  rw[e,List.length_append,List.length_cons]
  omega
abbrev recT9 (xs:List Int) (b1 b2:Nat):Array Value:=#[.int .i64 (kindOf xs),.int .u32 (flagsOf xs),.int .u32 (expOf xs),.int .u64 (seqOf xs),.slice (some ⟨b1,0,none⟩) (klenOf xs) (klenOf xs),.slice (some ⟨b2,0,none⟩) (vlenOf xs) (vlenOf xs)]
theorem zero_told9 {V:Nat→List Int} {E:Nat→Int} {gen:Int} {at_:Nat} {e:Int} {p:Prop} (h:standE V E gen at_=e) (hne:e≠0) :
 (standE V E gen at_=0→p):=fun h0=>absurd (h.symm.trans h0) hne
theorem standing_stored {σ:Type} {X0:Nat→Prop} {V:Nat→List Int} {E:Nat→Int} {nx:σ→Nat→σ} {R:(Nat→Prop)→σ→World→Prop} {w:World} {st:σ} (c0 c1:Value) (H:HeldC 122 [c0,c1] w.heap.size X0 V E nx R) (h:R X0 st w) (gen:Int) (at_:Nat) (hat:at_≤90000) :
 Calls Tryz.prog 55 #[.func (.func 122) #[] #[c0,c1],.int .u64 gen,.int .i64 at_] w (StandT R nx X0 st V E gen at_ w):=by
 have HLEN:=hI H.len
 have HBYT:=hI H.byt
 have HS:=hI (StW.start H h)
 have H:=hI H
 have hc:=H.out.call _ _ _ at_ HS.out.r (by omega)
 have HC1:=hI hc
 clear h hc
 obtain ⟨w1,hw1⟩:∃ w1,w1=w.alloc (.cells zeroC 33):=⟨_,rfl⟩
 rw[← hw1] at HS HC1
 obtain ⟨X1,hX1⟩:∃ X1,newX X0 w w1=X1:=⟨_,rfl⟩
 rw[hX1] at HS HC1
 have hsz1:w.heap.size<w1.heap.size:=HS.out.res.lt
 go_enter Tryz.func55,Tryz.ntmps55
 go_upto_region 1 with fail
 rw[← hw1]
 clear hw1 hX1
 go_wp2_with fail
 refine HC1.out.mono ?_
 rintro e v1 ⟨rfl,hr1,hk1⟩
 have HS:=hI (HS.out.held hr1 hk1)
 have hsv:w1.heap.size≤v1.heap.size:=hk1.size
 obtain ⟨w2,hw2⟩:∃ w2,w2=v1.alloc (.cells (cells8 (V at_)) 186):=⟨_,rfl⟩
 have hb2:Below v1.heap.size v1 w2:=by rw[hw2]; exact (Below.refl _ v1).alloc (nR _) _
 have HA2:=hI (show ArrB w2 v1.heap.size (V at_) by rw[hw2]; exact Blk.new v1 _ _)
 have HS:=hI (HS.out.mem H.out hb2)
 have hsz2:=hb2.size
 have HW2:=hI hw2
 have hlen0:=HLEN.out at_
 clear hr1 hk1 hb2 hw2 HC1
 obtain ⟨ys,hys⟩:∃ ys,V at_=ys:=⟨_,rfl⟩
 rw[hys] at hlen0 HA2 HW2 ⊢
 by_cases he:E at_=0
 case neg =>
  have hne:(E at_ != 0)=true:=by simp[he]
  obtain ⟨se,sr⟩:=stand_err (V:=V) (gen:=gen) he
  have HE:=hI he
  have HF:=hI (HS.out.fin H.out zeroC)
  have HRES:=hI HS.out.res
  have HSE:=hI se
  have HSR:=hI sr
  obtain ⟨e0,he0⟩:∃ e0,E at_=e0:=⟨_,rfl⟩
  rw[he0] at hne HSE HE ⊢
  clear se sr he he0
  go_wp2_with (first | (with_reducible refine halt_end ?_) | (refine wpList_alloc_blk rfl rfl ?_) | (refine wpList_store_new (.tmp 9) (.tmp 22) rfl rfl v1 ys rfl rfl (noughts 64) rfl (noughts_length 64) hlen0 ?_; rw[← HW2.out]) | (refine wpList_store_rowB (.tmp 6) (.tmp 26) 33 rfl rfl w.heap.size zeroC rfl rfl 33 _ HRES.out size_rec rfl one_zero ?_))
  refine Halt.ret (results_row3 (p:=6) (u:=7) (v:=8) rfl _ _ w.heap.size 33 zeroC _ rfl HF.out.2.2.1 Tryz.underlying33 rfl size_rec) rfl ⟨?_,HF.out.2.1,fun _=>by rw[HSE.out]; rfl,zero_told9 HSE.out HE.out⟩
  rw[HSR.out]
  exact HF.out.1
 have hne:(E at_ != 0)=false:=by simp[he]
 have hby0:=HBYT.out at_
 rw[hys] at hby0
 have HBG:=hI (fun (U:World)=>begins_any ys gen at_ U hlen0 hby0 (by omega))
 obtain ⟨cnt,hcnt⟩:∃ cnt,beginsN ys gen at_=cnt:=⟨_,rfl⟩
 rw[hcnt] at HBG
 have hcle:cnt≤17:=by rw[← hcnt]; exact begins_le _ _ _
 have HCNT:=hI (show beginsN (V at_) gen at_=cnt by rw[hys]; exact hcnt)
 have HE0:=hI he
 rw[he] at hne ⊢
 clear he hcnt hby0
 go_upto_region 5 with (first | (refine wpList_alloc_blk rfl rfl ?_) | (refine wpList_store_new (.tmp 9) (.tmp 22) rfl rfl v1 ys rfl rfl (noughts 64) rfl (noughts_length 64) hlen0 ?_; rw[← HW2.out]) | (refine wpList_load_blk (.tmp 9) rfl rfl v1.heap.size 0 rfl ys hlen0 HA2.out.range ?_) | (go_at_call 127; refine (HBG.out _).mono ?_; rintro e w3 ⟨rfl,hb3⟩))
 have HS:=hI (HS.out.mem H.out hb3)
 have HA3:=hI (HA2.out.below hb3 HA2.out.lt)
 have hsz3:=hb3.size
 clear hb3
 generalize newX (newX X1 v1 w2) w2 w3=X3 at *
 by_cases hc0:cnt=0
 ·subst hc0
  obtain ⟨se,sr⟩:=stand_none (V:=V) (gen:=gen) HE0.out HCNT.out
  have HF:=hI (HS.out.fin H.out zeroC)
  have HRES:=hI HS.out.res
  have HSE:=hI se
  have HSR:=hI sr
  clear se sr
  go_wp2_with (first | (with_reducible refine halt_end ?_) | (refine wpList_store_rowB (.tmp 6) (.tmp 34) 33 rfl rfl w.heap.size zeroC rfl rfl 33 _ HRES.out size_rec rfl one_zero ?_))
  refine Halt.ret (results_row3 (p:=6) (u:=7) (v:=8) rfl _ _ w.heap.size 33 zeroC _ rfl HF.out.2.2.1 Tryz.underlying33 rfl size_rec) rfl ⟨?_,HF.out.2.1,fun _=>by rw[HSE.out]; rfl,zero_told9 HSE.out (by decide)⟩
  rw[HSR.out]
  exact HF.out.1
 have hcq:((cnt:Int)==0)=false:=by simp; omega
 obtain ⟨w4,hw4⟩:∃ w4,w4=w3.alloc (.cells (cells8 ys) 186):=⟨_,rfl⟩
 have hb4:Below w3.heap.size w3 w4:=by rw[hw4]; exact (Below.refl _ w3).alloc (nR _) _
 have HO4:=hI (show w4.ownsRow (w.heap.size+1) 186 64 (.slice (some ⟨w3.heap.size,0,none⟩) 1 1) 1 ((flat (secsAt V at_ 1)).map (Value.int .u8)) by rw[hw4,secsAt_one,flat_one,hys]; exact own_one9 _ _ hlen0 (by omega))
 have HS4:=hI (HS.out.mem H.out hb4)
 have hlt4:w3.heap.size<w4.heap.size:=by rw[hw4]; simp
 have HX4:=hI (show ∀ g,(Value.slice (some ⟨w3.heap.size,0,none⟩) 1 1).ownBlock=some g→newX X3 w3 w4 g from fun g hg=>by injection hg with hg; subst hg; exact .inr ⟨nR _,hlt4⟩)
 have HW4:=hI hw4
 clear hb4 hw4 hlt4
 go_upto_region 8 with (first | (refine wpList_load_blk (.tmp 9) rfl rfl v1.heap.size 0 rfl ys hlen0 HA3.out.range ?_) | (refine wpList_lit_sec (.tmp 35) rfl rfl ys rfl hlen0 ?_; rw[← HW4.out]))
 clear HA3 HA2 HW2 HW4 hlen0 hys HS
 go_loopw [12] (fun v wr=>∃ (j:Nat) (X:Nat→Prop),1≤j∧j≤cnt∧StW R w X0 (stR nx st at_ j) X wr∧wr.ownsRow (w.heap.size+1) 186 64 v j ((flat (secsAt V at_ j)).map (Value.int .u8))∧(∀ g,v.ownBlock=some g→X g)∧(∀ q,1≤q→q<j→E (at_+q)=0)) (fun v _=>cnt-lenV9 v)
 case atStart=>exact ⟨1,_,nR _,by omega,HS4.out,HO4.out,HX4.out,fun q h1 h2=>by omega⟩
 case round =>
  obtain ⟨j,X,hj1,hj,hS,hown,hX,hgood⟩:=hrel
  have HSEC:=hI (secsAt_secs HLEN.out at_ j)
  obtain ⟨A,cap,rfl,hnc,hn0,hrow⟩:=rowK_own hown HSEC.out
  have HS:=hI hS
  have HOWN:=hI hown
  have HX:=hI hX
  have HGOOD:=hI hgood
  have HROW:=hI hrow
  have HCAP:=hI hnc
  have HNIL:=hI hn0
  have hlw:w.heap.size<wr.heap.size:=hS.res.lt
  clear hS hown hX hgood hrow hnc hn0 HS4 HO4 HX4
  by_cases hjc:j<cnt
  ·have hc:=H.out.call _ _ _ (at_+j) HS.out.r (by omega)
   rw[show ((at_+j:Nat):Int)=(at_:Int)+(j:Int) from by omega] at hc
   have HC:=hI hc
   clear hc
   go_wp2_with fail
   refine HC.out.mono ?_
   rintro e v2 ⟨rfl,hr2,hk2⟩
   have HS:=hI (HS.out.held hr2 hk2)
   have HOWN:=hI (own_at9 HOWN.out hk2 HX.out)
   have hsv2:=hk2.size
   obtain ⟨zs,hzs⟩:∃ zs,V (at_+j)=zs:=⟨_,rfl⟩
   have hlenz:zs.length=64:=by rw[← hzs]; exact HLEN.out _
   obtain ⟨w5,hw5⟩:∃ w5,w5=v2.alloc (.cells (cells8 zs) 186):=⟨_,rfl⟩
   have hb5:Below v2.heap.size v2 w5:=by rw[hw5]; exact (Below.refl _ v2).alloc (nR _) _
   have HA5:=hI (show ArrB w5 v2.heap.size zs by rw[hw5]; exact Blk.new v2 _ _)
   have HW5:=hI hw5
   have HZS:=hI hzs
   have HS:=hI (HS.out.mem H.out hb5)
   have HOWN:=hI (own_below HOWN.out hb5)
   have hsz5:=hb5.size
   rw[hzs]
   have HX5:=hI (show ∀ g,(Value.slice A j cap).ownBlock=some g→newX X v2 w5 g from fun g hg=>Or.inl (HX.out g hg))
   clear hr2 hk2 hw5 hzs hb5 HC
   generalize newX X v2 w5=X5 at *
   by_cases he:E (at_+j)=0
   ·have hne2:(E (at_+j) != 0)=false:=by simp[he]
    have HEJ:=hI he
    rw[he] at hne2 ⊢
    obtain ⟨w6,hw6⟩:∃ w6,w6=w5.alloc (.cells (cells8 zs) 186):=⟨_,rfl⟩
    have hb6:Below w5.heap.size w5 w6:=by rw[hw6]; exact (Below.refl _ w5).alloc (nR _) _
    have hy6:ArrB w6 w5.heap.size (flat [zs]):=by rw[hw6,flat_one]; exact Blk.new w5 _ _
    have hsec1:Secs [zs]:=fun x hx=>by simp at hx; subst hx; exact hlenz
    have HY6:=hI (hy6.rowK hsec1 (n:=1) rfl (S:=fun _=>True) trivial)
    have HSEC1:=hI hsec1
    have HW6:=hI hw6
    have HS6:=hI (HS.out.mem H.out hb6)
    have HO6:=hI (own_below HOWN.out hb6)
    have hsz6:=hb6.size
    clear he hb6 hy6 hsec1 hw6
    go_wp2_with (first
     | (refine wpList_alloc_blk rfl rfl ?_)
     | (refine wpList_store_new (.tmp 13) (.tmp 48) rfl rfl v2 zs rfl rfl (noughts 64) rfl (noughts_length 64) hlenz ?_; rw[← HW5.out])
     | (refine wpList_load_blk (.tmp 13) rfl rfl v2.heap.size 0 rfl zs hlenz HA5.out.range ?_)
     | (refine wpList_lit_sec (.tmp 55) rfl rfl zs rfl hlenz ?_; rw[← HW6.out])
     | (refine wpList_append_rowK (.tmp 54) (.tmp 56) rfl rfl (w.heap.size+1) (.slice A j cap) j _ rfl HO6.out (fun _=>True) (some ⟨w5.heap.size,0,none⟩) 1 1 [zs] rfl HY6.out HSEC1.out (fun h=>by cases h) (by unfold maxLen; omega) (by omega) (by omega) ?_; intro v' w7 hown' hgrow' hblk'; rw[flat_one] at hown'; have HO7:=hI hown'; have HG7:=hI hgrow'; have HB7:=hI hblk'; clear hown' hgrow' hblk'))
    go_roundw
    case rel =>
     have HS7:=hI (HS6.out.grown H.out HG7.out (fun g hg=>⟨Or.inl (HX5.out g hg),(HO6.out.lt g hg).1⟩))
     have hlw7:∀ g,v'.ownBlock=some g→newX (newX X5 w5 w6) w6 w7 g:=fun g hg=>by
      rcases HB7.out with h1 | h1
      ·rw[h1] at hg
       exact Or.inl (Or.inl (HX5.out g hg))
      ·have h2:=(HO7.out.lt _ h1).2
       rw[h1] at hg
       injection hg with hg
       subst hg
       exact Or.inr ⟨nR _,h2⟩
     have hown7:w7.ownsRow (w.heap.size+1) 186 64 v' (j+1) ((flat (secsAt V at_ (j+1))).map (Value.int .u8)):=by
      rw[secsAt_succ,flat_append,List.map_append,HZS.out,flat_one]
      exact HO7.out
     have hg7:∀ q,1≤q→q<j+1→E (at_+q)=0:=fun q h1 h2=>by
      by_cases e:q=j
      ·subst e; exact HEJ.out
      ·exact HGOOD.out q h1 (by omega)
     exact ⟨j+1,_,by omega,by omega,HS7.out,hown7,hlw7,hg7⟩
    case measure=>have hlv:=own_len9 HO7.out; show cnt-lenV9 v'<cnt-j; omega
   ·have hne2:(E (at_+j) != 0)=true:=by simp[he]
    obtain ⟨se,sr⟩:=stand_bad (V:=V) (gen:=gen) HE0.out hj1 (by rw[HCNT.out]; exact hjc) HGOOD.out he
    have HF:=hI (HS.out.fin H.out zeroC)
    have HRES:=hI HS.out.res
    have HE:=hI he
    obtain ⟨e0,he0⟩:∃ e0,E (at_+j)=e0:=⟨_,rfl⟩
    rw[he0] at hne2 HE se ⊢
    have HSE:=hI se
    have HSR:=hI sr
    clear se sr he he0
    go_wp2_with (first
     | (with_reducible refine halt_end ?_)
     | (refine wpList_alloc_blk rfl rfl ?_)
     | (refine wpList_store_new (.tmp 13) (.tmp 48) rfl rfl v2 zs rfl rfl (noughts 64) rfl (noughts_length 64) hlenz ?_; rw[← HW5.out])
     | (refine wpList_store_rowB (.tmp 6) (.tmp 52) 33 rfl rfl w.heap.size zeroC rfl rfl 33 _ HRES.out size_rec rfl one_zero ?_))
    refine Halt.ret (results_row3 (p:=6) (u:=7) (v:=8) rfl _ _ w.heap.size 33 zeroC _ rfl HF.out.2.2.1 Tryz.underlying33 rfl size_rec) rfl ⟨?_,HF.out.2.1,fun _=>by rw[HSE.out]; rfl,zero_told9 HSE.out HE.out⟩
    rw[HSR.out]
    exact HF.out.1
  ·obtain rfl:cnt=j:=by omega
   have hall:=stand_all (V:=V) (gen:=gen) (E:=E) (at_:=at_) HE0.out (by rw[HCNT.out]; omega) (by rw[HCNT.out]; exact HGOOD.out)
   rw[HCNT.out] at hall
   have HALL:=hI hall
   have HBM:=hI (meants_bytes (secsAt_bytes HBYT.out at_ cnt))
   have hlxs:=secsAt_length V at_ cnt
   have HJN:=hI (join_any9 A cnt cap (secsAt V at_ cnt) _ wr HROW.out (fun b h=>h.2.1) HSEC.out (secsAt_bytes HBYT.out at_ cnt) (by omega))
   obtain ⟨xss,hxss⟩:∃ xss,secsAt V at_ cnt=xss:=⟨_,rfl⟩
   rw[hxss] at HALL HBM hlxs HJN
   have HXS:=hI hxss
   clear hall hxss HOWN HROW HSEC HGOOD HX
   go_wp2_with fail
   refine HJN.out.mono ?_
   rintro e w8 hjn
   by_cases hch:Chain xss
   case neg =>
    obtain ⟨rfl,hb8⟩:=hjn.2 (fun h=>hch h.2)
    have HSE:=hI (HALL.out.2.1 (fun h=>hch h.1))
    have HS:=hI (HS.out.mem H.out hb8)
    have HF:=hI (HS.out.fin H.out zeroC)
    have HRES:=hI HS.out.res
    clear hjn hch hb8
    go_wp2_with (first | (with_reducible refine halt_end ?_) | (refine wpList_store_rowB (.tmp 6) (.tmp 65) 33 rfl rfl w.heap.size zeroC rfl rfl 33 _ HRES.out size_rec rfl one_zero ?_))
    refine Halt.ret (results_row3 (p:=6) (u:=7) (v:=8) rfl _ _ w.heap.size 33 zeroC _ rfl HF.out.2.2.1 Tryz.underlying33 rfl size_rec) rfl ⟨?_,HF.out.2.1,fun _=>by rw[HSE.out]; rfl,zero_told9 HSE.out (by decide)⟩
    rw[HALL.out.2.2]
    exact HF.out.1
   obtain ⟨A8,c8,rfl,hr8,hb8,hc8⟩:=hjn.1 ⟨by omega,hch⟩
   have HS:=hI (HS.out.mem H.out hb8)
   obtain ⟨ms,hms⟩:∃ ms,meants xss=ms:=⟨_,rfl⟩
   rw[hms] at hr8 hc8 HBM ⊢
   have HMS:=hI hms
   have HCH:=hI hch
   have HR8:=hI hr8
   have HC8:=hI hc8
   have hs8:=hb8.size
   have hml:ms.length≤100000:=by rw[← hms]; have:=meants_le xss; omega
   clear hms hch hr8 hb8 hjn hc8
   by_cases hdk:DecOk ms ms.length
   case neg =>
    have HDN:=hI (dec_no A8 ms.length c8 ms _ w8 HR8.out (fun b h=>h.2) HBM.out HC8.out hdk)
    have HSE:=hI (HALL.out.2.1 (fun h=>hdk (by have:=h.2.1; rw[HMS.out] at this; exact this)))
    obtain ⟨eo,heo⟩:∃ eo,errOf ms ms.length=eo:=⟨_,rfl⟩
    have heo2:(eo != 0)=true:=by rcases errOf_cases ms ms.length with h | h <;> (rw[← heo,h]; rfl)
    rw[heo] at HDN
    clear heo hdk
    go_wp2_with fail
    refine HDN.out.mono ?_
    rintro e w9 ⟨rfl,hb9⟩
    obtain ⟨w10,hw10⟩:∃ w10,w10=w9.alloc (.cells zeroC 33):=⟨_,rfl⟩
    have hb10:Below w9.heap.size w9 w10:=by rw[hw10]; exact (Below.refl _ w9).alloc (nR _) _
    have HW10:=hI hw10
    have HS:=hI ((HS.out.mem H.out hb9).mem H.out hb10)
    have HF:=hI (HS.out.fin H.out zeroC)
    have HRES:=hI HS.out.res
    clear hb9 hw10 hb10
    go_upto_region 17 with fail
    rw[← HW10.out]
    go_wp2_with (first | (with_reducible refine halt_end ?_) | (refine wpList_store_rowB (.tmp 6) (.tmp 80) 33 rfl rfl w.heap.size zeroC rfl rfl 33 _ HRES.out size_rec rfl one_zero ?_))
    refine Halt.ret (results_row3 (p:=6) (u:=7) (v:=8) rfl _ _ w.heap.size 33 zeroC _ rfl HF.out.2.2.1 Tryz.underlying33 rfl size_rec) rfl ⟨?_,HF.out.2.1,fun _=>by rw[HSE.out]; rfl,zero_told9 HSE.out (by decide)⟩
    rw[HALL.out.2.2]
    exact HF.out.1
   have HDO:=hI (dec_ok A8 ms.length c8 ms _ w8 HR8.out (fun b h=>h.2) HBM.out hdk.1 HC8.out hdk.2.1 hdk.2.2)
   have HDK:=hI hdk
   clear hdk
   go_wp2_with fail
   refine HDO.out.mono ?_
   rintro e w9 ⟨b1,b2,rfl,hn1,hn2,hnb,ha1,ha2,hb9⟩
   obtain ⟨nd,hnd⟩:∃ nd,needOf ms=nd:=⟨_,rfl⟩
   rw[hnd]
   obtain ⟨w10,hw10⟩:∃ w10,w10=w9.alloc (.cells (recT9 ms b1 b2) 33):=⟨_,rfl⟩
   have hb10:Below w9.heap.size w9 w10:=by rw[hw10]; exact (Below.refl _ w9).alloc (nR _) _
   have HW10:=hI hw10
   have HRT:=hI (show Blk w10 w9.heap.size 33 (recT9 ms b1 b2) by rw[hw10]; exact Blk.new w9 _ _)
   have HS:=hI ((HS.out.mem H.out hb9).mem H.out hb10)
   have HA1:=hI (Blk.below ha1 hb10 (Blk.lt ha1))
   have HA2:=hI (Blk.below ha2 hb10 (Blk.lt ha2))
   have HRES:=hI HS.out.res
   have HNB:=hI hnb
   have HIN:=hI (And.intro (And.intro hn1 (Blk.lt ha1)) (And.intro hn2 (Blk.lt ha2)))
   have hnd50:nd≤100000:=by rw[← hnd]; have:=HDK.out.2.2; omega
   clear hb9 hw10 hb10 ha1 ha2 hnb
   go_upto_region 17 with fail
   rw[← HW10.out]
   by_cases hsame:nd=ms.length
   ·have hq9:((nd:Int) != (ms.length:Nat))=false:=by simp[hsame]
    have HSE:=hI (HALL.out.1 ⟨HCH.out,by rw[HMS.out]; exact HDK.out,by rw[HMS.out,hnd]; exact hsame⟩)
    have HF:=hI (HS.out.fin H.out (recT9 ms b1 b2))
    have HFZ:=hI (HS.out.finZ H.out (recT9 ms b1 b2))
    clear hnd hsame
    go_wp2_with (first
     | (with_reducible refine halt_end ?_)
     | (refine wpList_load_rowB (.tmp 16) 33 rfl rfl w9.heap.size rfl 33 (recT9 ms b1 b2).toList _ Tryz.underlying33 rfl size_rec HRT.out ?_)
     | (refine wpList_store_rowB (.tmp 6) (.tmp 81) 33 rfl rfl w.heap.size (recT9 ms b1 b2) rfl rfl 33 _ HRES.out size_rec rfl (one_rec _ _ _ _ _ _ _ _ _ _) ?_))
    refine Halt.ret (results_row3 (p:=6) (u:=7) (v:=8) rfl _ _ w.heap.size 33 (recT9 ms b1 b2) _ rfl HF.out.2.2.1 Tryz.underlying33 rfl size_rec) rfl ⟨?_,HF.out.2.1,fun h=>absurd HSE.out h,fun _=>⟨ms,?_,b1,b2,?_,by omega,by omega,HNB.out,Blk.kept HA1.out HF.out.2.2.2 (show b1≠w.heap.size by omega),Blk.kept HA2.out HF.out.2.2.2 (show b2≠w.heap.size by omega),?_⟩⟩
    ·rw[HALL.out.2.2]
     exact HF.out.1
    ·rw[HCNT.out,HXS.out,HMS.out]
    ·rw[HCNT.out]; rfl
    ·obtain ⟨Z,z1,z2,z3⟩:=HFZ.out
     refine ⟨Z,z2,z1 _ (.inl (.inr HIN.out.1)),z1 _ (.inl (.inr HIN.out.2)),?_⟩
     rw[HALL.out.2.2]
     exact z3
   ·have hq9:((nd:Int) != (ms.length:Nat))=true:=by simp; omega
    have HSE:=hI (HALL.out.2.1 (fun h=>hsame (by have:=h.2.2; rw[HMS.out,hnd] at this; exact this)))
    have HF:=hI (HS.out.fin H.out zeroC)
    clear hnd hsame
    go_wp2_with (first | (with_reducible refine halt_end ?_) | (refine wpList_store_rowB (.tmp 6) (.tmp 80) 33 rfl rfl w.heap.size zeroC rfl rfl 33 _ HRES.out size_rec rfl one_zero ?_))
    refine Halt.ret (results_row3 (p:=6) (u:=7) (v:=8) rfl _ _ w.heap.size 33 zeroC _ rfl HF.out.2.2.1 Tryz.underlying33 rfl size_rec) rfl ⟨?_,HF.out.2.1,fun _=>by rw[HSE.out]; rfl,zero_told9 HSE.out (by decide)⟩
    rw[HALL.out.2.2]
    exact HF.out.1
theorem standing_loaded {σ:Type} {X0:Nat→Prop} {V:Nat→List Int} {E:Nat→Int} {nx:σ→Nat→σ} {R:(Nat→Prop)→σ→World→Prop} {w:World} {st:σ} (c0:Value) (H:HeldC 121 [c0] w.heap.size X0 V E nx R) (h:R X0 st w) (gen:Int) (at_:Nat) (hat:at_≤90000) :
 Calls Tryz.prog 55 #[.func (.func 121) #[] #[c0],.int .u64 gen,.int .i64 at_] w (StandT R nx X0 st V E gen at_ w):=by
 have HLEN:=hI H.len
 have HBYT:=hI H.byt
 have HS:=hI (StW.start H h)
 have H:=hI H
 have hc:=H.out.call _ _ _ at_ HS.out.r (by omega)
 have HC1:=hI hc
 clear h hc
 obtain ⟨w1,hw1⟩:∃ w1,w1=w.alloc (.cells zeroC 33):=⟨_,rfl⟩
 rw[← hw1] at HS HC1
 obtain ⟨X1,hX1⟩:∃ X1,newX X0 w w1=X1:=⟨_,rfl⟩
 rw[hX1] at HS HC1
 have hsz1:w.heap.size<w1.heap.size:=HS.out.res.lt
 go_enter Tryz.func55,Tryz.ntmps55
 go_upto_region 1 with fail
 rw[← hw1]
 clear hw1 hX1
 go_wp2_with fail
 refine HC1.out.mono ?_
 rintro e v1 ⟨rfl,hr1,hk1⟩
 have HS:=hI (HS.out.held hr1 hk1)
 have hsv:w1.heap.size≤v1.heap.size:=hk1.size
 obtain ⟨w2,hw2⟩:∃ w2,w2=v1.alloc (.cells (cells8 (V at_)) 186):=⟨_,rfl⟩
 have hb2:Below v1.heap.size v1 w2:=by rw[hw2]; exact (Below.refl _ v1).alloc (nR _) _
 have HA2:=hI (show ArrB w2 v1.heap.size (V at_) by rw[hw2]; exact Blk.new v1 _ _)
 have HS:=hI (HS.out.mem H.out hb2)
 have hsz2:=hb2.size
 have HW2:=hI hw2
 have hlen0:=HLEN.out at_
 clear hr1 hk1 hb2 hw2 HC1
 obtain ⟨ys,hys⟩:∃ ys,V at_=ys:=⟨_,rfl⟩
 rw[hys] at hlen0 HA2 HW2 ⊢
 by_cases he:E at_=0
 case neg =>
  have hne:(E at_ != 0)=true:=by simp[he]
  obtain ⟨se,sr⟩:=stand_err (V:=V) (gen:=gen) he
  have HE:=hI he
  have HF:=hI (HS.out.fin H.out zeroC)
  have HRES:=hI HS.out.res
  have HSE:=hI se
  have HSR:=hI sr
  obtain ⟨e0,he0⟩:∃ e0,E at_=e0:=⟨_,rfl⟩
  rw[he0] at hne HSE HE ⊢
  clear se sr he he0
  go_wp2_with (first | (with_reducible refine halt_end ?_) | (refine wpList_alloc_blk rfl rfl ?_) | (refine wpList_store_new (.tmp 9) (.tmp 22) rfl rfl v1 ys rfl rfl (noughts 64) rfl (noughts_length 64) hlen0 ?_; rw[← HW2.out]) | (refine wpList_store_rowB (.tmp 6) (.tmp 26) 33 rfl rfl w.heap.size zeroC rfl rfl 33 _ HRES.out size_rec rfl one_zero ?_))
  refine Halt.ret (results_row3 (p:=6) (u:=7) (v:=8) rfl _ _ w.heap.size 33 zeroC _ rfl HF.out.2.2.1 Tryz.underlying33 rfl size_rec) rfl ⟨?_,HF.out.2.1,fun _=>by rw[HSE.out]; rfl,zero_told9 HSE.out HE.out⟩
  rw[HSR.out]
  exact HF.out.1
 have hne:(E at_ != 0)=false:=by simp[he]
 have hby0:=HBYT.out at_
 rw[hys] at hby0
 have HBG:=hI (fun (U:World)=>begins_any ys gen at_ U hlen0 hby0 (by omega))
 obtain ⟨cnt,hcnt⟩:∃ cnt,beginsN ys gen at_=cnt:=⟨_,rfl⟩
 rw[hcnt] at HBG
 have hcle:cnt≤17:=by rw[← hcnt]; exact begins_le _ _ _
 have HCNT:=hI (show beginsN (V at_) gen at_=cnt by rw[hys]; exact hcnt)
 have HE0:=hI he
 rw[he] at hne ⊢
 clear he hcnt hby0
 go_upto_region 5 with (first | (refine wpList_alloc_blk rfl rfl ?_) | (refine wpList_store_new (.tmp 9) (.tmp 22) rfl rfl v1 ys rfl rfl (noughts 64) rfl (noughts_length 64) hlen0 ?_; rw[← HW2.out]) | (refine wpList_load_blk (.tmp 9) rfl rfl v1.heap.size 0 rfl ys hlen0 HA2.out.range ?_) | (go_at_call 127; refine (HBG.out _).mono ?_; rintro e w3 ⟨rfl,hb3⟩))
 have HS:=hI (HS.out.mem H.out hb3)
 have HA3:=hI (HA2.out.below hb3 HA2.out.lt)
 have hsz3:=hb3.size
 clear hb3
 generalize newX (newX X1 v1 w2) w2 w3=X3 at *
 by_cases hc0:cnt=0
 ·subst hc0
  obtain ⟨se,sr⟩:=stand_none (V:=V) (gen:=gen) HE0.out HCNT.out
  have HF:=hI (HS.out.fin H.out zeroC)
  have HRES:=hI HS.out.res
  have HSE:=hI se
  have HSR:=hI sr
  clear se sr
  go_wp2_with (first | (with_reducible refine halt_end ?_) | (refine wpList_store_rowB (.tmp 6) (.tmp 34) 33 rfl rfl w.heap.size zeroC rfl rfl 33 _ HRES.out size_rec rfl one_zero ?_))
  refine Halt.ret (results_row3 (p:=6) (u:=7) (v:=8) rfl _ _ w.heap.size 33 zeroC _ rfl HF.out.2.2.1 Tryz.underlying33 rfl size_rec) rfl ⟨?_,HF.out.2.1,fun _=>by rw[HSE.out]; rfl,zero_told9 HSE.out (by decide)⟩
  rw[HSR.out]
  exact HF.out.1
 have hcq:((cnt:Int)==0)=false:=by simp; omega
 obtain ⟨w4,hw4⟩:∃ w4,w4=w3.alloc (.cells (cells8 ys) 186):=⟨_,rfl⟩
 have hb4:Below w3.heap.size w3 w4:=by rw[hw4]; exact (Below.refl _ w3).alloc (nR _) _
 have HO4:=hI (show w4.ownsRow (w.heap.size+1) 186 64 (.slice (some ⟨w3.heap.size,0,none⟩) 1 1) 1 ((flat (secsAt V at_ 1)).map (Value.int .u8)) by rw[hw4,secsAt_one,flat_one,hys]; exact own_one9 _ _ hlen0 (by omega))
 have HS4:=hI (HS.out.mem H.out hb4)
 have hlt4:w3.heap.size<w4.heap.size:=by rw[hw4]; simp
 have HX4:=hI (show ∀ g,(Value.slice (some ⟨w3.heap.size,0,none⟩) 1 1).ownBlock=some g→newX X3 w3 w4 g from fun g hg=>by injection hg with hg; subst hg; exact .inr ⟨nR _,hlt4⟩)
 have HW4:=hI hw4
 clear hb4 hw4 hlt4
 go_upto_region 8 with (first | (refine wpList_load_blk (.tmp 9) rfl rfl v1.heap.size 0 rfl ys hlen0 HA3.out.range ?_) | (refine wpList_lit_sec (.tmp 35) rfl rfl ys rfl hlen0 ?_; rw[← HW4.out]))
 clear HA3 HA2 HW2 HW4 hlen0 hys HS
 go_loopw [12] (fun v wr=>∃ (j:Nat) (X:Nat→Prop),1≤j∧j≤cnt∧StW R w X0 (stR nx st at_ j) X wr∧wr.ownsRow (w.heap.size+1) 186 64 v j ((flat (secsAt V at_ j)).map (Value.int .u8))∧(∀ g,v.ownBlock=some g→X g)∧(∀ q,1≤q→q<j→E (at_+q)=0)) (fun v _=>cnt-lenV9 v)
 case atStart=>exact ⟨1,_,nR _,by omega,HS4.out,HO4.out,HX4.out,fun q h1 h2=>by omega⟩
 case round =>
  obtain ⟨j,X,hj1,hj,hS,hown,hX,hgood⟩:=hrel
  have HSEC:=hI (secsAt_secs HLEN.out at_ j)
  obtain ⟨A,cap,rfl,hnc,hn0,hrow⟩:=rowK_own hown HSEC.out
  have HS:=hI hS
  have HOWN:=hI hown
  have HX:=hI hX
  have HGOOD:=hI hgood
  have HROW:=hI hrow
  have HCAP:=hI hnc
  have HNIL:=hI hn0
  have hlw:w.heap.size<wr.heap.size:=hS.res.lt
  clear hS hown hX hgood hrow hnc hn0 HS4 HO4 HX4
  by_cases hjc:j<cnt
  ·have hc:=H.out.call _ _ _ (at_+j) HS.out.r (by omega)
   rw[show ((at_+j:Nat):Int)=(at_:Int)+(j:Int) from by omega] at hc
   have HC:=hI hc
   clear hc
   go_wp2_with fail
   refine HC.out.mono ?_
   rintro e v2 ⟨rfl,hr2,hk2⟩
   have HS:=hI (HS.out.held hr2 hk2)
   have HOWN:=hI (own_at9 HOWN.out hk2 HX.out)
   have hsv2:=hk2.size
   obtain ⟨zs,hzs⟩:∃ zs,V (at_+j)=zs:=⟨_,rfl⟩
   have hlenz:zs.length=64:=by rw[← hzs]; exact HLEN.out _
   obtain ⟨w5,hw5⟩:∃ w5,w5=v2.alloc (.cells (cells8 zs) 186):=⟨_,rfl⟩
   have hb5:Below v2.heap.size v2 w5:=by rw[hw5]; exact (Below.refl _ v2).alloc (nR _) _
   have HA5:=hI (show ArrB w5 v2.heap.size zs by rw[hw5]; exact Blk.new v2 _ _)
   have HW5:=hI hw5
   have HZS:=hI hzs
   have HS:=hI (HS.out.mem H.out hb5)
   have HOWN:=hI (own_below HOWN.out hb5)
   have hsz5:=hb5.size
   rw[hzs]
   have HX5:=hI (show ∀ g,(Value.slice A j cap).ownBlock=some g→newX X v2 w5 g from fun g hg=>Or.inl (HX.out g hg))
   clear hr2 hk2 hw5 hzs hb5 HC
   generalize newX X v2 w5=X5 at *
   by_cases he:E (at_+j)=0
   ·have hne2:(E (at_+j) != 0)=false:=by simp[he]
    have HEJ:=hI he
    rw[he] at hne2 ⊢
    obtain ⟨w6,hw6⟩:∃ w6,w6=w5.alloc (.cells (cells8 zs) 186):=⟨_,rfl⟩
    have hb6:Below w5.heap.size w5 w6:=by rw[hw6]; exact (Below.refl _ w5).alloc (nR _) _
    have hy6:ArrB w6 w5.heap.size (flat [zs]):=by rw[hw6,flat_one]; exact Blk.new w5 _ _
    have hsec1:Secs [zs]:=fun x hx=>by simp at hx; subst hx; exact hlenz
    have HY6:=hI (hy6.rowK hsec1 (n:=1) rfl (S:=fun _=>True) trivial)
    have HSEC1:=hI hsec1
    have HW6:=hI hw6
    have HS6:=hI (HS.out.mem H.out hb6)
    have HO6:=hI (own_below HOWN.out hb6)
    have hsz6:=hb6.size
    clear he hb6 hy6 hsec1 hw6
    go_wp2_with (first
     | (refine wpList_alloc_blk rfl rfl ?_)
     | (refine wpList_store_new (.tmp 13) (.tmp 48) rfl rfl v2 zs rfl rfl (noughts 64) rfl (noughts_length 64) hlenz ?_; rw[← HW5.out])
     | (refine wpList_load_blk (.tmp 13) rfl rfl v2.heap.size 0 rfl zs hlenz HA5.out.range ?_)
     | (refine wpList_lit_sec (.tmp 55) rfl rfl zs rfl hlenz ?_; rw[← HW6.out])
     | (refine wpList_append_rowK (.tmp 54) (.tmp 56) rfl rfl (w.heap.size+1) (.slice A j cap) j _ rfl HO6.out (fun _=>True) (some ⟨w5.heap.size,0,none⟩) 1 1 [zs] rfl HY6.out HSEC1.out (fun h=>by cases h) (by unfold maxLen; omega) (by omega) (by omega) ?_; intro v' w7 hown' hgrow' hblk'; rw[flat_one] at hown'; have HO7:=hI hown'; have HG7:=hI hgrow'; have HB7:=hI hblk'; clear hown' hgrow' hblk'))
    go_roundw
    case rel =>
     have HS7:=hI (HS6.out.grown H.out HG7.out (fun g hg=>⟨Or.inl (HX5.out g hg),(HO6.out.lt g hg).1⟩))
     have hlw7:∀ g,v'.ownBlock=some g→newX (newX X5 w5 w6) w6 w7 g:=fun g hg=>by
      rcases HB7.out with h1 | h1
      ·rw[h1] at hg
       exact Or.inl (Or.inl (HX5.out g hg))
      ·have h2:=(HO7.out.lt _ h1).2
       rw[h1] at hg
       injection hg with hg
       subst hg
       exact Or.inr ⟨nR _,h2⟩
     have hown7:w7.ownsRow (w.heap.size+1) 186 64 v' (j+1) ((flat (secsAt V at_ (j+1))).map (Value.int .u8)):=by
      rw[secsAt_succ,flat_append,List.map_append,HZS.out,flat_one]
      exact HO7.out
     have hg7:∀ q,1≤q→q<j+1→E (at_+q)=0:=fun q h1 h2=>by
      by_cases e:q=j
      ·subst e; exact HEJ.out
      ·exact HGOOD.out q h1 (by omega)
     exact ⟨j+1,_,by omega,by omega,HS7.out,hown7,hlw7,hg7⟩
    case measure=>have hlv:=own_len9 HO7.out; show cnt-lenV9 v'<cnt-j; omega
   ·have hne2:(E (at_+j) != 0)=true:=by simp[he]
    obtain ⟨se,sr⟩:=stand_bad (V:=V) (gen:=gen) HE0.out hj1 (by rw[HCNT.out]; exact hjc) HGOOD.out he
    have HF:=hI (HS.out.fin H.out zeroC)
    have HRES:=hI HS.out.res
    have HE:=hI he
    obtain ⟨e0,he0⟩:∃ e0,E (at_+j)=e0:=⟨_,rfl⟩
    rw[he0] at hne2 HE se ⊢
    have HSE:=hI se
    have HSR:=hI sr
    clear se sr he he0
    go_wp2_with (first
     | (with_reducible refine halt_end ?_)
     | (refine wpList_alloc_blk rfl rfl ?_)
     | (refine wpList_store_new (.tmp 13) (.tmp 48) rfl rfl v2 zs rfl rfl (noughts 64) rfl (noughts_length 64) hlenz ?_; rw[← HW5.out])
     | (refine wpList_store_rowB (.tmp 6) (.tmp 52) 33 rfl rfl w.heap.size zeroC rfl rfl 33 _ HRES.out size_rec rfl one_zero ?_))
    refine Halt.ret (results_row3 (p:=6) (u:=7) (v:=8) rfl _ _ w.heap.size 33 zeroC _ rfl HF.out.2.2.1 Tryz.underlying33 rfl size_rec) rfl ⟨?_,HF.out.2.1,fun _=>by rw[HSE.out]; rfl,zero_told9 HSE.out HE.out⟩
    rw[HSR.out]
    exact HF.out.1
  ·obtain rfl:cnt=j:=by omega
   have hall:=stand_all (V:=V) (gen:=gen) (E:=E) (at_:=at_) HE0.out (by rw[HCNT.out]; omega) (by rw[HCNT.out]; exact HGOOD.out)
   rw[HCNT.out] at hall
   have HALL:=hI hall
   have HBM:=hI (meants_bytes (secsAt_bytes HBYT.out at_ cnt))
   have hlxs:=secsAt_length V at_ cnt
   have HJN:=hI (join_any9 A cnt cap (secsAt V at_ cnt) _ wr HROW.out (fun b h=>h.2.1) HSEC.out (secsAt_bytes HBYT.out at_ cnt) (by omega))
   obtain ⟨xss,hxss⟩:∃ xss,secsAt V at_ cnt=xss:=⟨_,rfl⟩
   rw[hxss] at HALL HBM hlxs HJN
   have HXS:=hI hxss
   clear hall hxss HOWN HROW HSEC HGOOD HX
   go_wp2_with fail
   refine HJN.out.mono ?_
   rintro e w8 hjn
   by_cases hch:Chain xss
   case neg =>
    obtain ⟨rfl,hb8⟩:=hjn.2 (fun h=>hch h.2)
    have HSE:=hI (HALL.out.2.1 (fun h=>hch h.1))
    have HS:=hI (HS.out.mem H.out hb8)
    have HF:=hI (HS.out.fin H.out zeroC)
    have HRES:=hI HS.out.res
    clear hjn hch hb8
    go_wp2_with (first | (with_reducible refine halt_end ?_) | (refine wpList_store_rowB (.tmp 6) (.tmp 65) 33 rfl rfl w.heap.size zeroC rfl rfl 33 _ HRES.out size_rec rfl one_zero ?_))
    refine Halt.ret (results_row3 (p:=6) (u:=7) (v:=8) rfl _ _ w.heap.size 33 zeroC _ rfl HF.out.2.2.1 Tryz.underlying33 rfl size_rec) rfl ⟨?_,HF.out.2.1,fun _=>by rw[HSE.out]; rfl,zero_told9 HSE.out (by decide)⟩
    rw[HALL.out.2.2]
    exact HF.out.1
   obtain ⟨A8,c8,rfl,hr8,hb8,hc8⟩:=hjn.1 ⟨by omega,hch⟩
   have HS:=hI (HS.out.mem H.out hb8)
   obtain ⟨ms,hms⟩:∃ ms,meants xss=ms:=⟨_,rfl⟩
   rw[hms] at hr8 hc8 HBM ⊢
   have HMS:=hI hms
   have HCH:=hI hch
   have HR8:=hI hr8
   have HC8:=hI hc8
   have hs8:=hb8.size
   have hml:ms.length≤100000:=by rw[← hms]; have:=meants_le xss; omega
   clear hms hch hr8 hb8 hjn hc8
   by_cases hdk:DecOk ms ms.length
   case neg =>
    have HDN:=hI (dec_no A8 ms.length c8 ms _ w8 HR8.out (fun b h=>h.2) HBM.out HC8.out hdk)
    have HSE:=hI (HALL.out.2.1 (fun h=>hdk (by have:=h.2.1; rw[HMS.out] at this; exact this)))
    obtain ⟨eo,heo⟩:∃ eo,errOf ms ms.length=eo:=⟨_,rfl⟩
    have heo2:(eo != 0)=true:=by rcases errOf_cases ms ms.length with h | h <;> (rw[← heo,h]; rfl)
    rw[heo] at HDN
    clear heo hdk
    go_wp2_with fail
    refine HDN.out.mono ?_
    rintro e w9 ⟨rfl,hb9⟩
    obtain ⟨w10,hw10⟩:∃ w10,w10=w9.alloc (.cells zeroC 33):=⟨_,rfl⟩
    have hb10:Below w9.heap.size w9 w10:=by rw[hw10]; exact (Below.refl _ w9).alloc (nR _) _
    have HW10:=hI hw10
    have HS:=hI ((HS.out.mem H.out hb9).mem H.out hb10)
    have HF:=hI (HS.out.fin H.out zeroC)
    have HRES:=hI HS.out.res
    clear hb9 hw10 hb10
    go_upto_region 17 with fail
    rw[← HW10.out]
    go_wp2_with (first | (with_reducible refine halt_end ?_) | (refine wpList_store_rowB (.tmp 6) (.tmp 80) 33 rfl rfl w.heap.size zeroC rfl rfl 33 _ HRES.out size_rec rfl one_zero ?_))
    refine Halt.ret (results_row3 (p:=6) (u:=7) (v:=8) rfl _ _ w.heap.size 33 zeroC _ rfl HF.out.2.2.1 Tryz.underlying33 rfl size_rec) rfl ⟨?_,HF.out.2.1,fun _=>by rw[HSE.out]; rfl,zero_told9 HSE.out (by decide)⟩
    rw[HALL.out.2.2]
    exact HF.out.1
   have HDO:=hI (dec_ok A8 ms.length c8 ms _ w8 HR8.out (fun b h=>h.2) HBM.out hdk.1 HC8.out hdk.2.1 hdk.2.2)
   have HDK:=hI hdk
   clear hdk
   go_wp2_with fail
   refine HDO.out.mono ?_
   rintro e w9 ⟨b1,b2,rfl,hn1,hn2,hnb,ha1,ha2,hb9⟩
   obtain ⟨nd,hnd⟩:∃ nd,needOf ms=nd:=⟨_,rfl⟩
   rw[hnd]
   obtain ⟨w10,hw10⟩:∃ w10,w10=w9.alloc (.cells (recT9 ms b1 b2) 33):=⟨_,rfl⟩
   have hb10:Below w9.heap.size w9 w10:=by rw[hw10]; exact (Below.refl _ w9).alloc (nR _) _
   have HW10:=hI hw10
   have HRT:=hI (show Blk w10 w9.heap.size 33 (recT9 ms b1 b2) by rw[hw10]; exact Blk.new w9 _ _)
   have HS:=hI ((HS.out.mem H.out hb9).mem H.out hb10)
   have HA1:=hI (Blk.below ha1 hb10 (Blk.lt ha1))
   have HA2:=hI (Blk.below ha2 hb10 (Blk.lt ha2))
   have HRES:=hI HS.out.res
   have HNB:=hI hnb
   have HIN:=hI (And.intro (And.intro hn1 (Blk.lt ha1)) (And.intro hn2 (Blk.lt ha2)))
   have hnd50:nd≤100000:=by rw[← hnd]; have:=HDK.out.2.2; omega
   clear hb9 hw10 hb10 ha1 ha2 hnb
   go_upto_region 17 with fail
   rw[← HW10.out]
   by_cases hsame:nd=ms.length
   ·have hq9:((nd:Int) != (ms.length:Nat))=false:=by simp[hsame]
    have HSE:=hI (HALL.out.1 ⟨HCH.out,by rw[HMS.out]; exact HDK.out,by rw[HMS.out,hnd]; exact hsame⟩)
    have HF:=hI (HS.out.fin H.out (recT9 ms b1 b2))
    have HFZ:=hI (HS.out.finZ H.out (recT9 ms b1 b2))
    clear hnd hsame
    go_wp2_with (first
     | (with_reducible refine halt_end ?_)
     | (refine wpList_load_rowB (.tmp 16) 33 rfl rfl w9.heap.size rfl 33 (recT9 ms b1 b2).toList _ Tryz.underlying33 rfl size_rec HRT.out ?_)
     | (refine wpList_store_rowB (.tmp 6) (.tmp 81) 33 rfl rfl w.heap.size (recT9 ms b1 b2) rfl rfl 33 _ HRES.out size_rec rfl (one_rec _ _ _ _ _ _ _ _ _ _) ?_))
    refine Halt.ret (results_row3 (p:=6) (u:=7) (v:=8) rfl _ _ w.heap.size 33 (recT9 ms b1 b2) _ rfl HF.out.2.2.1 Tryz.underlying33 rfl size_rec) rfl ⟨?_,HF.out.2.1,fun h=>absurd HSE.out h,fun _=>⟨ms,?_,b1,b2,?_,by omega,by omega,HNB.out,Blk.kept HA1.out HF.out.2.2.2 (show b1≠w.heap.size by omega),Blk.kept HA2.out HF.out.2.2.2 (show b2≠w.heap.size by omega),?_⟩⟩
    ·rw[HALL.out.2.2]
     exact HF.out.1
    ·rw[HCNT.out,HXS.out,HMS.out]
    ·rw[HCNT.out]; rfl
    ·obtain ⟨Z,z1,z2,z3⟩:=HFZ.out
     refine ⟨Z,z2,z1 _ (.inl (.inr HIN.out.1)),z1 _ (.inl (.inr HIN.out.2)),?_⟩
     rw[HALL.out.2.2]
     exact z3
   ·have hq9:((nd:Int) != (ms.length:Nat))=true:=by simp; omega
    have HSE:=hI (HALL.out.2.1 (fun h=>hsame (by have:=h.2.2; rw[HMS.out,hnd] at this; exact this)))
    have HF:=hI (HS.out.fin H.out zeroC)
    clear hnd hsame
    go_wp2_with (first | (with_reducible refine halt_end ?_) | (refine wpList_store_rowB (.tmp 6) (.tmp 80) 33 rfl rfl w.heap.size zeroC rfl rfl 33 _ HRES.out size_rec rfl one_zero ?_))
    refine Halt.ret (results_row3 (p:=6) (u:=7) (v:=8) rfl _ _ w.heap.size 33 zeroC _ rfl HF.out.2.2.1 Tryz.underlying33 rfl size_rec) rfl ⟨?_,HF.out.2.1,fun _=>by rw[HSE.out]; rfl,zero_told9 HSE.out (by decide)⟩
    rw[HALL.out.2.2]
    exact HF.out.1
end
end Go.Proofs.YtdkbpchmnhbhcaaGreat
