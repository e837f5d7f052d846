/- Texts of StoreKeeps, packed. -/
import Derived.Test.YtdkbpchmnhbhcaaGreatPackStoreKeeps8
import Derived.BigQuiet
import Derived.Deep.DeepCutAuto
set_option linter.unusedVariables false
set_option linter.unusedSimpArgs false
set_option maxRecDepth 100000
set_option maxHeartbeats 16000000
namespace Go.Proofs.YtdkbpchmnhbhcaaGreat
open Go.RowKit
section
abbrev lp0:Oper:=⟨some 28,.move (.tmp 0),24,"log.go:51",#[],none⟩
abbrev lp1:Oper:=⟨some 29,.nilCheck (.tmp 28),0,"log.go:51",#[⟨0,.data⟩],none⟩
abbrev lp2:Oper:=⟨some 30,.fieldAddr 103 (.tmp 29) 1,0,"log.go:51",#[⟨1,.data⟩],none⟩
abbrev lp3:Oper:=⟨some 31,.load 95 (.tmp 30),95,"log.go:51",#[⟨2,.data⟩],none⟩
abbrev lp4:Oper:=⟨some 32,.call { callee:=.value (.func 46),args:=#[.tmp 31],argTypes:=#[95] },3,"log.go:51",#[⟨3,.data⟩],none⟩
abbrev lp5:Oper:=⟨some 33,.load 33 (.tmp 3),33,"log.go:51",#[],none⟩
abbrev lp6:Oper:=⟨some 34,.call { callee:=.value (.func 47),args:=#[.tmp 33],argTypes:=#[33] },3,"log.go:51",#[⟨5,.data⟩,⟨4,.chain⟩],none⟩
abbrev lp7:Oper:=⟨some 35,.binOp Go.BinOp.lss 3 (.tmp 32) (.tmp 34) 3,4,"log.go:51",#[⟨4,.data⟩,⟨6,.data⟩],none⟩
theorem Tj:(Tryz.prog.info? 33).map (·.size)=some 6:=by kernel_rfl
section
variable {w w':World} {X Y:Nat→Prop} {l p d n:Nat} {s:Sup} {t:Int} {k:Dk} {xs:List Seg} {pe:Nat}
def zOK (w : World) (X : Nat → Prop) (l p d n : Nat) (s : Sup) (t : Int) (k : Dk) (xs : List Seg) (pe K : Nat) (bs : List Int) (e : Ending) (w' : World) : Prop :=
 ((∃ i:Nat,qO xs=(i:Nat)∧(K:Int)≤jB s.b xs∧e=.returned (.tuple #[.agg #[.int .i64 (i:Int),.int .u64 (zM xs i),.int .i64 (zI xs i)],.int .i64 0])∧jJ w' X l p d n s t (iB k s xs i bs) (qL xs (K:Nat)) (pe+K)) ∨
  (jB s.b xs<(K:Int)∧jQ xs<0∧e=.returned (.tuple #[.agg #[.int .i64 0,.int .u64 0,.int .i64 0],.int .i64 6])∧jJ w' X l p d n s t k xs pe) ∨
  (jB s.b xs<(K:Int)∧∃ i:Nat,jQ xs=(i:Nat)∧e=.returned (.tuple #[.agg #[.int .i64 (i:Int),.int .u64 (s.g+1),.int .i64 1],.int .i64 0]) ∧
    jJ w' X l p d n (jR s) (qy t) (iB (vo k s t i) (jR s) (qC (zL s.b xs) (s.g+1)) i bs) (qL (qC (zL s.b xs) (s.g+1)) (K:Nat)) (0+K)))∧Kept X w w'
theorem Fx (h:jJ w X l p d n s t k xs pe) (hX:∀ b,X b→b<w.heap.size) (hpe:pe≤900000) (hgm:s.g+1≤18446744073709551615) {k1 f x s1:Int} {A1 A2:Option Addr} {n1 c1 n2 c2:Nat} {us vs:List Int} (hm:May k1 f x s1 n1 n2) (hr:oJ f x s1)
 (hx:zW .u8 w (·<w.heap.size) A1 n1 us) (hy:zW .u8 w (·<w.heap.size) A2 n2 vs) (hn1:A1=none→c1=0) (hn2:A2=none→c2=0) (hbu:Bytes us) (hbv:Bytes vs) :
 Calls Tryz.prog 9 #[.pointer (some ⟨l,0,none⟩),.agg #[.int .i64 k1,.int .u32 f,.int .u32 x,.int .u64 s1,.slice A1 n1 c1,.slice A2 n2 c2]] w fun e w'=>zOK w X l p d n s t k xs pe (zD (21+n1+n2)) (qI k1 f x s1 us vs) e w':=by
 have Xx:=hI h
 have hbs:=KH (k:=k1) (f:=f) (x:=x) (s:=s1) (by have h9:=hm; unfold May at h9; omega) hbu hbv
 have mG:=hI hbs
 have sV:=hI hpe
 have HGM:=hI hgm
 have zBK:=h.may.2.2
 obtain ⟨A,c,h,hmc,hnil⟩:=h.log
 have hlw:uD s.b xs=jB s.b xs:=by unfold uD; rw[if_pos Xx.out.ok]
 have HLW:=hI hlw
 obtain ⟨m,hmm⟩:∃ m,xs.length=m:=⟨_,rfl⟩
 obtain ⟨sec,rD⟩:∃ sec,s.b=sec:=⟨_,rfl⟩
 rw[hmm,rD] at h
 rw[rD] at HLW
 have pq:=hI rD
 have Ca:=hI zBK
 have hlen1:=hx.1
 have X4:=hy.1
 have HLEN:=hI (And.intro hlen1 X4)
 have HL:=hI h
 have HX:=hI hX
 clear hmm rD hlw hbs hbu hbv hmc hnil hpe hgm zBK hlen1 X4
 have HM:=hI hm
 have HB0:=hI (((Below.refl w.heap.size w).alloc (nR _) (.cells #[.int .i64 k1,.int .u32 f,.int .u32 x,.int .u64 s1,.slice A1 n1 c1,.slice A2 n2 c2] 33)).alloc (by simp) (.cells #[.int .i64 0,.int .u64 0,.int .i64 0] 35))
 have HK:=hI (zY w (.cells #[.int .i64 k1,.int .u32 f,.int .u32 x,.int .u64 s1,.slice A1 n1 c1,.slice A2 n2 c2] 33) 35 #[.int .i64 0,.int .u64 0,.int .i64 0])
 have HRC:=hI ((z8.new w 33 #[.int .i64 k1,.int .u32 f,.int .u32 x,.int .u64 s1,.slice A1 n1 c1,.slice A2 n2 c2]).alloc (.cells #[.int .i64 0,.int .u64 0,.int .i64 0] 35))
 have Z8:=hI (SS k1 f x s1 A1 A2 n1 c1 n2 c2 us vs _ ((w.alloc (.cells #[.int .i64 k1,.int .u32 f,.int .u32 x,.int .u64 s1,.slice A1 n1 c1,.slice A2 n2 c2] 33)).alloc (.cells #[.int .i64 0,.int .u64 0,.int .i64 0] 35)) hm hr (hx.below HB0.out (fun b h=>h)) (hy.below HB0.out (fun b h=>h)) (fun b h=>nL h HB0.out.size) hn1 hn2)
 have HL0:=hI (h.below HB0.out)
 clear h hX hm hr hx hy hn1 hn2
 go_enter Tryz.func9,Tryz.ntmps9
 go_wp2_with fail
 refine Z8.out.mono ?_
 rintro e v6 ⟨vb,rfl,hown,hb6⟩
 have HOWN:=hI hown
 have qK:=hI (HB0.out.trans (hb6.mono HB0.out.size))
 have dJ:=hI (HL.out.below qK.out)
 have je:=hI (HK.out.below hb6 HK.out.lt)
 have pO:=hI (HRC.out.below hb6 HRC.out.lt)
 obtain ⟨_,_,_,c3⟩:=yU dJ.out
 clear hown hb6
 go_upto_region 8 with fail
 clear c3
 go_cut [35] (fun t wy=>t=.bool (decide (uD sec xs<((zD (21+n1+n2):Nat):Int)))∧Below v6.heap.size v6 wy)
 case first J KK hJ bE =>
  have Z6:=hI (show ∀ W,Below v6.heap.size v6 W→qH W (·<W.heap.size) A m xs from fun W hW=>(dJ.out.below hW).now)
  have eD:=hI (show ∀ W,Below v6.heap.size v6 W→W.rangeAt l 1 [.int .i64 sec,.slice A m c] from fun W hW q u hu=>by
   have hb:=dJ.out.1.below hW dJ.out.1.lt
   match q,hu with
   | 0,hu=>exact (hb.cell 1).trans hu
   | 1,hu=>exact (hb.cell 2).trans hu)
  have HR1:=hI (show ∀ W,Below v6.heap.size v6 W→W.rangeAt w.heap.size 0 [.int .i64 k1,.int .u32 f,.int .u32 x,.int .u64 s1,.slice A1 n1 c1,.slice A2 n2 c2] from fun W hW=>(show z8 W w.heap.size 33 (List.toArray [.int .i64 k1,.int .u32 f,.int .u32 x,.int .u64 s1,.slice A1 n1 c1,.slice A2 n2 c2]) from pO.out.below hW pO.out.lt).rangeL)
  have DR:=Tryz.underlying95
  have zMW:=Tryz.underlying33
  refine wp_region_noPanic ?_
  refine zB.region (fun W=>Below v6.heap.size v6 W) [] (by kernel_rfl) (Below.refl _ _).drew (fun hė=>?_)
  refine tK 0 lp0 (v:=?_) ?_ hė ?_
  rotate_left
  ·intro W hSW; unfold lp0; go_simp; with_reducible rfl
  simp only[lp0,Act.put,sA,sZ,sS]
  refine tK 1 lp1 (v:=?_) ?_ hė ?_
  rotate_left
  ·intro W hSW; unfold lp1; go_simp; with_reducible rfl
  simp only[lp1,Act.put,sA,sZ,sS]
  refine tK 2 lp2 (v:=?_) ?_ hė ?_
  rotate_left
  ·intro W hSW; unfold lp2; go_simp; with_reducible rfl
  simp only[lp2,Act.put,sA,sZ,sS]
  refine tK 3 lp3 (v:=?_) ?_ hė ?_
  rotate_left
  ·intro W' hSW; refine qw (.tmp 30) 95 ?_ l 1 ?_ [.int .i64 sec,.slice A m c] _ DR rfl qZ (eD.out W' hSW) <;> rfl
  simp only[lp3,Act.put,sA,sZ,sS]
  refine tK 5 lp5 (v:=?_) ?_ hė ?_
  rotate_left
  ·intro W' hSW; refine qw (.tmp 3) 33 ?_ w.heap.size 0 ?_ [.int .i64 k1,.int .u32 f,.int .u32 x,.int .u64 s1,.slice A1 n1 c1,.slice A2 n2 c2] _ zMW rfl Tj (HR1.out W' hSW) <;> rfl
  simp only[lp5,Act.put,sA,sZ,sS]
  refine tO 4 lp4 ?_
  intro K hK
  refine zN 46 #[.tmp 31] #[95] rfl rfl Tryz.func46 rfl rfl [.agg #[.int .i64 sec,.slice A m c]] rfl ?_
  refine (P7 (Z6.out _ hė) sec).mono ?_
  rintro e v8 ⟨rfl,hbn⟩
  have vZ:=hė.trans (hbn.mono hė.size)
  clear hbn
  refine ⟨_,rfl,?_⟩
  simp only[lp4,Act.put,sA,sZ,sS]
  refine hU hK rfl _ _ vZ (fun hė=>?_)
  clear hK K vZ
  refine tO 6 lp6 ?_
  intro K hK
  refine zN 47 #[.tmp 33] #[33] rfl rfl Tryz.func47 rfl rfl [.agg #[.int .i64 k1,.int .u32 f,.int .u32 x,.int .u64 s1,.slice A1 n1 c1,.slice A2 n2 c2]] rfl ?_
  refine (FN k1 f x s1 A1 A2 n1 c1 n2 c2 _ HM.out (by obtain ⟨_,_,h1,h2,_⟩:=HM.out; omega)).mono ?_
  rintro e v9 ⟨rfl,hbn⟩
  have vZ:=hė.trans (hbn.mono hė.size)
  clear hbn
  refine ⟨_,rfl,?_⟩
  simp only[lp6,Act.put,sA,sZ,sS]
  refine hU hK rfl _ _ vZ (fun hė=>?_)
  clear hK K vZ
  refine tK 7 lp7 (v:=?_) ?_ hė ?_
  rotate_left
  ·intro W hSW; unfold lp7; go_simp; with_reducible rfl
  simp only[lp7,Act.put,sA,sZ,sS]
  refine zB.done (by kernel_rfl) ?_ _
  refine NoPanic.normal ?_
  refine bE _ _ (Met.intro (hJ _ _ ?_))
  (repeat apply Exists.intro)
  exact ⟨⟨rfl,hė⟩,rfl⟩
 case rest =>
  obtain ⟨rfl,hb⟩:=hcut
  have yj:=hI (qK.out.trans (hb.mono qK.out.size))
  have TI:=hI hb
  have dZ:=hI (je.out.below hb je.out.lt)
  have hkl:=je.out.lt
  clear hb
  obtain ⟨B,hB⟩:∃ B,21+n1+n2=B:=⟨_,rfl⟩
  have F4:=hI (show zD B≤17∧1≤zD B∧B≤16384 by have h9:=HM.out; unfold May at h9; unfold zD; omega)
  have bM:=hI (show (qI k1 f x s1 us vs).length=B by rw[dQ,HLEN.out.1,HLEN.out.2]; exact hB)
  rw[hB]
  obtain ⟨bs,Ic⟩:∃ bs,qI k1 f x s1 us vs=bs:=⟨_,rfl⟩
  rw[Ic] at mG HOWN bM
  have HBE:=hI Ic
  have bN:=hI hB
  clear hB Ic
  have Cw:=hI (Xx.out.grow yj.out)
  have N9:=hI (wH HX.out yj.out.size)
  have hown:=HOWN.out
  rw[bM.out] at hown
  obtain ⟨A5,c5,rfl,hbc,hbn,hrow⟩:=GK (mk:=Value.int .u8) 0 hown
  have xR:=hI (show zW .u8 wc (·<wc.heap.size) A5 B bs from (hrow.below TI.out (fun b hb=>hb.2.1)).more (fun b hb=>nL hb.2.1 TI.out.size))
  have wL:=hI (And.intro hbn hbc)
  have JZ:=hI (show ∀ b,b<wc.heap.size∧w.heap.size+2≤b→(X b∨(w.heap.size≤b∧b<wc.heap.size)) from fun b hb=>.inr ⟨by omega,hb.1⟩)
  have zJp:=hI (show zW .u8 wc (fun b=>w.heap.size+2≤b∧b<wc.heap.size) A5 B bs from (hrow.below TI.out (fun b hb=>hb.2.1)).more (fun b hb=>⟨by have:=hb.1; simp at this; omega,nL hb.2.1 TI.out.size⟩))
  have hX1:=(show (fun b=>X b∨(w.heap.size≤b∧b<wc.heap.size)) (w.heap.size+1) from .inr ⟨by omega,dZ.out.lt⟩)
  have pJ:=hI hX1
  have zGz:=F4.out
  have hleft:=HLW.out
  rw[hleft]
  clear hown hrow hbn hbc hX1 hleft
  by_cases hlt:jB sec xs<((zD B:Nat):Int)
  ·have HT:=hI (zCQ Cw.out N9.out sV.out HGM.out)
   have qd:=hI (show jB s.b xs<((zD (21+n1+n2):Nat):Int) by rw[pq.out,bN.out]; exact hlt)
   rw[decide_eq_true hlt]
   clear hlt zGz
   go_wp2_with fail
   refine HT.out.mono ?_
   rintro e v9 ⟨ht,xI⟩
   have bK:=hI (dZ.out.kept xI pJ.out)
   have Yk:=hI ((Kept.of_below yj.out HX.out).trans xI (fun b h=>.inl h))
   have zAc:=hI xI
   clear xI
   rcases ht with ⟨hn,rfl,iV⟩ | ⟨i,hi,rfl,iV⟩
   ·have OX:=hI iV
    have HN9:=hI hn
    have q0:=bK.out.cell 0
    have q1:=bK.out.cell 1
    have q2:=bK.out.cell 2
    simp only[List.getElem?_toArray,List.getElem?_cons_zero,List.getElem?_cons_succ] at q0 q1 q2
    obtain ⟨g0,g1,g2⟩:=And.intro (bK.out.frozen 0) (And.intro (bK.out.frozen 1) (bK.out.frozen 2))
    clear iV hn
    go_wp2_with (with_reducible refine zJ ?_)
    have hso:=OX.out.setOff3 (X:=X) bK.out pJ.out (fun b h=>.inl h) (fun b h=>by have:=HX.out b h; omega) (.int .i64 0) (.int .u64 0) (.int .i64 0)
    exact Halt.ret (zy (p:=4) (u:=5) rfl _ _ (w.heap.size+1) 35 #[.int .i64 0,.int .u64 0,.int .i64 0] _ rfl hso.2.1 Tryz.underlying35 rfl kD) rfl
     ⟨.inr (.inl ⟨qd.out,HN9.out,rfl,hso.1⟩),hso.2.2 _ Yk.out⟩
   ·obtain ⟨u1,u2,u3,u4⟩:=Yx Xx.out hi
    have fq:=hI (Lj (i:=i) (c0:=c5) iV (fun b h=>nL (N9.out b h) zAc.out.size) (by omega) u1 (by show ((zD B:Nat):Int)≤jB s.b _; rw[u4]; have h8:=Ca.out; have h9:=F4.out; omega) ((zJp.out.kept zAc.out (fun b hb=>JZ.out b ⟨hb.2,hb.1⟩)).more (fun b hb=>nL hb.2 zAc.out.size)) wL.out.1 wL.out.2 F4.out.2.2 mG.out)
    rw[u2,u3] at fq
    have HII:=hI hi
    clear u1 u2 u3 u4 hi iV
    go_wp2_with fail
    refine fq.out.mono ?_
    rintro e v10 ⟨rfl,Yb,hk10⟩
    have vM:=hI (bK.out.kept hk10 pJ.out)
    have T9:=hI (Yk.out.trans hk10 (fun b h=>.inl h))
    have zAf:=hI Yb
    have q0:=vM.out.cell 0
    have q1:=vM.out.cell 1
    have q2:=vM.out.cell 2
    simp only[List.getElem?_toArray,List.getElem?_cons_zero,List.getElem?_cons_succ] at q0 q1 q2
    obtain ⟨g0,g1,g2⟩:=And.intro (vM.out.frozen 0) (And.intro (vM.out.frozen 1) (vM.out.frozen 2))
    clear Yb hk10
    go_wp2_with (with_reducible refine zJ ?_)
    have hso:=zAf.out.setOff3 (X:=X) vM.out pJ.out (fun b h=>.inl h) (fun b h=>by have:=HX.out b h; omega) (.int .i64 (i:Int)) (.int .u64 (s.g+1)) (.int .i64 1)
    refine Halt.ret (zy (p:=4) (u:=5) rfl _ _ (w.heap.size+1) 35 #[.int .i64 (i:Int),.int .u64 (s.g+1),.int .i64 1] _ rfl hso.2.1 Tryz.underlying35 rfl kD) rfl
     ⟨.inr (.inr ⟨qd.out,i,HII.out,rfl,?_⟩),hso.2.2 _ T9.out⟩
    rw[bN.out,HBE.out]
    exact hso.1
  ·rw[decide_eq_false hlt]
   have qd:=hI (show ((zD (21+n1+n2):Nat):Int)≤jB s.b xs by rw[pq.out,bN.out]; omega)
   clear hlt zGz
   obtain ⟨i,hi⟩:=P8 Xx.out.ok (by rw[bN.out]; have:=F4.out; omega) qd.out
   have fq:=hI (Lj (i:=i) (c0:=c5) Cw.out N9.out sV.out hi (by have h9:=qd.out; rw[bN.out] at h9; exact h9) xR.out wL.out.1 wL.out.2 F4.out.2.2 mG.out)
   have HII:=hI hi
   obtain ⟨gi,hgi⟩:∃ gi,zM xs i=gi:=⟨_,rfl⟩
   obtain ⟨ui,hui⟩:∃ ui,zI xs i=ui:=⟨_,rfl⟩
   rw[hgi,hui] at fq
   have HGU:=hI (And.intro hgi hui)
   clear hi hgi hui
   go_wp2_with fail
   refine fq.out.mono ?_
   rintro e v10 ⟨rfl,Yb,hk10⟩
   have vM:=hI (dZ.out.kept hk10 pJ.out)
   have T9:=hI ((Kept.of_below yj.out HX.out).trans hk10 (fun b h=>.inl h))
   have zAf:=hI Yb
   have q0:=vM.out.cell 0
   have q1:=vM.out.cell 1
   have q2:=vM.out.cell 2
   simp only[List.getElem?_toArray,List.getElem?_cons_zero,List.getElem?_cons_succ] at q0 q1 q2
   obtain ⟨g0,g1,g2⟩:=And.intro (vM.out.frozen 0) (And.intro (vM.out.frozen 1) (vM.out.frozen 2))
   clear Yb hk10
   go_wp2_with (with_reducible refine zJ ?_)
   have hso:=zAf.out.setOff3 (X:=X) vM.out pJ.out (fun b h=>.inl h) (fun b h=>by have:=HX.out b h; omega) (.int .i64 (i:Int)) (.int .u64 gi) (.int .i64 ui)
   refine Halt.ret (zy (p:=4) (u:=5) rfl _ _ (w.heap.size+1) 35 #[.int .i64 (i:Int),.int .u64 gi,.int .i64 ui] _ rfl hso.2.1 Tryz.underlying35 rfl kD) rfl
    ⟨.inl ⟨i,HII.out,qd.out,by rw[HGU.out.1,HGU.out.2]; rfl,?_⟩,hso.2.2 _ T9.out⟩
   rw[bN.out,HBE.out]
   exact hso.1
end
end
section
structure gH (W:World) (X:Nat→Prop) (gx gi p d n:Nat) (s:Sup) (t:Int) (k:Dk) (seg:Nat):Prop where
 sto:xQ W X p d n s t k
 off:∀ b,X b→b<W.heap.size
 bx:z8 W gx 45 #[.pointer (some ⟨p,0,none⟩)]
 bi:z8 W gi 3 #[.int .i64 seg]
 xx:X gx
 xi:X gi
section
variable {W W':World} {X Y:Nat→Prop} {gx gi p d n:Nat} {s:Sup} {t:Int} {k:Dk} {seg:Nat}
theorem gH.grow (h:gH W X gx gi p d n s t k seg) (hb:Below W.heap.size W W'):gH W' (fun b=>X b∨(W.heap.size≤b∧b<W'.heap.size)) gx gi p d n s t k seg :=
 ⟨zk.grow h.sto hb,wH h.off hb.size,h.bx.below hb h.bx.lt,h.bi.below hb h.bi.lt,.inl h.xx,.inl h.xi⟩
theorem gH.kept {S:Nat→Prop} {k2:Dk} (h:gH W Y gx gi p d n s t k seg) (hk:Kept S W W') (hs:xQ W' Y p d n s t k2) (hx:S gx) (hi:S gi) (hX:∀ b,X b→Y b) (h1:X gx) (h2:X gi):gH W' X gx gi p d n s t k2 seg :=
 ⟨zk.kept (Z:=fun _=>True) hs (Kept.refl _ _) (fun _ _ _=>trivial) (fun b _ h=>hX b h),fun b hb=>nL (h.off b (hX b hb)) hk.size,h.bx.kept hk hx,h.bi.kept hk hi,h1,h2⟩
def zh (k:Dk) (s:Sup) (seg i:Nat):List Int:=if (i:Int)<s.b then k.held.getD (2+(seg:Int)*s.b+i).toNat [] else noughts 64
def tH (s:Sup) (i:Nat):Int:=if (i:Int)<s.b then 0 else 4
def wU (k:Dk) (s:Sup) (i:Nat):Dk:=if (i:Int)<s.b then k.rd else k
theorem K6 (a b g r v f:Int) (w:World):(Instr.field 115 (.agg (qR a b g r v f)) 1).run Tryz.prog w=.ok (.int .i64 b) w:=by
 unfold Instr.field
 simp[Sem.run_bind,run_underlying (Tryz.underlying115),asAgg,part,isAgg,run_underlying (Tryz.underlying3)]
theorem FE (h:gH W X gx gi p d n s t k seg) (hg:Good k) (hm:s.May) (hseg:(seg:Int)<s.a) (hroom:2+s.a*s.b≤(n:Int)) (hn:n≤2048) (i:Nat) (hi:i≤100000) (hlen:(zh k s seg i).length=64) :
 Calls Tryz.prog 122 #[.int .i64 i,.pointer (some ⟨gx,0,none⟩),.pointer (some ⟨gi,0,none⟩)] W fun e W' =>
  e=.returned (.tuple #[.agg (zA (zh k s seg i)),.int .i64 (tH s i)])∧gH W' X gx gi p d n s t (wU k s i) seg∧Kept X W W':=by
 have HS:=hI h
 have HG:=hI hg
 obtain ⟨w1,hw1⟩:∃ w1,w1=W.alloc (.cells (zA (noughts 64)) 186):=⟨_,rfl⟩
 have HB1:=hI (show Below W.heap.size W w1 by rw[hw1]; exact (Below.refl _ W).alloc (nR _) _)
 have HR1:=hI (show qB w1 W.heap.size (noughts 64) by rw[hw1]; exact z8.new W _ _)
 have HW1:=hI hw1
 have h1:=h.grow HB1.out
 have ql:=hI h1
 have mH:=hI (YF h1.sto seg hseg hm.2.1 ⟨by have:=hm.2.2.1; omega,hm.2.2.2.1⟩)
 have c0:=h1.bx.cell 0
 have c1:=h1.bi.cell 0
 have Ie:24≤s.b:=hm.2.2.1
 have zMw:s.b≤64:=hm.2.2.2.1
 have hx1:0≤(seg:Int)*s.b∧(seg:Int)*s.b+s.b≤s.a*s.b:=by
  refine ⟨Int.mul_nonneg (by omega) (by omega),?_⟩
  have:=Int.mul_le_mul_of_nonneg_right (show (seg:Int)+1≤s.a by omega) (show 0≤s.b by omega)
  rw[Int.add_mul,Int.one_mul] at this
  exact this
 obtain ⟨M,hM⟩:∃ M:Int,(seg:Int)*s.b=M:=⟨_,rfl⟩
 rw[hM] at mH hx1
 have HV:=hI (show zh k s seg i=if (i:Int)<s.b then k.held.getD (2+M+i).toNat [] else noughts 64 by unfold zh; rw[hM])
 have HLEN:=hI hlen
 rw[hw1] at c0 c1
 clear h hg hm hseg hw1 h1 hM hlen
 go_enter Tryz.func122,Tryz.ntmps122
 go_wp2_with (refine zG rfl rfl ?_)
 rw[← HW1.out]
 refine mH.out.mono ?_
 rintro e w2 ⟨rfl,rfl⟩
 clear c0 c1
 have eF:=hI (rG ql.out.sto)
 have c0:=ql.out.bx.cell 0
 have c1:=ql.out.bi.cell 0
 go_wp2_with fail
 unfold qR at eF
 refine eF.out.mono ?_
 rintro e w3 ⟨rfl,hb3⟩
 have HB3:=hI (HB1.out.trans (hb3.mono HB1.out.size))
 have HR3:=hI (HR1.out.below hb3 HR1.out.lt)
 have yG:=hI (HS.out.grow HB3.out)
 have hr0:=HR1.out.lt
 have hs3:=hb3.size
 clear hb3 c0 c1
 have c0:=yG.out.bx.cell 0
 have SA:=K6 s.a s.b s.g s.r s.v s.f w3
 by_cases hib:(i:Int)<s.b
 ·obtain ⟨j,hj⟩:∃ j:Nat,(2:Int)+M+(i:Int)=(j:Nat):=⟨(2+M+i).toNat,by omega⟩
  have hjn:j<n:=by omega
  have zMn:¬ ((i:Int)≥s.b):=by omega
  have zQN:decide (s.b≤(i:Int))=false:=decide_eq_false (by omega)
  have dX:=hI (show zh k s seg i=k.held.getD j [] by rw[HV.out,if_pos hib,hj]; simp)
  have OZ:=hI (show tH s i=0∧wU k s i=k.rd by unfold tH wU; rw[if_pos hib,if_pos hib]; exact ⟨rfl,rfl⟩)
  have hrd:=zEC yG.out.sto.2.1 (fun b hb=>by
   rcases hb with hb | hb
   ·exact yG.out.off b hb
   ·rw[hb]; exact yG.out.sto.1.lt) j hjn
  rw[HG.out.rde,HG.out.rdv] at hrd
  have jg:=hI hrd
  obtain ⟨ys,hys⟩:∃ ys,k.held.getD j []=ys:=⟨_,rfl⟩
  rw[hys] at jg dX
  have yB:=hI (show ys.length=64 by rw[← dX.out]; exact HLEN.out)
  clear hrd hys
  go_wp2_with fail
  refine (uX yG.out.sto).mono ?_
  rintro e w4 ⟨rfl,rfl⟩
  go_wp2_with fail
  refine jg.out.mono ?_
  rintro e w5 ⟨rfl,hd5,hk5⟩
  have oP:=hI (show qB w5 W.heap.size (noughts 64) from z8.kept HR3.out hk5 (.inl (.inr ⟨nR _,by omega⟩)))
  have HD5:=hI (show xQ w5 (fun b=>X b∨(W.heap.size≤b∧b<w4.heap.size)) p d n s t k.rd from ⟨yG.out.sto.1.kept hk5 (.inr rfl),hd5,yG.out.sto.2.2⟩)
  have kS:=hI hk5
  clear hd5 hk5 c0
  go_wp2_with (first | (with_reducible refine zJ ?_) | (refine jM (.tmp 4) (.tmp 32) rfl rfl W.heap.size ys rfl rfl 186 (noughts 64) oP.out (zC 64) yB.out ?_))
  have hks:=(kS.out.mono (S:=fun b=>X b∨(W.heap.size≤b∧b<w4.heap.size)) (fun b h=>.inl h))
  have hkr:=(Kept.refl (fun b=>b≠W.heap.size) w5).setRow (g:=W.heap.size) (fun h=>h rfl) (zA ys)
  have hxn:∀ b,X b→b≠W.heap.size:=fun b hb=>Nat.ne_of_lt (HS.out.off b hb)
  refine Halt.ret (x9 rfl _ _ W.heap.size 186 ys rfl (setRow_heap _ _ _ _ _ _ oP.out) yB.out) rfl ⟨?_,?_,?_⟩
  ·rw[dX.out,OZ.out.1]; rfl
  ·rw[OZ.out.2]
   refine ⟨zk.kept HD5.out hkr (fun b _ hx e=>hx (.inr ⟨by omega,by omega⟩)) (fun b _ hb=>.inl hb),fun b hb=>?_,(yG.out.bx.kept hks (.inl HS.out.xx)).kept hkr (hxn _ HS.out.xx),(yG.out.bi.kept hks (.inl HS.out.xi)).kept hkr (hxn _ HS.out.xi),HS.out.xx,HS.out.xi⟩
   have:=HS.out.off b hb
   have:=HB3.out.size
   have:=kS.out.size
   have:=hkr.size
   omega
  ·exact ((Kept.of_below HB3.out HS.out.off).trans hks (fun b h=>.inl h)).trans hkr hxn
 ·have zMn:(i:Int)≥s.b:=by omega
  have dX:=hI (show zh k s seg i=noughts 64 by rw[HV.out,if_neg hib])
  have OZ:=hI (show tH s i=4∧wU k s i=k by unfold tH wU; rw[if_neg hib,if_neg hib]; exact ⟨rfl,rfl⟩)
  clear c0
  go_wp2_with (first | (with_reducible refine zJ ?_) | (refine wS rfl rfl ?_) | (refine jM (.tmp 4) (.tmp 25) rfl rfl W.heap.size (noughts 64) rfl rfl 186 (noughts 64) HR3.out (zC 64) (zC 64) ?_))
  have hkr:=(Kept.refl (fun b=>b≠W.heap.size) w3).setRow (g:=W.heap.size) (fun h=>h rfl) (zA (noughts 64))
  have hxn:∀ b,X b→b≠W.heap.size:=fun b hb=>Nat.ne_of_lt (HS.out.off b hb)
  refine Halt.ret (x9 rfl _ _ W.heap.size 186 (noughts 64) rfl (setRow_heap _ _ _ _ _ _ HR3.out) (zC 64)) rfl ⟨?_,?_,?_⟩
  ·rw[dX.out,OZ.out.1]; rfl
  ·rw[OZ.out.2]
   refine ⟨zk.kept yG.out.sto hkr (fun b _ hx e=>hx (.inr ⟨by omega,by omega⟩)) (fun b _ hb=>.inl hb),fun b hb=>?_,yG.out.bx.kept hkr (hxn _ HS.out.xx),yG.out.bi.kept hkr (hxn _ HS.out.xi),HS.out.xx,HS.out.xi⟩
   have:=HS.out.off b hb
   have:=HB3.out.size
   have:=hkr.size
   omega
  ·exact (Kept.of_below HB3.out HS.out.off).trans hkr hxn
end
theorem ZC {w:World} {X:Nat→Prop} {p d n:Nat} {s:Sup} {t:Int} {k:Dk} (h:xQ w X p d n s t k) (hX:∀ b,X b→b<w.heap.size) (seg:Nat) :
 Calls Tryz.prog 52 #[.pointer (some ⟨p,0,none⟩),.int .i64 seg] w fun e w'=>(∃ gx gi,e=.returned (.func (.func 122) #[] #[.pointer (some ⟨gx,0,none⟩),.pointer (some ⟨gi,0,none⟩)]) ∧
  gH w' (fun b=>X b∨(w.heap.size≤b∧b<w'.heap.size)) gx gi p d n s t k seg)∧Below w.heap.size w w':=by
 have HS:=hI h
 have HX:=hI hX
 have hb:=(((Below.refl w.heap.size w).alloc (nR _) (.cells #[.pointer (some ⟨p,0,none⟩)] 45)).alloc (by simp) (.cells #[.int .i64 seg] 3))
 have HB:=hI hb
 have jh:=hI ((z8.new w 45 #[.pointer (some ⟨p,0,none⟩)]).alloc (.cells #[.int .i64 seg] 3))
 have yI:=hI (zY w (.cells #[.pointer (some ⟨p,0,none⟩)] 45) 3 #[.int .i64 seg])
 clear h hX hb
 go_enter Tryz.func52,Tryz.ntmps52
 go_wp2
 go_ret
 exact ⟨⟨w.heap.size,w.heap.size+1,rfl,zk.grow HS.out HB.out,wH HX.out HB.out.size,jh.out,yI.out,.inr ⟨nR _,by simp; omega⟩,.inr ⟨by omega,by simp⟩⟩,HB.out⟩
end
section
def ze (ys:List Int) (gen:Int) (at_:Int):Nat :=
 if stamped ys=true∧qD ys=gen∧posOf ys=at_∧aI (zS ys) (zS ys).length=0 then zD (rT (zS ys) (zS ys).length) else 0
theorem D5 (xs:List Int) (n:Nat):rT xs n≤783:=by
 unfold rT
 split
 ·rename_i h
  have h2:=h.2
  unfold vK May at h2
  unfold jU
  omega
 ·omega
theorem Pg (ys:List Int) (gen at_:Int):ze ys gen at_≤17:=by
 unfold ze
 split
 ·have:=D5 (zS ys) (zS ys).length
  unfold zD
  omega
 ·omega
theorem Ku (ys:List Int) (gen:Int) (at_:Nat) (w:World) (hl:ys.length=64) (hb:Bytes ys) (hat:at_≤100000) :
 Calls Tryz.prog 127 #[.agg (zA ys),.int .u64 gen,.int .i64 at_] w fun e w'=>e=.returned (.int .i64 (ze ys gen at_:Nat))∧Below w.heap.size w w':=by
 have HB0:=hI ((Below.refl w.heap.size w).alloc (nR _) (.cells (zA ys) 186))
 have HX0:=hI (show qB (w.alloc (.cells (zA ys) 186)) w.heap.size ys from z8.new w _ _)
 have HL:=hI hl
 have qm:=hI hb
 have hwr:IntKind.u32.wrap (at_:Int)=(at_:Int):=by rw[IntKind.wrap_u32]; omega
 cases hst:stamped ys with
 | false =>
  have HN:=hI (show ze ys gen at_=0 by unfold ze; rw[if_neg (fun h=>by rw[hst] at h; cases h.1)])
  have jg:=hI (fun (W:World)=>YL ys W hl hb hst)
  clear hl hb hst
  go_enter Tryz.func127,Tryz.ntmps127
  go_wp2_with (refine zQ (.tmp 3) rfl rfl w.heap.size 0 rfl ys HL.out HX0.out.range ?_)
  refine (jg.out _).mono ?_
  rintro e w2 ⟨rfl,hb2⟩
  have HB2:=hI (HB0.out.trans (hb2.mono HB0.out.size))
  clear hb2
  go_wp2_with fail
  go_ret
  rw[HN.out]
  exact ⟨rfl,HB2.out.alloc HB2.out.size _⟩
 | true =>
  have jg:=hI (fun (W:World)=>YK ys W hl hb hst)
  have HMB:=hI (show Bytes (zS ys) by unfold zS; split; exact jW hb 16 _; exact fun j=>by simp)
  have hkk:=D5 (zS ys) (zS ys).length
  have zGx:ze ys gen at_=if qD ys=gen∧posOf ys=(at_:Int)∧aI (zS ys) (zS ys).length=0 then zD (rT (zS ys) (zS ys).length) else 0:=by
   unfold ze
   simp[hst]
  have Cy:=hI zGx
  obtain ⟨gg,hgg⟩:∃ g,qD ys=g:=⟨_,rfl⟩
  obtain ⟨pp,hpp⟩:∃ g,posOf ys=g:=⟨_,rfl⟩
  obtain ⟨ff,hff⟩:∃ g,qJ ys=g:=⟨_,rfl⟩
  have oU:=hI (fun (A:Option Addr) (c:Nat) (W:World) (hx:zW .u8 W (·<W.heap.size) A (zS ys).length (zS ys)) (hc:(zS ys).length≤c)=>E8 A _ c (zS ys) _ W hx (fun b h=>h) HMB.out hc)
  obtain ⟨ms,hms⟩:∃ g,zS ys=g:=⟨_,rfl⟩
  obtain ⟨nk,hnk⟩:∃ g,rT ms ms.length=g:=⟨_,rfl⟩
  obtain ⟨ne,hne⟩:∃ g,aI ms ms.length=g:=⟨_,rfl⟩
  unfold Pk at jg
  rw[hgg,hpp,hff,hms] at jg
  rw[hms,hnk,hne] at oU
  rw[hgg,hpp,hms,hnk,hne] at Cy
  rw[hms,hnk] at hkk
  clear hl hb hst zGx hgg hpp hff hms hnk hne
  go_enter Tryz.func127,Tryz.ntmps127
  go_wp2_with (refine zQ (.tmp 3) rfl rfl w.heap.size 0 rfl ys HL.out HX0.out.range ?_)
  refine (jg.out _).mono ?_
  rintro e w2 ⟨A,c,rfl,hrow,hb2,hnil,hcap⟩
  have HB2:=hI (HB0.out.trans (hb2.mono HB0.out.size))
  have HB3:=hI ((Below.refl w2.heap.size w2).alloc (nR _) (.cells #[.int .u64 gg,.int .u32 pp,.int .i64 (ff:Nat)] 203))
  have xR:=hI ((hrow.below HB3.out (fun b h=>h.2)).more (T:=(·<(w2.alloc (.cells #[.int .u64 gg,.int .u32 pp,.int .i64 (ff:Nat)] 203)).heap.size)) (fun b h=>nL h.2 HB3.out.size))
  have HCAP:=hI hcap
  have hk:=z8.new w2 203 #[.int .u64 gg,.int .u32 pp,.int .i64 (ff:Nat)]
  have c0:=hk.cell 0
  have c1:=hk.cell 1
  simp only[List.getElem?_toArray,List.getElem?_cons_zero,List.getElem?_cons_succ] at c0 c1
  clear hrow hb2 hnil hcap hk
  by_cases hg:gg=gen
  ·by_cases hp:pp=(at_:Int)
   ·have hN:=oU.out A c _ xR.out HCAP.out
    have HN:=hI hN
    subst hg hp
    clear hN
    go_wp2_with fail
    refine HN.out.mono ?_
    rintro e w4 ⟨rfl,hb4⟩
    have zq:=hI ((HB2.out.trans (HB3.out.mono HB2.out.size)).trans (hb4.mono (by have:=HB2.out.size; have:=HB3.out.size; omega)))
    clear hb4 c0 c1
    by_cases he:ne=0
    ·subst he
     have ND:=hI (XL nk w4 (by omega))
     clear hkk
     go_wp2_with fail
     refine ND.out.mono ?_
     rintro e w5 ⟨rfl,rfl⟩
     go_wp2
     go_ret
     rw[Cy.out,if_pos (by simp)]
     exact ⟨rfl,zq.out⟩
    ·have HE:=hI he
     have hneb:(ne != 0)=true:=by simpa using he
     clear hkk he
     go_wp2
     go_ret
     rw[Cy.out,if_neg (fun h=>HE.out h.2.2)]
     exact ⟨rfl,zq.out⟩
   ·have HP:=hI hp
    have hpb:(pp != (at_:Int))=true:=by simpa using hp
    subst hg
    clear hp hkk
    go_wp2
    go_ret
    rw[Cy.out,if_neg (fun h=>HP.out h.2.1)]
    exact ⟨rfl,HB2.out.trans (HB3.out.mono HB2.out.size)⟩
  ·have HGN:=hI hg
   have hgb:(gg != gen)=true:=by simpa using hg
   clear hg hkk
   go_wp2
   go_ret
   rw[Cy.out,if_neg (fun h=>HGN.out h.1)]
   exact ⟨rfl,HB2.out.trans (HB3.out.mono HB2.out.size)⟩
end
section
attribute [local go_sem] Oper.semAt_some
def O4 (xss:List (List Int)) (w:World) (e:Ending) (w':World):Prop :=
 ∃ A c,e=.returned (.tuple #[.slice A (qW xss).length c,.int .i64 0])∧zW .u8 w' (fun b=>w.heap.size≤b∧b<w'.heap.size) A (qW xss).length (qW xss)∧Below w.heap.size w w'∧(qW xss).length≤c
def CQ (xss:List (List Int)) (w:World) (e:Ending) (w':World):Prop:=(1≤xss.length∧Chain xss→O4 xss w e w')∧(¬ (1≤xss.length∧Chain xss)→N8 w e w')
theorem YX {xss:List (List Int)} {w:World} {e:Ending} {w':World} (h:¬ (1≤xss.length∧Chain xss)) (hb:N8 w e w'):CQ xss w e w':=⟨fun k=>absurd k h,fun _=>hb⟩
theorem PK (A:Option Addr) (n c:Nat) (xss:List (List Int)) (S:Nat→Prop) (w:World) (hx:RowK w S A n xss) (hS:∀ b,S b→b<w.heap.size) (hs:qY xss) (hby:∀ i,Bytes (xss.getD i [])) (hn:n≤1000000) :
 Calls Tryz.prog 128 #[.slice A n c] w (CQ xss w):=by
 obtain ⟨i0,hi,hz0,hz1,hz2⟩:=info_parts rC
 have HX:=hI hx
 have HL:=hI hx.1
 have HS:=hI hs
 have qm:=hI hby
 clear hx hs hby
 by_cases h0:n=0
 ·subst h0
  have hno:=hI (show ¬ (1≤xss.length∧Chain xss) from fun h=>by have:=HL.out; omega)
  go_enter Tryz.func128,Tryz.ntmps128
  go_wp2
  go_ret2
  exact YX hno.out ⟨rfl,Below.refl _ _⟩
 have e0:((n:Int)==0)=false:=by simp; omega
 have hn1:1≤n:=by omega
 clear h0
 go_enter Tryz.func128,Tryz.ntmps128
 go_wp2_with fail
 have HJ0:=hI (show iZ xss w (w.alloc (.cells #[.int .u64 0,.int .u32 0,.int .i64 0] 203)) (.slice none 0 0) 0 from
  ⟨World.ownsRow_nil _ _ _ _,z8.new w _ _,(Below.refl _ _).alloc (nR _) _,fun i h=>by omega⟩)
 go_loopw [4,16] (fun o i wr=>∃ k:Nat,k≤n∧i=.int .i64 k∧iZ xss w wr o k) (fun _ i _=>n-(intOf i).toNat)
 case atStart=>exact ⟨0,by omega,rfl,HJ0.out⟩
 case round =>
  obtain ⟨k,hk,rfl,hj⟩:=hrel
  by_cases hlt:k<n
  ·obtain ⟨b, off, rfl, hb, hc⟩ := (HX.out.below hj.bel hS).2 (by omega)
   have hr:=hc k hlt
   have hxl:=HS.out.get k (by have:=HL.out; omega)
   have hxb:=qm.out k
   have hbw:=hS b hb
   have HJ:=hI hj
   have HXK:=hI (show xss.getD k []=xss.getD k [] from rfl)
   obtain ⟨xs,hxs⟩:∃ xs,xs=xss.getD k []:=⟨_,rfl⟩
   rw[← hxs] at hr hxl hxb
   have Z0:=hI hxs
   have HR:=hI hr
   have wB:=hI hxl
   have HXB:=hI hxb
   obtain ⟨w1,hw1⟩:∃ w1,w1=wr.alloc (.cells (zA xs) 186):=⟨_,rfl⟩
   have HW1:=hI hw1
   have pJ:=hI (show qB w1 wr.heap.size xs by rw[hw1]; exact z8.new wr _ _)
   have HB1:=hI (show Below wr.heap.size wr w1 by rw[hw1]; exact (Below.refl _ _).alloc (nR _) _)
   clear hc hj hxs hr hxl hxb hw1
   go_wp2_with (first
    | (refine zQ (.tmp 19) rfl rfl b (off+k*64) rfl xs wB.out HR.out ?_)
    | (refine zG rfl rfl ?_)
    | (refine zU (.tmp 7) (.tmp 20) rfl rfl wr xs rfl rfl (noughts 64) rfl (zC 64) wB.out ?_; rw[← HW1.out])
    | (refine zQ (.tmp 7) rfl rfl wr.heap.size 0 rfl xs wB.out pJ.out.range ?_))
   by_cases hst:stamped xs=true
   case neg =>
    have hst:stamped xs=false:=by simpa using hst
    have hno:=hI (Wx (k:=k) (xss:=xss) (by have:=HL.out; omega) (fun h=>by have h:=h.1; rw[← Z0.out,hst] at h; cases h))
    refine (YL xs w1 wB.out HXB.out hst).mono ?_
    rintro e w2 ⟨rfl,hb2⟩
    have HB2:=hI ((HJ.out.bel.trans (HB1.out.mono HJ.out.bel.size)).trans (hb2.mono (nT HJ.out.bel.size HB1.out.size)))
    clear hst hb2
    go_wp2_with fail
    go_ret2
    exact YX hno.out ⟨rfl,HB2.out.alloc HB2.out.size _⟩
   refine (R4 xs w1 wB.out HXB.out hst).mono ?_
   rintro e w2 ⟨A2,c2,rfl,hr2,hb2,hn2⟩
   have OJ:=hI hn2
   clear hn2
   have HST:=hI hst
   have HR2:=hI hr2
   have HB2:=hI (HB1.out.trans (hb2.mono HB1.out.size))
   obtain ⟨w3,hw3⟩:∃ w3,w3=w2.alloc (.cells #[.int .u64 (qD xs),.int .u32 (posOf xs),.int .i64 (qJ xs)] 203):=⟨_,rfl⟩
   have hb3:Below w2.heap.size w2 w3:=by rw[hw3]; exact (Below.refl _ _).alloc (nR _) _
   have yG:=hI (show z8 w3 w2.heap.size 203 #[.int .u64 (qD xs),.int .u32 (posOf xs),.int .i64 (qJ xs)] by rw[hw3]; exact z8.new w2 _ _)
   have HR3:=hI (HR2.out.below hb3 (fun b h=>h.2))
   have HB3:=hI (HB2.out.trans (hb3.mono HB2.out.size))
   have HW3:=hI hw3
   clear hst hr2 hb2 hw3 hb3
   by_cases hk0:k=0
   ·subst hk0
    have Y8:=hI (show uS xss 0 from ⟨by rw[← Z0.out]; exact HST.out,fun h=>by omega⟩)
    have U3:=own_below HJ.out.own HB3.out
    have av:=hI U3
    have hlo:=QL xss 0 (by have:=HL.out; omega)
    have hml:=nu xs
    have qd:=hI HJ.out.own.lt
    have I9:w.heap.size+1≤w3.heap.size:=by have:=HJ.out.st.lt; have:=HB3.out.size; omega
    clear U3
    go_wp2_with (first
     | rw[← HW3.out]
     | (at_builtin; refine kC rfl (.tmp 39) (.tmp 40) 31 rfl (w.heap.size+1) 5 i0 (.int .u8 0) 1 Tryz.underlying31 hi hz0 hz1 hz2 rfl (fun _=>rfl) u4 _ _ rfl av.out _ A2 (zS xs).length c2 (zS xs) rfl HR3.out OJ.out (by unfold maxLen; omega) (by omega) I9 ?_; intro v' w5 hown' hgrow' _; have lJ:=hI hown'; have mD:=hI hgrow'; clear hown' hgrow';
         have hs5:z8 w5 w2.heap.size 203 #[.int .u64 (qD xs),.int .u32 (posOf xs),.int .i64 (qJ xs)]:=yG.out.grown mD.out (fun e=>by have:=qd.out _ e.symm; have:=HB2.out.size; omega);
         have dU:z8 w5 w.heap.size 203 (vE xss 0):=(HJ.out.st.below HB3.out HJ.out.st.lt).grown mD.out (fun e=>by have:=qd.out _ e.symm; omega);
         obtain ⟨a0,a1,a2,ha⟩:∃ a0 a1 a2:Value,vE xss 0=#[a0,a1,a2]:=by { unfold vE; split <;> exact ⟨_,_,_,rfl⟩ };
         rw[ha] at dU; clear ha;
         have p0:=hs5.cell 0; have p1:=hs5.cell 1; have p2:=hs5.cell 2; have q0:=dU.cell 0; have q1:=dU.cell 1; have q2:=dU.cell 2; have y0:=dU.frozen 0; have y1:=dU.frozen 1; have y2:=dU.frozen 2;
         simp only[List.getElem?_toArray,List.getElem?_cons_zero,List.getElem?_cons_succ] at p0 p1 p2 q0 q1 q2;
         clear hs5 dU))
    go_roundw
    case rel=>exact ⟨0+1,by omega,by go_num,HJ.out.next (by have:=HL.out; omega) Z0.out Y8.out HB3.out lJ.out mD.out⟩
    case measure=>(simp[intOf] <;> omega)
   ·have yt:=hI (show z8 w3 w.heap.size 203 #[.int .u64 (qD (xss.getD (k-1) [])),.int .u32 (posOf (xss.getD (k-1) [])),.int .i64 (qJ (xss.getD (k-1) []))] by
     have:=HJ.out.st.below HB3.out HJ.out.st.lt
     unfold vE at this
     rw[if_neg hk0] at this
     exact this)
    have hk1:(0:Int)<k:=by omega
    have hpb:=ZW HXB.out wB.out
    have hpl:=HS.out.get (k-1) (by have:=HL.out; omega)
    have hpf:=Ho (qm.out (k-1))
    obtain ⟨ps,hps⟩:∃ ps,ps=xss.getD (k-1) []:=⟨_,rfl⟩
    rw[← hps] at yt hpl hpf
    have HPS:=hI hps
    have pQ:=hI hk0
    have IY:=fun W=>Fa (qD ps) (posOf ps) (qJ ps) (qD xs) (posOf xs) (qJ xs) W hpb.1 hpb.2 (by omega) (by omega)
    obtain ⟨lb,hlb⟩:∃ lb,RY ps xs=lb:=⟨_,rfl⟩
    have zGf:Vw (qD ps) (posOf ps) (qJ ps) (qD xs) (posOf xs)=lb:=hlb
    rw[zGf] at IY
    have zJA:=hI IY
    have HLB:=hI hlb
    have g0:=yG.out.cell 0
    have g1:=yG.out.cell 1
    have g2:=yG.out.cell 2
    have f0:=yt.out.cell 0
    have f1:=yt.out.cell 1
    have f2:=yt.out.cell 2
    simp only[List.getElem?_toArray,List.getElem?_cons_zero,List.getElem?_cons_succ] at g0 g1 g2 f0 f1 f2
    clear IY hlb zGf hps hk0 hpl hpb
    cases lb with
    | false =>
     have hno:=hI (Wx (k:=k) (xss:=xss) (by have:=HL.out; omega) (fun h=>by have h:=h.2 (by omega); rw[← Z0.out,← HPS.out,HLB.out] at h; cases h))
     go_wp2_with (first
      | rw[← HW3.out]
      | (go_at_call 177; refine (zJA.out _).mono ?_; rintro e w4 ⟨rfl,hb4⟩; have zq:=hI hb4; clear hb4))
     go_ret2
     exact YX hno.out ⟨rfl,(HJ.out.bel.trans (HB3.out.mono HJ.out.bel.size)).trans (zq.out.mono (nT HJ.out.bel.size HB3.out.size))⟩
    | true =>
     have Y8:=hI (show uS xss k from ⟨by rw[← Z0.out]; exact HST.out,fun _=>by rw[← Z0.out,← HPS.out]; exact HLB.out⟩)
     go_wp2_with (rw[← HW3.out])
     refine (zJA.out _).mono ?_
     rintro e w4 ⟨rfl,hb4⟩
     have QI:=hI (HB3.out.trans (hb4.mono HB3.out.size))
     have HR4:=hI (HR3.out.below hb4 (fun b h=>by have:=h.2; have:=yG.out.lt; omega))
     have yg:=hI (yG.out.below hb4 yG.out.lt)
     clear hb4 g0 g1 g2 f0 f1 f2
     have U3:=own_below HJ.out.own QI.out
     have av:=hI U3
     have hlo:=QL xss k (by have:=HL.out; omega)
     have hml:=nu xs
     have qd:=hI HJ.out.own.lt
     have I9:w.heap.size+1≤w4.heap.size:=by have:=HJ.out.st.lt; have:=QI.out.size; omega
     clear U3
     go_wp2_with (first
      | (at_builtin; refine kC rfl (.tmp 39) (.tmp 40) 31 rfl (w.heap.size+1) 5 i0 (.int .u8 0) 1 Tryz.underlying31 hi hz0 hz1 hz2 rfl (fun _=>rfl) u4 _ _ rfl av.out _ A2 (zS xs).length c2 (zS xs) rfl HR4.out OJ.out (by unfold maxLen; omega) (by omega) I9 ?_; intro v' w5 hown' hgrow' _; have lJ:=hI hown'; have mD:=hI hgrow'; clear hown' hgrow';
          have hs5:z8 w5 w2.heap.size 203 #[.int .u64 (qD xs),.int .u32 (posOf xs),.int .i64 (qJ xs)]:=yg.out.grown mD.out (fun e=>by have:=qd.out _ e.symm; have:=HB2.out.size; omega);
          have dU:z8 w5 w.heap.size 203 (vE xss k):=(HJ.out.st.below QI.out HJ.out.st.lt).grown mD.out (fun e=>by have:=qd.out _ e.symm; omega);
          obtain ⟨a0,a1,a2,ha⟩:∃ a0 a1 a2:Value,vE xss k=#[a0,a1,a2]:=by { unfold vE; split <;> exact ⟨_,_,_,rfl⟩ };
          rw[ha] at dU; clear ha;
          have p0:=hs5.cell 0; have p1:=hs5.cell 1; have p2:=hs5.cell 2; have q0:=dU.cell 0; have q1:=dU.cell 1; have q2:=dU.cell 2; have y0:=dU.frozen 0; have y1:=dU.frozen 1; have y2:=dU.frozen 2;
          simp only[List.getElem?_toArray,List.getElem?_cons_zero,List.getElem?_cons_succ] at p0 p1 p2 q0 q1 q2;
          clear hs5 dU))
     go_roundw
     case rel=>exact ⟨k+1,by omega,by go_num,HJ.out.next (by have:=HL.out; omega) Z0.out Y8.out QI.out lJ.out mD.out⟩
     case measure=>(simp[intOf] <;> omega)
  ·obtain rfl:k=n:=by omega
   have hch:Chain xss:=fun i hi=>hj.chain i (by have:=HL.out; omega)
   have hmt:qW (xss.take k)=qW xss:=by rw[List.take_of_length_le (by have:=HL.out; omega)]
   have ho:=hj.own
   rw[hmt] at ho
   obtain ⟨A2,c2,rfl,hc1,hc2,hr2⟩:=GK 0 ho
   have HR2:=hI hr2
   have Y8:=hI hch
   have yO:=hI hj.bel
   have HC9:=hI hc1
   clear hch hmt ho hj hr2 hc1 hc2
   go_wp2
   go_ret2
   exact ⟨fun _=>⟨_,_,rfl,HR2.out.more (fun b h=>⟨by omega,h.2.1⟩),yO.out,HC9.out⟩,fun h=>absurd ⟨by have:=HL.out; omega,Y8.out⟩ h⟩
end
section
structure bH {σ:Type} (f:Nat) (cs:List Value) (B:Nat) (X0:Nat→Prop) (V:Nat→List Int) (E:Nat→Int) (nx:σ→Nat→σ) (R:(Nat→Prop)→σ→World→Prop):Prop where
 call:∀ (X:Nat→Prop) (st:σ) (W:World) (i:Nat),R X st W→i≤100000→Calls Tryz.prog f ((Value.int .i64 (i:Nat))::cs).toArray W fun e W'=>e=.returned (.tuple #[.agg (zA (V i)),.int .i64 (E i)])∧R X (nx st i) W'∧Kept X W W'
 put:∀ (X S:Nat→Prop) (st:σ) (W W':World),R X st W→Kept S W W'→(∀ b,b<W.heap.size→¬ S b→X b∧B≤b)→R (fun b=>X b∨(W.heap.size≤b∧b<W'.heap.size)) st W'
 lt:∀ (X:Nat→Prop) (st:σ) (W:World),R X st W→∀ b,X b→b<W.heap.size
 back:∀ (X:Nat→Prop) (st:σ) (W:World),R X st W→(∀ b,X0 b→X b)→R X0 st W
 len:∀ i,(V i).length=64
 byt:∀ i,Bytes (V i)
def mM {σ:Type} (nx:σ→Nat→σ) (st:σ) (at_:Nat):Nat→σ
 | 0=>st
 | j+1=>nx (mM nx st at_ j) (at_+j)
def uM (E:Nat→Int) (at_:Nat):Nat→Nat→Nat
 | 0,j=>j
 | f+1,j=>if E (at_+j)=0 then uM E at_ f (j+1) else j
theorem Kv (E:Nat→Int) (at_:Nat):∀ (f j:Nat),(∀ q,j≤q→q<j+f→E (at_+q)=0)→uM E at_ f j=j+f
 | 0,j,_=>rfl
 | f+1,j,h=>by
  unfold uM
  rw[if_pos (h j (nR _) (by omega)),Kv E at_ f (j+1) fun q h1 h2=>h q (by omega) (by omega)]
  omega
theorem Pj (E:Nat→Int) (at_:Nat):∀ (f j k:Nat),(∀ q,j≤q→q<k→E (at_+q)=0)→j≤k→k<j+f→E (at_+k)≠0→uM E at_ f j=k
 | 0,j,k,_,h1,h2,_=>by omega
 | f + 1, j, k, h, h1, h2, h3 => by
  unfold uM
  by_cases e:j=k
  ·subst e; rw[if_neg h3]
  ·rw[if_pos (h j (nR _) (by omega))]
   exact Pj E at_ f (j+1) k (fun q h4 h5=>h q (by omega) h5) (by omega) (by omega) h3
def zi (V:Nat→List Int) (at_ c:Nat):List (List Int):=(List.range c).map fun j=>V (at_+j)
theorem xS (V:Nat→List Int) (at_ c:Nat):(zi V at_ c).length=c:=by simp[zi]
theorem eU (V:Nat→List Int) (at_ c:Nat):zi V at_ (c+1)=zi V at_ c++[V (at_+c)]:=by simp[zi,List.range_succ]
theorem K5 (V:Nat→List Int) (at_:Nat):zi V at_ 1=[V at_]:=by simp[zi,List.range_succ]
theorem rQ {V:Nat→List Int} (h:∀ i,(V i).length=64) (at_ c:Nat):qY (zi V at_ c):=fun x hx=>by
 obtain ⟨j,_,rfl⟩:=List.mem_map.1 hx
 exact h _
theorem Sc:Bytes ([]:List Int):=fun j=>by simp
theorem bU {V:Nat→List Int} (h:∀ i,Bytes (V i)) (at_ c i:Nat):Bytes ((zi V at_ c).getD i []):=by
 unfold zi
 simp only[List.getD,List.getElem?_map]
 cases (List.range c)[i]? with
 | none=>exact Sc
 | some j=>exact h _
def Q0 (xss:List (List Int)):Prop:=Chain xss∧XF (qW xss) (qW xss).length∧jU (qW xss)=(qW xss).length
noncomputable section
open Classical
def jN (V:Nat→List Int) (E:Nat→Int) (gen:Int) (at_:Nat):Int :=
 if E at_≠0 then E at_ else
 if ze (V at_) gen at_=0 then 4 else
 if uM E at_ (ze (V at_) gen at_-1) 1<ze (V at_) gen at_ then E (at_+uM E at_ (ze (V at_) gen at_-1) 1) else
 if Q0 (zi V at_ (ze (V at_) gen at_)) then 0 else 4
def vR (V:Nat→List Int) (E:Nat→Int) (gen:Int) (at_:Nat):Nat :=
 if E at_≠0 then 1 else
 if ze (V at_) gen at_=0 then 1 else
 min (uM E at_ (ze (V at_) gen at_-1) 1+1) (ze (V at_) gen at_)
def Ky {σ:Type} (R:(Nat→Prop)→σ→World→Prop) (nx:σ→Nat→σ) (X0:Nat→Prop) (st:σ) (V:Nat→List Int) (E:Nat→Int) (gen:Int) (at_:Nat) (w:World) (e:Ending) (w':World):Prop :=
 R X0 (mM nx st at_ (vR V E gen at_)) w'∧Kept X0 w w' ∧
 (jN V E gen at_≠0→e=.returned (.tuple #[.agg #[.int .i64 0,.int .u32 0,.int .u32 0,.int .u64 0,.slice none 0 0,.slice none 0 0],.int .i64 0,.int .i64 (jN V E gen at_)])) ∧
 (jN V E gen at_=0→∃ xs:List Int,xs=qW (zi V at_ (ze (V at_) gen at_))∧∃ b1 b2,e=.returned (.tuple #[.agg #[.int .i64 (kindOf xs),.int .u32 (flagsOf xs),.int .u32 (qA xs),.int .u64 (zo xs),.slice (some ⟨b1,0,none⟩) (zH xs) (zH xs),.slice (some ⟨b2,0,none⟩) (zO xs) (zO xs)],.int .i64 (ze (V at_) gen at_:Nat),.int .i64 0]) ∧
   w.heap.size≤b1∧w.heap.size≤b2∧b1≠b2∧zn w' b1 (keyOf xs)∧zn w' b2 (valOf xs)∧∃ Z:Nat→Prop,(∀ b,X0 b→Z b)∧Z b1∧Z b2∧R Z (mM nx st at_ (vR V E gen at_)) w')
end
section
variable {V:Nat→List Int} {E:Nat→Int} {gen:Int} {at_:Nat}
theorem Qo (h:E at_≠0):jN V E gen at_=E at_∧vR V E gen at_=1:=by
 unfold jN vR; rw[if_pos h,if_pos h]; exact ⟨rfl,rfl⟩
theorem ZE (h:E at_=0) (h2:ze (V at_) gen at_=0):jN V E gen at_=4∧vR V E gen at_=1:=by
 have hn:¬ (E at_≠0):=fun k=>k h
 unfold jN vR
 refine ⟨(if_neg hn).trans (if_pos h2),(if_neg hn).trans (if_pos h2)⟩
theorem Qp {k:Nat} (h:E at_=0) (h1:1≤k) (h2:k<ze (V at_) gen at_) (h3:∀ q,1≤q→q<k→E (at_+q)=0) (h4:E (at_+k)≠0):jN V E gen at_=E (at_+k)∧vR V E gen at_=k+1:=by
 have e:=Pj E at_ (ze (V at_) gen at_-1) 1 k h3 h1 (by omega) h4
 have hn:¬ (E at_≠0):=fun k=>k h
 have hb:¬ (ze (V at_) gen at_=0):=by omega
 unfold jN vR
 rw[e]
 refine ⟨(if_neg hn).trans ((if_neg hb).trans (if_pos h2)),(if_neg hn).trans ((if_neg hb).trans ?_)⟩
 omega
theorem Qq (h:E at_=0) (h2:ze (V at_) gen at_≠0) (h3:∀ q,1≤q→q<ze (V at_) gen at_→E (at_+q)=0) :
 (Q0 (zi V at_ (ze (V at_) gen at_))→jN V E gen at_=0)∧(¬ Q0 (zi V at_ (ze (V at_) gen at_))→jN V E gen at_=4)∧vR V E gen at_=ze (V at_) gen at_:=by
 have e:=Kv E at_ (ze (V at_) gen at_-1) 1 fun q h4 h5=>h3 q h4 (by omega)
 have hn:¬ (E at_≠0):=fun k=>k h
 have e2:uM E at_ (ze (V at_) gen at_-1) 1=ze (V at_) gen at_:=by omega
 have hl:¬ (ze (V at_) gen at_<ze (V at_) gen at_):=Nat.lt_irrefl _
 unfold jN vR
 rw[e2]
 exact ⟨fun hs=>(if_neg hn).trans ((if_neg h2).trans ((if_neg hl).trans (if_pos hs))),fun hs=>(if_neg hn).trans ((if_neg h2).trans ((if_neg hl).trans (if_neg hs))),(if_neg hn).trans ((if_neg h2).trans (by omega))⟩
end
end
section
attribute [local go_sem] Oper.semAt_some
def ZB (xs:List Seg) (sg g sc:Int):Bool:=decide (0≤sg∧sg<(xs.length:Nat))&&((g==(xs.getD sg.toNat zK).2.1)&&(decide (1≤sc)&&decide (sc<(xs.getD sg.toNat zK).2.2)))
section
variable {w:World} {X:Nat→Prop} {l p d n:Nat} {s:Sup} {t:Int} {k:Dk} {sec:Int} {A:Option Addr} {m c:Nat} {xs:List Seg} {br:Bool}
theorem Ot {xs:List Seg} {sg g sc:Int} (h:¬ (0≤sg∧sg<(xs.length:Nat))):ZB xs sg g sc=false:=by
 unfold ZB; rw[decide_eq_false h]; rfl
theorem M6 {xs:List Seg} {i:Nat} {g sc:Int} (h:i<xs.length):ZB xs (i:Nat) g sc=((g==(xs.getD i zK).2.1)&&(decide (1≤sc)&&decide (sc<(xs.getD i zK).2.2))):=by
 unfold ZB; rw[decide_eq_true (by omega:0≤(i:Int)∧(i:Int)<(xs.length:Nat))]; rfl
theorem Ou (h:qX w X l p d n s t k sec A m c xs br) (hm:m≤1000) (sg g sc:Int) :
 Calls Tryz.prog 58 #[.pointer (some ⟨l,0,none⟩),.agg #[.int .i64 sg,.int .u64 g,.int .i64 sc]] w fun e w'=>e=.returned (.bool (ZB xs sg g sc))∧Below w.heap.size w w':=by
 obtain ⟨w1,hw1⟩:∃ w1,w1=w.alloc (.cells #[.int .i64 sg,.int .u64 g,.int .i64 sc] 35):=⟨_,rfl⟩
 have hb1:Below w.heap.size w w1:=by rw[hw1]; exact (Below.refl _ w).alloc (nR _) _
 have HA:=hI (show z8 w1 w.heap.size 35 #[.int .i64 sg,.int .u64 g,.int .i64 sc] by rw[hw1]; exact z8.new w _ _)
 have hl1:=h.below hb1
 have xR:=hI hl1.now
 have hlen:=hl1.now.1
 obtain ⟨l0,l1,l2,l3⟩:=yU hl1
 have a0:=HA.out.cell 0
 have a1:=HA.out.cell 1
 have a2:=HA.out.cell 2
 have HB1:=hI hb1
 have HW1:=hI hw1
 clear h hl1 hb1 hw1
 by_cases hin:0≤sg∧sg<(m:Nat)
 case neg =>
  have e:=Ot (xs:=xs) (g:=g) (sc:=sc) (show ¬ (0≤sg∧sg<(xs.length:Nat)) by rw[hlen]; exact hin)
  rw[e]
  clear e
  by_cases h0:sg<0
  ·clear hin
   go_enter Tryz.func58,Tryz.ntmps58
   go_upto_region 1 with fail
   rw[← HW1.out]
   go_quiet (fail)
   go_wp2
   go_ret
   exact ⟨rfl,below_drewN HB1.out _⟩
  ·have h1:(m:Int)≤sg:=by omega
   clear hin
   go_enter Tryz.func58,Tryz.ntmps58
   go_upto_region 1 with fail
   rw[← HW1.out]
   go_quiet (fail)
   go_wp2
   go_ret
   exact ⟨rfl,below_drewN HB1.out _⟩
 obtain ⟨i,rfl⟩:∃ i:Nat,sg=(i:Int):=⟨sg.toNat,by omega⟩
 have him:i<m:=by omega
 have e:=M6 (xs:=xs) (i:=i) (g:=g) (sc:=sc) (by rw[hlen]; exact him)
 rw[e]
 obtain ⟨b,off,rfl,_,hc⟩:=xR.out.2 (by omega)
 have z0:=hc i him 0 _ rfl
 have z1:=hc i him 1 _ rfl
 have z2:=hc i him 2 _ rfl
 obtain ⟨⟨s0,s1,s2⟩,hs⟩:∃ s,xs.getD i zK=s:=⟨_,rfl⟩
 rw[hs] at z0 z1 z2 ⊢
 replace z0:w1.cell? ⟨b,off+i*3,none⟩=some (.int .i64 s0):=z0
 replace z1:w1.cell? ⟨b,off+i*3+1,none⟩=some (.int .u64 s1):=z1
 replace z2:w1.cell? ⟨b,off+i*3+2,none⟩=some (.int .i64 s2):=z2
 have q0:decide ((i:Int)<0)=false:=by simp
 have q1:decide ((m:Int)≤(i:Int))=false:=by simp; omega
 have hz:∀ (v:Nat) (q:Addr) (u:Value),w1.cell? q=some u→((w1.drewN v).alloc (.cells #[.int .i64 0,.int .u64 0,.int .i64 0] 126)).cell? q=some u:=fun v q u hq=>by
  have hlt:q.block<w1.heap.size:=by
   by_cases h:q.block<w1.heap.size
   ·exact h
   ·have:w1.heap[q.block]? = none:=by simp; omega
    simp[World.cell?,this] at hq
  exact (World.cell?_alloc_lt (w1.drewN v) _ q (by simpa using hlt)).trans hq
 have y0:=fun v=>hz v _ _ a0
 have y1:=fun v=>hz v _ _ l2
 have y2:=fun v=>hz v _ _ z0
 have y3:=fun v=>hz v _ _ z1
 have y4:=fun v=>hz v _ _ z2
 have hn:∀ v,z8 ((w1.drewN v).alloc (.cells #[.int .i64 0,.int .u64 0,.int .i64 0] 126)) w1.heap.size 126 #[.int .i64 0,.int .u64 0,.int .i64 0]:=fun v=>z8.new (w1.drewN v) _ _
 have n0:=fun v=>(hn v).cell 0
 have n1:=fun v=>(hn v).cell 1
 have n2:=fun v=>(hn v).cell 2
 have f0:=fun v=>(hn v).frozen 0
 have f1:=fun v=>(hn v).frozen 1
 have f2:=fun v=>(hn v).frozen 2
 simp only[List.getElem?_toArray,List.getElem?_cons_zero,List.getElem?_cons_succ] at n0 n1 n2
 have HN:=hI hn
 clear hz hn
 clear hc hs e hin hlen xR
 go_enter Tryz.func58,Tryz.ntmps58
 go_upto_region 1 with fail
 rw[← HW1.out]
 go_quiet (fail)
 go_upto_region 3 with fail
 go_region
 have HSG:=hI ((HN.out (nq+1)).set3 (.int .i64 s0) (.int .u64 s1) (.int .i64 s2))
 have tC:=hI (((((below_drewN (Below.refl w1.heap.size w1) (nq+1)).alloc (by simp) (.cells #[.int .i64 0,.int .u64 0,.int .i64 0] 126)).setCell (p:=⟨w1.heap.size,0,none⟩) (nR _) (.int .i64 s0)).setCell (p:=⟨w1.heap.size,1,none⟩) (nR _) (.int .u64 s1)).setCell (p:=⟨w1.heap.size,2,none⟩) (nR _) (.int .i64 s2))
 generalize (((((w1.drewN (nq+1)).alloc (.cells #[.int .i64 0,.int .u64 0,.int .i64 0] 126)).setCell ⟨w1.heap.size,0,none⟩ (.int .i64 s0)).setCell ⟨w1.heap.size,1,none⟩ (.int .u64 s1)).setCell ⟨w1.heap.size,2,none⟩ (.int .i64 s2))=wz at *
 have tF:=HA.out.below tC.out HA.out.lt
 have p1:=tF.cell 1
 have p2:=tF.cell 2
 have r1:=HSG.out.cell 1
 have r2:=HSG.out.cell 2
 have yx:=hI (HB1.out.trans (tC.out.mono HB1.out.size))
 clear tF y0 y1 y2 y3 y4 n0 n1 n2 f0 f1 f2 z0 z1 z2 l0 l1 l2 l3 a0 a1 a2 HN HSG tC
 cases hb1:(g==s1) <;> cases hb2:decide (1≤sc) <;> cases hb3:decide (sc<s2)
 all_goals
  go_wp2
  go_ret
  exact ⟨by simp[hb1,hb2,hb3],yx.out⟩
end
end
section
def zNF (gx gi p d n:Nat) (s:Sup) (t:Int) (k0:Dk) (seg:Nat) (X:Nat→Prop) (k:Dk) (W:World):Prop:=gH W X gx gi p d n s t k seg∧Good k∧k.held=k0.held∧k.pend=k0.pend
section
variable {W W':World} {X S X0:Nat→Prop} {gx gi p d n seg:Nat} {s:Sup} {t:Int} {k k0:Dk}
theorem kZ (h:k.held=k0.held) (i:Nat):zh k s seg i=zh k0 s seg i:=by unfold zh; rw[h]
theorem Good.rd_held (h:Good k):k.rd.held=k.held:=by rw[h.rd]; rfl
theorem WT (h:Good k) (i:Nat):Good (wU k s i):=by unfold wU; split; exact h.read; exact h
theorem WS (h:Good k) (i:Nat):(wU k s i).held=k.held:=by unfold wU; split; exact h.rd_held; rfl
theorem zCT (h:Good k) (i:Nat):(wU k s i).pend=k.pend:=by
 unfold wU
 split
 ·rw[h.rd]
 ·rfl
theorem gH.put (h:gH W X gx gi p d n s t k seg) (hk:Kept S W W') (hS:∀ b,b<W.heap.size→¬ S b→X b∧b≠gx∧b≠gi):gH W' (fun b=>X b∨(W.heap.size≤b∧b<W'.heap.size)) gx gi p d n s t k seg:=by
 have hs:∀ b,b<W.heap.size→¬ X b→S b:=fun b h1 h2=>Classical.byContradiction fun h3=>h2 (hS b h1 h3).1
 have hgx:S gx:=Classical.byContradiction fun h3=>(hS gx (h.off _ h.xx) h3).2.1 rfl
 have hgi:S gi:=Classical.byContradiction fun h3=>(hS gi (h.off _ h.xi) h3).2.2 rfl
 refine ⟨zk.kept h.sto hk hs (fun b hb hy=>?_),wH h.off hk.size,h.bx.kept hk hgx,h.bi.kept hk hgi,.inl h.xx,.inl h.xi⟩
 rcases hy with hy | hy
 ·exact hy
 ·omega
theorem gH.back (h:gH W X gx gi p d n s t k seg) (hx:∀ b,X0 b→X b) (h1:X0 gx) (h2:X0 gi):gH W X0 gx gi p d n s t k seg :=
 ⟨zk.kept (Z:=fun _=>True) h.sto (Kept.refl _ _) (fun _ _ _=>trivial) (fun b _ hb=>hx b hb),fun b hb=>h.off b (hx b hb),h.bx,h.bi,h1,h2⟩
theorem rP (hm:s.May) (hseg:(seg:Int)<s.a) (hroom:2+s.a*s.b≤(n:Int)) (hn:n≤2048) (hk0:k0.Ok n) (B:Nat) (h1:X0 gx) (h2:X0 gi) (hB:gx<B∧gi<B) :
 bH 122 [.pointer (some ⟨gx,0,none⟩),.pointer (some ⟨gi,0,none⟩)] B X0 (zh k0 s seg) (tH s) (fun k i=>wU k s i) (zNF gx gi p d n s t k0 seg):=by
 have hx1:0≤(seg:Int)*s.b∧(seg:Int)*s.b+s.b≤s.a*s.b:=by
  have Ie:24≤s.b:=hm.2.2.1
  refine ⟨Int.mul_nonneg (by omega) (by omega),?_⟩
  have:=Int.mul_le_mul_of_nonneg_right (show (seg:Int)+1≤s.a by omega) (show 0≤s.b by omega)
  rw[Int.add_mul,Int.one_mul] at this
  exact this
 have hlen:∀ i,(zh k0 s seg i).length=64:=fun i=>by
  unfold zh
  split
  ·refine hk0.heldSecs.get _ ?_
   rw[hk0.heldLen]
   omega
  ·exact zC 64
 refine ⟨fun X k W i h hi=>?_,fun X S k W W' h hk hS=>⟨h.1.put hk fun b hb hn=>⟨(hS b hb hn).1,fun e=>?_,fun e=>?_⟩,h.2⟩,fun X k W h=>h.1.off,fun X k W h hx=>⟨h.1.back hx h1 h2,h.2⟩,hlen,fun i=>?_⟩
 ·refine (FE h.1 h.2.1 hm hseg hroom hn i hi (by rw[kZ h.2.2.1]; exact hlen i)).mono ?_
  rintro e W' ⟨rfl,hs,hk⟩
  rw[kZ h.2.2.1]
  exact ⟨rfl,⟨hs,WT h.2.1 i,(WS h.2.1 i).trans h.2.2.1,(zCT h.2.1 i).trans h.2.2.2⟩,hk⟩
 ·have:=(hS b hb hn).2; omega
 ·have:=(hS b hb hn).2; omega
 ·unfold zh
  split
  ·exact hk0.heldBytes _
  ·intro j
   unfold noughts
   simp only[List.getD,List.getElem?_replicate]
   split <;> simp
end
end
section
structure dz (bs:List Int):Prop where
 byt:Bytes bs
 may:vK bs
 need:jU bs=bs.length
theorem dz.len {bs:List Int} (h:dz bs):22≤bs.length∧bs.length≤783:=by
 have h1:=h.may
 have h2:=h.need
 unfold vK May at h1
 unfold jU at h2
 omega
theorem zEB {k f x s:Int} {us vs:List Int} (hm:May k f x s us.length vs.length) (hr:oJ f x s) (hu:Bytes us) (hv:Bytes vs):dz (qI k f x s us vs):=by
 have hm2:=hm
 unfold May at hm2
 obtain ⟨f0,f1,x0,x1,s0,s1⟩:=hr
 have e:qI k f x s us vs=qI k f x s us vs++[]:=by rw[List.append_nil]
 have e1:kindOf (qI k f x s us vs)=k:=by rw[e]; exact GN
 have e2:flagsOf (qI k f x s us vs)=f:=by rw[e]; exact Wh (by omega) (by omega)
 have e3:qA (qI k f x s us vs)=x:=by rw[e]; exact MF (by omega) (by omega)
 have e4:zo (qI k f x s us vs)=s:=by rw[e]; exact ME (by omega) (by omega)
 have e5:zH (qI k f x s us vs)=us.length:=by rw[e]; exact ug (by omega)
 have e6:zO (qI k f x s us vs)=vs.length:=by rw[e]; exact ZT (by omega)
 refine ⟨KH (by omega) hu hv,?_,?_⟩
 ·unfold vK; rw[e1,e2,e3,e4,e5,e6]; exact hm
 ·unfold jU; rw[e5,e6,dQ]
theorem lZ {V:Nat→List Int} {E:Nat→Int} {gen:Int} {at_:Nat} {bs:List Int} (hr:dz bs) (hV:∀ j,j<zD bs.length→V (at_+j)=qU gen ((at_:Int)+j) (partOf bs j)) (hE:∀ j,j<zD bs.length→E (at_+j)=0)
 (hg:1≤gen∧gen≤18446744073709551615) (hat:at_≤100000) :
 jN V E gen at_=0∧ze (V at_) gen at_=zD bs.length∧qW (zi V at_ (zD bs.length))=bs:=by
 have hl:=hr.len
 have hc1:1≤zD bs.length∧zD bs.length≤17:=by unfold zD; omega
 have zBJ:zi V at_ (zD bs.length)=qh gen at_ bs:=by
  unfold zi qh
  refine List.map_congr_left fun j hj=>?_
  exact hV j (List.mem_range.1 hj)
 have h0:V at_=(qh gen (at_:Int) bs).getD 0 []:=by
  rw[sD gen _ bs 0 (by omega)]
  exact hV 0 (by omega)
 have hs:=lV (xs:=bs) hg.1 hg.2 (pos:=(at_:Int)) (by omega) 0 (by omega) (by omega)
 rw[← h0] at hs
 obtain ⟨s1,s2,_,s4,s5⟩:=hs
 have hp:(partOf bs 0)=bs.take 48:=by unfold partOf; simp
 rw[hp] at s4
 have hmb:vK (bs.take 48):=by
  unfold vK
  rw[aK _ _ (by omega),uJ _ _ (by omega),Zu _ _ (by omega),ZH _ _ (by omega),sK _ _ (by omega),ru _ _ (by omega)]
  exact hr.may
 have hnd:jU (bs.take 48)=bs.length:=by
  unfold jU
  rw[sK _ _ (by omega),ru _ _ (by omega)]
  exact hr.need
 have h21:21≤(bs.take 48).length:=by rw[List.length_take]; omega
 have hb:ze (V at_) gen at_=zD bs.length:=by
  unfold ze
  rw[s4,show aI (bs.take 48) (bs.take 48).length=0 from if_pos ⟨h21,hmb⟩,show rT (bs.take 48) (bs.take 48).length=bs.length from (if_pos ⟨h21,hmb⟩).trans hnd]
  rw[if_pos ⟨s5,s1,by rw[s2]; simp,rfl⟩]
 have hst:Q0 (zi V at_ (ze (V at_) gen at_)):=by
  rw[hb,zBJ]
  have hme:=Qr (xs:=bs) hg.1 hg.2 (pos:=(at_:Int)) (by omega) (by omega)
  refine ⟨FI hg.1 hg.2 (by omega) (by omega),?_,?_⟩
  ·rw[hme]; exact ⟨by omega,hr.may,by rw[hr.need]; exact nR _⟩
  ·rw[hme]; exact hr.need
 refine ⟨(Qq (by have:=hE 0 (by omega); simpa using this) (by omega) (fun q h1 h2=>hE q (by omega))).1 hst,hb,?_⟩
 rw[zBJ]
 exact Qr hg.1 hg.2 (by omega) (by omega)
def G8 (H:List (List Int)) (i:Nat):List (List Int)→List (List Int)
 | []=>H
 | y::r=>G8 (H.set i y) (i+1) r
theorem G7:∀ (xss H:List (List Int)) (i j:Nat),i+xss.length≤H.length→(G8 H i xss).getD j []=if i≤j∧j<i+xss.length then xss.getD (j-i) [] else H.getD j []
 | [],H,i,j,_=>by
  unfold G8
  rw[if_neg (by simp)]
 | y :: r, H, i, j, h => by
  unfold G8
  simp only[List.length_cons] at h ⊢
  rw[G7 r (H.set i y) (i+1) j (by rw[List.length_set]; omega)]
  by_cases h1:i=j
  ·subst h1
   rw[if_neg (by omega),if_pos (by omega)]
   have hi:i<H.length:=by omega
   simp[List.getD,List.getElem?_set_self hi]
  ·by_cases h2:i+1≤j∧j<i+1+r.length
   ·rw[if_pos h2,if_pos (by omega)]
    rw[show j-i=(j-(i+1))+1 by omega]
    simp[List.getD]
   ·rw[if_neg h2,if_neg (by omega)]
    simp[List.getD,List.getElem?_set_ne h1]
theorem Bn:∀ (xss:List (List Int)) (k:Dk) (i:Nat),Good k→(fH k i xss).1.held=G8 k.held i xss
 | [],k,i,h=>rfl
 | ys::r,k,i,h=>by
  unfold fH
  rw[if_pos h.wre,Bn r _ (i+1) (h.put i ys),h.held_put]
  rfl
theorem Wj {b p q i j:Nat} (hi:i<b) (hj:j<b) (h:p*b+i=q*b+j):p=q∧i=j:=by
 rcases Nat.lt_trichotomy p q with h1 | h1 | h1
 ·have:=Nat.mul_le_mul_right b (show p+1≤q by omega)
  rw[Nat.add_mul,Nat.one_mul] at this
  omega
 ·subst h1; omega
 ·have:=Nat.mul_le_mul_right b (show q+1≤p by omega)
  rw[Nat.add_mul,Nat.one_mul] at this
  omega
theorem LD {b p a i n:Nat} (hp:p<a) (hi:i≤b) (hn:2+a*b≤n):2+(p*b+i)≤n:=by
 have:=Nat.mul_le_mul_right b (show p+1≤a by omega)
 rw[Nat.add_mul,Nat.one_mul] at this
 omega
theorem iM (i b u:Nat):(2+(i:Int)*(b:Int)+(u:Int)).toNat=2+(i*b+u):=by
 rw[← Int.natCast_mul]
 generalize i*b=M
 omega
section
variable {k:Dk} {s:Sup} {xs:List Seg} {n:Nat}
theorem RZ {bs:List Int} (hg:Good k) {a b u i:Nat} (ha:s.a=a) (hb:s.b=b) (hu:zI xs i=u) (hn:k.held.length=n) (hroom:2+a*b≤n) (hi:i<a) (hfit:u+zD bs.length≤b) (seg j:Nat) (hj:j<b) :
 zh (iB k s xs i bs) s seg j=if seg=i∧u≤j∧j<u+zD bs.length then qU (zM xs i) (j:Int) (partOf bs (j-u)) else zh k s seg j:=by
 have hpos:(2+(i:Int)*s.b+zI xs i).toNat=2+(i*b+u):=by
  rw[hb,hu]
  exact iM i b u
 have hp2:(2+(seg:Int)*s.b+(j:Int)).toNat=2+(seg*b+j):=by
  rw[hb]
  exact iM seg b j
 have hw:=LD hi (show u+zD bs.length≤b from hfit) hroom
 unfold zh
 rw[if_pos (by omega),hp2]
 unfold iB
 rw[Bn _ _ _ hg,hpos,G7 _ _ _ _ (by rw[yA,hn]; omega),yA]
 by_cases h:2+(i*b+u)≤2+(seg*b+j)∧2+(seg*b+j)<2+(i*b+u)+zD bs.length
 ·obtain ⟨e1,e2⟩:=Wj (p:=seg) (q:=i) (i:=j) (j:=u+(seg*b+j-(i*b+u))) hj (by omega) (by omega)
  subst e1
  rw[if_pos h,if_pos ⟨rfl,by omega,by omega⟩,show 2+(seg*b+j)-(2+(seg*b+u))=j-u by omega,sD _ _ _ _ (by omega),hu,show (u:Int)+((j-u:Nat):Int)=(j:Int) by omega]
 ·rw[if_neg h,if_neg (fun h2=>h (by obtain ⟨rfl,h3,h4⟩:=h2; omega)),if_pos (show (j:Int)<s.b by omega)]
theorem Tm (t:Int):vT t<2:=by unfold vT; omega
theorem Sk (hg:Good k) {b i:Nat} (hb:s.b=b) (t:Int) (seg j:Nat) (hj:j<b) (hj1:1≤j∨seg≠i):zh (vo k s t i) (jR s) seg j=zh k s seg j:=by
 have hp1:(2+(i:Int)*s.b).toNat=2+(i*b+0):=by
  rw[hb]
  have h9:=iM i b 0
  simpa using h9
 have hp2:(2+(seg:Int)*s.b+(j:Int)).toNat=2+(seg*b+j):=by
  rw[hb]
  exact iM seg b j
 have hs:=Tm t
 have hne:¬ (2+(i*b+0)=2+(seg*b+j)):=fun e=>by
  obtain ⟨e1,e2⟩:=Wj (p:=i) (q:=seg) (i:=0) (j:=j) (by omega) hj (by omega)
  omega
 unfold zh
 rw[if_pos (show (j:Int)<(jR s).b by show (j:Int)<s.b; omega),if_pos (by omega)]
 show (vo k s t i).held.getD (2+(seg:Int)*s.b+j).toNat []=_
 rw[hp2]
 unfold vo bT
 rw[((hg.put _ _).sync.put _ _).held_sync,(hg.put _ _).sync.held_put,(hg.put _ _).held_sync,hg.held_put,hp1]
 simp only[List.getD]
 rw[List.getElem?_set_ne hne,List.getElem?_set_ne (by omega)]
end
structure AtR (k:Dk) (s:Sup) (xs:List Seg) (a:Int × Int × Int) (bs:List Int):Prop where
 rok:dz bs
 here:∃ i c:Nat,a=((i:Int),zM xs i,(c:Int))∧i<xs.length∧1≤c∧(c:Int)+zD bs.length≤zI xs i∧∀ j,j<zD bs.length→zh k s i (c+j)=qU (zM xs i) ((c:Int)+j) (partOf bs j)
section
variable {k k':Dk} {s:Sup} {xs:List Seg} {a:Int × Int × Int} {bs:List Int}
theorem AtR.held (h:AtR k s xs a bs) (hk:k'.held=k.held):AtR k' s xs a bs:=by
 obtain ⟨h1,i,c,e,h2,h3,h4,h5⟩:=h
 exact ⟨h1,i,c,e,h2,h3,h4,fun j hj=>by rw[kZ hk]; exact h5 j hj⟩
theorem rz {sec:Int} {xs:List Seg} (h:qp sec xs) {j:Nat} (hj:j<xs.length) (h0:qE xs j=0):zI xs j=0:=by
 have hm:=mR h.2.1 hj
 unfold xY at hm
 rw[if_pos h0] at hm
 exact hm.2
theorem gW {sec:Int} {xs:List Seg} (h:qp sec xs) {j:Nat} (hj:j<xs.length):zI xs j≤sec∧24≤sec∧sec≤64:=by
 have hz:=h.1
 unfold qj at hz
 refine ⟨?_,by omega,by omega⟩
 by_cases h0:qE xs j=0
 ·rw[rz h hj h0]; omega
 ·exact (fB (mR h.2.1 hj) h0).2.2.2
theorem Ll {n:Nat} (hg:Good k) (hok:qp s.b xs) (hn:k.held.length=n) (hroom:2+s.a*s.b≤(n:Int)) (wG:(xs.length:Int)=s.a) {i:Nat} (ho:qO xs=(i:Nat)) {vw:List Int} (hr:dz vw) (hfit:((zD vw.length:Nat):Int)≤jB s.b xs) :
 AtR (iB k s xs i vw) s (qL xs ((zD vw.length:Nat):Int)) ((i:Int),zM xs i,zI xs i) vw ∧
 ∀ a bs,AtR k s xs a bs→AtR (iB k s xs i vw) s (qL xs ((zD vw.length:Nat):Int)) a bs∧a≠((i:Int),zM xs i,zI xs i):=by
 obtain ⟨o1,o2,o3,o4,o5,o6⟩:=gq hok ho
 have hE:=uW hok (n:=((zD vw.length:Nat):Int)) (by omega) (by omega) hfit
 obtain ⟨i2,u1,u2,u3,u4,u5,u6,u7,u8,u9,u10,u11⟩:=fK hE
 obtain rfl:i2=i:=by omega
 have hc2:1≤zD vw.length:=by unfold zD; omega
 obtain ⟨b,hb⟩:∃ b:Nat,s.b=b:=⟨s.b.toNat,by have hz:=hok.1; unfold qj at hz; omega⟩
 obtain ⟨u,hu⟩:∃ u:Nat,zI xs i2=u:=⟨(zI xs i2).toNat,by omega⟩
 have o7:2+xs.length*b≤n:=by
  rw[← wG,hb] at hroom
  have:((xs.length*b:Nat):Int)=(xs.length:Int)*(b:Int):=by push_cast; rfl
  omega
 have hV:=fun seg j hj=>RZ (seg:=seg) (j:=j) (bs:=vw) hg (a:=xs.length) (b:=b) (u:=u) (i:=i2) wG.symm hb hu hn o7 u1 (by omega) hj
 have Bc:∀ j,j<xs.length→zI xs j≤zI (qL xs ((zD vw.length:Nat):Int)) j:=fun j hj=>by
  rw[u10,bQ u1]
  by_cases e:i2=j
  ·subst e; rw[if_pos rfl]; show zI xs i2≤zI xs i2+_; omega
  ·rw[if_neg e]; omega
 have hgen:∀ j,zM (qL xs ((zD vw.length:Nat):Int)) j=zM xs j:=fun j=>by
  rw[u10,rH u1]
  by_cases e:i2=j
  ·subst e; rw[if_pos rfl]
  ·rw[if_neg e]
 refine ⟨⟨hr,i2,u,by rw[hgen,hu],by omega,by omega,by rw[u8,hu]; omega,fun j hj=>?_⟩,fun a bs h=>?_⟩
 ·rw[hV i2 (u+j) (by omega),if_pos ⟨rfl,by omega,by omega⟩,hgen,show u+j-u=j by omega]
  push_cast
  rfl
 ·obtain ⟨h1,j,c,e,h2,h3,h4,h5⟩:=h
  refine ⟨⟨h1,j,c,by rw[hgen]; exact e,by omega,h3,by have:=Bc j h2; omega,fun q hq=>?_⟩,fun e2=>?_⟩
  ·have hub:zI xs j≤b:=by
    by_cases ej:j=i2
    ·subst ej; omega
    ·have:=gW hok h2; omega
   rw[hV j (c+q) (by omega),hgen]
   by_cases ej:j=i2
   ·subst ej
    rw[if_neg (by omega)]
    exact h5 q hq
   ·rw[if_neg (fun h=>ej h.1)]
    exact h5 q hq
  ·rw[e] at e2
   injection e2 with e3 e4
   injection e4 with e5 e6
   have:j=i2:=by omega
   subst this
   have:1≤zD bs.length:=by unfold zD; omega
   omega
theorem zHf (hg:Good k) (hok:qp s.b xs) (wG:(xs.length:Int)=s.a) (t:Int) {i:Nat} (hi:jQ xs=(i:Nat)) (hE:zZ s.b (zL s.b xs) (s.g+1)=0) (h:AtR k s xs a bs):AtR (vo k s t i) (jR s) (qC (zL s.b xs) (s.g+1)) a bs:=by
 have hz:zL s.b xs=if jP s.b xs=0 then vN xs else xs:=rfl
 obtain ⟨z1,z2,z3,z4,z5,z6,z7⟩:=wW hok hz
 obtain ⟨j,j1,j2,j3,j4,j5,j6,j7,j8,j9,j10,j11⟩:=gy hE
 obtain rfl:j=i:=by omega
 obtain ⟨b,hb⟩:∃ b:Nat,s.b=b:=⟨s.b.toNat,by have hz:=hok.1; unfold qj at hz; omega⟩
 have hst:qE xs j=0:=by
  rcases iO xs with ⟨e,_⟩ | ⟨q,q1,q2,q3,_⟩
  ·omega
  ·rw[q2] at hi
   have:(jd xs+1+(q:Nat)).toNat % xs.length=j:=by omega
   rw[this] at q3
   exact q3
 have hu0:=rz hok (by omega) hst
 obtain ⟨h1,p,c,e,h2,h3,h4,h5⟩:=h
 have hc:1≤zD bs.length:=by unfold zD; omega
 have U0:p≠j:=fun e=>by subst e; omega
 have hub:=gW hok h2
 have hg2:zM (qC (zL s.b xs) (s.g+1)) p=zM xs p:=by
  rw[j11,rH j1,if_neg (Ne.symm U0)]; exact (z7 p).2.1
 have hu2:zI (qC (zL s.b xs) (s.g+1)) p=zI xs p:=by
  rw[j11,bQ j1,if_neg (Ne.symm U0)]; exact (z7 p).2.2
 refine ⟨h1,p,c,by rw[hg2]; exact e,by omega,h3,by rw[hu2]; exact h4,fun q hq=>?_⟩
 rw[hg2,Sk hg hb t p (c+q) (by omega) (.inl (by omega))]
 exact h5 q hq
end
end
section
attribute [local go_sem] Oper.semAt_some
section
variable {σ:Type} {f:Nat} {cs:List Value} {X0 X Y S:Nat→Prop} {V:Nat→List Int} {E:Nat→Int} {nx:σ→Nat→σ} {R:(Nat→Prop)→σ→World→Prop} {w W W':World} {st:σ}
structure nE (R:(Nat→Prop)→σ→World→Prop) (w:World) (X0:Nat→Prop) (st:σ) (X:Nat→Prop) (W:World):Prop where
 r:R X st W
 x0:∀ b,X0 b→X b
 lt0:∀ b,X0 b→b<w.heap.size
 k:Kept X0 w W
 res:z8 W w.heap.size 33 zP
 xr:X w.heap.size
abbrev newX (X:Nat→Prop) (W W':World):Nat→Prop:=fun b=>X b∨(W.heap.size≤b∧b<W'.heap.size)
theorem nE.start (H:bH f cs w.heap.size X0 V E nx R) (h:R X0 st w):nE R w X0 st (newX X0 w (w.alloc (.cells zP 33))) (w.alloc (.cells zP 33)):=by
 have hk:Kept (fun b=>b<w.heap.size) w (w.alloc (.cells zP 33)):=(Kept.refl _ w).alloc (fun b h=>h) _
 exact ⟨H.put X0 _ st w _ h hk (fun b hb hn=>absurd hb hn),fun b hb=>.inl hb,H.lt _ _ _ h,hk.mono (H.lt _ _ _ h),z8.new w _ _,.inr ⟨nR _,by simp⟩⟩
theorem nE.mem (H:bH f cs w.heap.size X0 V E nx R) (h:nE R w X0 st X W) (hb:Below W.heap.size W W'):nE R w X0 st (newX X W W') W':=by
 have hk:Kept (fun b=>b<W.heap.size) W W':=Kept.of_below hb (fun b h=>h)
 exact ⟨H.put X _ st W _ h.r hk (fun b hb hn=>absurd hb hn),fun b hb=>.inl (h.x0 b hb),h.lt0,h.k.trans hk (fun b hb=>nL (h.lt0 b hb) h.k.size),h.res.below hb h.res.lt,.inl h.xr⟩
theorem nE.held (h:nE R w X0 st X W) {st':σ} (hr:R X st' W') (hk:Kept X W W'):nE R w X0 st' X W' :=
 ⟨hr,h.x0,h.lt0,h.k.trans hk h.x0,h.res.kept hk h.xr,h.xr⟩
theorem nE.grown (H:bH f cs w.heap.size X0 V E nx R) (h:nE R w X0 st X W) {row:Option Nat} (hg:W.grownBy W' row) (hr:∀ g,row=some g→X g∧w.heap.size<g):nE R w X0 st (newX X W W') W':=by
 have hk:Kept (fun b=>b<W.heap.size∧row≠some b) W W':=⟨hg.os,hg.tape,hg.output,hg.size,fun k hk=>hg.block k hk.1 (fun e=>hk.2 e.symm)⟩
 refine ⟨H.put X _ st W _ h.r hk (fun b hb hn=>?_),fun b hb=>.inl (h.x0 b hb),h.lt0,h.k.trans hk (fun b hb=>⟨nL (h.lt0 b hb) h.k.size,fun e=>?_⟩),h.res.kept hk ⟨h.res.lt,fun e=>?_⟩,.inl h.xr⟩
 ·by_cases e:row=some b
  ·exact ⟨(hr b e).1,Nat.le_of_lt (hr b e).2⟩
  ·exact absurd ⟨hb,e⟩ hn
 ·have h1:=(hr b e).2; have h2:=h.lt0 b hb; omega
 ·have h1:=(hr _ e).2; omega
theorem nE.finZ (H:bH f cs w.heap.size X0 V E nx R) (h:nE R w X0 st X W) (c6:Array Value):∃ Z:Nat→Prop,(∀ b,X b→Z b)∧(∀ b,X0 b→Z b)∧R Z st (W.setRow w.heap.size c6):=by
 have hk:Kept (fun b=>b≠w.heap.size) W (W.setRow w.heap.size c6):=(Kept.refl _ W).setRow (g:=w.heap.size) (fun h=>h rfl) c6
 refine ⟨_,fun b hb=>.inl hb,fun b hb=>.inl (h.x0 b hb),H.put X _ st W _ h.r hk (fun b hb hn=>?_)⟩
 have e:b=w.heap.size:=by by_cases e:b=w.heap.size; exact e; exact absurd e hn
 subst e
 exact ⟨h.xr,nR _⟩
theorem nE.fin (H:bH f cs w.heap.size X0 V E nx R) (h:nE R w X0 st X W) (c6:Array Value):R X0 st (W.setRow w.heap.size c6)∧Kept X0 w (W.setRow w.heap.size c6)∧z8 (W.setRow w.heap.size c6) w.heap.size 33 c6∧Kept (fun b=>b≠w.heap.size) W (W.setRow w.heap.size c6):=by
 have hk:Kept (fun b=>b≠w.heap.size) W (W.setRow w.heap.size c6):=(Kept.refl _ W).setRow (g:=w.heap.size) (fun h=>h rfl) c6
 refine ⟨H.back _ _ _ (H.put X _ st W _ h.r hk (fun b hb hn=>?_)) (fun b hb=>.inl (h.x0 b hb)),h.k.trans hk (fun b hb=>Nat.ne_of_lt (h.lt0 b hb)),setRow_heap _ _ _ c6 _ _ h.res,hk⟩
 have e:b=w.heap.size:=by by_cases e:b=w.heap.size; exact e; exact absurd e hn
 subst e
 exact ⟨h.xr,nR _⟩
theorem MJ {base size n:Nat} {e:TypeId} {v:Value} {xs:List Value} (ho:W.ownsRow base e size v n xs) (hk:Kept X W W') (hX:∀ g,v.ownBlock=some g→X g):W'.ownsRow base e size v n xs:=by
 rcases ho.2 with h0 | ⟨g',cap,cur,rfl,hbs,hh,rest⟩
 ·exact ⟨ho.1,.inl h0⟩
 ·exact ⟨ho.1,.inr ⟨g',cap,cur,rfl,hbs,(hk.block g' (hX g' (by simp[Value.ownBlock]))).trans hh,rest⟩⟩
end
theorem Gd (w:World) (base:Nat) {ys:List Int} (hl:ys.length=64) (hb:base≤w.heap.size):(w.alloc (.cells (zA ys) 186)).ownsRow base 186 64 (.slice (some ⟨w.heap.size,0,none⟩) 1 1) 1 (ys.map (Value.int .u8)) :=
 ⟨by simp[hl],.inr ⟨w.heap.size,1,_,rfl,hb,heap_alloc_last w _,nR _,by decide,by simp[jI,hl],by rw[List.take_of_length_le (by simp[jI,hl])]; rfl⟩⟩
def KR:Value→Nat
 | .slice _ n _=>n
 | _=>0
theorem Gf {w:World} {base size n:Nat} {e:TypeId} {v:Value} {xs:List Value} (ho:w.ownsRow base e size v n xs):KR v=n:=by
 rcases ho.2 with ⟨rfl,rfl⟩ | ⟨g',cap,cur,rfl,_⟩ <;> rfl
theorem Vh {ys:List Int} (hb:Bytes ys):Bytes (zS ys):=by
 unfold zS
 split
 ·exact jW hb 16 _
 ·exact fun j=>by simp
theorem um:∀ {xss:List (List Int)},(∀ i,Bytes (xss.getD i []))→Bytes (qW xss)
 | [],_=>fun j=>by simp[qW]
 | xs::xss,h=>by
  have h1:=Vh (h 0)
  have h2:=um (xss:=xss) fun i=>h (i+1)
  have e:qW (xs::xss)=zS xs++qW xss:=by simp[qW]
  rw[e]
  exact bytes_append h1 h2
theorem J4:∀ (xss:List (List Int)),(qW xss).length≤48*xss.length
 | []=>by simp[qW]
 | xs::xss=>by
  have h1:=nu xs
  have h2:=J4 xss
  have e:qW (xs::xss)=zS xs++qW xss:=by simp[qW]
  rw[e,List.length_append,List.length_cons]
  omega
abbrev jZ (xs:List Int) (b1 b2:Nat):Array Value:=#[.int .i64 (kindOf xs),.int .u32 (flagsOf xs),.int .u32 (qA xs),.int .u64 (zo xs),.slice (some ⟨b1,0,none⟩) (zH xs) (zH xs),.slice (some ⟨b2,0,none⟩) (zO xs) (zO xs)]
theorem yC {V:Nat→List Int} {E:Nat→Int} {gen:Int} {at_:Nat} {e:Int} {p:Prop} (h:jN V E gen at_=e) (hne:e≠0) :
 (jN V E gen at_=0→p):=fun h0=>absurd (h.symm.trans h0) hne
theorem mK {σ:Type} {X0:Nat→Prop} {V:Nat→List Int} {E:Nat→Int} {nx:σ→Nat→σ} {R:(Nat→Prop)→σ→World→Prop} {w:World} {st:σ} (c0 c1:Value) (H:bH 122 [c0,c1] w.heap.size X0 V E nx R) (h:R X0 st w) (gen:Int) (at_:Nat) (hat:at_≤90000) :
 Calls Tryz.prog 55 #[.func (.func 122) #[] #[c0,c1],.int .u64 gen,.int .i64 at_] w (Ky R nx X0 st V E gen at_ w):=by
 have HLEN:=hI H.len
 have Yo:=hI H.byt
 have HS:=hI (nE.start H h)
 have H:=hI H
 have hc:=H.out.call _ _ _ at_ HS.out.r (by omega)
 have sw:=hI hc
 clear h hc
 obtain ⟨w1,hw1⟩:∃ w1,w1=w.alloc (.cells zP 33):=⟨_,rfl⟩
 rw[← hw1] at HS sw
 obtain ⟨X1,hX1⟩:∃ X1,newX X0 w w1=X1:=⟨_,rfl⟩
 rw[hX1] at HS sw
 have hsz1:w.heap.size<w1.heap.size:=HS.out.res.lt
 go_enter Tryz.func55,Tryz.ntmps55
 go_upto_region 1 with fail
 rw[← hw1]
 clear hw1 hX1
 go_wp2_with fail
 refine sw.out.mono ?_
 rintro e v1 ⟨rfl,hr1,hk1⟩
 have HS:=hI (HS.out.held hr1 hk1)
 have hsv:w1.heap.size≤v1.heap.size:=hk1.size
 obtain ⟨w2,hw2⟩:∃ w2,w2=v1.alloc (.cells (zA (V at_)) 186):=⟨_,rfl⟩
 have hb2:Below v1.heap.size v1 w2:=by rw[hw2]; exact (Below.refl _ v1).alloc (nR _) _
 have HA2:=hI (show qB w2 v1.heap.size (V at_) by rw[hw2]; exact z8.new v1 _ _)
 have HS:=hI (HS.out.mem H.out hb2)
 have hsz2:=hb2.size
 have HW2:=hI hw2
 have kV:=HLEN.out at_
 clear hr1 hk1 hb2 hw2 sw
 obtain ⟨ys,hys⟩:∃ ys,V at_=ys:=⟨_,rfl⟩
 rw[hys] at kV HA2 HW2 ⊢
 by_cases he:E at_=0
 case neg =>
  have hne:(E at_ != 0)=true:=by simp[he]
  obtain ⟨se,sr⟩:=Qo (V:=V) (gen:=gen) he
  have HE:=hI he
  have HF:=hI (HS.out.fin H.out zP)
  have jq:=hI HS.out.res
  have jv:=hI se
  have Jb:=hI sr
  obtain ⟨e0,he0⟩:∃ e0,E at_=e0:=⟨_,rfl⟩
  rw[he0] at hne jv HE ⊢
  clear se sr he he0
  go_wp2_with (first | (with_reducible refine zJ ?_) | (refine zG rfl rfl ?_) | (refine zU (.tmp 9) (.tmp 22) rfl rfl v1 ys rfl rfl (noughts 64) rfl (zC 64) kV ?_; rw[← HW2.out]) | (refine zF (.tmp 6) (.tmp 26) 33 rfl rfl w.heap.size zP rfl rfl 33 _ jq.out zR rfl xC ?_))
  refine Halt.ret (zw (p:=6) (u:=7) (v:=8) rfl _ _ w.heap.size 33 zP _ rfl HF.out.2.2.1 Tryz.underlying33 rfl zR) rfl ⟨?_,HF.out.2.1,fun _=>by rw[jv.out]; rfl,yC jv.out HE.out⟩
  rw[Jb.out]
  exact HF.out.1
 have hne:(E at_ != 0)=false:=by simp[he]
 have Yd:=Yo.out at_
 rw[hys] at Yd
 have Qi:=hI (fun (U:World)=>Ku ys gen at_ U kV Yd (by omega))
 obtain ⟨cnt,hcnt⟩:∃ cnt,ze ys gen at_=cnt:=⟨_,rfl⟩
 rw[hcnt] at Qi
 have zMv:cnt≤17:=by rw[← hcnt]; exact Pg _ _ _
 have fF:=hI (show ze (V at_) gen at_=cnt by rw[hys]; exact hcnt)
 have Qh:=hI he
 rw[he] at hne ⊢
 clear he hcnt Yd
 go_upto_region 5 with (first | (refine zG rfl rfl ?_) | (refine zU (.tmp 9) (.tmp 22) rfl rfl v1 ys rfl rfl (noughts 64) rfl (zC 64) kV ?_; rw[← HW2.out]) | (refine zQ (.tmp 9) rfl rfl v1.heap.size 0 rfl ys kV HA2.out.range ?_) | (go_at_call 127; refine (Qi.out _).mono ?_; rintro e w3 ⟨rfl,hb3⟩))
 have HS:=hI (HS.out.mem H.out hb3)
 have yt:=hI (HA2.out.below hb3 HA2.out.lt)
 have zMZ:=hb3.size
 clear hb3
 generalize newX (newX X1 v1 w2) w2 w3=X3 at *
 by_cases hc0:cnt=0
 ·subst hc0
  obtain ⟨se,sr⟩:=ZE (V:=V) (gen:=gen) Qh.out fF.out
  have HF:=hI (HS.out.fin H.out zP)
  have jq:=hI HS.out.res
  have jv:=hI se
  have Jb:=hI sr
  clear se sr
  go_wp2_with (first | (with_reducible refine zJ ?_) | (refine zF (.tmp 6) (.tmp 34) 33 rfl rfl w.heap.size zP rfl rfl 33 _ jq.out zR rfl xC ?_))
  refine Halt.ret (zw (p:=6) (u:=7) (v:=8) rfl _ _ w.heap.size 33 zP _ rfl HF.out.2.2.1 Tryz.underlying33 rfl zR) rfl ⟨?_,HF.out.2.1,fun _=>by rw[jv.out]; rfl,yC jv.out (by decide)⟩
  rw[Jb.out]
  exact HF.out.1
 have hcq:((cnt:Int)==0)=false:=by simp; omega
 obtain ⟨w4,hw4⟩:∃ w4,w4=w3.alloc (.cells (zA ys) 186):=⟨_,rfl⟩
 have hb4:Below w3.heap.size w3 w4:=by rw[hw4]; exact (Below.refl _ w3).alloc (nR _) _
 have av:=hI (show w4.ownsRow (w.heap.size+1) 186 64 (.slice (some ⟨w3.heap.size,0,none⟩) 1 1) 1 ((flat (zi V at_ 1)).map (Value.int .u8)) by rw[hw4,K5,yJ,hys]; exact Gd _ _ kV (by omega))
 have yg:=hI (HS.out.mem H.out hb4)
 have DX:w3.heap.size<w4.heap.size:=by rw[hw4]; simp
 have nQ:=hI (show ∀ g,(Value.slice (some ⟨w3.heap.size,0,none⟩) 1 1).ownBlock=some g→newX X3 w3 w4 g from fun g hg=>by injection hg with hg; subst hg; exact .inr ⟨nR _,DX⟩)
 have nI:=hI hw4
 clear hb4 hw4 DX
 go_upto_region 8 with (first | (refine zQ (.tmp 9) rfl rfl v1.heap.size 0 rfl ys kV yt.out.range ?_) | (refine vD (.tmp 35) rfl rfl ys rfl kV ?_; rw[← nI.out]))
 clear yt HA2 HW2 nI kV hys HS
 go_loopw [12] (fun v wr=>∃ (j:Nat) (X:Nat→Prop),1≤j∧j≤cnt∧nE R w X0 (mM nx st at_ j) X wr∧wr.ownsRow (w.heap.size+1) 186 64 v j ((flat (zi V at_ j)).map (Value.int .u8))∧(∀ g,v.ownBlock=some g→X g)∧(∀ q,1≤q→q<j→E (at_+q)=0)) (fun v _=>cnt-KR v)
 case atStart=>exact ⟨1,_,nR _,by omega,yg.out,av.out,nQ.out,fun q h1 h2=>by omega⟩
 case round =>
  obtain ⟨j,X,hj1,hj,hS,hown,hX,hgood⟩:=hrel
  have pq:=hI (rQ HLEN.out at_ j)
  obtain ⟨A,cap,rfl,hnc,hn0,hrow⟩:=GJ hown pq.out
  have HS:=hI hS
  have HOWN:=hI hown
  have HX:=hI hX
  have dF:=hI hgood
  have xR:=hI hrow
  have HCAP:=hI hnc
  have iG:=hI hn0
  have hlw:w.heap.size<wr.heap.size:=hS.res.lt
  clear hS hown hX hgood hrow hnc hn0 yg av nQ
  by_cases hjc:j<cnt
  ·have hc:=H.out.call _ _ _ (at_+j) HS.out.r (by omega)
   rw[show ((at_+j:Nat):Int)=(at_:Int)+(j:Int) from by omega] at hc
   have HC:=hI hc
   clear hc
   go_wp2_with fail
   refine HC.out.mono ?_
   rintro e v2 ⟨rfl,hr2,hk2⟩
   have HS:=hI (HS.out.held hr2 hk2)
   have HOWN:=hI (MJ HOWN.out hk2 HX.out)
   have zMa:=hk2.size
   obtain ⟨zs,hzs⟩:∃ zs,V (at_+j)=zs:=⟨_,rfl⟩
   have vX:zs.length=64:=by rw[← hzs]; exact HLEN.out _
   obtain ⟨w5,jH⟩:∃ w5,w5=v2.alloc (.cells (zA zs) 186):=⟨_,rfl⟩
   have hb5:Below v2.heap.size v2 w5:=by rw[jH]; exact (Below.refl _ v2).alloc (nR _) _
   have mI:=hI (show qB w5 v2.heap.size zs by rw[jH]; exact z8.new v2 _ _)
   have pK:=hI jH
   have CS:=hI hzs
   have HS:=hI (HS.out.mem H.out hb5)
   have HOWN:=hI (own_below HOWN.out hb5)
   have hsz5:=hb5.size
   rw[hzs]
   have sU:=hI (show ∀ g,(Value.slice A j cap).ownBlock=some g→newX X v2 w5 g from fun g hg=>Or.inl (HX.out g hg))
   clear hr2 hk2 jH hzs hb5 HC
   generalize newX X v2 w5=X5 at *
   by_cases he:E (at_+j)=0
   ·have hne2:(E (at_+j) != 0)=false:=by simp[he]
    have Oa:=hI he
    rw[he] at hne2 ⊢
    obtain ⟨w6,xB⟩:∃ w6,w6=w5.alloc (.cells (zA zs) 186):=⟨_,rfl⟩
    have hb6:Below w5.heap.size w5 w6:=by rw[xB]; exact (Below.refl _ w5).alloc (nR _) _
    have H6:qB w6 w5.heap.size (flat [zs]):=by rw[xB,yJ]; exact z8.new w5 _ _
    have Zj:qY [zs]:=fun x hx=>by simp at hx; subst hx; exact vX
    have pI:=hI (H6.rowK Zj (n:=1) rfl (S:=fun _=>True) trivial)
    have Sr:=hI Zj
    have nS:=hI xB
    have vL:=hI (HS.out.mem H.out hb6)
    have Qc:=hI (own_below HOWN.out hb6)
    have I8:=hb6.size
    clear he hb6 H6 Zj xB
    go_wp2_with (first
     | (refine zG rfl rfl ?_)
     | (refine zU (.tmp 13) (.tmp 48) rfl rfl v2 zs rfl rfl (noughts 64) rfl (zC 64) vX ?_; rw[← pK.out])
     | (refine zQ (.tmp 13) rfl rfl v2.heap.size 0 rfl zs vX mI.out.range ?_)
     | (refine vD (.tmp 55) rfl rfl zs rfl vX ?_; rw[← nS.out])
     | (refine rZ (.tmp 54) (.tmp 56) rfl rfl (w.heap.size+1) (.slice A j cap) j _ rfl Qc.out (fun _=>True) (some ⟨w5.heap.size,0,none⟩) 1 1 [zs] rfl pI.out Sr.out (fun h=>by cases h) (by unfold maxLen; omega) (by omega) (by omega) ?_; intro v' w7 hown' hgrow' hblk'; rw[yJ] at hown'; have wQ:=hI hown'; have Y5:=hI hgrow'; have kN:=hI hblk'; clear hown' hgrow' hblk'))
    go_roundw
    case rel =>
     have ah:=hI (vL.out.grown H.out Y5.out (fun g hg=>⟨Or.inl (sU.out g hg),(Qc.out.lt g hg).1⟩))
     have IJ:∀ g,v'.ownBlock=some g→newX (newX X5 w5 w6) w6 w7 g:=fun g hg=>by
      rcases kN.out with h1 | h1
      ·rw[h1] at hg
       exact Or.inl (Or.inl (sU.out g hg))
      ·have h2:=(wQ.out.lt _ h1).2
       rw[h1] at hg
       injection hg with hg
       subst hg
       exact Or.inr ⟨nR _,h2⟩
     have Rz:w7.ownsRow (w.heap.size+1) 186 64 v' (j+1) ((flat (zi V at_ (j+1))).map (Value.int .u8)):=by
      rw[eU,jm,List.map_append,CS.out,yJ]
      exact wQ.out
     have aQ:∀ q,1≤q→q<j+1→E (at_+q)=0:=fun q h1 h2=>by
      by_cases e:q=j
      ·subst e; exact Oa.out
      ·exact dF.out q h1 (by omega)
     exact ⟨j+1,_,by omega,by omega,ah.out,Rz,IJ,aQ⟩
    case measure=>have hlv:=Gf wQ.out; show cnt-KR v'<cnt-j; omega
   ·have hne2:(E (at_+j) != 0)=true:=by simp[he]
    obtain ⟨se,sr⟩:=Qp (V:=V) (gen:=gen) Qh.out hj1 (by rw[fF.out]; exact hjc) dF.out he
    have HF:=hI (HS.out.fin H.out zP)
    have jq:=hI HS.out.res
    have HE:=hI he
    obtain ⟨e0,he0⟩:∃ e0,E (at_+j)=e0:=⟨_,rfl⟩
    rw[he0] at hne2 HE se ⊢
    have jv:=hI se
    have Jb:=hI sr
    clear se sr he he0
    go_wp2_with (first
     | (with_reducible refine zJ ?_)
     | (refine zG rfl rfl ?_)
     | (refine zU (.tmp 13) (.tmp 48) rfl rfl v2 zs rfl rfl (noughts 64) rfl (zC 64) vX ?_; rw[← pK.out])
     | (refine zF (.tmp 6) (.tmp 52) 33 rfl rfl w.heap.size zP rfl rfl 33 _ jq.out zR rfl xC ?_))
    refine Halt.ret (zw (p:=6) (u:=7) (v:=8) rfl _ _ w.heap.size 33 zP _ rfl HF.out.2.2.1 Tryz.underlying33 rfl zR) rfl ⟨?_,HF.out.2.1,fun _=>by rw[jv.out]; rfl,yC jv.out HE.out⟩
    rw[Jb.out]
    exact HF.out.1
  ·obtain rfl:cnt=j:=by omega
   have hall:=Qq (V:=V) (gen:=gen) (E:=E) (at_:=at_) Qh.out (by rw[fF.out]; omega) (by rw[fF.out]; exact dF.out)
   rw[fF.out] at hall
   have yK:=hI hall
   have VN:=hI (um (bU Yo.out at_ cnt))
   have II:=xS V at_ cnt
   have OT:=hI (PK A cnt cap (zi V at_ cnt) _ wr xR.out (fun b h=>h.2.1) pq.out (bU Yo.out at_ cnt) (by omega))
   obtain ⟨xss,uz⟩:∃ xss,zi V at_ cnt=xss:=⟨_,rfl⟩
   rw[uz] at yK VN II OT
   have Z0:=hI uz
   clear hall uz HOWN xR pq dF HX
   go_wp2_with fail
   refine OT.out.mono ?_
   rintro e w8 hjn
   by_cases hch:Chain xss
   case neg =>
    obtain ⟨rfl,jK⟩:=hjn.2 (fun h=>hch h.2)
    have jv:=hI (yK.out.2.1 (fun h=>hch h.1))
    have HS:=hI (HS.out.mem H.out jK)
    have HF:=hI (HS.out.fin H.out zP)
    have jq:=hI HS.out.res
    clear hjn hch jK
    go_wp2_with (first | (with_reducible refine zJ ?_) | (refine zF (.tmp 6) (.tmp 65) 33 rfl rfl w.heap.size zP rfl rfl 33 _ jq.out zR rfl xC ?_))
    refine Halt.ret (zw (p:=6) (u:=7) (v:=8) rfl _ _ w.heap.size 33 zP _ rfl HF.out.2.2.1 Tryz.underlying33 rfl zR) rfl ⟨?_,HF.out.2.1,fun _=>by rw[jv.out]; rfl,yC jv.out (by decide)⟩
    rw[yK.out.2.2]
    exact HF.out.1
   obtain ⟨A8,c8,rfl,Xf,jK,hc8⟩:=hjn.1 ⟨by omega,hch⟩
   have HS:=hI (HS.out.mem H.out jK)
   obtain ⟨ms,hms⟩:∃ ms,qW xss=ms:=⟨_,rfl⟩
   rw[hms] at Xf hc8 VN ⊢
   have Jg:=hI hms
   have Y8:=hI hch
   have bI:=hI Xf
   have Cz:=hI hc8
   have hs8:=jK.size
   have hml:ms.length≤100000:=by rw[← hms]; have:=J4 xss; omega
   clear hms hch Xf jK hjn hc8
   by_cases hdk:XF ms ms.length
   case neg =>
    have Ob:=hI (Uf A8 ms.length c8 ms _ w8 bI.out (fun b h=>h.2) VN.out Cz.out hdk)
    have jv:=hI (yK.out.2.1 (fun h=>hdk (by have:=h.2.1; rw[Jg.out] at this; exact this)))
    obtain ⟨eo,heo⟩:∃ eo,dx ms ms.length=eo:=⟨_,rfl⟩
    have zMu:(eo != 0)=true:=by rcases Xk ms ms.length with h | h <;> (rw[← heo,h]; rfl)
    rw[heo] at Ob
    clear heo hdk
    go_wp2_with fail
    refine Ob.out.mono ?_
    rintro e w9 ⟨rfl,bC⟩
    obtain ⟨w10,vG⟩:∃ w10,w10=w9.alloc (.cells zP 33):=⟨_,rfl⟩
    have xP:Below w9.heap.size w9 w10:=by rw[vG]; exact (Below.refl _ w9).alloc (nR _) _
    have Yj:=hI vG
    have HS:=hI ((HS.out.mem H.out bC).mem H.out xP)
    have HF:=hI (HS.out.fin H.out zP)
    have jq:=hI HS.out.res
    clear bC vG xP
    go_upto_region 17 with fail
    rw[← Yj.out]
    go_wp2_with (first | (with_reducible refine zJ ?_) | (refine zF (.tmp 6) (.tmp 80) 33 rfl rfl w.heap.size zP rfl rfl 33 _ jq.out zR rfl xC ?_))
    refine Halt.ret (zw (p:=6) (u:=7) (v:=8) rfl _ _ w.heap.size 33 zP _ rfl HF.out.2.2.1 Tryz.underlying33 rfl zR) rfl ⟨?_,HF.out.2.1,fun _=>by rw[jv.out]; rfl,yC jv.out (by decide)⟩
    rw[yK.out.2.2]
    exact HF.out.1
   have VK:=hI (Ue A8 ms.length c8 ms _ w8 bI.out (fun b h=>h.2) VN.out hdk.1 Cz.out hdk.2.1 hdk.2.2)
   have HDK:=hI hdk
   clear hdk
   go_wp2_with fail
   refine VK.out.mono ?_
   rintro e w9 ⟨b1,b2,rfl,hn1,hn2,hnb,ha1,ha2,bC⟩
   obtain ⟨nd,hnd⟩:∃ nd,jU ms=nd:=⟨_,rfl⟩
   rw[hnd]
   obtain ⟨w10,vG⟩:∃ w10,w10=w9.alloc (.cells (jZ ms b1 b2) 33):=⟨_,rfl⟩
   have xP:Below w9.heap.size w9 w10:=by rw[vG]; exact (Below.refl _ w9).alloc (nR _) _
   have Yj:=hI vG
   have OG:=hI (show z8 w10 w9.heap.size 33 (jZ ms b1 b2) by rw[vG]; exact z8.new w9 _ _)
   have HS:=hI ((HS.out.mem H.out bC).mem H.out xP)
   have HA1:=hI (z8.below ha1 xP (z8.lt ha1))
   have HA2:=hI (z8.below ha2 xP (z8.lt ha2))
   have jq:=hI HS.out.res
   have ay:=hI hnb
   have yR:=hI (And.intro (And.intro hn1 (z8.lt ha1)) (And.intro hn2 (z8.lt ha2)))
   have zJW:nd≤100000:=by rw[← hnd]; have:=HDK.out.2.2; omega
   clear bC vG xP ha1 ha2 hnb
   go_upto_region 17 with fail
   rw[← Yj.out]
   by_cases hsame:nd=ms.length
   ·have QV:((nd:Int) != (ms.length:Nat))=false:=by simp[hsame]
    have jv:=hI (yK.out.1 ⟨Y8.out,by rw[Jg.out]; exact HDK.out,by rw[Jg.out,hnd]; exact hsame⟩)
    have HF:=hI (HS.out.fin H.out (jZ ms b1 b2))
    have og:=hI (HS.out.finZ H.out (jZ ms b1 b2))
    clear hnd hsame
    go_wp2_with (first
     | (with_reducible refine zJ ?_)
     | (refine zV (.tmp 16) 33 rfl rfl w9.heap.size rfl 33 (jZ ms b1 b2).toList _ Tryz.underlying33 rfl zR OG.out ?_)
     | (refine zF (.tmp 6) (.tmp 81) 33 rfl rfl w.heap.size (jZ ms b1 b2) rfl rfl 33 _ jq.out zR rfl (ni _ _ _ _ _ _ _ _ _ _) ?_))
    refine Halt.ret (zw (p:=6) (u:=7) (v:=8) rfl _ _ w.heap.size 33 (jZ ms b1 b2) _ rfl HF.out.2.2.1 Tryz.underlying33 rfl zR) rfl ⟨?_,HF.out.2.1,fun h=>absurd jv.out h,fun _=>⟨ms,?_,b1,b2,?_,by omega,by omega,ay.out,z8.kept HA1.out HF.out.2.2.2 (show b1≠w.heap.size by omega),z8.kept HA2.out HF.out.2.2.2 (show b2≠w.heap.size by omega),?_⟩⟩
    ·rw[yK.out.2.2]
     exact HF.out.1
    ·rw[fF.out,Z0.out,Jg.out]
    ·rw[fF.out]; rfl
    ·obtain ⟨Z,z1,z2,z3⟩:=og.out
     refine ⟨Z,z2,z1 _ (.inl (.inr yR.out.1)),z1 _ (.inl (.inr yR.out.2)),?_⟩
     rw[yK.out.2.2]
     exact z3
   ·have QV:((nd:Int) != (ms.length:Nat))=true:=by simp; omega
    have jv:=hI (yK.out.2.1 (fun h=>hsame (by have:=h.2.2; rw[Jg.out,hnd] at this; exact this)))
    have HF:=hI (HS.out.fin H.out zP)
    clear hnd hsame
    go_wp2_with (first | (with_reducible refine zJ ?_) | (refine zF (.tmp 6) (.tmp 80) 33 rfl rfl w.heap.size zP rfl rfl 33 _ jq.out zR rfl xC ?_))
    refine Halt.ret (zw (p:=6) (u:=7) (v:=8) rfl _ _ w.heap.size 33 zP _ rfl HF.out.2.2.1 Tryz.underlying33 rfl zR) rfl ⟨?_,HF.out.2.1,fun _=>by rw[jv.out]; rfl,yC jv.out (by decide)⟩
    rw[yK.out.2.2]
    exact HF.out.1
theorem K3 {σ:Type} {X0:Nat→Prop} {V:Nat→List Int} {E:Nat→Int} {nx:σ→Nat→σ} {R:(Nat→Prop)→σ→World→Prop} {w:World} {st:σ} (c0:Value) (H:bH 121 [c0] w.heap.size X0 V E nx R) (h:R X0 st w) (gen:Int) (at_:Nat) (hat:at_≤90000) :
 Calls Tryz.prog 55 #[.func (.func 121) #[] #[c0],.int .u64 gen,.int .i64 at_] w (Ky R nx X0 st V E gen at_ w):=by
 have HLEN:=hI H.len
 have Yo:=hI H.byt
 have HS:=hI (nE.start H h)
 have H:=hI H
 have hc:=H.out.call _ _ _ at_ HS.out.r (by omega)
 have sw:=hI hc
 clear h hc
 obtain ⟨w1,hw1⟩:∃ w1,w1=w.alloc (.cells zP 33):=⟨_,rfl⟩
 rw[← hw1] at HS sw
 obtain ⟨X1,hX1⟩:∃ X1,newX X0 w w1=X1:=⟨_,rfl⟩
 rw[hX1] at HS sw
 have hsz1:w.heap.size<w1.heap.size:=HS.out.res.lt
 go_enter Tryz.func55,Tryz.ntmps55
 go_upto_region 1 with fail
 rw[← hw1]
 clear hw1 hX1
 go_wp2_with fail
 refine sw.out.mono ?_
 rintro e v1 ⟨rfl,hr1,hk1⟩
 have HS:=hI (HS.out.held hr1 hk1)
 have hsv:w1.heap.size≤v1.heap.size:=hk1.size
 obtain ⟨w2,hw2⟩:∃ w2,w2=v1.alloc (.cells (zA (V at_)) 186):=⟨_,rfl⟩
 have hb2:Below v1.heap.size v1 w2:=by rw[hw2]; exact (Below.refl _ v1).alloc (nR _) _
 have HA2:=hI (show qB w2 v1.heap.size (V at_) by rw[hw2]; exact z8.new v1 _ _)
 have HS:=hI (HS.out.mem H.out hb2)
 have hsz2:=hb2.size
 have HW2:=hI hw2
 have kV:=HLEN.out at_
 clear hr1 hk1 hb2 hw2 sw
 obtain ⟨ys,hys⟩:∃ ys,V at_=ys:=⟨_,rfl⟩
 rw[hys] at kV HA2 HW2 ⊢
 by_cases he:E at_=0
 case neg =>
  have hne:(E at_ != 0)=true:=by simp[he]
  obtain ⟨se,sr⟩:=Qo (V:=V) (gen:=gen) he
  have HE:=hI he
  have HF:=hI (HS.out.fin H.out zP)
  have jq:=hI HS.out.res
  have jv:=hI se
  have Jb:=hI sr
  obtain ⟨e0,he0⟩:∃ e0,E at_=e0:=⟨_,rfl⟩
  rw[he0] at hne jv HE ⊢
  clear se sr he he0
  go_wp2_with (first | (with_reducible refine zJ ?_) | (refine zG rfl rfl ?_) | (refine zU (.tmp 9) (.tmp 22) rfl rfl v1 ys rfl rfl (noughts 64) rfl (zC 64) kV ?_; rw[← HW2.out]) | (refine zF (.tmp 6) (.tmp 26) 33 rfl rfl w.heap.size zP rfl rfl 33 _ jq.out zR rfl xC ?_))
  refine Halt.ret (zw (p:=6) (u:=7) (v:=8) rfl _ _ w.heap.size 33 zP _ rfl HF.out.2.2.1 Tryz.underlying33 rfl zR) rfl ⟨?_,HF.out.2.1,fun _=>by rw[jv.out]; rfl,yC jv.out HE.out⟩
  rw[Jb.out]
  exact HF.out.1
 have hne:(E at_ != 0)=false:=by simp[he]
 have Yd:=Yo.out at_
 rw[hys] at Yd
 have Qi:=hI (fun (U:World)=>Ku ys gen at_ U kV Yd (by omega))
 obtain ⟨cnt,hcnt⟩:∃ cnt,ze ys gen at_=cnt:=⟨_,rfl⟩
 rw[hcnt] at Qi
 have zMv:cnt≤17:=by rw[← hcnt]; exact Pg _ _ _
 have fF:=hI (show ze (V at_) gen at_=cnt by rw[hys]; exact hcnt)
 have Qh:=hI he
 rw[he] at hne ⊢
 clear he hcnt Yd
 go_upto_region 5 with (first | (refine zG rfl rfl ?_) | (refine zU (.tmp 9) (.tmp 22) rfl rfl v1 ys rfl rfl (noughts 64) rfl (zC 64) kV ?_; rw[← HW2.out]) | (refine zQ (.tmp 9) rfl rfl v1.heap.size 0 rfl ys kV HA2.out.range ?_) | (go_at_call 127; refine (Qi.out _).mono ?_; rintro e w3 ⟨rfl,hb3⟩))
 have HS:=hI (HS.out.mem H.out hb3)
 have yt:=hI (HA2.out.below hb3 HA2.out.lt)
 have zMZ:=hb3.size
 clear hb3
 generalize newX (newX X1 v1 w2) w2 w3=X3 at *
 by_cases hc0:cnt=0
 ·subst hc0
  obtain ⟨se,sr⟩:=ZE (V:=V) (gen:=gen) Qh.out fF.out
  have HF:=hI (HS.out.fin H.out zP)
  have jq:=hI HS.out.res
  have jv:=hI se
  have Jb:=hI sr
  clear se sr
  go_wp2_with (first | (with_reducible refine zJ ?_) | (refine zF (.tmp 6) (.tmp 34) 33 rfl rfl w.heap.size zP rfl rfl 33 _ jq.out zR rfl xC ?_))
  refine Halt.ret (zw (p:=6) (u:=7) (v:=8) rfl _ _ w.heap.size 33 zP _ rfl HF.out.2.2.1 Tryz.underlying33 rfl zR) rfl ⟨?_,HF.out.2.1,fun _=>by rw[jv.out]; rfl,yC jv.out (by decide)⟩
  rw[Jb.out]
  exact HF.out.1
 have hcq:((cnt:Int)==0)=false:=by simp; omega
 obtain ⟨w4,hw4⟩:∃ w4,w4=w3.alloc (.cells (zA ys) 186):=⟨_,rfl⟩
 have hb4:Below w3.heap.size w3 w4:=by rw[hw4]; exact (Below.refl _ w3).alloc (nR _) _
 have av:=hI (show w4.ownsRow (w.heap.size+1) 186 64 (.slice (some ⟨w3.heap.size,0,none⟩) 1 1) 1 ((flat (zi V at_ 1)).map (Value.int .u8)) by rw[hw4,K5,yJ,hys]; exact Gd _ _ kV (by omega))
 have yg:=hI (HS.out.mem H.out hb4)
 have DX:w3.heap.size<w4.heap.size:=by rw[hw4]; simp
 have nQ:=hI (show ∀ g,(Value.slice (some ⟨w3.heap.size,0,none⟩) 1 1).ownBlock=some g→newX X3 w3 w4 g from fun g hg=>by injection hg with hg; subst hg; exact .inr ⟨nR _,DX⟩)
 have nI:=hI hw4
 clear hb4 hw4 DX
 go_upto_region 8 with (first | (refine zQ (.tmp 9) rfl rfl v1.heap.size 0 rfl ys kV yt.out.range ?_) | (refine vD (.tmp 35) rfl rfl ys rfl kV ?_; rw[← nI.out]))
 clear yt HA2 HW2 nI kV hys HS
 go_loopw [12] (fun v wr=>∃ (j:Nat) (X:Nat→Prop),1≤j∧j≤cnt∧nE R w X0 (mM nx st at_ j) X wr∧wr.ownsRow (w.heap.size+1) 186 64 v j ((flat (zi V at_ j)).map (Value.int .u8))∧(∀ g,v.ownBlock=some g→X g)∧(∀ q,1≤q→q<j→E (at_+q)=0)) (fun v _=>cnt-KR v)
 case atStart=>exact ⟨1,_,nR _,by omega,yg.out,av.out,nQ.out,fun q h1 h2=>by omega⟩
 case round =>
  obtain ⟨j,X,hj1,hj,hS,hown,hX,hgood⟩:=hrel
  have pq:=hI (rQ HLEN.out at_ j)
  obtain ⟨A,cap,rfl,hnc,hn0,hrow⟩:=GJ hown pq.out
  have HS:=hI hS
  have HOWN:=hI hown
  have HX:=hI hX
  have dF:=hI hgood
  have xR:=hI hrow
  have HCAP:=hI hnc
  have iG:=hI hn0
  have hlw:w.heap.size<wr.heap.size:=hS.res.lt
  clear hS hown hX hgood hrow hnc hn0 yg av nQ
  by_cases hjc:j<cnt
  ·have hc:=H.out.call _ _ _ (at_+j) HS.out.r (by omega)
   rw[show ((at_+j:Nat):Int)=(at_:Int)+(j:Int) from by omega] at hc
   have HC:=hI hc
   clear hc
   go_wp2_with fail
   refine HC.out.mono ?_
   rintro e v2 ⟨rfl,hr2,hk2⟩
   have HS:=hI (HS.out.held hr2 hk2)
   have HOWN:=hI (MJ HOWN.out hk2 HX.out)
   have zMa:=hk2.size
   obtain ⟨zs,hzs⟩:∃ zs,V (at_+j)=zs:=⟨_,rfl⟩
   have vX:zs.length=64:=by rw[← hzs]; exact HLEN.out _
   obtain ⟨w5,jH⟩:∃ w5,w5=v2.alloc (.cells (zA zs) 186):=⟨_,rfl⟩
   have hb5:Below v2.heap.size v2 w5:=by rw[jH]; exact (Below.refl _ v2).alloc (nR _) _
   have mI:=hI (show qB w5 v2.heap.size zs by rw[jH]; exact z8.new v2 _ _)
   have pK:=hI jH
   have CS:=hI hzs
   have HS:=hI (HS.out.mem H.out hb5)
   have HOWN:=hI (own_below HOWN.out hb5)
   have hsz5:=hb5.size
   rw[hzs]
   have sU:=hI (show ∀ g,(Value.slice A j cap).ownBlock=some g→newX X v2 w5 g from fun g hg=>Or.inl (HX.out g hg))
   clear hr2 hk2 jH hzs hb5 HC
   generalize newX X v2 w5=X5 at *
   by_cases he:E (at_+j)=0
   ·have hne2:(E (at_+j) != 0)=false:=by simp[he]
    have Oa:=hI he
    rw[he] at hne2 ⊢
    obtain ⟨w6,xB⟩:∃ w6,w6=w5.alloc (.cells (zA zs) 186):=⟨_,rfl⟩
    have hb6:Below w5.heap.size w5 w6:=by rw[xB]; exact (Below.refl _ w5).alloc (nR _) _
    have H6:qB w6 w5.heap.size (flat [zs]):=by rw[xB,yJ]; exact z8.new w5 _ _
    have Zj:qY [zs]:=fun x hx=>by simp at hx; subst hx; exact vX
    have pI:=hI (H6.rowK Zj (n:=1) rfl (S:=fun _=>True) trivial)
    have Sr:=hI Zj
    have nS:=hI xB
    have vL:=hI (HS.out.mem H.out hb6)
    have Qc:=hI (own_below HOWN.out hb6)
    have I8:=hb6.size
    clear he hb6 H6 Zj xB
    go_wp2_with (first
     | (refine zG rfl rfl ?_)
     | (refine zU (.tmp 13) (.tmp 48) rfl rfl v2 zs rfl rfl (noughts 64) rfl (zC 64) vX ?_; rw[← pK.out])
     | (refine zQ (.tmp 13) rfl rfl v2.heap.size 0 rfl zs vX mI.out.range ?_)
     | (refine vD (.tmp 55) rfl rfl zs rfl vX ?_; rw[← nS.out])
     | (refine rZ (.tmp 54) (.tmp 56) rfl rfl (w.heap.size+1) (.slice A j cap) j _ rfl Qc.out (fun _=>True) (some ⟨w5.heap.size,0,none⟩) 1 1 [zs] rfl pI.out Sr.out (fun h=>by cases h) (by unfold maxLen; omega) (by omega) (by omega) ?_; intro v' w7 hown' hgrow' hblk'; rw[yJ] at hown'; have wQ:=hI hown'; have Y5:=hI hgrow'; have kN:=hI hblk'; clear hown' hgrow' hblk'))
    go_roundw
    case rel =>
     have ah:=hI (vL.out.grown H.out Y5.out (fun g hg=>⟨Or.inl (sU.out g hg),(Qc.out.lt g hg).1⟩))
     have IJ:∀ g,v'.ownBlock=some g→newX (newX X5 w5 w6) w6 w7 g:=fun g hg=>by
      rcases kN.out with h1 | h1
      ·rw[h1] at hg
       exact Or.inl (Or.inl (sU.out g hg))
      ·have h2:=(wQ.out.lt _ h1).2
       rw[h1] at hg
       injection hg with hg
       subst hg
       exact Or.inr ⟨nR _,h2⟩
     have Rz:w7.ownsRow (w.heap.size+1) 186 64 v' (j+1) ((flat (zi V at_ (j+1))).map (Value.int .u8)):=by
      rw[eU,jm,List.map_append,CS.out,yJ]
      exact wQ.out
     have aQ:∀ q,1≤q→q<j+1→E (at_+q)=0:=fun q h1 h2=>by
      by_cases e:q=j
      ·subst e; exact Oa.out
      ·exact dF.out q h1 (by omega)
     exact ⟨j+1,_,by omega,by omega,ah.out,Rz,IJ,aQ⟩
    case measure=>have hlv:=Gf wQ.out; show cnt-KR v'<cnt-j; omega
   ·have hne2:(E (at_+j) != 0)=true:=by simp[he]
    obtain ⟨se,sr⟩:=Qp (V:=V) (gen:=gen) Qh.out hj1 (by rw[fF.out]; exact hjc) dF.out he
    have HF:=hI (HS.out.fin H.out zP)
    have jq:=hI HS.out.res
    have HE:=hI he
    obtain ⟨e0,he0⟩:∃ e0,E (at_+j)=e0:=⟨_,rfl⟩
    rw[he0] at hne2 HE se ⊢
    have jv:=hI se
    have Jb:=hI sr
    clear se sr he he0
    go_wp2_with (first
     | (with_reducible refine zJ ?_)
     | (refine zG rfl rfl ?_)
     | (refine zU (.tmp 13) (.tmp 48) rfl rfl v2 zs rfl rfl (noughts 64) rfl (zC 64) vX ?_; rw[← pK.out])
     | (refine zF (.tmp 6) (.tmp 52) 33 rfl rfl w.heap.size zP rfl rfl 33 _ jq.out zR rfl xC ?_))
    refine Halt.ret (zw (p:=6) (u:=7) (v:=8) rfl _ _ w.heap.size 33 zP _ rfl HF.out.2.2.1 Tryz.underlying33 rfl zR) rfl ⟨?_,HF.out.2.1,fun _=>by rw[jv.out]; rfl,yC jv.out HE.out⟩
    rw[Jb.out]
    exact HF.out.1
  ·obtain rfl:cnt=j:=by omega
   have hall:=Qq (V:=V) (gen:=gen) (E:=E) (at_:=at_) Qh.out (by rw[fF.out]; omega) (by rw[fF.out]; exact dF.out)
   rw[fF.out] at hall
   have yK:=hI hall
   have VN:=hI (um (bU Yo.out at_ cnt))
   have II:=xS V at_ cnt
   have OT:=hI (PK A cnt cap (zi V at_ cnt) _ wr xR.out (fun b h=>h.2.1) pq.out (bU Yo.out at_ cnt) (by omega))
   obtain ⟨xss,uz⟩:∃ xss,zi V at_ cnt=xss:=⟨_,rfl⟩
   rw[uz] at yK VN II OT
   have Z0:=hI uz
   clear hall uz HOWN xR pq dF HX
   go_wp2_with fail
   refine OT.out.mono ?_
   rintro e w8 hjn
   by_cases hch:Chain xss
   case neg =>
    obtain ⟨rfl,jK⟩:=hjn.2 (fun h=>hch h.2)
    have jv:=hI (yK.out.2.1 (fun h=>hch h.1))
    have HS:=hI (HS.out.mem H.out jK)
    have HF:=hI (HS.out.fin H.out zP)
    have jq:=hI HS.out.res
    clear hjn hch jK
    go_wp2_with (first | (with_reducible refine zJ ?_) | (refine zF (.tmp 6) (.tmp 65) 33 rfl rfl w.heap.size zP rfl rfl 33 _ jq.out zR rfl xC ?_))
    refine Halt.ret (zw (p:=6) (u:=7) (v:=8) rfl _ _ w.heap.size 33 zP _ rfl HF.out.2.2.1 Tryz.underlying33 rfl zR) rfl ⟨?_,HF.out.2.1,fun _=>by rw[jv.out]; rfl,yC jv.out (by decide)⟩
    rw[yK.out.2.2]
    exact HF.out.1
   obtain ⟨A8,c8,rfl,Xf,jK,hc8⟩:=hjn.1 ⟨by omega,hch⟩
   have HS:=hI (HS.out.mem H.out jK)
   obtain ⟨ms,hms⟩:∃ ms,qW xss=ms:=⟨_,rfl⟩
   rw[hms] at Xf hc8 VN ⊢
   have Jg:=hI hms
   have Y8:=hI hch
   have bI:=hI Xf
   have Cz:=hI hc8
   have hs8:=jK.size
   have hml:ms.length≤100000:=by rw[← hms]; have:=J4 xss; omega
   clear hms hch Xf jK hjn hc8
   by_cases hdk:XF ms ms.length
   case neg =>
    have Ob:=hI (Uf A8 ms.length c8 ms _ w8 bI.out (fun b h=>h.2) VN.out Cz.out hdk)
    have jv:=hI (yK.out.2.1 (fun h=>hdk (by have:=h.2.1; rw[Jg.out] at this; exact this)))
    obtain ⟨eo,heo⟩:∃ eo,dx ms ms.length=eo:=⟨_,rfl⟩
    have zMu:(eo != 0)=true:=by rcases Xk ms ms.length with h | h <;> (rw[← heo,h]; rfl)
    rw[heo] at Ob
    clear heo hdk
    go_wp2_with fail
    refine Ob.out.mono ?_
    rintro e w9 ⟨rfl,bC⟩
    obtain ⟨w10,vG⟩:∃ w10,w10=w9.alloc (.cells zP 33):=⟨_,rfl⟩
    have xP:Below w9.heap.size w9 w10:=by rw[vG]; exact (Below.refl _ w9).alloc (nR _) _
    have Yj:=hI vG
    have HS:=hI ((HS.out.mem H.out bC).mem H.out xP)
    have HF:=hI (HS.out.fin H.out zP)
    have jq:=hI HS.out.res
    clear bC vG xP
    go_upto_region 17 with fail
    rw[← Yj.out]
    go_wp2_with (first | (with_reducible refine zJ ?_) | (refine zF (.tmp 6) (.tmp 80) 33 rfl rfl w.heap.size zP rfl rfl 33 _ jq.out zR rfl xC ?_))
    refine Halt.ret (zw (p:=6) (u:=7) (v:=8) rfl _ _ w.heap.size 33 zP _ rfl HF.out.2.2.1 Tryz.underlying33 rfl zR) rfl ⟨?_,HF.out.2.1,fun _=>by rw[jv.out]; rfl,yC jv.out (by decide)⟩
    rw[yK.out.2.2]
    exact HF.out.1
   have VK:=hI (Ue A8 ms.length c8 ms _ w8 bI.out (fun b h=>h.2) VN.out hdk.1 Cz.out hdk.2.1 hdk.2.2)
   have HDK:=hI hdk
   clear hdk
   go_wp2_with fail
   refine VK.out.mono ?_
   rintro e w9 ⟨b1,b2,rfl,hn1,hn2,hnb,ha1,ha2,bC⟩
   obtain ⟨nd,hnd⟩:∃ nd,jU ms=nd:=⟨_,rfl⟩
   rw[hnd]
   obtain ⟨w10,vG⟩:∃ w10,w10=w9.alloc (.cells (jZ ms b1 b2) 33):=⟨_,rfl⟩
   have xP:Below w9.heap.size w9 w10:=by rw[vG]; exact (Below.refl _ w9).alloc (nR _) _
   have Yj:=hI vG
   have OG:=hI (show z8 w10 w9.heap.size 33 (jZ ms b1 b2) by rw[vG]; exact z8.new w9 _ _)
   have HS:=hI ((HS.out.mem H.out bC).mem H.out xP)
   have HA1:=hI (z8.below ha1 xP (z8.lt ha1))
   have HA2:=hI (z8.below ha2 xP (z8.lt ha2))
   have jq:=hI HS.out.res
   have ay:=hI hnb
   have yR:=hI (And.intro (And.intro hn1 (z8.lt ha1)) (And.intro hn2 (z8.lt ha2)))
   have zJW:nd≤100000:=by rw[← hnd]; have:=HDK.out.2.2; omega
   clear bC vG xP ha1 ha2 hnb
   go_upto_region 17 with fail
   rw[← Yj.out]
   by_cases hsame:nd=ms.length
   ·have QV:((nd:Int) != (ms.length:Nat))=false:=by simp[hsame]
    have jv:=hI (yK.out.1 ⟨Y8.out,by rw[Jg.out]; exact HDK.out,by rw[Jg.out,hnd]; exact hsame⟩)
    have HF:=hI (HS.out.fin H.out (jZ ms b1 b2))
    have og:=hI (HS.out.finZ H.out (jZ ms b1 b2))
    clear hnd hsame
    go_wp2_with (first
     | (with_reducible refine zJ ?_)
     | (refine zV (.tmp 16) 33 rfl rfl w9.heap.size rfl 33 (jZ ms b1 b2).toList _ Tryz.underlying33 rfl zR OG.out ?_)
     | (refine zF (.tmp 6) (.tmp 81) 33 rfl rfl w.heap.size (jZ ms b1 b2) rfl rfl 33 _ jq.out zR rfl (ni _ _ _ _ _ _ _ _ _ _) ?_))
    refine Halt.ret (zw (p:=6) (u:=7) (v:=8) rfl _ _ w.heap.size 33 (jZ ms b1 b2) _ rfl HF.out.2.2.1 Tryz.underlying33 rfl zR) rfl ⟨?_,HF.out.2.1,fun h=>absurd jv.out h,fun _=>⟨ms,?_,b1,b2,?_,by omega,by omega,ay.out,z8.kept HA1.out HF.out.2.2.2 (show b1≠w.heap.size by omega),z8.kept HA2.out HF.out.2.2.2 (show b2≠w.heap.size by omega),?_⟩⟩
    ·rw[yK.out.2.2]
     exact HF.out.1
    ·rw[fF.out,Z0.out,Jg.out]
    ·rw[fF.out]; rfl
    ·obtain ⟨Z,z1,z2,z3⟩:=og.out
     refine ⟨Z,z2,z1 _ (.inl (.inr yR.out.1)),z1 _ (.inl (.inr yR.out.2)),?_⟩
     rw[yK.out.2.2]
     exact z3
   ·have QV:((nd:Int) != (ms.length:Nat))=true:=by simp; omega
    have jv:=hI (yK.out.2.1 (fun h=>hsame (by have:=h.2.2; rw[Jg.out,hnd] at this; exact this)))
    have HF:=hI (HS.out.fin H.out zP)
    clear hnd hsame
    go_wp2_with (first | (with_reducible refine zJ ?_) | (refine zF (.tmp 6) (.tmp 80) 33 rfl rfl w.heap.size zP rfl rfl 33 _ jq.out zR rfl xC ?_))
    refine Halt.ret (zw (p:=6) (u:=7) (v:=8) rfl _ _ w.heap.size 33 zP _ rfl HF.out.2.2.1 Tryz.underlying33 rfl zR) rfl ⟨?_,HF.out.2.1,fun _=>by rw[jv.out]; rfl,yC jv.out (by decide)⟩
    rw[yK.out.2.2]
    exact HF.out.1
end
end Go.Proofs.YtdkbpchmnhbhcaaGreat
