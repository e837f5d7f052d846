/- Texts of StoreKeeps, packed. -/
import Derived.Test.YtdkbpchmnhbhcaaGreatPackStoreKeeps13
import Derived.BigQuiet
set_option linter.unusedVariables false
set_option linter.unusedSimpArgs false
set_option maxRecDepth 100000
set_option maxHeartbeats 16000000
namespace Go.Proofs.YtdkbpchmnhbhcaaGreat
open Go.RowKit
section
attribute [local go_sem] Oper.semAt_some
section
variable {w w':World} {X Y:Nat→Prop} {B:xu} {slots:Nat} {s:Sup} {xs:List Seg} {st:List zm} {bl:List (List Int)} {u:Bool} {A:Option Addr} {m c:Nat} {us:List Int}
def kF (st:List zm) (fl now:Int) (us:List Int):Option (List Int) :=
 match jC st us with
 | none=>none
 | some p=>if zo p.2≤fl∨(0<qA p.2∧qA p.2≤now) then none else some p.2
def zOJ (w:World) (X:Nat→Prop) (B:xu) (slots:Nat) (s:Sup) (xs:List Seg) (st:List zm) (bl:List (List Int)) (now:Int) (us:List Int) (e:Ending) (w':World):Prop :=
 (∃ k',zT w' X { B with t:=B.t,k:=k',pe:=B.pe } slots s xs st bl false∧k'.held=B.k.held)∧Kept X w w' ∧
 ((kF st s.f now us=none∧e=.returned (.tuple #[.agg qN,.int .i64 4])) ∨
  ∃ bs b1 b2,kF st s.f now us=some bs∧e=.returned (.tuple #[.agg (bZ bs b1 b2),.int .i64 0])∧w.heap.size≤b1∧w.heap.size≤b2∧b1≠b2∧zn w' b1 (keyOf bs)∧zn w' b2 (valOf bs)∧∃ k',jJ w' (fun b=>(X b∨B.own b)∨b=b1∨b=b2) B.l B.p B.d B.n s B.t k' xs B.pe∧k'.held=B.k.held)
theorem XA {w2 w3 w4:World} (hX:∀ b,X b→b<w.heap.size) (h:zT w3 (fun b=>X b∨(w.heap.size≤b∧b<w2.heap.size)) B slots s xs st bl u) (hs:w.heap.size<w2.heap.size∧w2.heap.size≤w3.heap.size) (hk:Kept X w w3) (hb:Below w3.heap.size w3 w4) (cs:Array Value) :
 zT (w4.setRow w.heap.size cs) X B slots s xs st bl u∧Kept X w (w4.setRow w.heap.size cs)∧Kept (fun b=>b<w3.heap.size∧b≠w.heap.size) w3 (w4.setRow w.heap.size cs):=by
 have hkr:Kept (fun b=>b≠w.heap.size) w4 (w4.setRow w.heap.size cs):=(Kept.refl _ w4).setRow (fun h=>h rfl) cs
 refine ⟨((h.below hb).offX hkr (fun b hb hn e=>hn (.inr ⟨by omega,by omega⟩))).less (fun b hb=>.inl hb),(hk.trans (Kept.of_below (S:=X) hb (fun b h=>by have:=hX b h; omega)) (fun b h=>h)).trans hkr (fun b h=>by have:=hX b h; omega),(Kept.of_below (S:=fun b=>b<w3.heap.size∧b≠w.heap.size) hb (fun b h=>h.1)).trans hkr (fun b h=>h.2)⟩
theorem Bh (h:zT w X B slots s xs st bl false) (hk:zW .u8 w X A m us) (hb:Bytes us) (hm:m≤1000000) (now:Int) :
 Calls Tryz.prog 23 #[.pointer (some ⟨B.q,0,none⟩),.slice A m c,.int .u32 now] w (zOJ w X B slots s xs st bl now us):=by
 obtain ⟨w1,hw1⟩:∃ w1,w1=w.alloc (.cells qN 53):=⟨_,rfl⟩
 have hb1:Below w.heap.size w w1:=by rw[hw1]; exact (Below.refl _ w).alloc (nR _) _
 have HR1:=hI (show z8 w1 w.heap.size 53 qN by rw[hw1]; exact z8.new w _ _)
 have hM1:=h.grow hb1
 have yQ:=hI hM1
 have HB1:=hI hb1
 have wB:=hI h.lt
 have jh:=hI (hk.below hb1 h.lt)
 have qm:=hI hb
 have HM:=hI hm
 have HW1:=hI hw1
 have HLK:=hI (uo (c:=c) hM1.log hM1.ylt hM1.ix (.inr (.inr (.inl rfl))) hM1.inv ((hk.below hb1 h.lt).more (fun b h=>.inl (.inl h))) hb hm)
 obtain ⟨c0,c1,_,_⟩:=hM1.cells
 have HDG:=hI (vB hM1)
 clear h hk hb hm hb1 hw1 hM1
 go_enter Tryz.func23,Tryz.ntmps23
 go_upto_region 3 with fail
 rw[← HW1.out]
 go_wp2_with fail
 refine HDG.out.mono ?_
 rintro e w2 ⟨rfl,rfl⟩
 go_wp2_with fail
 refine HLK.out.mono ?_
 rintro e w3 ⟨⟨k3,hl3,hk3⟩,hkp3,hres⟩
 have Di:=yQ.out.logTo hkp3 hl3 rfl (yQ.out.inv.held hk3)
 have xw:=hI Di
 have BF:=hI hk3
 have Sz:=hI ((Kept.of_below HB1.out wB.out).trans hkp3 (fun b hb=>.inl (.inl hb)))
 have HR3:=hI (HR1.out.kept hkp3 (.inl (.inr ⟨nR _,HR1.out.lt⟩)))
 have fZ:=hI (show w.heap.size<w2.heap.size∧w2.heap.size≤w3.heap.size from ⟨HR1.out.lt,hkp3.size⟩)
 clear hl3 hk3 hkp3 Di HLK
 rcases hres with ⟨hno,rfl⟩ | ⟨q,b1,b2,hq,rfl,hq1,hq2,hq12,hr1,hr2,kb,hlb,hkb⟩
 ·have Z7:=hI (show kF st s.f now us=none by unfold kF; rw[hno])
  clear hno c0 c1
  have zq:=hI ((Below.refl w3.heap.size w3).alloc (nR _) (.cells jE 154))
  have HR4:=hI (HR3.out.alloc (.cells jE 154))
  go_wp2_with (first
   | (refine zF (.tmp 6) (.tmp 48) 53 rfl rfl w.heap.size qN rfl rfl 53 _ HR4.out qo rfl YP ?_)
   | (with_reducible refine zJ ?_))
  have hfin:=XA wB.out xw.out fZ.out Sz.out zq.out qN
  exact Halt.ret (zy (p:=6) (u:=7) rfl _ _ w.heap.size 53 qN _ rfl (setRow_heap _ _ _ _ _ _ HR4.out) Tryz.underlying53 rfl qo) rfl ⟨⟨k3,hfin.1,BF.out⟩,hfin.2.1,.inl ⟨Z7.out,rfl⟩⟩
 ·have HQ:=hI hq
  have zJN:=hI hr1
  have zJM:=hI hr2
  have HLB:=hI hlb
  have HKB:=hI hkb
  have bN:=hI (And.intro hq1 (And.intro hq2 hq12))
  clear hq hr1 hr2 hq1 hq2 hq12 c0 c1 hlb hkb
  obtain ⟨w4,hw4⟩:∃ w4,w4=(w3.alloc (.cells jE 154)).setRow w3.heap.size (wY q b1 b2):=⟨_,rfl⟩
  have wL:=hI (z8.new w3 154 jE)
  have hb4:Below w3.heap.size w3 w4:=by rw[hw4]; exact Kept.to_below (((Kept.refl (fun b=>b<w3.heap.size) w3).alloc (fun b h=>h) _).setRow (fun h=>by omega) _) (fun b h=>h)
  have vQ:=hI (show z8 w4 w3.heap.size 154 (wY q b1 b2) by rw[hw4]; exact setRow_heap _ _ _ _ _ _ wL.out)
  have nI:=hI hw4.symm
  have zq:=hI hb4
  have dI:=hI (M4 (xw.out.below hb4) (kindOf q.2) (flagsOf q.2) (qA q.2) (zo q.2) (some ⟨b1,0,none⟩) (some ⟨b2,0,none⟩) (zH q.2) (zH q.2) (zO q.2) (zO q.2))
  clear hw4 hb4
  have e0:w4.cell? ⟨w3.heap.size,0,none⟩=some (.bool true):=vQ.out.cell 0
  have e4:w4.cell? ⟨w3.heap.size,4,none⟩=some (.int .i64 (kindOf q.2)):=vQ.out.cell 4
  have e5:w4.cell? ⟨w3.heap.size,5,none⟩=some (.int .u32 (flagsOf q.2)):=vQ.out.cell 5
  have e6:w4.cell? ⟨w3.heap.size,6,none⟩=some (.int .u32 (qA q.2)):=vQ.out.cell 6
  have e7:w4.cell? ⟨w3.heap.size,7,none⟩=some (.int .u64 (zo q.2)):=vQ.out.cell 7
  have e8:w4.cell? ⟨w3.heap.size,8,none⟩=some (.slice (some ⟨b1,0,none⟩) (zH q.2) (zH q.2)):=vQ.out.cell 8
  have e9:w4.cell? ⟨w3.heap.size,9,none⟩=some (.slice (some ⟨b2,0,none⟩) (zO q.2) (zO q.2)):=vQ.out.cell 9
  go_wp2_with (refine zF (.tmp 8) (.tmp 25) 154 rfl rfl w3.heap.size (wY q b1 b2) rfl rfl 154 _ wL.out xE rfl (Ju _ _ _) ?_; rw[nI.out])
  refine dI.out.mono ?_
  rintro e w5 ⟨rfl,hb5⟩
  have qM:=hI (zq.out.trans (hb5.mono zq.out.size))
  have eH:=hI (vQ.out.below hb5 vQ.out.lt)
  clear hb5 dI e0 e4 e5 e6 e7 e8 e9
  have e4:w5.cell? ⟨w3.heap.size,4,none⟩=some (.int .i64 (kindOf q.2)):=eH.out.cell 4
  have e5:w5.cell? ⟨w3.heap.size,5,none⟩=some (.int .u32 (flagsOf q.2)):=eH.out.cell 5
  have e6:w5.cell? ⟨w3.heap.size,6,none⟩=some (.int .u32 (qA q.2)):=eH.out.cell 6
  have e7:w5.cell? ⟨w3.heap.size,7,none⟩=some (.int .u64 (zo q.2)):=eH.out.cell 7
  have e8:w5.cell? ⟨w3.heap.size,8,none⟩=some (.slice (some ⟨b1,0,none⟩) (zH q.2) (zH q.2)):=eH.out.cell 8
  have e9:w5.cell? ⟨w3.heap.size,9,none⟩=some (.slice (some ⟨b2,0,none⟩) (zO q.2) (zO q.2)):=eH.out.cell 9
  have oP:=hI ((HR3.out.below qM.out HR3.out.lt))
  by_cases hv:zo q.2≤s.f
  ·have Z7:=hI (show kF st s.f now us=none by unfold kF; rw[HQ.out]; exact if_pos (.inl hv))
   rw[decide_eq_true hv]
   clear hv
   go_wp2_with (first
    | (refine zF (.tmp 6) (.tmp 48) 53 rfl rfl w.heap.size qN rfl rfl 53 _ oP.out qo rfl YP ?_)
    | (with_reducible refine zJ ?_))
   have hfin:=XA wB.out xw.out fZ.out Sz.out qM.out qN
   exact Halt.ret (zy (p:=6) (u:=7) rfl _ _ w.heap.size 53 qN _ rfl (setRow_heap _ _ _ _ _ _ oP.out) Tryz.underlying53 rfl qo) rfl ⟨⟨k3,hfin.1,BF.out⟩,hfin.2.1,.inl ⟨Z7.out,rfl⟩⟩
  ·rw[decide_eq_false hv]
   have HV:=hI hv
   clear hv
   go_wp2_with fail
   refine (SN (kindOf q.2) (flagsOf q.2) (qA q.2) (zo q.2) now (some ⟨b1,0,none⟩) (some ⟨b2,0,none⟩) (zH q.2) (zH q.2) (zO q.2) (zO q.2) w5).mono ?_
   rintro e w6 ⟨rfl,hb6⟩
   have qK:=hI (qM.out.trans (hb6.mono qM.out.size))
   have bL:=hI (eH.out.below hb6 eH.out.lt)
   clear hb6 e4 e5 e6 e7 e8 e9
   have pO:=hI ((HR3.out.below qK.out HR3.out.lt))
   by_cases hx:0<qA q.2∧qA q.2≤now
   ·have Z7:=hI (show kF st s.f now us=none by unfold kF; rw[HQ.out]; exact if_pos (.inr hx))
    rw[decide_eq_true hx]
    clear hx
    go_wp2_with (first
     | (refine zF (.tmp 6) (.tmp 48) 53 rfl rfl w.heap.size qN rfl rfl 53 _ pO.out qo rfl YP ?_)
     | (with_reducible refine zJ ?_))
    have hfin:=XA wB.out xw.out fZ.out Sz.out qK.out qN
    exact Halt.ret (zy (p:=6) (u:=7) rfl _ _ w.heap.size 53 qN _ rfl (setRow_heap _ _ _ _ _ _ pO.out) Tryz.underlying53 rfl qo) rfl ⟨⟨k3,hfin.1,BF.out⟩,hfin.2.1,.inl ⟨Z7.out,rfl⟩⟩
   ·have zAQ:=hI (show kF st s.f now us=some q.2 by unfold kF; rw[HQ.out]; exact if_neg (fun h=>h.elim (fun h9=>by have:=HV.out; omega) hx))
    rw[decide_eq_false hx]
    clear hx
    have e4:w6.cell? ⟨w3.heap.size,4,none⟩=some (.int .i64 (kindOf q.2)):=bL.out.cell 4
    have e5:w6.cell? ⟨w3.heap.size,5,none⟩=some (.int .u32 (flagsOf q.2)):=bL.out.cell 5
    have e6:w6.cell? ⟨w3.heap.size,6,none⟩=some (.int .u32 (qA q.2)):=bL.out.cell 6
    have e7:w6.cell? ⟨w3.heap.size,7,none⟩=some (.int .u64 (zo q.2)):=bL.out.cell 7
    have e8:w6.cell? ⟨w3.heap.size,8,none⟩=some (.slice (some ⟨b1,0,none⟩) (zH q.2) (zH q.2)):=bL.out.cell 8
    have e9:w6.cell? ⟨w3.heap.size,9,none⟩=some (.slice (some ⟨b2,0,none⟩) (zO q.2) (zO q.2)):=bL.out.cell 9
    go_wp2_with fail
    refine (Lp q.2 b1 b2 w6).mono ?_
    rintro e w7 ⟨rfl,jy⟩
    have kN:=hI (qK.out.trans (jy.mono qK.out.size))
    clear jy e4 e5 e6 e7 e8 e9
    have NH:=hI ((HR3.out.below kN.out HR3.out.lt))
    go_wp2_with (first
     | (refine zF (.tmp 6) (.tmp 51) 53 rfl rfl w.heap.size (bZ q.2 b1 b2) rfl rfl 53 _ NH.out qo rfl (MN _ _ _) ?_)
     | (with_reducible refine zJ ?_))
    have hfin:=XA wB.out xw.out fZ.out Sz.out kN.out (bZ q.2 b1 b2)
    have hsz:=fZ.out
    have hbb:=bN.out
    refine Halt.ret (zy (p:=6) (u:=7) rfl _ _ w.heap.size 53 (bZ q.2 b1 b2) _ rfl (setRow_heap _ _ _ _ _ _ NH.out) Tryz.underlying53 rfl qo) rfl ⟨⟨k3,hfin.1,BF.out⟩,hfin.2.1,.inr ⟨q.2,b1,b2,zAQ.out,rfl,by omega,by omega,hbb.2.2,?_,?_,kb,?_,HKB.out⟩⟩
    ·exact z8.kept zJN.out hfin.2.2 ⟨z8.lt zJN.out,by omega⟩
    ·exact z8.kept zJM.out hfin.2.2 ⟨z8.lt zJM.out,by omega⟩
    ·exact ((HLB.out.below kN.out).off ((Kept.refl (fun b=>b≠w.heap.size) w7).setRow (fun h=>h rfl) (bZ q.2 b1 b2)) (fun b hb hn e=>hn (.inl (.inl (.inr ⟨by omega,by omega⟩))))).less (fun b hb=>hb.imp (fun h=>h.imp .inl id) id)
end
end
section
attribute [local go_sem] Oper.semAt_some
theorem Lu {w:World} {S:Nat→Prop} {A:Option Addr} {n c:Nat} {L:List Seg} (h:qH w S A n L) (hS:∀ b,S b→b<w.heap.size) (hn:n≤1000000) (x y z:Int) :
 Calls Tryz.prog 149 #[.slice A n c,.agg #[.int .i64 x,.int .u64 y,.int .i64 z]] w fun e w'=>(∃ j:Int,e=.returned (.int .i64 j)∧(0≤j↔(x,y,z)∈L))∧Below w.heap.size w w':=by
 obtain ⟨w1,hw1⟩:∃ w1,w1=w.alloc (.cells #[.int .i64 x,.int .u64 y,.int .i64 z] 35):=⟨_,rfl⟩
 have hb1:Below w.heap.size w w1:=by rw[hw1]; exact (Below.refl _ w).alloc (nR _) _
 have HA1:=hI (show z8 w1 w.heap.size 35 #[.int .i64 x,.int .u64 y,.int .i64 z] by rw[hw1]; exact z8.new w _ _)
 have HR:=hI (show ∀ j,j<n→∃ b off,A=some ⟨b,off,none⟩∧w1.cell? ⟨b,off+j*3,none⟩=some (.int .i64 (L.getD j zK).1)∧w1.cell? ⟨b,off+j*3+1,none⟩=some (.int .u64 (L.getD j zK).2.1)∧w1.cell? ⟨b,off+j*3+2,none⟩=some (.int .i64 (L.getD j zK).2.2) from fun j hj=>by
  obtain ⟨b,off,e,hb,hc⟩:=h.2 (by omega)
  have h9:=hc j hj
  exact ⟨b,off,e,(hb1.cell (p:=⟨b,_,none⟩) (hS b hb)).trans (h9 0 _ rfl),(hb1.cell (p:=⟨b,_,none⟩) (hS b hb)).trans (h9 1 _ rfl),(hb1.cell (p:=⟨b,_,none⟩) (hS b hb)).trans (h9 2 _ rfl)⟩)
 have HN:=hI h.1
 have HB1:=hI hb1
 have HW1:=hI hw1
 have a0:w1.cell? ⟨w.heap.size,0,none⟩=some (.int .i64 x):=HA1.out.cell 0
 have a1:w1.cell? ⟨w.heap.size,1,none⟩=some (.int .u64 y):=HA1.out.cell 1
 have a2:w1.cell? ⟨w.heap.size,2,none⟩=some (.int .i64 z):=HA1.out.cell 2
 clear h hS hb1 hw1
 go_enter Tryz.func149,Tryz.ntmps149
 go_upto_region 1 with fail
 rw[← HW1.out]
 go_wp2
 go_loopw [8] (fun i wr=>∃ k d:Nat,k≤n∧i=.int .i64 k∧wr=w1.drewN d∧∀ j,j<k→L.getD j zK≠(x,y,z)) (fun i _=>n-(intOf i).toNat)
 case atStart=>exact ⟨0,0,by omega,rfl,rfl,fun j hj=>by omega⟩
 case round =>
  obtain ⟨k,d,hk,rfl,rfl,hall⟩:=hrel
  have yK:=hI hall
  clear hall
  by_cases hlt:k<n
  ·obtain ⟨b,off,rfl,q0,q1,q2⟩:=HR.out k hlt
   have hq:=Hr x y z (L.getD k zK).1 (L.getD k zK).2.1 (L.getD k zK).2.2
   have HE:=hI (show (L.getD k zK)=((L.getD k zK).1,(L.getD k zK).2.1,(L.getD k zK).2.2) from rfl)
   have yR:=hI (show L.getD k zK∈L by
    have h9:=HN.out
    rw[show L.getD k zK=L[k]'(by omega) by simp[List.getD,List.getElem?_eq_getElem (show k<L.length by omega)]]
    exact List.getElem_mem _)
   generalize (L.getD k zK).1=x' at *
   generalize (L.getD k zK).2.1=y' at *
   generalize (L.getD k zK).2.2=z' at *
   by_cases he:(x,y,z)=(x',y',z')
   ·have HHE:=hI he
    rw[decide_eq_true he] at hq
    clear he
    go_wp2
    go_quiet (fail)
    go_wp2
    go_ret
    exact ⟨⟨(k:Int),rfl,fun _=>by rw[HHE.out,← HE.out]; exact yR.out,fun _=>by omega⟩,below_drewN (below_drewN HB1.out _) _⟩
   ·have HHE:=hI he
    rw[decide_eq_false he] at hq
    clear he
    go_wp2
    go_quiet (fail)
    go_wp2
    go_roundw
    case rel=>exact ⟨k+1,_,by omega,by go_num,rfl,fun j hj=>by
     by_cases e:j=k
     ·rw[e,HE.out]; exact fun h=>HHE.out h.symm
     ·exact yK.out j (by omega)⟩
    case measure=>(simp[intOf] <;> omega)
  ·obtain rfl:k=n:=by omega
   go_wp2
   go_ret
   refine ⟨⟨-1,rfl,fun h=>by omega,fun h=>?_⟩,below_drewN HB1.out _⟩
   exfalso
   obtain ⟨j,hj,e⟩:=List.mem_iff_getElem.1 h
   exact yK.out j (by have:=HN.out; omega) (by simp[List.getD,List.getElem?_eq_getElem hj,e])
theorem Dr {w:World} {S:Nat→Prop} {A:Option Addr} {n c:Nat} {L:List Seg} (h:qH w S A n L) (hS:∀ b,S b→b<w.heap.size) (hn:n≤1000000) (x y z:Int) :
 Calls Tryz.prog 98 #[.slice A n c,.agg #[.int .i64 x,.int .u64 y,.int .i64 z]] w fun e w'=>e=.returned (.bool (decide ((x,y,z)∈L)))∧Below w.heap.size w w':=by
 obtain ⟨w1,hw1⟩:∃ w1,w1=w.alloc (.cells #[.int .i64 x,.int .u64 y,.int .i64 z] 35):=⟨_,rfl⟩
 have hb1:Below w.heap.size w w1:=by rw[hw1]; exact (Below.refl _ w).alloc (nR _) _
 have HA1:=hI (show z8 w1 w.heap.size 35 #[.int .i64 x,.int .u64 y,.int .i64 z] by rw[hw1]; exact z8.new w _ _)
 have HR:=hI (Lu (c:=c) (x:=x) (y:=y) (z:=z) (w:=w1) (S:=S) ⟨h.1,fun h0=>by
  obtain ⟨b,off,e,hb,hc⟩:=h.2 h0
  exact ⟨b,off,e,hb,fun j hj i v hv=>(hb1.cell (p:=⟨b,_,none⟩) (hS b hb)).trans (hc j hj i v hv)⟩⟩ (fun b hb=>nL (hS b hb) hb1.size) hn)
 have HB1:=hI hb1
 have HW1:=hI hw1
 have a0:w1.cell? ⟨w.heap.size,0,none⟩=some (.int .i64 x):=HA1.out.cell 0
 have a1:w1.cell? ⟨w.heap.size,1,none⟩=some (.int .u64 y):=HA1.out.cell 1
 have a2:w1.cell? ⟨w.heap.size,2,none⟩=some (.int .i64 z):=HA1.out.cell 2
 clear h hS hb1 hw1
 go_enter Tryz.func98,Tryz.ntmps98
 go_upto_region 1 with fail
 rw[← HW1.out]
 go_wp2_with fail
 refine HR.out.mono ?_
 rintro e w2 ⟨⟨j,rfl,hj⟩,hb2⟩
 have HB2:=hI (HB1.out.trans (hb2.mono HB1.out.size))
 clear a0 a1 a2 hb2
 by_cases hm:(x,y,z)∈L
 ·have hj0:0≤j:=hj.2 hm
  have HD:=hI (decide_eq_true hm)
  clear hj hm
  go_wp2
  (first | go_ret | go_ret2)
  exact ⟨by rw[HD.out]; first | rfl | simp[hj0],HB2.out⟩
 ·have hj0:¬ 0≤j:=fun h=>hm (hj.1 h)
  have HD:=hI (decide_eq_false hm)
  clear hj hm
  go_wp2
  (first | go_ret | go_ret2)
  exact ⟨by rw[HD.out]; first | rfl | simp[hj0],HB2.out⟩
end
section
attribute [local go_sem] Oper.semAt_some
abbrev lv0:Oper:=⟨some 19,.move (.tmp 0),56,"store.go:175",#[],none⟩
abbrev lv1:Oper:=⟨some 20,.nilCheck (.tmp 19),0,"store.go:175",#[⟨0,.data⟩],none⟩
abbrev lv2:Oper:=⟨some 21,.fieldAddr 137 (.tmp 20) 0,0,"store.go:175",#[⟨1,.data⟩],none⟩
abbrev lv3:Oper:=⟨some 22,.fieldAddr 134 (.tmp 21) 1,0,"store.go:175",#[⟨2,.data⟩],none⟩
abbrev lv4:Oper:=⟨some 23,.load 130 (.tmp 22),130,"store.go:175",#[⟨3,.data⟩],none⟩
abbrev lv5:Oper:=⟨some 24,.fieldAddr 40 (.tmp 3) 1,0,"store.go:175",#[],none⟩
abbrev lv6:Oper:=⟨some 25,.fieldAddr 33 (.tmp 24) 4,0,"store.go:175",#[⟨5,.data⟩],none⟩
abbrev lv7:Oper:=⟨some 26,.load 31 (.tmp 25),31,"store.go:175",#[⟨6,.data⟩],none⟩
abbrev lv8:Oper:=⟨some 27,.call { callee:=.value (.func 100),args:=#[.tmp 26],argTypes:=#[31] },29,"store.go:175",#[⟨7,.data⟩],none⟩
abbrev lv9:Oper:=⟨some 28,.call { callee:=.value (.func 99),args:=#[.tmp 23,.tmp 27],argTypes:=#[130,29] },176,"store.go:175",#[⟨4,.data⟩,⟨8,.data⟩,⟨8,.chain⟩],none⟩
abbrev EU:Oper:=⟨some 29,.fieldAddr 40 (.tmp 3) 0,0,"store.go:175",#[],none⟩
abbrev ET:Oper:=⟨some 30,.load 35 (.tmp 29),35,"store.go:175",#[⟨10,.data⟩],none⟩
abbrev zFV:Oper:=⟨some 31,.call { callee:=.value (.func 98),args:=#[.tmp 28,.tmp 30],argTypes:=#[176,35] },4,"store.go:175",#[⟨9,.data⟩,⟨11,.data⟩,⟨9,.chain⟩],none⟩
abbrev ES:Oper:=⟨some 4,.assign (.tmp 31),4,"store.go:175",#[⟨12,.data⟩,⟨12,.chain⟩,⟨0,.phase⟩,⟨1,.phase⟩,⟨2,.phase⟩,⟨3,.phase⟩,⟨4,.phase⟩,⟨5,.phase⟩,⟨6,.phase⟩,⟨7,.phase⟩,⟨8,.phase⟩,⟨9,.phase⟩,⟨10,.phase⟩,⟨11,.phase⟩,⟨12,.phase⟩],none⟩
section
variable {w w':World} {X Y:Nat→Prop} {B:xu} {slots:Nat} {s:Sup} {xs:List Seg} {st:List zm} {bl:List (List Int)} {u:Bool} {A A2:Option Addr} {m c m2 c2:Nat} {us:List Int}
def vO (st:List zm) (fl sg g sc kd q:Int) (us:List Int):Bool:=decide (kd=1)&&(!decide (q≤fl)&&decide ((sg,g,sc)∈(mP st us).map (·.1)))
theorem YT (h:zT w X B slots s xs st bl u) (sg g sc kd f x q:Int) (hk:zW .u8 w (fun b=>b<w.heap.size) A m us) (hb:Bytes us) (hm:m≤1000000) :
 Calls Tryz.prog 36 #[.pointer (some ⟨B.q,0,none⟩),.agg #[.int .i64 sg,.int .u64 g,.int .i64 sc,.int .i64 kd,.int .u32 f,.int .u32 x,.int .u64 q,.slice A m c,.slice A2 m2 c2]] w fun e w'=>e=.returned (.bool (vO st s.f sg g sc kd q us))∧Below w.heap.size w w':=by
 obtain ⟨w1,hw1⟩:∃ w1,w1=w.alloc (.cells #[.int .i64 sg,.int .u64 g,.int .i64 sc,.int .i64 kd,.int .u32 f,.int .u32 x,.int .u64 q,.slice A m c,.slice A2 m2 c2] 40):=⟨_,rfl⟩
 have hb1:Below w.heap.size w w1:=by rw[hw1]; exact (Below.refl _ w).alloc (nR _) _
 have nU:=hI (show z8 w1 w.heap.size 40 #[.int .i64 sg,.int .u64 g,.int .i64 sc,.int .i64 kd,.int .u32 f,.int .u32 x,.int .u64 q,.slice A m c,.slice A2 m2 c2] by rw[hw1]; exact z8.new w _ _)
 have yQ:=hI (h.below hb1)
 have jh:=hI (hk.below hb1 (fun b h=>h))
 have qm:=hI hb
 have HM:=hI hm
 have HB1:=hI hb1
 have HW1:=hI hw1
 have p3:w1.cell? ⟨w.heap.size,3,none⟩=some (.int .i64 kd):=nU.out.cell 3
 have p4:w1.cell? ⟨w.heap.size,4,none⟩=some (.int .u32 f):=nU.out.cell 4
 have p5:w1.cell? ⟨w.heap.size,5,none⟩=some (.int .u32 x):=nU.out.cell 5
 have p6:w1.cell? ⟨w.heap.size,6,none⟩=some (.int .u64 q):=nU.out.cell 6
 have p7:w1.cell? ⟨w.heap.size,7,none⟩=some (.slice A m c):=nU.out.cell 7
 have p8:w1.cell? ⟨w.heap.size,8,none⟩=some (.slice A2 m2 c2):=nU.out.cell 8
 clear h hk hb hm hb1 hw1
 by_cases hkd:kd=1
 case neg =>
  have hd:(kd != 1)=true:=by simpa using hkd
  have HF:=hI (show vO st s.f sg g sc kd q us=false by unfold vO; rw[decide_eq_false hkd]; rfl)
  clear hkd
  go_enter Tryz.func36,Tryz.ntmps36
  go_upto_region 1 with fail
  rw[← HW1.out]
  go_wp2_with fail
  (first | go_ret | go_ret2)
  exact ⟨by rw[HF.out]; rfl,HB1.out⟩
 case pos =>
  subst hkd
  have dI:=hI (M4 yQ.out 1 f x q A A2 m c m2 c2)
  by_cases hv:q≤s.f
  ·have HF:=hI (show vO st s.f sg g sc 1 q us=false by unfold vO; rw[decide_eq_true hv]; rfl)
   rw[decide_eq_true hv] at dI
   clear hv
   go_enter Tryz.func36,Tryz.ntmps36
   go_upto_region 1 with fail
   rw[← HW1.out]
   go_wp2_with fail
   refine dI.out.mono ?_
   rintro e w2 ⟨rfl,hb2⟩
   have HB2:=hI (HB1.out.trans (hb2.mono HB1.out.size))
   clear hb2
   go_wp2_with fail
   (first | go_ret | go_ret2)
   exact ⟨by rw[HF.out]; rfl,HB2.out⟩
  ·have HF:=hI (show vO st s.f sg g sc 1 q us=decide ((sg,g,sc)∈(mP st us).map (·.1)) by unfold vO; rw[decide_eq_false hv]; rfl)
   rw[decide_eq_false hv] at dI
   clear hv
   go_enter Tryz.func36,Tryz.ntmps36
   go_upto_region 1 with fail
   rw[← HW1.out]
   go_wp2_with fail
   refine dI.out.mono ?_
   rintro e w2 ⟨rfl,hb2⟩
   have Pw:=hI (nU.out.below hb2 nU.out.lt)
   have bJ:=hI (yQ.out.below hb2)
   have yI:=hI (jh.out.below hb2 (fun b h=>nL h HB1.out.size))
   have HB2:=hI (HB1.out.trans (hb2.mono HB1.out.size))
   clear hb2 p3 p4 p5 p6 p7 p8
   go_upto_region 3 with fail
   refine zB.region (fun W=>Below w2.heap.size w2 W) [] (by kernel_rfl) ((Below.refl _ _).drew) (fun hė=>?_)
   generalize w2.drew=vd at *
   refine tK 0 lv0 (v:=?_) ?_ hė ?_
   rotate_left
   ·intro W hSW; unfold lv0; go_simp; with_reducible rfl
   simp only[lv0,Act.put,sA,sZ,sS]
   refine tK 1 lv1 (v:=?_) ?_ hė ?_
   rotate_left
   ·intro W hSW; unfold lv1; go_simp; with_reducible rfl
   simp only[lv1,Act.put,sA,sZ,sS]
   refine tK 2 lv2 (v:=?_) ?_ hė ?_
   rotate_left
   ·intro W hSW; unfold lv2; go_simp; with_reducible rfl
   simp only[lv2,Act.put,sA,sZ,sS]
   refine tK 3 lv3 (v:=?_) ?_ hė ?_
   rotate_left
   ·intro W hSW; unfold lv3; go_simp; with_reducible rfl
   simp only[lv3,Act.put,sA,sZ,sS]
   refine tK 4 lv4 (v:=?_) ?_ hė ?_
   rotate_left
   ·intro W hSW; have h9:=(bJ.out.below hSW).cells.2.1; clear hSW; unfold lv4; go_simp; with_reducible rfl
   simp only[lv4,Act.put,sA,sZ,sS]
   refine tK 5 lv5 (v:=?_) ?_ hė ?_
   rotate_left
   ·intro W hSW; unfold lv5; go_simp; with_reducible rfl
   simp only[lv5,Act.put,sA,sZ,sS]
   refine tK 6 lv6 (v:=?_) ?_ hė ?_
   rotate_left
   ·intro W hSW; unfold lv6; go_simp; with_reducible rfl
   simp only[lv6,Act.put,sA,sZ,sS]
   refine tK 7 lv7 (v:=?_) ?_ hė ?_
   rotate_left
   ·intro W hSW; have h9:W.cell? ⟨w.heap.size,7,none⟩=some (.slice A m c):=(Pw.out.below hSW Pw.out.lt).cell 7; clear hSW; unfold lv7; go_simp; with_reducible rfl
   simp only[lv7,Act.put,sA,sZ,sS]
   refine tK 10 EU (v:=?_) ?_ hė ?_
   rotate_left
   ·intro W hSW; unfold EU; go_simp; with_reducible rfl
   simp only[EU,Act.put,sA,sZ,sS]
   refine tK 11 ET (v:=.agg #[.int .i64 sg,.int .u64 g,.int .i64 sc]) ?_ hė ?_
   ·intro W hSW; have h0:W.cell? ⟨w.heap.size,0,none⟩=some (.int .i64 sg):=(Pw.out.below hSW Pw.out.lt).cell 0; have h1:W.cell? ⟨w.heap.size,1,none⟩=some (.int .u64 g):=(Pw.out.below hSW Pw.out.lt).cell 1; have h2:W.cell? ⟨w.heap.size,2,none⟩=some (.int .i64 sc):=(Pw.out.below hSW Pw.out.lt).cell 2; clear hSW; unfold ET; go_simp
   simp only[ET,Act.put,sA,sZ,sS]
   refine tO 8 lv8 ?_
   intro K hK
   refine zN 100 #[.tmp 26] #[31] rfl rfl Tryz.func100 rfl rfl [.slice A m c] rfl ((mh A m c us vd (yI.out.below hė (fun b h=>nL h HB2.out.size)) (fun b h=>nL h (nT HB2.out.size hė.size)) qm.out HM.out).mono ?_)
   rintro e w3 ⟨rfl,rfl⟩
   refine ⟨_,rfl,?_⟩
   simp only[lv8,Act.put,sA,sZ,sS]
   refine hU hK rfl _ _ hė (fun hė=>?_)
   clear hK K
   refine tO 9 lv9 ?_
   intro K hK
   refine zN 99 #[.tmp 23,.tmp 27] #[130,29] rfl rfl Tryz.func99 rfl rfl [.pointer (some ⟨B.x,0,none⟩),.int .u32 (xJ us:Nat)] rfl ((Hl (bJ.out.ix.below hė bJ.out.ix.lt) (xJ us)).mono ?_)
   rintro e w4 ⟨⟨v,rfl,hown⟩,hb4⟩
   rw[Hq,List.length_map] at hown
   obtain ⟨A3,c3,e9,hAn,hAc,hrow⟩:=Adr.rowZ_own hown rfl (List.length_map _)
   subst e9
   refine ⟨_,rfl,?_⟩
   simp only[lv9,Act.put,sA,sZ,sS]
   have PW:=hė.trans (hb4.mono hė.size)
   have HR4:=hI hrow
   have NI:=hI (show (mP st us).length≤1024 by
    have h1:=bJ.out.ix.len
    have h2:(mP st us).length≤st.length:=by unfold mP; rw[List.length_reverse]; exact List.length_filter_le _ _
    unfold gD at h1
    rw[List.length_map] at h1
    omega)
   refine hU hK rfl _ _ PW (fun hė=>?_)
   clear hK K PW hb4 hrow hown hAn hAc
   refine tO 12 zFV ?_
   intro K hK
   refine zN 98 #[.tmp 28,.tmp 30] #[176,35] rfl rfl Tryz.func98 rfl rfl [.slice A3 (mP st us).length c3,.agg #[.int .i64 sg,.int .u64 g,.int .i64 sc]] rfl ((Dr HR4.out (fun b h=>h.2) (by have:=NI.out; omega) sg g sc).mono ?_)
   rintro e w5 ⟨rfl,hb5⟩
   refine ⟨_,rfl,?_⟩
   simp only[zFV,Act.put,sA,sZ,sS]
   have hH5:=hė.trans (hb5.mono hė.size)
   refine hU hK rfl _ _ hH5 (fun hė=>?_)
   clear hK K hH5 hb5
   refine tK 13 ES (v:=?_) ?_ hė ?_
   rotate_left
   ·intro W hSW; unfold ES; go_simp; with_reducible rfl
   simp only[ES,Act.put,sA,sZ,sS]
   refine zB.done (by kernel_rfl) ?_ _
   go_wp2_with fail
   go_ret
   exact ⟨by rw[HF.out]; rfl,HB2.out.trans (hė.mono HB2.out.size)⟩
end
end
section
attribute [local go_sem] Oper.semAt_some
abbrev mv0:Oper:=⟨some 23,.load 56 (.tmp 2),56,"store.go:196",#[],none⟩
abbrev mv1:Oper:=⟨some 24,.nilCheck (.tmp 23),0,"store.go:196",#[⟨0,.data⟩],none⟩
abbrev mv2:Oper:=⟨some 25,.fieldAddr 137 (.tmp 24) 0,0,"store.go:196",#[⟨1,.data⟩],none⟩
abbrev mv3:Oper:=⟨some 26,.fieldAddr 134 (.tmp 25) 0,0,"store.go:196",#[⟨2,.data⟩],none⟩
abbrev mv4:Oper:=⟨some 27,.load 24 (.tmp 26),24,"store.go:196",#[⟨3,.data⟩],none⟩
abbrev mv5:Oper:=⟨some 28,.fieldAddr 40 (.tmp 3) 1,0,"store.go:196",#[],none⟩
abbrev mv6:Oper:=⟨some 29,.load 33 (.tmp 28),33,"store.go:196",#[⟨5,.data⟩],none⟩
abbrev mv7:Oper:=⟨some 30,.call { callee:=.value (.func 9),args:=#[.tmp 27,.tmp 29],argTypes:=#[24,33] },37,"store.go:196",#[⟨4,.data⟩,⟨6,.data⟩],none⟩
abbrev mv8:Oper:=⟨some 22,.move (.tmp 30),37,"store.go:196",#[⟨7,.data⟩],none⟩
abbrev mv9:Oper:=⟨some 31,.extract (.tmp 22) 0,35,"store.go:196",#[⟨8,.data⟩],none⟩
abbrev E9:Oper:=⟨some 32,.extract (.tmp 22) 1,36,"store.go:196",#[⟨8,.data⟩,{ on:=11,ground:=Go.Ground.gcOnly Go.Departure.lateStores }],none⟩
abbrev zEk:Oper:=⟨none,.store 35 (.tmp 6) (.tmp 31),0,"store.go:196",#[⟨9,.data⟩,⟨7,.chain⟩,⟨0,.phase⟩,⟨1,.phase⟩,⟨2,.phase⟩,⟨3,.phase⟩,⟨4,.phase⟩,⟨5,.phase⟩,⟨6,.phase⟩,⟨7,.phase⟩,⟨8,.phase⟩,⟨9,.phase⟩,{ on:=10,ground:=Go.Ground.textOnly Go.Departure.lateStores }],none⟩
abbrev zMS:Oper:=⟨none,.store 36 (.tmp 4) (.tmp 32),0,"store.go:196",#[⟨10,.data⟩,⟨11,.chain⟩,⟨0,.phase⟩,⟨1,.phase⟩,⟨2,.phase⟩,⟨3,.phase⟩,⟨4,.phase⟩,⟨5,.phase⟩,⟨6,.phase⟩,⟨7,.phase⟩,⟨8,.phase⟩,⟨9,.phase⟩,⟨10,.phase⟩,⟨11,.phase⟩],none⟩
section
variable {w w':World} {X Y:Nat→Prop} {B:xu} {slots:Nat} {s:Sup} {xs:List Seg} {st:List zm} {bl:List (List Int)} {u:Bool} {A A2:Option Addr} {m c n2 c2:Nat} {us vs:List Int} {p:zm} {f0 x0 q0:Int}
def zJh (w : World) (X : Nat → Prop) (B : xu) (slots : Nat) (s : Sup) (xs : List Seg) (st : List zm) (bl : List (List Int)) (bs : List Int) (e : Ending) (w' : World) : Prop :=
 Kept X w w' ∧
 ((kH s xs (zD bs.length)=none∧e=.returned (.int .i64 6)∧∃ k',zT w' X { B with t:=B.t,k:=k',pe:=B.pe } slots s xs st bl false∧k'.held=B.k.held) ∨
  (∃ i s1 xs1 t' k',kH s xs (zD bs.length)=some (i,s1,xs1)∧(s1=s∨s1=jR s)∧e=.returned (.int .i64 0) ∧
    zT w' X { B with t:=t',k:=k',pe:=B.pe+17 } slots s1 (qL xs1 ((zD bs.length:Nat):Int)) (qV st (keyOf bs)++[(((i:Int),zM xs1 i,zI xs1 i),bs)]) (rJ bl i (keyOf bs)) false∧QY B.k s xs k' s1 xs1 (qL xs1 ((zD bs.length:Nat):Int)) i bs ∧
    ∀ q,q∈st→q.1≠((i:Int),zM xs1 i,zI xs1 i)))
theorem zCs (hp:p∈st) (hk:keyOf p.2=us) (hq:s.f<q0):vO st s.f p.1.1 p.1.2.1 p.1.2.2 1 q0 us=true:=by
 unfold vO
 rw[decide_eq_false (show ¬ q0≤s.f by omega),decide_eq_true (show (p.1.1,p.1.2.1,p.1.2.2)∈(mP st us).map (·.1) from ?_)]
 ·rfl
 ·refine List.mem_map.2 ⟨p,?_,rfl⟩
  unfold mP
  rw[List.mem_reverse,List.mem_filter]
  exact ⟨hp,by rw[hk]; simp⟩
theorem D7 (h:zT w X B slots s xs st bl false) (hp:p∈st) (hbs:qI 1 f0 x0 q0 us vs=p.2) (hk:zW .u8 w X A m us) (hv:zW .u8 w X A2 n2 vs) (hb:Bytes us) (hbv:Bytes vs) (hnc:A=none→c=0) (fC:A2=none→c2=0)
 (hmay:May 1 f0 x0 q0 m n2) (hr:oJ f0 x0 q0) (hq:s.f<q0) (hpe:B.pe≤900000) (hgm:s.g+1≤18446744073709551615) :
 Calls Tryz.prog 37 #[.pointer (some ⟨B.q,0,none⟩),.agg #[.int .i64 p.1.1,.int .u64 p.1.2.1,.int .i64 p.1.2.2,.int .i64 1,.int .u32 f0,.int .u32 x0,.int .u64 q0,.slice A m c,.slice A2 n2 c2]] w (zJh w X B slots s xs st bl p.2):=by
 obtain ⟨w1,hw1⟩:∃ w1,w1=((w.alloc (.cells #[.pointer (some ⟨B.q,0,none⟩)] 56)).alloc (.cells #[.int .i64 p.1.1,.int .u64 p.1.2.1,.int .i64 p.1.2.2,.int .i64 1,.int .u32 f0,.int .u32 x0,.int .u64 q0,.slice A m c,.slice A2 n2 c2] 40)).alloc (.cells #[.int .i64 0] 36):=⟨_,rfl⟩
 have hb1:Below w.heap.size w w1:=by rw[hw1]; exact (((Below.refl _ w).alloc (nR _) _).alloc (by simp) _).alloc (by simp; omega) _
 have ql:=hI (show z8 w1 w.heap.size 56 #[.pointer (some ⟨B.q,0,none⟩)] by rw[hw1]; exact ((z8.new w _ _).alloc _).alloc _)
 have nU:=hI (show z8 w1 (w.heap.size+1) 40 #[.int .i64 p.1.1,.int .u64 p.1.2.1,.int .i64 p.1.2.2,.int .i64 1,.int .u32 f0,.int .u32 x0,.int .u64 q0,.slice A m c,.slice A2 n2 c2] by rw[hw1]; exact (zY w _ _ _).alloc _)
 have yS:=hI (show z8 w1 (w.heap.size+1+1) 36 #[.int .i64 0] by rw[hw1]; exact jw w _ _ _ _)
 have xV:=hI h
 have yQ:=hI (h.grow hb1)
 have HB1:=hI hb1
 have bM:=hI (show w.heap.size+1+1<w1.heap.size from yS.out.lt)
 have HPP:=hI hp
 have HK:=hI hk
 have HV:=hI hv
 have qm:=hI (And.intro hb hbv)
 have OI:=hI (And.intro hnc fC)
 have gN:=hI hmay
 have QB:=hI hr
 have sV:=hI (And.intro hpe hgm)
 have HM:=hI (show m≤250 from by have:=hmay.2.2.1; omega)
 have hkl:us.length=m:=hk.1
 have HKEY:=hI (show keyOf p.2=us by
  rw[← hbs]
  have h9:=Jp (k:=1) (f:=f0) (x:=x0) (s:=q0) (xs:=us) (ys:=vs) (zs:=[]) (by have:=hmay.2.2.1; omega)
  rwa [List.append_nil] at h9)
 have mG:=hI hbs
 have HLV:=hI (zCs (q0:=q0) hp HKEY.out hq)
 have HOL:=hI (fun b (hb:B.own b)=>h.own_lt hb)
 have HW1:=hI hw1
 clear hw1 hb1 h hp hbs hk hv hb hbv hnc fC hmay hr hq hpe hgm hkl
 go_enter_defers Tryz.func37,Tryz.ntmps37
 go_upto_region 1 with fail
 rw[← HW1.out]
 have s0:w1.cell? ⟨w.heap.size,0,none⟩=some (.pointer (some ⟨B.q,0,none⟩)):=ql.out.cell 0
 go_wp2_with fail
 refine (vB yQ.out).mono ?_
 rintro e w2 ⟨rfl,rfl⟩
 have OP:=hI (YT (c:=c) (A2:=A2) (m2:=n2) (c2:=c2) yQ.out p.1.1 p.1.2.1 p.1.2.2 1 f0 x0 q0 ((HK.out.below HB1.out xV.out.lt).more (fun b hb=>nL (xV.out.lt b hb) HB1.out.size)) qm.out.1 (by have:=HM.out; omega))
 rw[HLV.out] at OP
 go_wp2_with (refine zV (.tmp 3) 40 rfl rfl (w.heap.size+1) rfl 40 (Array.toList #[.int .i64 p.1.1,.int .u64 p.1.2.1,.int .i64 p.1.2.2,.int .i64 1,.int .u32 f0,.int .u32 x0,.int .u64 q0,.slice A m c,.slice A2 n2 c2]) _ Tryz.underlying40 rfl nZ nU.out ?_)
 refine OP.out.mono ?_
 rintro e w3 ⟨rfl,hb3⟩
 have aP:=uT Tryz.prog
 obtain ⟨wc,hwc⟩:∃ wc,wc=w3.alloc (.cells #[.slice A m c] 31):=⟨_,rfl⟩
 have hbc:Below w2.heap.size w2 wc:=by rw[hwc]; exact hb3.alloc hb3.size _
 have TA:=hI (show z8 wc w3.heap.size 31 #[.slice A m c] by rw[hwc]; exact z8.new w3 _ _)
 have HWC:=hI hwc.symm
 obtain ⟨w8,hw8⟩:∃ w8,w8=wc.alloc (.cells #[.int .i64 0,.int .u64 0,.int .i64 0] 35):=⟨_,rfl⟩
 have hal:Below wc.heap.size wc w8:=by rw[hw8]; exact (Below.refl _ wc).alloc (nR _) _
 have jK:Below w2.heap.size w2 w8:=hbc.trans (hal.mono hbc.size)
 have VO:=hI (show z8 w8 wc.heap.size 35 #[.int .i64 0,.int .u64 0,.int .i64 0] by rw[hw8]; exact z8.new wc _ _)
 have jA:=hI (xV.out.grow (HB1.out.trans (jK.mono HB1.out.size)))
 have aZ:=hI (ql.out.below jK ql.out.lt)
 have HP8:=hI (nU.out.below jK nU.out.lt)
 have zNh:=hI (TA.out.below hal TA.out.lt)
 have F3:=hI (yS.out.below jK yS.out.lt)
 have yj:=hI (HB1.out.trans (jK.mono HB1.out.size))
 have QC:=hI (Kept.of_below (S:=X) yj.out xV.out.lt)
 have oO:=hI (And.intro hbc.size (And.intro hb3.size (And.intro TA.out.lt VO.out.lt)))
 have nH:=hI hw8.symm
 have p7:w3.cell? ⟨w.heap.size+1,7,none⟩=some (.slice A m c):=(nU.out.below hb3 nU.out.lt).cell 7
 clear hwc hbc hw8 hal jK hb3 s0 yQ ql yS TA
 go_upto_region 8 with fail
 rw[HWC.out]
 clear p7
 go_upto_region 10 with fail
 rw[nH.out]
 clear nH HWC
 obtain ⟨X8,JG⟩:∃ X8:Nat→Prop,(fun b=>X b∨(w.heap.size≤b∧b<w8.heap.size))=X8:=⟨_,rfl⟩
 rw[JG] at jA
 have hx0:∀ b,X b→X8 b:=fun b hb=>by rw[← JG]; exact .inl hb
 have hbl:=bM.out
 have Xd:=oO.out
 have yR:=hI (show X8 w.heap.size∧X8 (w.heap.size+1)∧X8 (w.heap.size+1+1)∧X8 w3.heap.size∧X8 w3.heap.size∧X8 wc.heap.size by
  rw[← JG]
  exact ⟨.inr ⟨by omega,by omega⟩,.inr ⟨by omega,by omega⟩,.inr ⟨by omega,by omega⟩,.inr ⟨by omega,by omega⟩,.inr ⟨by omega,by omega⟩,.inr ⟨by omega,by omega⟩⟩)
 have HX0:=hI hx0
 have Xu:=hI (show B.q<w.heap.size from HOL.out _ (.inl rfl))
 clear JG hx0 hbl Xd
 have dY:=hI (show ∀ W,Kept (fun b=>(X8 b∨B.own b)∧b≠w.heap.size+1+1∧b≠wc.heap.size) w8 W→W.cell? ⟨w.heap.size,0,none⟩=some (.pointer (some ⟨B.q,0,none⟩))∧W.cell? ⟨B.q,0,none⟩=some (.pointer (some ⟨B.l,0,none⟩))∧W.rangeAt (w.heap.size+1) 3 [.int .i64 1,.int .u32 f0,.int .u32 x0,.int .u64 q0,.slice A m c,.slice A2 n2 c2] from fun W hW=>by
  obtain ⟨q0,q1,_,_⟩:=jA.out.cells
  obtain ⟨i1,i2,i3,i4,i5,i6⟩:=yR.out
  have h3:=Xu.out
  have hbl:=bM.out
  have Xd:=oO.out
  have hp:=HP8.out.kept hW ⟨.inl i2,by omega,by omega⟩
  exact ⟨(aZ.out.kept hW ⟨.inl i1,by omega,by omega⟩).cell 0,(hW.cell (p:=⟨B.q,0,none⟩) ⟨.inr (.inl rfl),(by omega:B.q≠_),(by omega:B.q≠_)⟩).trans q0,fun i v hv=>(hp.cell (3+i)).trans (by rcases i with _ | _ | _ | _ | _ | _ | i <;> simp at hv ⊢ <;> exact hv)⟩)
 have ak:=hI (HK.out.kept QC.out (fun b hb=>hb))
 have HRV:=hI (HV.out.kept QC.out (fun b hb=>hb))
 have yB:=hI (jA.out.ylt)
 refine wp_region_noPanic ?_
 refine zB.region (fun W=>Kept (fun b=>(X8 b∨B.own b)∧b≠w.heap.size+1+1∧b≠wc.heap.size) w8 W) [] (by kernel_rfl) ((Kept.refl _ _).drew) (fun hė=>?_)
 have hdr:=(Below.refl w8.heap.size w8).drew
 have NP:=hI (rW (jA.out.below hdr).log (jA.out.below hdr).ylt sV.out.1 sV.out.2 (c1:=c) (c2:=c2) gN.out QB.out
  ((ak.out.below hdr (fun b hb=>jA.out.lt b (HX0.out b hb))).more (fun b hb=>jA.out.lt b (HX0.out b hb))) ((HRV.out.below hdr (fun b hb=>jA.out.lt b (HX0.out b hb))).more (fun b hb=>jA.out.lt b (HX0.out b hb))) OI.out.1 OI.out.2 qm.out.1 qm.out.2)
 rw[mG.out] at NP
 clear hdr
 refine tK 0 mv0 (v:=?_) ?_ hė ?_
 rotate_left
 ·intro W hSW; have h9:=(dY.out W hSW).1; clear hSW; unfold mv0; go_simp; with_reducible rfl
 simp only[mv0,Act.put,sA,sZ,sS]
 refine tK 1 mv1 (v:=?_) ?_ hė ?_
 rotate_left
 ·intro W hSW; unfold mv1; go_simp; with_reducible rfl
 simp only[mv1,Act.put,sA,sZ,sS]
 refine tK 2 mv2 (v:=?_) ?_ hė ?_
 rotate_left
 ·intro W hSW; unfold mv2; go_simp; with_reducible rfl
 simp only[mv2,Act.put,sA,sZ,sS]
 refine tK 3 mv3 (v:=?_) ?_ hė ?_
 rotate_left
 ·intro W hSW; unfold mv3; go_simp; with_reducible rfl
 simp only[mv3,Act.put,sA,sZ,sS]
 refine tK 4 mv4 (v:=?_) ?_ hė ?_
 rotate_left
 ·intro W hSW; have h9:=(dY.out W hSW).2.1; clear hSW; unfold mv4; go_simp; with_reducible rfl
 simp only[mv4,Act.put,sA,sZ,sS]
 refine tK 5 mv5 (v:=?_) ?_ hė ?_
 rotate_left
 ·intro W hSW; unfold mv5; go_simp; with_reducible rfl
 simp only[mv5,Act.put,sA,sZ,sS]
 refine tK 6 mv6 (v:=.agg #[.int .i64 1,.int .u32 f0,.int .u32 x0,.int .u64 q0,.slice A m c,.slice A2 n2 c2]) ?_ hė ?_
 ·intro W hSW; refine qw (.tmp 28) 33 ?_ (w.heap.size+1) 3 ?_ [.int .i64 1,.int .u32 f0,.int .u32 x0,.int .u64 q0,.slice A m c,.slice A2 n2 c2] _ Tryz.underlying33 rfl zR (dY.out W hSW).2.2 <;> rfl
 simp only[mv6,Act.put,sA,sZ,sS]
 refine tO 7 mv7 ?_
 intro K hK
 refine zN 9 #[.tmp 27,.tmp 29] #[24,33] rfl rfl Tryz.func9 rfl rfl [.pointer (some ⟨B.l,0,none⟩),.agg #[.int .i64 1,.int .u32 f0,.int .u32 x0,.int .u64 q0,.slice A m c,.slice A2 n2 c2]] rfl (NP.out.mono ?_)
 intro e w9 hap
 obtain ⟨a,er,s1,xs1,t1,k1,fQ,rfl,xI,sM,hcase⟩:=hap.told
 refine ⟨_,rfl,?_⟩
 simp only[mv7,Act.put,sA,sZ,sS]
 have bD:Kept (fun b=>(X8 b∨B.own b)∧b≠w.heap.size+1+1∧b≠wc.heap.size) w8 w9:=hė.trans xI (fun b h=>h.1)
 have bK:=hI (((Kept.refl (fun b=>X8 b∨B.own b) w8).drew).trans xI (fun b h=>h))
 have Co:=hI sM
 have HC:=hI hcase
 have YB:=hI (VO.out.kept bK.out (.inl yR.out.2.2.2.2.2))
 have ZA:=hI (F3.out.kept bK.out (.inl yR.out.2.2.1))
 clear hap xI sM hcase NP hė
 refine hU hK rfl _ _ bD (fun hė=>?_)
 clear hK K bD
 refine tK 8 mv8 (v:=?_) ?_ hė ?_
 rotate_left
 ·intro W hSW; unfold mv8; go_simp; with_reducible rfl
 simp only[mv8,Act.put,sA,sZ,sS]
 refine tK 9 mv9 (v:=?_) ?_ hė ?_
 rotate_left
 ·intro W hSW; unfold mv9; go_simp; with_reducible rfl
 simp only[mv9,Act.put,sA,sZ,sS]
 refine tK 10 E9 (v:=?_) ?_ hė ?_
 rotate_left
 ·intro W hSW; unfold E9; go_simp; with_reducible rfl
 simp only[E9,Act.put,sA,sZ,sS]
 refine tO 11 zEk ?_
 intro K hK
 refine jS (.tmp 6) (.tmp 31) 35 rfl rfl wc.heap.size #[.int .i64 a.1,.int .u64 a.2.1,.int .i64 a.2.2] rfl rfl 35 _ YB.out kD rfl (by simp[Value.oneCell']) ?_
 simp only[zEk,Act.put,sA,sZ,sS]
 have hk10:Kept (fun b=>b≠wc.heap.size) w9 (w9.setRow wc.heap.size #[.int .i64 a.1,.int .u64 a.2.1,.int .i64 a.2.2]):=(Kept.refl _ _).setRow (fun h=>h rfl) _
 have rF:Kept (fun b=>(X8 b∨B.own b)∧b≠w.heap.size+1+1∧b≠wc.heap.size) w8 (w9.setRow wc.heap.size #[.int .i64 a.1,.int .u64 a.2.1,.int .i64 a.2.2]):=hė.trans hk10 (fun b h=>h.2.2)
 have hcb:wc.heap.size≠w.heap.size+1+1:=by have:=bM.out; have:=oO.out; omega
 have oh:=hI (ZA.out.kept hk10 (Ne.symm hcb))
 have iI:=hI (setRow_heap _ _ _ #[.int .i64 a.1,.int .u64 a.2.1,.int .i64 a.2.2] _ _ YB.out)
 have vM:=hI hk10
 obtain ⟨w10,vG⟩:∃ w10,w10=w9.setRow wc.heap.size #[.int .i64 a.1,.int .u64 a.2.1,.int .i64 a.2.2]:=⟨_,rfl⟩
 rw[← vG] at oh iI vM rF ⊢
 clear hk10 vG
 refine hU hK rfl _ _ rF (fun hė=>?_)
 clear hK K rF
 refine tO 12 zMS ?_
 intro K hK
 have e8:w10.cell? ⟨w.heap.size+1+1,0,none⟩=some (.int .i64 0):=oh.out.cell 0
 have e9:=oh.out.frozen 0
 go_simp
 clear e8 e9
 have Zo:Kept (fun b=>(X8 b∨B.own b)∧b≠w.heap.size+1+1∧b≠wc.heap.size) w8 (w10.setCell ⟨w.heap.size+1+1,0,none⟩ (.int .i64 er)):=hė.setCell (p:=⟨w.heap.size+1+1,0,none⟩) (fun h=>h.2.1 rfl) _
 refine hK.out _ _ (fun _=>Zo) (fun hė=>?_)
 clear hK K Zo
 refine zB.done (by kernel_rfl) ?_ _
 refine NoPanic.normal ?_
 obtain ⟨w11,wF⟩:∃ w11,w11=w10.setCell ⟨w.heap.size+1+1,0,none⟩ (.int .i64 er):=⟨_,rfl⟩
 have QE:=hI (show z8 w11 (w.heap.size+1+1) 36 #[.int .i64 er] by rw[wF]; exact oh.out.set_ 0 (.int .i64 er))
 have Jj:=hI (show z8 w11 wc.heap.size 35 #[.int .i64 a.1,.int .u64 a.2.1,.int .i64 a.2.2] by rw[wF]; exact z8.far iI.out (p:=⟨w.heap.size+1+1,0,none⟩) hcb _)
 have Ct:=hI (show Kept (fun b=>b≠wc.heap.size∧b≠w.heap.size+1+1) w9 w11 by rw[wF]; exact (vM.out.mono (fun b h=>h.1)).setCell (p:=⟨w.heap.size+1+1,0,none⟩) (fun h=>h.2 rfl) _)
 rw[← wF]
 clear wF oh iI vM ZA YB
 have e8:w11.cell? ⟨w.heap.size+1+1,0,none⟩=some (.int .i64 er):=QE.out.cell 0
 have e9:=QE.out.frozen 0
 go_wp2_with fail
 clear e8 e9
 obtain ⟨w12,dM⟩:∃ w12,w12=w11.setCell ⟨w.heap.size+1+1,0,none⟩ (.int .i64 er):=⟨_,rfl⟩
 have l5:=hI (show z8 w12 (w.heap.size+1+1) 36 #[.int .i64 er] by rw[dM]; exact QE.out.set_ 0 (.int .i64 er))
 have hcb:wc.heap.size≠w.heap.size+1+1:=by have:=bM.out; have:=oO.out; omega
 have WQ:=hI (show z8 w12 wc.heap.size 35 #[.int .i64 a.1,.int .u64 a.2.1,.int .i64 a.2.2] by rw[dM]; exact z8.far Jj.out (p:=⟨w.heap.size+1+1,0,none⟩) hcb _)
 have fE:=hI (show Kept (fun b=>b≠wc.heap.size∧b≠w.heap.size+1+1) w9 w12 by rw[dM]; exact Ct.out.setCell (p:=⟨w.heap.size+1+1,0,none⟩) (fun h=>h.2 rfl) _)
 rw[← dM]
 clear dM QE Jj Ct
 have hbl:=bM.out
 have Xd:=oO.out
 obtain ⟨i1,i2,i3,i4,i5,i6⟩:=yR.out
 have kW:Kept (fun b=>(X8 b∨B.own b)∧b≠wc.heap.size∧b≠w.heap.size+1+1) w8 w12:=(bK.out.mono (fun b h=>h.1)).trans fE.out (fun b h=>h.2)
 have gM:=hI (aZ.out.kept kW ⟨.inl i1,by omega,by omega⟩)
 have zIb:=hI (HP8.out.kept kW ⟨.inl i2,by omega,by omega⟩)
 have zJw:=hI (zNh.out.kept kW ⟨.inl i4,by omega,by omega⟩)
 have hkx:Kept X w w12:=QC.out.trans kW (fun b hb=>⟨.inl (HX0.out b hb),by have:=xV.out.lt b hb; omega,by have:=xV.out.lt b hb; omega⟩)
 have hl12:=Co.out.off fE.out (fun b _ hn=>⟨fun e=>hn (.inl (e▸i6)),fun e=>hn (.inl (e▸i3))⟩)
 have wG:xs1.length=xs.length:=by
  have h1:=hl12.dims
  have h2:=jA.out.log.dims
  rcases HC.out with ⟨_,_,e,_⟩ | ⟨_,_,_,_,_,e | e,_⟩
  ·rw[e] at h1; omega
  ·rw[e] at h1; omega
  ·rw[e] at h1
   have h3:(jR s).a=s.a:=rfl
   omega
 refine leaves_cons (f:=101) (args:=#[.pointer (some ⟨w.heap.size+1+1,0,none⟩),.pointer (some ⟨w.heap.size,0,none⟩),.pointer (some ⟨w3.heap.size,0,none⟩),.pointer (some ⟨w.heap.size+1,0,none⟩),.pointer (some ⟨wc.heap.size,0,none⟩)]) (by simp) (by simp[go_sem]) ?_
 rcases HC.out with ⟨hno,rfl,rfl,rfl,rfl,rfl,rfl⟩ | ⟨i,ys,hsome,rfl,ha,hs1,hxs,JC,hat,hall,gB⟩
 ·refine (EB _ _ _ _ l5.out (by decide)).mono ?_
  rintro e u' w13 ⟨rfl,rfl,rfl⟩
  have hm:=jA.out.logTo2 kW (fun b hb=>⟨.inr hb,by have:=HOL.out b hb; omega,by have:=HOL.out b hb; omega⟩) (fun b hb=>hb) jA.out.off (fun b hb=>nL (jA.out.lt b hb) kW.size) hl12 rfl jA.out.inv
  refine ⟨.int .i64 6,?_,hkx,.inl ⟨hno,rfl,_,hm.less HX0.out,rfl⟩⟩
  have c6:w13.cell? ⟨w.heap.size+1+1,0,none⟩=some (.int .i64 6):=l5.out.cell 0
  simp[results,Tryz.f37,go_sem,c6]
 ·have hm:=jA.out.logTo2 kW (fun b hb=>⟨.inr hb,by have:=HOL.out b hb; omega,by have:=HOL.out b hb; omega⟩) (fun b hb=>hb) jA.out.off (fun b hb=>nL (jA.out.lt b hb) kW.size) hl12 wG (jA.out.inv.go (fun a' bs' h=>(hall a' bs' h).1))
  have hil:i<bl.length:=by
   obtain ⟨_,j,cc,e,h2,_⟩:=hat
   rw[ha] at e
   injection e with e1 _
   have:=jA.out.num
   omega
  have hfr:∀ q,q∈st→q.1≠a:=fun q hq=>(hall _ _ (jA.out.inv.here q hq)).2
  have hsl:(qV st (keyOf p.2)).length≠slots:=by
   have h9:=jA.out.ix.len
   unfold gD at h9
   rw[List.length_map] at h9
   have h8:(qV st (keyOf p.2)).length<st.length:=by
    unfold qV
    exact List.length_filter_lt_length_iff_exists.2 ⟨p,HPP.out,by simp⟩
   omega
  rw[ha] at hat hfr
  have Ii:z8 w12 wc.heap.size 35 #[.int .i64 (i:Int),.int .u64 (zM ys i),.int .i64 (zI ys i)]:=by
   have h9:=WQ.out
   rw[ha] at h9
   exact h9
  have hrow:zW .u8 w12 X8 A m (keyOf p.2):=by
   rw[HKEY.out]
   exact (HK.out.kept hkx (fun b hb=>hb)).more HX0.out
  have hpr:w12.rangeAt (w.heap.size+1) 0 [.int .i64 p.1.1,.int .u64 p.1.2.1,.int .i64 p.1.2.2]:=fun j v hv=>(zIb.out.cell (0+j)).trans (by rcases j with _ | _ | _ | j <;> simp at hv ⊢ <;> exact hv)
  refine (EA (c:=c) hm HPP.out l5.out gM.out zJw.out hpr Ii ⟨i1,i4,i6,zIb.out.lt⟩ hil hrow (by rw[HKEY.out]; exact qm.out.1) (by have:=HM.out; omega) hat hfr hsl).mono ?_
  rintro e u' w13 ⟨rfl,rfl,Vs,dO⟩
  subst hxs JC
  have hown:∀ b,X8 b→b<w12.heap.size∧¬ B.own b:=fun b hb=>⟨nL (jA.out.lt b hb) kW.size,fun e=>jA.out.off b e hb⟩
  refine ⟨.int .i64 0,?_,hkx.trans dO (fun b hb=>hown b (HX0.out b hb)),.inr ⟨i,s1,ys,t1,k1,hsome,hs1,rfl,Vs.less HX0.out,gB,hfr⟩⟩
  have c6:w13.cell? ⟨w.heap.size+1+1,0,none⟩=some (.int .i64 0):=(l5.out.kept dO (hown _ i3)).cell 0
  simp[results,Tryz.f37,go_sem,c6]
theorem zCj (h:zT w X B slots s xs st bl false) (sg g sc kd f x q:Int) (hk:zW .u8 w (fun b=>b<w.heap.size) A m us) (hb:Bytes us) (hm:m≤1000000) (hl:vO st s.f sg g sc kd q us=false) :
 Calls Tryz.prog 37 #[.pointer (some ⟨B.q,0,none⟩),.agg #[.int .i64 sg,.int .u64 g,.int .i64 sc,.int .i64 kd,.int .u32 f,.int .u32 x,.int .u64 q,.slice A m c,.slice A2 n2 c2]] w fun e w'=>e=.returned (.int .i64 4)∧Below w.heap.size w w':=by
 obtain ⟨w1,hw1⟩:∃ w1,w1=((w.alloc (.cells #[.pointer (some ⟨B.q,0,none⟩)] 56)).alloc (.cells #[.int .i64 sg,.int .u64 g,.int .i64 sc,.int .i64 kd,.int .u32 f,.int .u32 x,.int .u64 q,.slice A m c,.slice A2 n2 c2] 40)).alloc (.cells #[.int .i64 0] 36):=⟨_,rfl⟩
 have hb1:Below w.heap.size w w1:=by rw[hw1]; exact (((Below.refl _ w).alloc (nR _) _).alloc (by simp) _).alloc (by simp; omega) _
 have ql:=hI (show z8 w1 w.heap.size 56 #[.pointer (some ⟨B.q,0,none⟩)] by rw[hw1]; exact ((z8.new w _ _).alloc _).alloc _)
 have nU:=hI (show z8 w1 (w.heap.size+1) 40 #[.int .i64 sg,.int .u64 g,.int .i64 sc,.int .i64 kd,.int .u32 f,.int .u32 x,.int .u64 q,.slice A m c,.slice A2 n2 c2] by rw[hw1]; exact (zY w _ _ _).alloc _)
 have yS:=hI (show z8 w1 (w.heap.size+1+1) 36 #[.int .i64 0] by rw[hw1]; exact jw w _ _ _ _)
 have yQ:=hI (h.below hb1)
 have HB1:=hI hb1
 have OP:=hI (YT (c:=c) (A2:=A2) (m2:=n2) (c2:=c2) yQ.out sg g sc kd f x q ((hk.below hb1 (fun b h=>h)).more (fun b h=>nL h hb1.size)) hb hm)
 rw[hl] at OP
 have HW1:=hI hw1
 clear hw1 hb1 h hk hb hm hl
 go_enter_defers Tryz.func37,Tryz.ntmps37
 go_upto_region 1 with fail
 rw[← HW1.out]
 have s0:w1.cell? ⟨w.heap.size,0,none⟩=some (.pointer (some ⟨B.q,0,none⟩)):=ql.out.cell 0
 go_wp2_with fail
 refine (vB yQ.out).mono ?_
 rintro e w2 ⟨rfl,rfl⟩
 go_wp2_with (refine zV (.tmp 3) 40 rfl rfl (w.heap.size+1) rfl 40 (Array.toList #[.int .i64 sg,.int .u64 g,.int .i64 sc,.int .i64 kd,.int .u32 f,.int .u32 x,.int .u64 q,.slice A m c,.slice A2 n2 c2]) _ Tryz.underlying40 rfl nZ nU.out ?_)
 refine OP.out.mono ?_
 rintro e w3 ⟨rfl,hb3⟩
 have dh:=hI (yS.out.below hb3 yS.out.lt)
 have HB3:=hI (HB1.out.trans (hb3.mono HB1.out.size))
 have e8:w3.cell? ⟨w.heap.size+1+1,0,none⟩=some (.int .i64 0):=dh.out.cell 0
 have e9:=dh.out.frozen 0
 clear hb3 s0
 go_wp2_with fail
 refine ⟨.int .i64 4,?_,rfl,HB3.out.setCell (p:=⟨w.heap.size+1+1,0,none⟩) (by show w.heap.size≤w.heap.size+1+1; omega) _⟩
 have c6:(w3.setCell ⟨w.heap.size+1+1,0,none⟩ (.int .i64 4)).cell? ⟨w.heap.size+1+1,0,none⟩=some (.int .i64 4):=(dh.out.set_ 0 (.int .i64 4)).cell 0
 simp[results,Tryz.f37,go_sem,c6]
end
end
section
attribute [local go_sem] Oper.semAt_some
abbrev ku0:Oper:=⟨some 27,.load 56 (.tmp 3),56,"store.go:127",#[],none⟩
abbrev ku1:Oper:=⟨some 28,.nilCheck (.tmp 27),0,"store.go:127",#[⟨0,.data⟩],none⟩
abbrev ku2:Oper:=⟨some 29,.fieldAddr 137 (.tmp 28) 0,0,"store.go:127",#[⟨1,.data⟩],none⟩
abbrev ku3:Oper:=⟨some 30,.load 134 (.tmp 29),134,"store.go:127",#[⟨2,.data⟩],none⟩
abbrev ku4:Oper:=⟨some 31,.load 31 (.tmp 4),31,"store.go:127",#[],none⟩
abbrev ku5:Oper:=⟨some 32,.call { callee:=.value (.func 72),args:=#[.tmp 30,.tmp 31],argTypes:=#[134,31] },155,"store.go:127",#[⟨3,.data⟩,⟨4,.data⟩],none⟩
abbrev Mq:Oper:=⟨some 26,.move (.tmp 32),155,"store.go:127",#[⟨5,.data⟩],none⟩
abbrev Ml:Oper:=⟨some 33,.extract (.tmp 26) 0,154,"store.go:127",#[⟨6,.data⟩],none⟩
abbrev Mk:Oper:=⟨some 34,.extract (.tmp 26) 1,36,"store.go:127",#[⟨6,.data⟩,{ on:=10,ground:=Go.Ground.gcOnly Go.Departure.lateStores }],none⟩
abbrev ku9:Oper:=⟨some 8,.alloc 154,0,"store.go:127",#[],none⟩
abbrev Rh:Oper:=⟨none,.store 154 (.tmp 8) (.tmp 33),0,"store.go:127",#[⟨9,.data⟩,⟨7,.data⟩,⟨5,.chain⟩,⟨0,.phase⟩,⟨1,.phase⟩,⟨2,.phase⟩,⟨3,.phase⟩,⟨4,.phase⟩,⟨5,.phase⟩,⟨6,.phase⟩,⟨7,.phase⟩,{ on:=8,ground:=Go.Ground.textOnly Go.Departure.lateStores },⟨9,.phase⟩],none⟩
abbrev zFq:Oper:=⟨none,.store 36 (.tmp 6) (.tmp 34),0,"store.go:127",#[⟨8,.data⟩,⟨10,.chain⟩,⟨0,.phase⟩,⟨1,.phase⟩,⟨2,.phase⟩,⟨3,.phase⟩,⟨4,.phase⟩,⟨5,.phase⟩,⟨6,.phase⟩,⟨7,.phase⟩,⟨8,.phase⟩,⟨9,.phase⟩,⟨10,.phase⟩],none⟩
abbrev kw0:Oper:=⟨some 40,.load 56 (.tmp 3),56,"store.go:136",#[],none⟩
abbrev kw1:Oper:=⟨some 41,.nilCheck (.tmp 40),0,"store.go:136",#[⟨0,.data⟩],none⟩
abbrev kw2:Oper:=⟨some 42,.fieldAddr 137 (.tmp 41) 0,0,"store.go:136",#[⟨1,.data⟩],none⟩
abbrev kw3:Oper:=⟨some 43,.fieldAddr 134 (.tmp 42) 0,0,"store.go:136",#[⟨2,.data⟩],none⟩
abbrev kw4:Oper:=⟨some 44,.load 24 (.tmp 43),24,"store.go:136",#[⟨3,.data⟩],none⟩
abbrev kw5:Oper:=⟨some 45,.load 33 (.tmp 7),33,"store.go:136",#[],none⟩
abbrev kw6:Oper:=⟨some 46,.call { callee:=.value (.func 9),args:=#[.tmp 44,.tmp 45],argTypes:=#[24,33] },37,"store.go:136",#[⟨4,.data⟩,⟨5,.data⟩],none⟩
abbrev Mj:Oper:=⟨some 39,.move (.tmp 46),37,"store.go:136",#[⟨6,.data⟩],none⟩
abbrev Mi:Oper:=⟨some 47,.extract (.tmp 39) 0,35,"store.go:136",#[⟨7,.data⟩],none⟩
abbrev Mh:Oper:=⟨some 48,.extract (.tmp 39) 1,36,"store.go:136",#[⟨7,.data⟩,{ on:=11,ground:=Go.Ground.gcOnly Go.Departure.lateStores }],none⟩
abbrev Rf:Oper:=⟨some 9,.alloc 35,0,"store.go:136",#[],none⟩
abbrev Rb:Oper:=⟨none,.store 35 (.tmp 9) (.tmp 47),0,"store.go:136",#[⟨10,.data⟩,⟨8,.data⟩,⟨6,.chain⟩,⟨0,.phase⟩,⟨1,.phase⟩,⟨2,.phase⟩,⟨3,.phase⟩,⟨4,.phase⟩,⟨5,.phase⟩,⟨6,.phase⟩,⟨7,.phase⟩,⟨8,.phase⟩,{ on:=9,ground:=Go.Ground.textOnly Go.Departure.lateStores },⟨10,.phase⟩],none⟩
abbrev zFk:Oper:=⟨some 10,.assign (.tmp 48),36,"store.go:136",#[⟨9,.data⟩,⟨11,.chain⟩,⟨0,.phase⟩,⟨1,.phase⟩,⟨2,.phase⟩,⟨3,.phase⟩,⟨4,.phase⟩,⟨5,.phase⟩,⟨6,.phase⟩,⟨7,.phase⟩,⟨8,.phase⟩,⟨9,.phase⟩,⟨10,.phase⟩,⟨11,.phase⟩],none⟩
section
variable {w w':World} {X Y:Nat→Prop} {B:xu} {slots:Nat} {s:Sup} {xs:List Seg} {st:List zm} {bl:List (List Int)} {u:Bool} {A:Option Addr} {m c:Nat} {us:List Int} {k k':Dk} {l p d n pe:Nat} {t:Int}
theorem M9 (h:jJ w X l p d n s t k xs pe) (hX:∀ b,X b→b<w.heap.size) :
 Calls Tryz.prog 92 #[.pointer (some ⟨l,0,none⟩)] w fun e w'=>e=.returned (.int .i64 0)∧jJ w' X l p d n s t (k.wr Dk.sync) xs pe∧Kept X w w':=by
 obtain ⟨A,c,hl,hc,hn⟩:=h.log
 refine (TY hl hX h.good).mono ?_
 rintro e w' ⟨rfl,hl',hk⟩
 exact ⟨rfl,⟨⟨A,c,hl',hc,hn⟩,h.good.sync,h.ok,h.top,h.may,h.sin,h.dims,h.n2,h.room,by rw[h.good.pend_sync]; exact Nat.zero_le _⟩,hk⟩
def zOL (w:World) (Y:Nat→Prop) (l p d n:Nat) (s:Sup) (t:Int) (k:Dk) (xs:List Seg) (pe:Nat) (bs:List Int) (v:Value) (wx:World):Prop :=
 ∃ a er s1 xs1 t1 k1 fQ, v = .int .i64 er ∧ jJ wx Y l p d n s1 t1 k1 xs1 fQ ∧ Kept Y w wx ∧
  ((kH s xs (zD bs.length)=none∧er=6∧s1=s∧xs1=xs∧t1=t∧k1=k∧fQ=pe) ∨
   (∃ i ys,kH s xs (zD bs.length)=some (i,s1,ys)∧er=0∧a=((i:Int),zM ys i,zI ys i)∧(s1=s∨s1=jR s)∧xs1=qL ys ((zD bs.length:Nat):Int)∧fQ=pe+17∧AtR k1 s1 xs1 a bs∧(∀ a' bs',AtR k s xs a' bs'→AtR k1 s1 xs1 a' bs'∧a'≠a)∧QY k s xs k1 s1 ys xs1 i bs))
def zJi (w : World) (X : Nat → Prop) (B : xu) (slots : Nat) (s : Sup) (xs : List Seg) (st : List zm) (bl : List (List Int)) (us bs : List Int) (e : Ending) (w' : World) : Prop :=
 Kept X w w' ∧
 ((kH s xs (zD bs.length)=none∧e=.returned (.int .i64 6)∧∃ k',zT w' X { B with t:=B.t,k:=k',pe:=B.pe } slots s xs st bl false∧k'.held=B.k.held) ∨
  (∃ i s1 xs1 t' k',kH s xs (zD bs.length)=some (i,s1,xs1)∧(s1=s∨s1=jR s)∧e=.returned (.int .i64 0) ∧
    zT w' X { B with t:=t',k:=k',pe:=B.pe+17 } slots s1 (qL xs1 ((zD bs.length:Nat):Int)) (qV st us) bl false∧QY B.k s xs k' s1 xs1 (qL xs1 ((zD bs.length:Nat):Int)) i bs))
theorem Zg (h:zT w X B slots s xs st bl false) {q0:Int} (hk:zW .u8 w X A m us) (hb:Bytes us) (hmay:May 2 0 0 q0 m 0) (hr:oJ 0 0 q0) (hpe:B.pe≤900000) (hgm:s.g+1≤18446744073709551615) :
 Calls Tryz.prog 26 #[.pointer (some ⟨B.q,0,none⟩),.slice A m c,.int .u64 q0] w (zJi w X B slots s xs st bl us (qI 2 0 0 q0 us [])):=by
 obtain ⟨w1,hw1⟩:∃ w1,w1=((w.alloc (.cells #[.pointer (some ⟨B.q,0,none⟩)] 56)).alloc (.cells #[.slice A m c] 31)).alloc (.cells #[.int .i64 0] 36):=⟨_,rfl⟩
 have hb1:Below w.heap.size w w1:=by rw[hw1]; exact (((Below.refl _ w).alloc (nR _) _).alloc (by simp) _).alloc (by simp; omega) _
 have ql:=hI (show z8 w1 w.heap.size 56 #[.pointer (some ⟨B.q,0,none⟩)] by rw[hw1]; exact ((z8.new w _ _).alloc _).alloc _)
 have HI1:=hI (show z8 w1 (w.heap.size+1) 31 #[.slice A m c] by rw[hw1]; exact (zY w _ _ _).alloc _)
 have yS:=hI (show z8 w1 (w.heap.size+1+1) 36 #[.int .i64 0] by rw[hw1]; exact jw w _ _ _ _)
 have HZ1:=hI (show w1.heap.size=w.heap.size+3 by rw[hw1]; simp)
 have xV:=hI h
 have HB1:=hI hb1
 have HK:=hI hk
 have qm:=hI hb
 have gN:=hI hmay
 have QB:=hI hr
 have sV:=hI (And.intro hpe hgm)
 have HM:=hI (show m≤250 by unfold May at hmay; omega)
 have HLEN:=hI hk.1
 have HW1:=hI hw1
 have OC:=hI (Ox A m c us q0 (fun b=>b<w1.heap.size) w1 ((hk.below hb1 h.lt).more (fun b hb=>nL (h.lt b hb) hb1.size)) (fun b h=>h) hmay)
 clear hw1 hb1 h hk hb hmay hr hpe hgm
 go_enter_defers Tryz.func26,Tryz.ntmps26
 go_upto_region 1 with fail
 rw[← HW1.out]
 have s1:w1.cell? ⟨w.heap.size,0,none⟩=some (.pointer (some ⟨B.q,0,none⟩)):=ql.out.cell 0
 have i1:w1.cell? ⟨w.heap.size+1,0,none⟩=some (.slice A m c):=HI1.out.cell 0
 go_wp2_with fail
 refine OC.out.mono ?_
 rintro e w2 ⟨gt,rfl,hgt,hgr,hb2⟩
 have HT2:=hI hgr
 have eF:=hI hgt
 have HB2:=hI hb2
 have HE2:=hI (yS.out.below hb2 yS.out.lt)
 clear s1 i1 hgr hb2 hgt OC
 obtain ⟨w3,hw3⟩:∃ w3,w3=w2.alloc (.cells #[.int .i64 2,.int .u32 0,.int .u32 0,.int .u64 q0,.slice (some ⟨gt,0,none⟩) us.length us.length,.slice none 0 0] 33):=⟨_,rfl⟩
 have hb3:Below w2.heap.size w2 w3:=by rw[hw3]; exact (Below.refl _ _).alloc (nR _) _
 have dh:=hI (HE2.out.below hb3 HE2.out.lt)
 have HR3:=hI (show z8 w3 w2.heap.size 33 #[.int .i64 2,.int .u32 0,.int .u32 0,.int .u64 q0,.slice (some ⟨gt,0,none⟩) us.length us.length,.slice none 0 0] by rw[hw3]; exact z8.new w2 _ _)
 have HT3:=hI (z8.below HT2.out hb3 (z8.lt HT2.out))
 have HB3:=hI (HB2.out.trans (hb3.mono HB2.out.size))
 have Cv:=hI (show gt<w2.heap.size from z8.lt HT2.out)
 have e0:w3.cell? ⟨w.heap.size+1+1,0,none⟩=some (.int .i64 0):=dh.out.cell 0
 have e9:=dh.out.frozen 0
 rw[hw3] at e0 e9
 have HW3:=hI hw3
 clear hb3 hw3 HE2 HT2
 go_upto_region 4 with fail
 rw[← HW3.out]
 obtain ⟨w4,jH⟩:∃ w4,w4=w3.setCell ⟨w.heap.size+1+1,0,none⟩ (.int .i64 0):=⟨_,rfl⟩
 have hk5:Kept (fun b=>b≠w.heap.size+1+1) w3 w4:=by rw[jH]; exact (Kept.refl _ _).setCell (p:=⟨w.heap.size+1+1,0,none⟩) (fun h=>h rfl) _
 have hz1:=HZ1.out
 have hz2:=HB2.out.size
 have hgt:=eF.out
 have vQ:=hI (show z8 w4 (w.heap.size+1+1) 36 #[.int .i64 0] by rw[jH]; exact dh.out.set_ 0 (.int .i64 0))
 have zAg:=hI (show Below w.heap.size w w4 from (HB1.out.trans (HB3.out.mono HB1.out.size)).trans (hk5.to_below (fun b hb=>by omega)))
 have zq:=hI (show Below w.heap.size w1 w4 from (HB3.out.mono HB1.out.size).trans (hk5.to_below (fun b hb=>by omega)))
 have HR4:=hI (HR3.out.kept hk5 (by omega))
 have lI:=hI (z8.kept HT3.out hk5 (by omega))
 have yg:=hI ((ql.out.below HB3.out ql.out.lt).kept hk5 (by omega))
 have HI4:=hI ((HI1.out.below HB3.out HI1.out.lt).kept hk5 (by omega))
 have kM:=hI (xV.out.grow zAg.out)
 have HZ2:=hI hz2
 have JY:=hI (show gt<w2.heap.size∧w2.heap.size<w4.heap.size from ⟨Cv.out,HR4.out.lt⟩)
 rw[← jH]
 clear hk5 hz1 hz2 hgt jH e0 e9 dh HR3 HT3
 have hs4:w4.cell? ⟨w.heap.size,0,none⟩=some (.pointer (some ⟨B.q,0,none⟩)):=yg.out.cell 0
 have he4:w4.cell? ⟨w.heap.size+1+1,0,none⟩=some (.int .i64 0):=vQ.out.cell 0
 go_wp2_with fail
 refine (vB kM.out).mono ?_
 rintro e w5 ⟨rfl,rfl⟩
 go_upto_region 8 with fail
 clear hs4 he4
 go_cut [8] from 26 to 34 (fun v6 wx=>Jl w5 (fun b=>(X b∨(w.heap.size≤b∧b<w5.heap.size))∨B.own b) (w.heap.size+1+1) B.l B.p B.d B.n s B.t B.k xs B.pe st us v6 wx)
 case first J KK hJ bE =>
  have Xu:=hI (show B.q<w.heap.size from xV.out.own_lt (.inl rfl))
  have dY:=hI (show ∀ W,Kept (fun b=>((X b∨(w.heap.size≤b∧b<w5.heap.size))∨B.own b)∧b≠w.heap.size+1+1) w5 W→W.cell? ⟨w.heap.size,0,none⟩=some (.pointer (some ⟨B.q,0,none⟩))∧W.cell? ⟨B.q,0,none⟩=some (.pointer (some ⟨B.l,0,none⟩))∧W.cell? ⟨B.q,1,none⟩=some (.pointer (some ⟨B.x,0,none⟩))∧W.cell? ⟨w.heap.size+1,0,none⟩=some (.slice A m c) from fun W hW=>by
   obtain ⟨q0,q1,_,_⟩:=kM.out.cells
   have h1:=yg.out.lt
   have h2:=HI4.out.lt
   have h3:=Xu.out
   exact ⟨(yg.out.kept hW ⟨.inl (.inr ⟨by omega,by omega⟩),by omega⟩).cell 0,(hW.cell (p:=⟨B.q,0,none⟩) ⟨.inr (.inl rfl),(by omega:B.q≠_)⟩).trans q0,(hW.cell (p:=⟨B.q,1,none⟩) ⟨.inr (.inl rfl),(by omega:B.q≠_)⟩).trans q1,(HI4.out.kept hW ⟨.inl (.inr ⟨by omega,by omega⟩),by omega⟩).cell 0⟩)
  have UG:=kM.out.below ((Below.refl w5.heap.size w5).drew)
  have VF:=hI (show zW .u8 w5.drew (fun b=>(X b∨(w.heap.size≤b∧b<w5.heap.size))∨B.own b) A m us from ((HK.out.below (zAg.out) xV.out.lt).below ((Below.refl w5.heap.size w5).drew) (fun b hb=>kM.out.lt b (.inl hb))).more (fun b hb=>.inl (.inl hb)))
  have jc:=hI UG
  have eG:=hI (show z8 w5.drew (w.heap.size+1+1) 36 #[.int .i64 0] from vQ.out.below ((Below.refl w5.heap.size w5).drew) vQ.out.lt)
  have yB:=hI (show ∀ b,((X b∨(w.heap.size≤b∧b<w5.heap.size))∨B.own b)→b<w5.heap.size from kM.out.ylt)
  have iw:=hI (show (X (w.heap.size+1+1)∨(w.heap.size≤w.heap.size+1+1∧w.heap.size+1+1<w5.heap.size))∨B.own (w.heap.size+1+1) from .inl (.inr ⟨by omega,vQ.out.lt⟩))
  clear UG
  refine wp_region_noPanic ?_
  refine zB.region (fun W=>Kept (fun b=>((X b∨(w.heap.size≤b∧b<w5.heap.size))∨B.own b)∧b≠w.heap.size+1+1) w5 W) [] (by kernel_rfl) ((Kept.refl _ _).drew) (fun hė=>?_)
  obtain ⟨vd,hvd⟩:∃ vd,vd=w5.drew:=⟨_,rfl⟩
  have HZD:=hI (show vd.heap.size=w5.heap.size by rw[hvd]; rfl)
  rw[← hvd] at VF jc eG hė ⊢
  have dI:=hI (show Kept (fun b=>(X b∨(w.heap.size≤b∧b<w5.heap.size))∨B.own b) w5 vd by rw[hvd]; exact (Kept.refl _ _).drew)
  clear hvd
  refine tK 0 ku0 (v:=?_) ?_ hė ?_
  rotate_left
  ·intro W hSW; have h9:=(dY.out W hSW).1; clear hSW; unfold ku0; go_simp; with_reducible rfl
  simp only[ku0,Act.put,sA,sZ,sS]
  refine tK 1 ku1 (v:=?_) ?_ hė ?_
  rotate_left
  ·intro W hSW; unfold ku1; go_simp; with_reducible rfl
  simp only[ku1,Act.put,sA,sZ,sS]
  refine tK 2 ku2 (v:=?_) ?_ hė ?_
  rotate_left
  ·intro W hSW; unfold ku2; go_simp; with_reducible rfl
  simp only[ku2,Act.put,sA,sZ,sS]
  refine tK 3 ku3 (v:=uf B) ?_ hė ?_
  ·intro W hSW; obtain ⟨_,h8,h9,_⟩:=dY.out W hSW; clear hSW; unfold ku3; go_simp
  simp only[ku3,Act.put,sA,sZ,sS]
  refine tK 4 ku4 (v:=?_) ?_ hė ?_
  rotate_left
  ·intro W hSW; have h9:=(dY.out W hSW).2.2.2; clear hSW; unfold ku4; go_simp; with_reducible rfl
  simp only[ku4,Act.put,sA,sZ,sS]
  refine zB.two (i:=5) (j:=9) (o:=ku5) (o':=ku9) (by kernel_rfl) rfl rfl ?_ ?_
  ·intro K hK
   refine zN 72 #[.tmp 30,.tmp 31] #[134,31] rfl rfl Tryz.func72 rfl rfl [uf B,.slice A m c] rfl ((uo (c:=c) jc.out.log jc.out.ylt jc.out.ix (.inr (.inr (.inl rfl))) jc.out.inv VF.out qm.out (by have:=HM.out; omega)).mono ?_)
   intro e w6 hlk
   obtain ⟨ev,k6,rfl,hev,iU,xU,yY⟩:=hlk.ent
   refine ⟨_,rfl,?_⟩
   simp only[ku5,Act.put,sA,sZ,sS]
   have sO:Kept (fun b=>((X b∨(w.heap.size≤b∧b<w5.heap.size))∨B.own b)∧b≠w.heap.size+1+1) w5 w6:=hė.trans yY (fun b h=>h.1)
   have pR:=hI hev
   have dJ:=hI iU
   have je:=hI xU
   have rO:=hI (dI.out.trans yY (fun b h=>h))
   have bL:=hI (eG.out.kept yY iw.out)
   clear hlk hev iU xU yY hė
   refine hU hK rfl _ _ sO (fun hė=>?_)
   clear hK K sO
   refine tK 6 Mq (v:=?_) ?_ hė ?_
   rotate_left
   ·intro W hSW; unfold Mq; go_simp; with_reducible rfl
   simp only[Mq,Act.put,sA,sZ,sS]
   refine tK 7 Ml (v:=?_) ?_ hė ?_
   rotate_left
   ·intro W hSW; unfold Ml; go_simp; with_reducible rfl
   simp only[Ml,Act.put,sA,sZ,sS]
   refine tK 8 Mk (v:=?_) ?_ hė ?_
   rotate_left
   ·intro W hSW; unfold Mk; go_simp; with_reducible rfl
   simp only[Mk,Act.put,sA,sZ,sS]
   refine tO 9 ku9 ?_
   intro K hK
   refine y9 154 rfl rfl jE lU ?_
   simp only[ku9,Act.put,sA,sZ,sS]
   have hal:=(Below.refl w6.heap.size w6).alloc (nR _) (.cells jE 154)
   have JH:Kept (fun b=>((X b∨(w.heap.size≤b∧b<w5.heap.size))∨B.own b)∧b≠w.heap.size+1+1) w5 (w6.alloc (.cells jE 154)):=hė.trans (Kept.of_below (S:=fun b=>((X b∨(w.heap.size≤b∧b<w5.heap.size))∨B.own b)∧b≠w.heap.size+1+1) hal (fun b h=>nL (yB.out b h.1) hė.size)) (fun b h=>h)
   have Cq:=hI (dJ.out.grow hal)
   have Yl:=hI (rO.out.trans (Kept.of_below (S:=fun b=>(X b∨(w.heap.size≤b∧b<w5.heap.size))∨B.own b) hal (fun b h=>nL (yB.out b h) rO.out.size)) (fun b h=>h))
   have sj:=hI (bL.out.below hal bL.out.lt)
   have Jf:=hI (z8.new w6 154 jE)
   have gK:=hI rO.out.size
   have ig:=hI (show w6.heap.size<(w6.alloc (.cells jE 154)).heap.size by simp)
   clear hal
   generalize w6.heap.size=g6 at *
   generalize w6.alloc _=w7 at *
   refine hU hK rfl _ _ JH (fun hė=>?_)
   clear hK K JH
   refine tO 10 Rh ?_
   intro K hK
   refine jS (.tmp 8) (.tmp 33) 154 rfl rfl g6 ev rfl rfl 154 _ Jf.out (by rw[xE,pR.out.size.1]) (by rw[pR.out.size.1]; rfl) pR.out.size.2 ?_
   simp only[Rh,Act.put,sA,sZ,sS]
   have kE:Kept (fun b=>b≠g6) w7 (w7.setRow g6 ev):=(Kept.refl _ _).setRow (fun h=>h rfl) ev
   have vZ:Kept (fun b=>((X b∨(w.heap.size≤b∧b<w5.heap.size))∨B.own b)∧b≠w.heap.size+1+1) w5 (w7.setRow g6 ev):=hė.trans kE (fun b h=>by have:=yB.out b h.1; have:=gK.out; omega)
   have gQ:=hI (sj.out.kept kE (by have:=yB.out _ iw.out; have:=gK.out; omega))
   refine hU hK rfl _ _ vZ (fun hė=>?_)
   clear hK K kE vZ
   refine tO 11 zFq ?_
   intro K hK
   have e8:(w7.setRow g6 ev).cell? ⟨w.heap.size+1+1,0,none⟩=some (.int .i64 0):=gQ.out.cell 0
   have e9:=gQ.out.frozen 0
   go_simp
   clear e8 e9
   have bD:Kept (fun b=>((X b∨(w.heap.size≤b∧b<w5.heap.size))∨B.own b)∧b≠w.heap.size+1+1) w5 ((w7.setRow g6 ev).setCell ⟨w.heap.size+1+1,0,none⟩ (.int .i64 0)):=hė.setCell (p:=⟨w.heap.size+1+1,0,none⟩) (fun h=>h.2 rfl) _
   refine hK.out _ _ (fun _=>bD) (fun hė=>?_)
   clear hK K bD
   refine zB.done (by kernel_rfl) ?_ _
   refine bE _ _ (Met.intro (hJ _ _ ?_))
   (repeat apply Exists.intro)
   exact ⟨Jl.fin yB.out iw.out gK.out (fun b h=>.inl h) (.inr ⟨nR _,ig.out⟩) Cq.out je.out Yl.out Jf.out sj.out pR.out,rfl⟩
  ·intro K hK
   refine y9 154 rfl rfl jE lU ?_
   simp only[ku9,Act.put,sA,sZ,sS]
   have hal:=(Below.refl vd.heap.size vd).alloc (nR _) (.cells jE 154)
   have sO:Kept (fun b=>((X b∨(w.heap.size≤b∧b<w5.heap.size))∨B.own b)∧b≠w.heap.size+1+1) w5 (vd.alloc (.cells jE 154)):=hė.trans (Kept.of_below (S:=fun b=>((X b∨(w.heap.size≤b∧b<w5.heap.size))∨B.own b)∧b≠w.heap.size+1+1) hal (fun b h=>nL (yB.out b h.1) hė.size)) (fun b h=>h)
   have dJ:=hI (jc.out.log.grow hal)
   have Qa:=hI (jc.out.ix.below hal jc.out.ix.lt)
   have rO:=hI (dI.out.trans (Kept.of_below (S:=fun b=>(X b∨(w.heap.size≤b∧b<w5.heap.size))∨B.own b) hal (fun b h=>nL (yB.out b h) dI.out.size)) (fun b h=>h))
   have bL:=hI (eG.out.below hal eG.out.lt)
   have zAd:=hI (VF.out.below hal (fun b h=>nL (yB.out b h) dI.out.size))
   have Qf:=hI (z8.new vd 154 jE)
   have gK:=hI dI.out.size
   have ig:=hI (show vd.heap.size<(vd.alloc (.cells jE 154)).heap.size by simp)
   have Yn:=hI jc.out.inv
   clear hal jc VF eG
   generalize vd.heap.size=g6 at *
   generalize vd.alloc _=w6 at *
   refine hU hK rfl _ _ sO (fun hė=>?_)
   clear hK K sO
   refine tO 5 ku5 ?_
   intro K hK
   refine zN 72 #[.tmp 30,.tmp 31] #[134,31] rfl rfl Tryz.func72 rfl rfl [uf B,.slice A m c] rfl ((uo (c:=c) dJ.out (fun b h=>by
    rcases h with h | h
    ·exact nL (yB.out b h) rO.out.size
    ·exact h.2) Qa.out (.inl (.inr (.inr (.inl rfl)))) Yn.out (zAd.out.more (fun b h=>.inl h)) qm.out (by have:=HM.out; omega)).mono ?_)
   intro e w7 hlk
   obtain ⟨ev,k6,rfl,hev,U8,bg,mY⟩:=hlk.ent
   refine ⟨_,rfl,?_⟩
   simp only[ku5,Act.put,sA,sZ,sS]
   have JH:Kept (fun b=>((X b∨(w.heap.size≤b∧b<w5.heap.size))∨B.own b)∧b≠w.heap.size+1+1) w5 w7:=hė.trans mY (fun b h=>.inl h.1)
   have pR:=hI hev
   have Cq:=hI U8
   have je:=hI bg
   have Yl:=hI (rO.out.trans mY (fun b h=>.inl h))
   have sj:=hI (bL.out.kept mY (.inl iw.out))
   have Jf:=hI (Qf.out.kept mY (.inr ⟨nR _,ig.out⟩))
   clear hlk hev U8 bg mY hė Qf bL dJ
   refine hU hK rfl _ _ JH (fun hė=>?_)
   clear hK K JH
   refine tK 6 Mq (v:=?_) ?_ hė ?_
   rotate_left
   ·intro W hSW; unfold Mq; go_simp; with_reducible rfl
   simp only[Mq,Act.put,sA,sZ,sS]
   refine tK 7 Ml (v:=?_) ?_ hė ?_
   rotate_left
   ·intro W hSW; unfold Ml; go_simp; with_reducible rfl
   simp only[Ml,Act.put,sA,sZ,sS]
   refine tK 8 Mk (v:=?_) ?_ hė ?_
   rotate_left
   ·intro W hSW; unfold Mk; go_simp; with_reducible rfl
   simp only[Mk,Act.put,sA,sZ,sS]
   refine tO 10 Rh ?_
   intro K hK
   refine jS (.tmp 8) (.tmp 33) 154 rfl rfl g6 ev rfl rfl 154 _ Jf.out (by rw[xE,pR.out.size.1]) (by rw[pR.out.size.1]; rfl) pR.out.size.2 ?_
   simp only[Rh,Act.put,sA,sZ,sS]
   have kE:Kept (fun b=>b≠g6) w7 (w7.setRow g6 ev):=(Kept.refl _ _).setRow (fun h=>h rfl) ev
   have vZ:Kept (fun b=>((X b∨(w.heap.size≤b∧b<w5.heap.size))∨B.own b)∧b≠w.heap.size+1+1) w5 (w7.setRow g6 ev):=hė.trans kE (fun b h=>by have:=yB.out b h.1; have:=gK.out; omega)
   have gQ:=hI (sj.out.kept kE (by have:=yB.out _ iw.out; have:=gK.out; omega))
   refine hU hK rfl _ _ vZ (fun hė=>?_)
   clear hK K kE vZ
   refine tO 11 zFq ?_
   intro K hK
   have e8:(w7.setRow g6 ev).cell? ⟨w.heap.size+1+1,0,none⟩=some (.int .i64 0):=gQ.out.cell 0
   have e9:=gQ.out.frozen 0
   go_simp
   clear e8 e9
   have bD:Kept (fun b=>((X b∨(w.heap.size≤b∧b<w5.heap.size))∨B.own b)∧b≠w.heap.size+1+1) w5 ((w7.setRow g6 ev).setCell ⟨w.heap.size+1+1,0,none⟩ (.int .i64 0)):=hė.setCell (p:=⟨w.heap.size+1+1,0,none⟩) (fun h=>h.2 rfl) _
   refine hK.out _ _ (fun _=>bD) (fun hė=>?_)
   clear hK K bD
   refine zB.done (by kernel_rfl) ?_ _
   refine bE _ _ (Met.intro (hJ _ _ ?_))
   (repeat apply Exists.intro)
   exact ⟨Jl.fin yB.out iw.out gK.out (fun b h=>.inl h) (.inr ⟨nR _,ig.out⟩) Cq.out je.out Yl.out Jf.out sj.out pR.out,rfl⟩
 case rest =>
  obtain ⟨g6,k6,ev,rfl,KY,iU,xU,yY,Yc,Dg,hev⟩:=hcut
  have HOL:=hI (show ∀ b,B.own b→b<w.heap.size from fun b hb=>xV.out.own_lt hb)
  have I6:=HB1.out.size
  have I5:=zq.out.size
  have UH:zT wc (fun b=>(X b∨(w.heap.size≤b∧b<w5.heap.size))∨b=g6) { B with t:=B.t,k:=k6,pe:=B.pe } slots s xs st bl false :=
   kM.out.logTo2 yY (fun b hb=>⟨.inr hb,by have:=HOL.out b hb; omega⟩) (fun b hb=>.inl hb) (fun b hb hx=>by
    have h1:=HOL.out b hb
    rcases hx with hx | hx
    ·exact kM.out.off b hb hx
    ·omega) (fun b hb=>by
    rcases hb with hb | hb
    ·exact nL (kM.out.lt b hb) yY.size
    ·rw[hb]; exact Yc.lt) (iU.less (fun b hb=>by
    rcases hb with (h | h) | h
    ·exact .inl (.inl h)
    ·exact .inr h
    ·exact .inl (.inr h))) rfl (kM.out.inv.held xU)
  have h1:=yg.out.lt
  have h2:=HI4.out.lt
  have h3:=vQ.out.lt
  have h4:=HR4.out.lt
  have h5:=HZ1.out
  have h6:=HZ2.out
  have vL:=hI (yg.out.kept yY ⟨.inl (.inr ⟨by omega,by omega⟩),by omega⟩)
  have Y3:=hI (HI4.out.kept yY ⟨.inl (.inr ⟨by omega,by omega⟩),by omega⟩)
  have pO:=hI (HR4.out.kept yY ⟨.inl (.inr ⟨by omega,by omega⟩),by omega⟩)
  have wm:=hI (show Kept X w wc from (Kept.of_below (zAg.out) xV.out.lt).trans yY (fun b hb=>⟨.inl (.inl hb),by have:=xV.out.lt b hb; omega⟩))
  have qQ:=hI UH
  have WJ:=hI Yc
  have iH:=hI Dg
  have pR:=hI hev
  have Y4:=hI xU
  have Y6:=hI KY
  have Q9:=hI yY.size
  have bM:=hI (show w.heap.size+3≤w2.heap.size∧w2.heap.size<w5.heap.size by omega)
  have lH:=hI (z8.kept lI.out yY ⟨.inl (.inr ⟨by have:=eF.out; omega,by have:=JY.out; omega⟩),by have:=eF.out; omega⟩)
  clear UH Yc Dg hev xU KY yY iU h1 h2 h3 h4 h5 h6 I6 I5 yg HI4 vQ HR4 ql HI1 yS
  have e0:wc.cell? ⟨w.heap.size+1+1,0,none⟩=some (.int .i64 0):=iH.out.cell 0
  have aP:=uT Tryz.prog
  go_upto_region 12 with fail
  clear e0
  obtain ⟨X6,hX6⟩:∃ X6:Nat→Prop,(fun b=>(X b∨(w.heap.size≤b∧b<w5.heap.size))∨b=g6)=X6:=⟨_,rfl⟩
  rw[hX6] at qQ
  have hx0:∀ b,X b→X6 b:=fun b hb=>by rw[← hX6]; exact .inl (.inl hb)
  have hbl:=bM.out
  have hgt:=eF.out
  have DL:=JY.out
  have hz1:=HZ1.out
  have yR:=hI (show X6 w.heap.size∧X6 (w.heap.size+1)∧X6 (w.heap.size+1+1)∧X6 w2.heap.size∧X6 g6∧X6 gt by
   rw[← hX6]
   exact ⟨.inl (.inr ⟨by omega,by omega⟩),.inl (.inr ⟨by omega,by omega⟩),.inl (.inr ⟨by omega,by omega⟩),.inl (.inr ⟨by omega,by omega⟩),.inr rfl,.inl (.inr ⟨by omega,by omega⟩)⟩)
  have HX0:=hI hx0
  clear hX6 hx0 hbl hgt DL hz1
  have yB:=hI (qQ.out.ylt)
  have hrb:=gN.out
  have OG:=hI (show zW .u8 wc (fun b=>b=gt) (some ⟨gt,0,none⟩) us.length us from qF.rowN (S:=fun b=>b=gt) lH.out 0 rfl rfl)
  clear hrb
  have iG:=hI (show ∀ W:World,zW .u8 W (·<W.heap.size) none 0 [] from fun W=>⟨rfl,fun h=>absurd h (by omega)⟩)
  go_cut [9,10] from 39 to 48 (fun v9 v10 wx=>zOL wc (fun b=>X6 b∨B.own b) B.l B.p B.d B.n s B.t k6 xs B.pe (qI 2 0 0 q0 us []) v10 wx)
  case first J KK hJ bE =>
   have dY:=hI (show ∀ W,Kept (fun b=>X6 b∨B.own b) wc W→W.cell? ⟨w.heap.size,0,none⟩=some (.pointer (some ⟨B.q,0,none⟩))∧W.cell? ⟨B.q,0,none⟩=some (.pointer (some ⟨B.l,0,none⟩))∧z8 W w2.heap.size 33 #[.int .i64 2,.int .u32 0,.int .u32 0,.int .u64 q0,.slice (some ⟨gt,0,none⟩) us.length us.length,.slice none 0 0] from fun W hW=>by
    obtain ⟨q0,q1,_,_⟩:=qQ.out.cells
    obtain ⟨i1,i2,i3,i4,i5,i6⟩:=yR.out
    exact ⟨(vL.out.kept hW (.inl i1)).cell 0,(hW.cell (p:=⟨B.q,0,none⟩) (.inr (.inl rfl))).trans q0,pO.out.kept hW (.inl i4)⟩)
   refine wp_region_noPanic ?_
   refine zB.region (fun W=>Kept (fun b=>X6 b∨B.own b) wc W) [] (by kernel_rfl) ((Kept.refl _ _).drew) (fun hė=>?_)
   have hdr:=(Below.refl wc.heap.size wc).drew
   have jc:=hI (qQ.out.below hdr)
   have jg:=hI (OG.out.below hdr (fun b h=>by rw[h]; exact z8.lt lH.out))
   obtain ⟨vd,hvd⟩:∃ vd,vd=wc.drew:=⟨_,rfl⟩
   have HZD:=hI (show vd.heap.size=wc.heap.size by rw[hvd]; rfl)
   rw[← hvd] at jc jg hė ⊢
   clear hdr hvd
   have HGV:=hI (show gt<vd.heap.size by rw[HZD.out]; exact z8.lt lH.out)
   have zBs:=hI (show May 2 0 0 q0 us.length 0 by rw[HLEN.out]; exact gN.out)
   refine tK 0 kw0 (v:=?_) ?_ hė ?_
   rotate_left
   ·intro W hSW; have h9:=(dY.out W hSW).1; clear hSW; unfold kw0; go_simp; with_reducible rfl
   simp only[kw0,Act.put,sA,sZ,sS]
   refine tK 1 kw1 (v:=?_) ?_ hė ?_
   rotate_left
   ·intro W hSW; unfold kw1; go_simp; with_reducible rfl
   simp only[kw1,Act.put,sA,sZ,sS]
   refine tK 2 kw2 (v:=?_) ?_ hė ?_
   rotate_left
   ·intro W hSW; unfold kw2; go_simp; with_reducible rfl
   simp only[kw2,Act.put,sA,sZ,sS]
   refine tK 3 kw3 (v:=?_) ?_ hė ?_
   rotate_left
   ·intro W hSW; unfold kw3; go_simp; with_reducible rfl
   simp only[kw3,Act.put,sA,sZ,sS]
   refine tK 4 kw4 (v:=?_) ?_ hė ?_
   rotate_left
   ·intro W hSW; have h9:=(dY.out W hSW).2.1; clear hSW; unfold kw4; go_simp; with_reducible rfl
   simp only[kw4,Act.put,sA,sZ,sS]
   refine tK 5 kw5 (v:=.agg #[.int .i64 2,.int .u32 0,.int .u32 0,.int .u64 q0,.slice (some ⟨gt,0,none⟩) us.length us.length,.slice none 0 0]) ?_ hė ?_
   ·intro W hSW; exact ZQ (.tmp 7) 33 rfl w2.heap.size rfl 33 [.int .i64 2,.int .u32 0,.int .u32 0,.int .u64 q0,.slice (some ⟨gt,0,none⟩) us.length us.length,.slice none 0 0] _ Tryz.underlying33 rfl zR (dY.out W hSW).2.2
   simp only[kw5,Act.put,sA,sZ,sS]
   refine zB.two (i:=6) (j:=10) (o:=kw6) (o':=Rf) (by kernel_rfl) rfl rfl ?_ ?_
   ·intro K hK
    refine zN 9 #[.tmp 44,.tmp 45] #[24,33] rfl rfl Tryz.func9 rfl rfl [.pointer (some ⟨B.l,0,none⟩),.agg #[.int .i64 2,.int .u32 0,.int .u32 0,.int .u64 q0,.slice (some ⟨gt,0,none⟩) us.length us.length,.slice none 0 0]] rfl ((rW jc.out.log jc.out.ylt sV.out.1 sV.out.2 zBs.out QB.out (jg.out.more (fun b h=>by rw[h]; exact HGV.out)) (iG.out vd) (fun h=>by cases h) (fun _=>rfl) qm.out uL).mono ?_)
    intro e w9 hap
    obtain ⟨a,er,s1,xs1,t1,k1,fQ,rfl,xI,sM,hcase⟩:=hap.told
    refine ⟨_,rfl,?_⟩
    simp only[kw6,Act.put,sA,sZ,sS]
    have bD:=hė.trans xI (fun b h=>h)
    have Co:=hI sM
    have HC:=hI hcase
    have bK:=hI bD
    clear hap xI sM hcase hė
    refine hU hK rfl _ _ bD (fun hė=>?_)
    clear hK K bD
    refine tK 7 Mj (v:=?_) ?_ hė ?_
    rotate_left
    ·intro W hSW; unfold Mj; go_simp; with_reducible rfl
    simp only[Mj,Act.put,sA,sZ,sS]
    refine tK 8 Mi (v:=?_) ?_ hė ?_
    rotate_left
    ·intro W hSW; unfold Mi; go_simp; with_reducible rfl
    simp only[Mi,Act.put,sA,sZ,sS]
    refine tK 9 Mh (v:=?_) ?_ hė ?_
    rotate_left
    ·intro W hSW; unfold Mh; go_simp; with_reducible rfl
    simp only[Mh,Act.put,sA,sZ,sS]
    refine tO 10 Rf ?_
    intro K hK
    refine y9 35 rfl rfl #[.int .i64 0,.int .u64 0,.int .i64 0] Ql ?_
    simp only[Rf,Act.put,sA,sZ,sS]
    have hal:=(Below.refl w9.heap.size w9).alloc (nR _) (.cells #[.int .i64 0,.int .u64 0,.int .i64 0] 35)
    have rF:Kept (fun b=>X6 b∨B.own b) wc (w9.alloc (.cells #[.int .i64 0,.int .u64 0,.int .i64 0] 35)):=hė.trans (Kept.of_below (S:=fun b=>X6 b∨B.own b) hal (fun b h=>nL (yB.out b h) hė.size)) (fun b h=>h)
    have Sy:=hI (Co.out.grow hal)
    have Sw:=hI (z8.new w9 35 #[.int .i64 0,.int .u64 0,.int .i64 0])
    have V5:=hI hė.size
    have CU:=hI (show w9.heap.size<(w9.alloc (.cells #[.int .i64 0,.int .u64 0,.int .i64 0] 35)).heap.size by simp)
    clear hal
    generalize w9.heap.size=g9 at *
    generalize w9.alloc _=w10 at *
    refine hU hK rfl _ _ rF (fun hė=>?_)
    clear hK K rF
    refine tO 11 Rb ?_
    intro K hK
    refine jS (.tmp 9) (.tmp 47) 35 rfl rfl g9 #[.int .i64 a.1,.int .u64 a.2.1,.int .i64 a.2.2] rfl rfl 35 _ Sw.out kD rfl (by simp[Value.oneCell']) ?_
    simp only[Rb,Act.put,sA,sZ,sS]
    have mZ:Kept (fun b=>b≠g9) w10 (w10.setRow g9 #[.int .i64 a.1,.int .u64 a.2.1,.int .i64 a.2.2]):=(Kept.refl _ _).setRow (fun h=>h rfl) _
    have Zo:Kept (fun b=>X6 b∨B.own b) wc (w10.setRow g9 #[.int .i64 a.1,.int .u64 a.2.1,.int .i64 a.2.2]):=hė.trans mZ (fun b h=>by have:=yB.out b h; have:=V5.out; omega)
    have zAb:=hI ((Sy.out.off mZ (fun b _ hn=>fun e=>hn (.inr (by rw[e]; exact ⟨nR _,CU.out⟩)))).less (X:=fun b=>X6 b∨B.own b) (fun b h=>.inl h))
    refine hU hK rfl _ _ Zo (fun hė=>?_)
    clear hK K mZ
    refine tO 12 zFk ?_
    intro K hK
    go_simp
    refine hK.out _ _ (fun _=>hė) (fun _=>?_)
    clear hK K
    refine zB.done (by kernel_rfl) ?_ _
    refine bE _ _ (Met.intro (hJ _ _ ?_))
    (repeat apply Exists.intro)
    exact ⟨⟨a,er,s1,xs1,t1,k1,fQ,rfl,zAb.out,hė,HC.out⟩,rfl⟩
   ·intro K hK
    refine y9 35 rfl rfl #[.int .i64 0,.int .u64 0,.int .i64 0] Ql ?_
    simp only[Rf,Act.put,sA,sZ,sS]
    have hal:=(Below.refl vd.heap.size vd).alloc (nR _) (.cells #[.int .i64 0,.int .u64 0,.int .i64 0] 35)
    have rF:Kept (fun b=>X6 b∨B.own b) wc (vd.alloc (.cells #[.int .i64 0,.int .u64 0,.int .i64 0] 35)):=hė.trans (Kept.of_below (S:=fun b=>X6 b∨B.own b) hal (fun b h=>nL (yB.out b h) hė.size)) (fun b h=>h)
    have Sy:=hI (jc.out.log.grow hal)
    have Sw:=hI (z8.new vd 35 #[.int .i64 0,.int .u64 0,.int .i64 0])
    have V5:=hI hė.size
    have CU:=hI (show vd.heap.size<(vd.alloc (.cells #[.int .i64 0,.int .u64 0,.int .i64 0] 35)).heap.size by simp)
    have HRA:=hI (jg.out.below hal (fun b h=>by rw[h]; exact HGV.out))
    clear hal jc jg
    generalize vd.heap.size=g9 at *
    generalize vd.alloc _=w10 at *
    refine hU hK rfl _ _ rF (fun hė=>?_)
    clear hK K rF
    refine tO 6 kw6 ?_
    intro K hK
    refine zN 9 #[.tmp 44,.tmp 45] #[24,33] rfl rfl Tryz.func9 rfl rfl [.pointer (some ⟨B.l,0,none⟩),.agg #[.int .i64 2,.int .u32 0,.int .u32 0,.int .u64 q0,.slice (some ⟨gt,0,none⟩) us.length us.length,.slice none 0 0]] rfl ((rW Sy.out (fun b h=>by
     rcases h with h | h
     ·exact nL (yB.out b h) hė.size
     ·exact h.2) sV.out.1 sV.out.2 zBs.out QB.out (HRA.out.more (fun b h=>by rw[h]; exact Nat.lt_trans HGV.out CU.out)) (iG.out w10) (fun h=>by cases h) (fun _=>rfl) qm.out uL).mono ?_)
    intro e w11 hap
    obtain ⟨a,er,s1,xs1,t1,k1,fQ,rfl,xI,sM,hcase⟩:=hap.told
    refine ⟨_,rfl,?_⟩
    simp only[kw6,Act.put,sA,sZ,sS]
    have bD:=hė.trans xI (fun b h=>.inl h)
    have Co:=hI sM
    have HC:=hI hcase
    have zNX:=hI (Sw.out.kept xI (.inr ⟨nR _,CU.out⟩))
    clear hap xI sM hcase hė Sw Sy
    refine hU hK rfl _ _ bD (fun hė=>?_)
    clear hK K bD
    refine tK 7 Mj (v:=?_) ?_ hė ?_
    rotate_left
    ·intro W hSW; unfold Mj; go_simp; with_reducible rfl
    simp only[Mj,Act.put,sA,sZ,sS]
    refine tK 8 Mi (v:=?_) ?_ hė ?_
    rotate_left
    ·intro W hSW; unfold Mi; go_simp; with_reducible rfl
    simp only[Mi,Act.put,sA,sZ,sS]
    refine tK 9 Mh (v:=?_) ?_ hė ?_
    rotate_left
    ·intro W hSW; unfold Mh; go_simp; with_reducible rfl
    simp only[Mh,Act.put,sA,sZ,sS]
    refine tO 11 Rb ?_
    intro K hK
    refine jS (.tmp 9) (.tmp 47) 35 rfl rfl g9 #[.int .i64 a.1,.int .u64 a.2.1,.int .i64 a.2.2] rfl rfl 35 _ zNX.out kD rfl (by simp[Value.oneCell']) ?_
    simp only[Rb,Act.put,sA,sZ,sS]
    have mZ:Kept (fun b=>b≠g9) w11 (w11.setRow g9 #[.int .i64 a.1,.int .u64 a.2.1,.int .i64 a.2.2]):=(Kept.refl _ _).setRow (fun h=>h rfl) _
    have Zo:Kept (fun b=>X6 b∨B.own b) wc (w11.setRow g9 #[.int .i64 a.1,.int .u64 a.2.1,.int .i64 a.2.2]):=hė.trans mZ (fun b h=>by have:=yB.out b h; have:=V5.out; omega)
    have zAb:=hI ((Co.out.off mZ (fun b _ hn=>fun e=>hn (.inr (by rw[e]; exact ⟨nR _,CU.out⟩)))).less (X:=fun b=>X6 b∨B.own b) (fun b h=>.inl h))
    refine hU hK rfl _ _ Zo (fun hė=>?_)
    clear hK K mZ
    refine tO 12 zFk ?_
    intro K hK
    go_simp
    refine hK.out _ _ (fun _=>hė) (fun _=>?_)
    clear hK K
    refine zB.done (by kernel_rfl) ?_ _
    refine bE _ _ (Met.intro (hJ _ _ ?_))
    (repeat apply Exists.intro)
    exact ⟨⟨a,er,s1,xs1,t1,k1,fQ,rfl,zAb.out,hė,HC.out⟩,rfl⟩
  case rest =>
   obtain ⟨a,er,s1,xs1,t1,k1,fQ,rfl,sM,xI,hcase⟩:=hcut
   rename World=>wa
   obtain ⟨i1,i2,i3,i4,i5,i6⟩:=yR.out
   have Jc:=hI (vL.out.kept xI (.inl i1))
   have NK:=hI (Y3.out.kept xI (.inl i2))
   have ZA:=hI (iH.out.kept xI (.inl i3))
   have zNv:=hI (WJ.out.kept xI (.inl i5))
   have Yk:=hI (wm.out.trans xI (fun b hb=>.inl (HX0.out b hb)))
   have wG:xs1.length=xs.length:=by
    have h1:=sM.dims
    have h2:=qQ.out.log.dims
    rcases hcase with ⟨_,_,e,_⟩ | ⟨_,_,_,_,_,e | e,_⟩
    ·rw[e] at h1; omega
    ·rw[e] at h1; omega
    ·rw[e] at h1
     have h3:(jR s).a=s.a:=rfl
     omega
   have HXW:=hI (show ∀ b,X6 b→b<wa.heap.size from fun b hb=>nL (qQ.out.lt b hb) xI.size)
   have Xy:=hI (show ∀ b,X b→b≠w.heap.size+1+1 from fun b hb=>by have:=xV.out.lt b hb; omega)
   rcases hcase with ⟨hno,rfl,rfl,rfl,rfl,rfl,rfl⟩ | ⟨i,ys,hsome,rfl,ha,hs1,hxs,JC,hat,hall,gB⟩
   ·have nV:=hI (qQ.out.logTo2 xI (fun b hb=>.inr hb) (fun b hb=>hb) qQ.out.off HXW.out sM rfl qQ.out.inv)
    have Z7:=hI hno
    clear sM xI hno wG i1 i2 i4 i5 i6
    have e8:wa.cell? ⟨w.heap.size+1+1,0,none⟩=some (.int .i64 0):=ZA.out.cell 0
    have e9:=ZA.out.frozen 0
    go_wp2_with fail
    clear e8 e9
    refine leaves_cons (f:=91) (args:=#[.pointer (some ⟨w.heap.size+1+1,0,none⟩),.pointer (some ⟨w.heap.size,0,none⟩),.pointer (some ⟨w.heap.size+1,0,none⟩),.pointer (some ⟨g6,0,none⟩)]) (by simp) (by simp[go_sem]) ?_
    have l5:=ZA.out.set_ 0 (.int .i64 6)
    refine (Eh _ _ _ l5 (by decide)).mono ?_
    rintro e u' w13 ⟨rfl,rfl,rfl⟩
    have hkb:Kept (fun b=>b≠w.heap.size+1+1) wa (wa.setCell ⟨w.heap.size+1+1,0,none⟩ (.int .i64 6)):=(Kept.refl _ _).setCell (p:=⟨w.heap.size+1+1,0,none⟩) (fun h=>h rfl) _
    refine ⟨.int .i64 6,?_,Yk.out.trans hkb Xy.out,.inl ⟨Z7.out,rfl,_,(nV.out.offX hkb (fun b _ hn=>fun e=>hn (e▸i3))).less HX0.out,Y4.out⟩⟩
    have c6:(wa.setCell ⟨w.heap.size+1+1,0,none⟩ (.int .i64 6)).cell? ⟨w.heap.size+1+1,0,none⟩=some (.int .i64 6):=l5.cell 0
    simp[results,Tryz.f26,go_sem,c6]
   ·have nV:=hI (qQ.out.logTo2 xI (fun b hb=>.inr hb) (fun b hb=>hb) qQ.out.off HXW.out sM wG (qQ.out.inv.go (fun a' bs' h=>(hall a' bs' h).1)))
    have HSO:=hI (And.intro hsome (And.intro hs1 (And.intro hxs JC)))
    have HHS:=hI gB
    clear sM xI wG i1 i2 i4 i5 i6 hsome hs1 hxs JC hat hall ha gB
    have s8:wa.cell? ⟨w.heap.size,0,none⟩=some (.pointer (some ⟨B.q,0,none⟩)):=Jc.out.cell 0
    have q8:wa.cell? ⟨B.q,0,none⟩=some (.pointer (some ⟨B.l,0,none⟩)):=nV.out.cells.1
    have HSY:=hI (M9 nV.out.log nV.out.ylt)
    go_wp2_with fail
    refine HSY.out.mono ?_
    rintro e wb ⟨rfl,hlb,hkb⟩
    have HMB:=hI (nV.out.logTo hkb hlb rfl (nV.out.inv.held (nV.out.log.good.held_sync)))
    have HHY:=hI (nV.out.log.good.held_sync)
    have Ca:=hI (Jc.out.kept hkb (.inl yR.out.1))
    have HIB:=hI (NK.out.kept hkb (.inl yR.out.2.1))
    have BJ:=hI (ZA.out.kept hkb (.inl yR.out.2.2.1))
    have zNu:=hI (zNv.out.kept hkb (.inl yR.out.2.2.2.2.1))
    have zNf:=hI (Yk.out.trans hkb (fun b hb=>.inl (HX0.out b hb)))
    clear hlb hkb s8 q8 HSY
    have e8:wb.cell? ⟨w.heap.size+1+1,0,none⟩=some (.int .i64 0):=BJ.out.cell 0
    have e9:=BJ.out.frozen 0
    go_wp2_with fail
    clear e8 e9
    obtain ⟨wd,hwd⟩:∃ wd,wd=wb.setCell ⟨w.heap.size+1+1,0,none⟩ (.int .i64 0):=⟨_,rfl⟩
    have hkb:Kept (fun b=>b≠w.heap.size+1+1) wb wd:=by rw[hwd]; exact (Kept.refl _ _).setCell (p:=⟨w.heap.size+1+1,0,none⟩) (fun h=>h rfl) _
    have eG:=hI (show z8 wd (w.heap.size+1+1) 36 #[.int .i64 0] by rw[hwd]; exact BJ.out.set_ 0 (.int .i64 0))
    rw[← hwd]
    clear hwd
    have HMW:=hI (HMB.out.offX hkb (fun b _ hn=>fun e=>hn (e▸yR.out.2.2.1)))
    have hsz:=HZ1.out
    have KY:=Y6.out
    have hbl:=bM.out
    have OE:=hI (Ca.out.kept hkb (by omega))
    have HID:=hI (HIB.out.kept hkb (by omega))
    have yx:=hI (zNu.out.kept hkb (by omega))
    have zIq:=hI (zNf.out.trans hkb Xy.out)
    refine leaves_cons (f:=91) (args:=#[.pointer (some ⟨w.heap.size+1+1,0,none⟩),.pointer (some ⟨w.heap.size,0,none⟩),.pointer (some ⟨w.heap.size+1,0,none⟩),.pointer (some ⟨g6,0,none⟩)]) (by simp) (by simp[go_sem]) ?_
    have hrow:zW .u8 wd X6 A m us:=(HK.out.kept zIq.out (fun b hb=>hb)).more HX0.out
    refine (Ef (c:=c) HMW.out pR.out eG.out OE.out HID.out yx.out hrow qm.out (by have:=HM.out; omega)).mono ?_
    rintro e u' we ⟨rfl,rfl,hm,hk⟩
    obtain ⟨hsome,hs1,hxs,JC⟩:=HSO.out
    subst hxs JC
    have hown:∀ b,X6 b→b<wd.heap.size∧¬ B.own b:=fun b hb=>⟨HMW.out.lt b hb,fun e=>HMW.out.off b e hb⟩
    refine ⟨.int .i64 0,?_,zIq.out.trans hk (fun b hb=>hown b (HX0.out b hb)),.inr ⟨i,s1,ys,t1,_,hsome,hs1,rfl,hm.less HX0.out,(HHS.out.from Y4.out).to HHY.out⟩⟩
    have c6:we.cell? ⟨w.heap.size+1+1,0,none⟩=some (.int .i64 0):=(eG.out.kept hk (hown _ i3)).cell 0
    simp[results,Tryz.f26,go_sem,c6]
end
end
section
def JN (s:Sup) (q:Int):Sup:=⟨s.a,s.b,s.g,s.r,s.v,q⟩
def Kk (k:Dk) (s:Sup) (t q:Int):Dk:=(k.wr (Dk.put (vT t) (wT s.a s.b s.g s.r s.v q (qy t)))).wr Dk.sync
section
variable {w w':World} {X Y:Nat→Prop} {l p d n pe:Nat} {s:Sup} {t q:Int} {k:Dk} {xs:List Seg} {a:Int × Int × Int} {bs:List Int}
theorem Dp (hg:Good k) (seg j:Nat):zh (Kk k s t q) (JN s q) seg j=zh k s seg j:=by
 unfold zh
 show (if (j:Int)<s.b then (Kk k s t q).held.getD (2+(seg:Int)*s.b+j).toNat [] else noughts 64)=_
 by_cases h:(j:Int)<s.b
 ·rw[if_pos h,if_pos h]
  have h0:0≤(seg:Int)*s.b:=Int.mul_nonneg (by omega) (by omega)
  have h1:=Tm t
  unfold Kk
  rw[(hg.put _ _).held_sync,hg.held_put]
  simp only[List.getD]
  rw[List.getElem?_set_ne (by omega)]
 ·rw[if_neg h,if_neg h]
theorem zJY (hg:Good k) (h:AtR k s xs a bs):AtR (Kk k s t q) (JN s q) xs a bs:=by
 obtain ⟨h1,i,c,e,h2,h3,h4,h5⟩:=h
 exact ⟨h1,i,c,e,h2,h3,h4,fun j hj=>by rw[Dp hg]; exact h5 j hj⟩
theorem zCu (h:jJ w X l p d n s t k xs pe) (hX:∀ b,X b→b<w.heap.size) (hpe:pe≤900000) (hq:s.f<q) (hq2:q≤18446744073709551615) :
 Calls Tryz.prog 61 #[.pointer (some ⟨p,0,none⟩),.agg (qR s.a s.b s.g s.r s.v q)] w fun e w'=>e=.returned (.int .i64 0)∧jJ w' X l p d n (JN s q) (qy t) (Kk k s t q) xs pe∧∃ R:Nat→Prop,(∀ b,R b→b<w.heap.size∧¬ X b)∧Kept (fun b=>X b∨R b) w w':=by
 obtain ⟨A,c,⟨h1,h2,R,h3,h4,h5⟩,hc,hA⟩:=h.log
 have hin:=h.sin
 have hmay:=h.may
 have hgd:=h.good
 have hp:=h.pend
 refine (G6 (w:=w) (X:=fun b=>X b∨b=l∨R b) h3 (fun b hb=>by
  rcases hb with hb | rfl | hb
  ·exact hX b hb
  ·exact h1.lt
  ·exact (h5 b hb).1) s.g s.r s.v q hmay (by unfold Sup.In lG at hin; unfold lG; omega) (by unfold bO; omega) h.n2.1 (by omega) hgd.wre (hgd.put _ _).wre).mono ?_
 rintro e w1 ⟨rfl,hs,hk⟩
 refine ⟨rfl,⟨⟨A,c,⟨h1.kept hk (.inr (.inl rfl)),h2,R,hs,h4.kept hk (fun b hb=>.inr (.inr hb)),fun b hb=>⟨nL (h5 b hb).1 hk.size,(h5 b hb).2⟩⟩,hc,hA⟩,(hgd.put _ _).sync,h.ok,h.top,hmay,?_,h.dims,h.n2,h.room,?_⟩,fun b=>b=l∨R b,fun b hb=>?_,hk⟩
 ·unfold JN Sup.In lG at *
  simp only at *
  omega
 ·unfold Kk
  rw[(hgd.put _ _).pend_sync]
  exact Nat.zero_le _
 ·rcases hb with rfl | hb
  ·exact ⟨h1.lt,h2⟩
  ·exact ⟨(h5 b hb).1,(h5 b hb).2.2⟩
end
end
section
attribute [local go_sem] Oper.semAt_some
abbrev fl0:Oper:=⟨some 26,.load 56 (.tmp 2),56,"store.go:156",#[],none⟩
abbrev fl1:Oper:=⟨some 27,.nilCheck (.tmp 26),0,"store.go:156",#[⟨0,.data⟩],none⟩
abbrev fl2:Oper:=⟨some 28,.fieldAddr 137 (.tmp 27) 0,0,"store.go:156",#[⟨1,.data⟩],none⟩
abbrev fl3:Oper:=⟨some 29,.fieldAddr 134 (.tmp 28) 0,0,"store.go:156",#[⟨2,.data⟩],none⟩
abbrev fl4:Oper:=⟨some 30,.load 24 (.tmp 29),24,"store.go:156",#[⟨3,.data⟩],none⟩
abbrev fl5:Oper:=⟨some 31,.call { callee:=.value (.func 11),args:=#[.tmp 30],argTypes:=#[24] },45,"store.go:156",#[⟨4,.data⟩],none⟩
abbrev fl6:Oper:=⟨some 32,.load 115 (.tmp 5),115,"store.go:156",#[],none⟩
abbrev fl7:Oper:=⟨some 33,.call { callee:=.value (.func 61),args:=#[.tmp 31,.tmp 32],argTypes:=#[45,115] },36,"store.go:156",#[⟨5,.data⟩,⟨6,.data⟩,⟨5,.chain⟩],none⟩
abbrev fl8:Oper:=⟨none,.store 36 (.tmp 4) (.tmp 33),0,"store.go:156",#[⟨7,.data⟩,⟨7,.chain⟩,⟨0,.phase⟩,⟨1,.phase⟩,⟨2,.phase⟩,⟨3,.phase⟩,⟨4,.phase⟩,⟨5,.phase⟩,⟨6,.phase⟩,⟨7,.phase⟩],none⟩
section
variable {w w':World} {X Y:Nat→Prop} {B:xu} {slots:Nat} {s:Sup} {xs:List Seg} {st:List zm} {bl:List (List Int)} {u:Bool}
theorem Ow (h:zT w X B slots s xs st bl false):w.setCell ⟨B.q,3,none⟩ (.bool false)=w:=by
 have h1:=h.blk
 unfold z8 at h1
 rw[setCell_eq_setRow w B.q 3 _ _ (0,0) (.bool false) h1]
 exact setRow_self w B.q _ _ (0,0) h1
theorem UU {be mq:Nat} {u0:FrameMode} (h:zT w X B slots s xs st bl false) (h1:z8 w be 36 #[.int .i64 0]) (h2:z8 w mq 56 #[.pointer (some ⟨B.q,0,none⟩)]) :
 CallsD Tryz.prog 97 #[.pointer (some ⟨be,0,none⟩),.pointer (some ⟨mq,0,none⟩)] u0 w fun e u' w'=>u'=u0∧e=.returned (.tuple #[])∧w'=w:=by
 have HU:=hI (Ow h)
 have c1:w.cell? ⟨be,0,none⟩=some (.int .i64 0):=h1.cell 0
 have c2:w.cell? ⟨mq,0,none⟩=some (.pointer (some ⟨B.q,0,none⟩)):=h2.cell 0
 have c3:=h.cells.2.2.2
 have c4:=h.blk.frozen 3
 clear h h1 h2
 go_enter_d Tryz.func97,Tryz.ntmps97
 go_wp2_with fail
 go_end0
 exact ⟨rfl,HU.out⟩
def zJO (w:World) (X:Nat→Prop) (B:xu) (slots:Nat) (s:Sup) (xs:List Seg) (st:List zm) (bl:List (List Int)) (q:Int) (e:Ending) (w':World):Prop :=
 e=.returned (.int .i64 0)∧Kept X w w' ∧
 ((q≤s.f∧zT w' X B slots s xs st bl false) ∨
  (s.f<q∧zT w' X { B with t:=qy B.t,k:=Kk B.k s B.t q,pe:=B.pe } slots (JN s q) xs st bl false))
theorem JJ (h:zT w X B slots s xs st bl false) (hpe:B.pe≤900000) (q:Int) (hq2:q≤18446744073709551615) :
 Calls Tryz.prog 34 #[.pointer (some ⟨B.q,0,none⟩),.int .u64 q] w (zJO w X B slots s xs st bl q):=by
 obtain ⟨w1,hw1⟩:∃ w1,w1=(w.alloc (.cells #[.pointer (some ⟨B.q,0,none⟩)] 56)).alloc (.cells #[.int .i64 0] 36):=⟨_,rfl⟩
 have hb1:Below w.heap.size w w1:=by rw[hw1]; exact ((Below.refl _ w).alloc (nR _) _).alloc (by simp) _
 have ql:=hI (show z8 w1 w.heap.size 56 #[.pointer (some ⟨B.q,0,none⟩)] by rw[hw1]; exact (z8.new w _ _).alloc _)
 have yS:=hI (show z8 w1 (w.heap.size+1) 36 #[.int .i64 0] by rw[hw1]; exact zY w _ _ _)
 have yQ:=hI (h.grow hb1)
 have HX:=hI h.lt
 have sV:=hI (And.intro hpe hq2)
 have HB1:=hI hb1
 have HW1:=hI hw1
 clear h hpe hq2 hb1 hw1
 go_enter_defers Tryz.func34,Tryz.ntmps34
 go_upto_region 1 with fail
 rw[← HW1.out]
 have s0:w1.cell? ⟨w.heap.size,0,none⟩=some (.pointer (some ⟨B.q,0,none⟩)):=ql.out.cell 0
 go_wp2_with fail
 refine (vB yQ.out).mono ?_
 rintro e w2 ⟨rfl,rfl⟩
 have q0:=yQ.out.cells.1
 obtain ⟨A2,c2,hl,_,_⟩:=yQ.out.log.log
 have HL:=hI hl
 clear hl
 go_wp2_with fail
 refine (aJ HL.out).mono ?_
 rintro e w3 ⟨rfl,rfl⟩
 obtain ⟨_,_,R,hs,_,_⟩:=HL.out
 go_wp2_with fail
 refine (rG hs).mono ?_
 rintro e w4 ⟨rfl,hb4⟩
 clear hs s0 q0
 obtain ⟨w5,jH⟩:∃ w5,w5=w4.alloc (.cells #[.int .i64 s.a,.int .i64 s.b,.int .u64 s.g,.int .u64 s.r,.int .u64 s.v,.int .u64 s.f] 115):=⟨_,rfl⟩
 have hb5:Below w3.heap.size w3 w5:=by rw[jH]; exact hb4.alloc hb4.size _
 have kS:=hI (show z8 w5 w4.heap.size 115 #[.int .i64 s.a,.int .i64 s.b,.int .u64 s.g,.int .u64 s.r,.int .u64 s.v,.int .u64 s.f] by rw[jH]; exact z8.new w4 _ _)
 have wJ:=hI (yQ.out.grow hb5)
 have aj:=hI (ql.out.below hb5 ql.out.lt)
 have eH:=hI (yS.out.below hb5 yS.out.lt)
 have qM:=hI (HB1.out.trans (hb5.mono HB1.out.size))
 have xK:=hI (And.intro HB1.out.size (And.intro hb4.size kS.out.lt))
 have pK:=hI jH
 clear hb4 hb5 jH
 go_upto_region 6 with fail
 rw[← pK.out]
 have k5:w5.cell? ⟨w4.heap.size,5,none⟩=some (.int .u64 s.f):=kS.out.cell 5
 by_cases hle:q≤s.f
 ·have Xy:=hI hle
  have e0:w5.cell? ⟨w.heap.size+1,0,none⟩=some (.int .i64 0):=eH.out.cell 0
  have e9:=eH.out.frozen 0
  go_wp2_with fail
  have hkb:Kept (fun b=>b≠w.heap.size+1) w5 (w5.setCell ⟨w.heap.size+1,0,none⟩ (.int .i64 0)):=(Kept.refl _ _).setCell (p:=⟨w.heap.size+1,0,none⟩) (fun h=>h rfl) _
  have h1:=yS.out.lt
  refine ⟨.int .i64 0,?_,rfl,(Kept.of_below qM.out HX.out).trans hkb (fun b hb=>by have:=HX.out b hb; omega),.inl ⟨Xy.out,(wJ.out.offX hkb (fun b _ hn=>fun e=>hn (.inl (.inr ⟨by omega,by omega⟩)))).less (fun b hb=>.inl (.inl hb))⟩⟩
  have c6:(w5.setCell ⟨w.heap.size+1,0,none⟩ (.int .i64 0)).cell? ⟨w.heap.size+1,0,none⟩=some (.int .i64 0):=(eH.out.set_ 0 (.int .i64 0)).cell 0
  simp[results,Tryz.f34,go_sem,c6]
 ·have Xy:=hI hle
  have k9:=kS.out.frozen 5
  go_upto_region 10 with fail
  clear k5 k9
  obtain ⟨w6,xB⟩:∃ w6,w6=w5.setCell ⟨w4.heap.size,5,none⟩ (.int .u64 q):=⟨_,rfl⟩
  rw[← xB]
  have xU:Kept (fun b=>b≠w4.heap.size) w5 w6:=by rw[xB]; exact (Kept.refl _ _).setCell (p:=⟨w4.heap.size,5,none⟩) (fun h=>h rfl) _
  have je:=hI (show z8 w6 w4.heap.size 115 #[.int .i64 s.a,.int .i64 s.b,.int .u64 s.g,.int .u64 s.r,.int .u64 s.v,.int .u64 q] by rw[xB]; exact kS.out.set_ 5 (.int .u64 q))
  clear xB
  obtain ⟨Z,hZ⟩:∃ Z:Nat→Prop,Z=fun b=>(X b∨(w.heap.size≤b∧b<w3.heap.size))∨(w3.heap.size≤b∧b<w5.heap.size):=⟨_,rfl⟩
  have HZD:=hI (show ∀ b,(X b∨(w.heap.size≤b∧b<w5.heap.size))→Z b by
   intro b hb
   rw[hZ]
   rcases hb with hb | ⟨h1,h2⟩
   ·exact .inl (.inl hb)
   ·rcases Nat.lt_or_ge b w3.heap.size with h | h
    ·exact .inl (.inr ⟨h1,h⟩)
    ·exact .inr ⟨h,h2⟩)
  have zAY:=wJ.out
  rw[← hZ] at zAY
  have hz:=xK.out
  have qQ:=hI (zAY.offX xU (fun b _ hn=>fun e=>hn (HZD.out b (.inr ⟨by omega,by omega⟩))))
  have h1:=yS.out.lt
  have vL:=hI (aj.out.kept xU (by omega))
  have bL:=hI (eH.out.kept xU (by omega))
  have wm:=hI (show Kept X w w6 from (Kept.of_below qM.out HX.out).trans xU (fun b hb=>by have:=HX.out b hb; omega))
  have HX0:=hI (show ∀ b,X b→Z b from fun b hb=>HZD.out b (.inl hb))
  have HZE:=hI (show Z (w.heap.size+1)∧Z w.heap.size from ⟨HZD.out _ (.inr ⟨by omega,by omega⟩),HZD.out _ (.inr ⟨by omega,by omega⟩)⟩)
  have zIl:=hI h1
  clear hZ zAY hz xU h1 wJ aj eH kS pK xK
  refine wp_region_noPanic ?_
  refine zB.region (fun W=>Below w6.heap.size w6 W) [7,8] (by kernel_rfl) ((Below.refl _ _).drew) (fun hė=>?_)
  generalize w6.drew=vd at *
  refine zB.takeG (i:=0) (oi:=fl0) (v:=?_) rfl (by kernel_rfl) (by kernel_rfl) (by kernel_rfl) (by kernel_rfl) (by kernel_rfl) (fun _ _ _ h=>h) (by rfl) ?_ hė ?_
  rotate_left
  ·intro W hSW; have h9:W.cell? ⟨w.heap.size,0,none⟩=some (.pointer (some ⟨B.q,0,none⟩)):=(vL.out.below hSW vL.out.lt).cell 0; clear hSW; unfold fl0; go_simp; with_reducible rfl
  simp only[fl0,Act.put,sA,sZ,sS]
  refine zB.takeG (i:=1) (oi:=fl1) (v:=?_) rfl (by kernel_rfl) (by kernel_rfl) (by kernel_rfl) (by kernel_rfl) (by kernel_rfl) (fun _ _ _ h=>h) (by rfl) ?_ hė ?_
  rotate_left
  ·intro W hSW; unfold fl1; go_simp; with_reducible rfl
  simp only[fl1,Act.put,sA,sZ,sS]
  refine zB.takeG (i:=2) (oi:=fl2) (v:=?_) rfl (by kernel_rfl) (by kernel_rfl) (by kernel_rfl) (by kernel_rfl) (by kernel_rfl) (fun _ _ _ h=>h) (by rfl) ?_ hė ?_
  rotate_left
  ·intro W hSW; unfold fl2; go_simp; with_reducible rfl
  simp only[fl2,Act.put,sA,sZ,sS]
  refine zB.takeG (i:=3) (oi:=fl3) (v:=?_) rfl (by kernel_rfl) (by kernel_rfl) (by kernel_rfl) (by kernel_rfl) (by kernel_rfl) (fun _ _ _ h=>h) (by rfl) ?_ hė ?_
  rotate_left
  ·intro W hSW; unfold fl3; go_simp; with_reducible rfl
  simp only[fl3,Act.put,sA,sZ,sS]
  refine zB.takeG (i:=4) (oi:=fl4) (v:=?_) rfl (by kernel_rfl) (by kernel_rfl) (by kernel_rfl) (by kernel_rfl) (by kernel_rfl) (fun _ _ _ h=>h) (by rfl) ?_ hė ?_
  rotate_left
  ·intro W hSW; have h9:=(qQ.out.below hSW).cells.1; clear hSW; unfold fl4; go_simp; with_reducible rfl
  simp only[fl4,Act.put,sA,sZ,sS]
  refine zB.takeG (i:=6) (oi:=fl6) (v:=.agg #[.int .i64 s.a,.int .i64 s.b,.int .u64 s.g,.int .u64 s.r,.int .u64 s.v,.int .u64 q]) rfl (by kernel_rfl) (by kernel_rfl) (by kernel_rfl) (by kernel_rfl) (by kernel_rfl) (fun _ _ _ h=>h) (by rfl) ?_ hė ?_
  ·intro W hSW; have h9:=je.out.below hSW je.out.lt; have c0:=h9.cell 0; have c1:=h9.cell 1; have c2:=h9.cell 2; have c3:=h9.cell 3; have c4:=h9.cell 4; have c5:=h9.cell 5; clear hSW h9; simp only[List.getElem?_toArray,List.getElem?_cons_zero,List.getElem?_cons_succ] at c0 c1 c2 c3 c4 c5; unfold fl6; go_simp
  simp only[fl6,Act.put,sA,sZ,sS]
  refine tO 5 fl5 ?_
  intro K hK
  obtain ⟨A3,c3,hl,_,_⟩:=(qQ.out.below hė).log.log
  refine zN 11 #[.tmp 30] #[24] rfl rfl Tryz.func11 rfl rfl [.pointer (some ⟨B.l,0,none⟩)] rfl ((aJ hl).mono ?_)
  rintro e v2 ⟨rfl,rfl⟩
  refine ⟨_,rfl,?_⟩
  simp only[fl5,Act.put,sA,sZ,sS]
  refine hU hK rfl _ _ hė (fun hė=>?_)
  clear hK K hl
  have kL:=hI (qQ.out.below hė)
  have ah:=hI (vL.out.below hė vL.out.lt)
  have sj:=hI (bL.out.below hė bL.out.lt)
  have WI:=hI (wm.out.trans (Kept.of_below (S:=X) hė (fun b hb=>nL (HX.out b hb) wm.out.size)) (fun b h=>h))
  have hle2:=Xy.out
  have hpe:=sV.out
  refine tO 7 fl7 ?_
  intro K hK
  refine zN 61 #[.tmp 31,.tmp 32] #[45,115] rfl rfl Tryz.func61 rfl rfl [.pointer (some ⟨B.p,0,none⟩),.agg (qR s.a s.b s.g s.r s.v q)] rfl ((zCu kL.out.log kL.out.ylt hpe.1 (q:=q) (by omega) hpe.2).mono ?_)
  rintro e w8 ⟨rfl,iT,R,hR,kE⟩
  refine ⟨_,rfl,?_⟩
  simp only[fl7,Act.put,sA,sZ,sS]
  have vW:=kL.out.logTo2 kE (fun b hb=>.inl (.inr hb)) (fun b hb=>hb) kL.out.off (fun b hb=>nL (kL.out.lt b hb) kE.size) iT rfl (kL.out.inv.go (fun a' bs' h=>zJY kL.out.log.good h))
  have jA:=hI vW
  have aZ:=hI (ah.out.kept kE (.inl (.inl HZE.out.2)))
  have gQ:=hI (sj.out.kept kE (.inl (.inl HZE.out.1)))
  have QC:=hI (WI.out.trans kE (fun b hb=>.inl (.inl (HX0.out b hb))))
  clear vW iT hR kE hle2 hpe
  refine hK.out _ _ (fun h=>by cases h) (fun _=>?_)
  clear hK K hė
  refine tO 8 fl8 ?_
  intro K hK
  have e8:w8.cell? ⟨w.heap.size+1,0,none⟩=some (.int .i64 0):=gQ.out.cell 0
  have e9:=gQ.out.frozen 0
  go_simp
  clear e8 e9
  refine hK.out _ _ (fun h=>by cases h) (fun _=>?_)
  clear hK K
  refine zB.done (by kernel_rfl) ?_ _
  refine NoPanic.normal ?_
  obtain ⟨w9,KT⟩:∃ w9,w9=w8.setCell ⟨w.heap.size+1,0,none⟩ (.int .i64 0):=⟨_,rfl⟩
  have xI:Kept (fun b=>b≠w.heap.size+1) w8 w9:=by rw[KT]; exact (Kept.refl _ _).setCell (p:=⟨w.heap.size+1,0,none⟩) (fun h=>h rfl) _
  have ZA:=hI (show z8 w9 (w.heap.size+1) 36 #[.int .i64 0] by rw[KT]; exact gQ.out.set_ 0 (.int .i64 0))
  rw[← KT]
  clear KT
  have nV:=hI (jA.out.offX xI (fun b _ hn=>fun e=>hn (e▸HZE.out.1)))
  have Jc:=hI (aZ.out.kept xI (by omega))
  have Yk:=hI (QC.out.trans xI (fun b hb=>by have:=HX.out b hb; omega))
  clear xI
  go_wp2_with fail
  refine leaves_cons (f:=97) (args:=#[.pointer (some ⟨w.heap.size+1,0,none⟩),.pointer (some ⟨w.heap.size,0,none⟩)]) (by simp) (by simp[go_sem]) ?_
  refine (UU nV.out ZA.out Jc.out).mono ?_
  rintro e u' w10 ⟨rfl,rfl,rfl⟩
  refine ⟨.int .i64 0,?_,rfl,Yk.out,.inr ⟨by have:=Xy.out; omega,nV.out.less HX0.out⟩⟩
  have c6:=ZA.out.cell 0
  simp[results,Tryz.f34,go_sem,c6]
end
end
end Go.Proofs.YtdkbpchmnhbhcaaGreat
