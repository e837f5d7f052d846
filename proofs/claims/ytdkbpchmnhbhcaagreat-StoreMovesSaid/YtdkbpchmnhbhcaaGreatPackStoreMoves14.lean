/- Texts of StoreMoves, packed. -/
import Derived.Test.YtdkbpchmnhbhcaaGreatPackStoreMoves13
import Derived.BigQuiet
set_option linter.unusedVariables false
set_option linter.unusedSimpArgs false
set_option maxRecDepth 100000
set_option maxHeartbeats 16000000
namespace Go.Proofs.YtdkbpchmnhbhcaaGreat
open Go.RowKit
section
attribute [local go_sem] Oper.semAt_some
section
variable {w w':World} {X Y:Nat→Prop} {B:StB} {slots:Nat} {s:Sup} {xs:List Seg} {st:List EntS} {bl:List (List Int)} {u:Bool} {A:Option Addr} {m c:Nat} {us:List Int}
def getS (st:List EntS) (fl now:Int) (us:List Int):Option (List Int) :=
 match hasS st us with
 | none=>none
 | some p=>if seqOf p.2≤fl∨(0<expOf p.2∧expOf p.2≤now) then none else some p.2
def GetT (w:World) (X:Nat→Prop) (B:StB) (slots:Nat) (s:Sup) (xs:List Seg) (st:List EntS) (bl:List (List Int)) (now:Int) (us:List Int) (e:Ending) (w':World):Prop :=
 (∃ k',StoM2 w' X { B with t:=B.t,k:=k',pe:=B.pe } slots s xs st bl false∧k'.held=B.k.held)∧Kept X w w' ∧
 ((getS st s.f now us=none∧e=.returned (.tuple #[.agg itm0C,.int .i64 4])) ∨
  ∃ bs b1 b2,getS st s.f now us=some bs∧e=.returned (.tuple #[.agg (itmC bs b1 b2),.int .i64 0])∧w.heap.size≤b1∧w.heap.size≤b2∧b1≠b2∧ArrU w' b1 (keyOf bs)∧ArrU w' b2 (valOf bs)∧∃ k',LgM w' (fun b=>(X b∨B.own b)∨b=b1∨b=b2) B.l B.p B.d B.n s B.t k' xs B.pe∧k'.held=B.k.held)
theorem get_fin {w2 w3 w4:World} (hX:∀ b,X b→b<w.heap.size) (h:StoM2 w3 (fun b=>X b∨(w.heap.size≤b∧b<w2.heap.size)) B slots s xs st bl u) (hs:w.heap.size<w2.heap.size∧w2.heap.size≤w3.heap.size) (hk:Kept X w w3) (hb:Below w3.heap.size w3 w4) (cs:Array Value) :
 StoM2 (w4.setRow w.heap.size cs) X B slots s xs st bl u∧Kept X w (w4.setRow w.heap.size cs)∧Kept (fun b=>b<w3.heap.size∧b≠w.heap.size) w3 (w4.setRow w.heap.size cs):=by
 have hkr:Kept (fun b=>b≠w.heap.size) w4 (w4.setRow w.heap.size cs):=(Kept.refl _ w4).setRow (fun h=>h rfl) cs
 refine ⟨((h.below hb).offX hkr (fun b hb hn e=>hn (.inr ⟨by omega,by omega⟩))).less (fun b hb=>.inl hb),(hk.trans (Kept.of_below (S:=X) hb (fun b h=>by have:=hX b h; omega)) (fun b h=>h)).trans hkr (fun b h=>by have:=hX b h; omega),(Kept.of_below (S:=fun b=>b<w3.heap.size∧b≠w.heap.size) hb (fun b h=>h.1)).trans hkr (fun b h=>h.2)⟩
theorem get_s (h:StoM2 w X B slots s xs st bl false) (hk:RowI .u8 w X A m us) (hb:Bytes us) (hm:m≤1000000) (now:Int) :
 Calls Tryz.prog 23 #[.pointer (some ⟨B.q,0,none⟩),.slice A m c,.int .u32 now] w (GetT w X B slots s xs st bl now us):=by
 obtain ⟨w1,hw1⟩:∃ w1,w1=w.alloc (.cells itm0C 53):=⟨_,rfl⟩
 have hb1:Below w.heap.size w w1:=by rw[hw1]; exact (Below.refl _ w).alloc (nR _) _
 have HR1:=hI (show Blk w1 w.heap.size 53 itm0C by rw[hw1]; exact Blk.new w _ _)
 have hM1:=h.grow hb1
 have HM1:=hI hM1
 have HB1:=hI hb1
 have HXL:=hI h.lt
 have HK1:=hI (hk.below hb1 h.lt)
 have HBY:=hI hb
 have HM:=hI hm
 have HW1:=hI hw1
 have HLK:=hI (look_any (c:=c) hM1.log hM1.ylt hM1.ix (.inr (.inr (.inl rfl))) hM1.inv ((hk.below hb1 h.lt).more (fun b h=>.inl (.inl h))) hb hm)
 obtain ⟨c0,c1,_,_⟩:=hM1.cells
 have HDG:=hI (degraded_ok hM1)
 clear h hk hb hm hb1 hw1 hM1
 go_enter Tryz.func23,Tryz.ntmps23
 go_upto_region 3 with fail
 rw[← HW1.out]
 go_wp2_with fail
 refine HDG.out.mono ?_
 rintro e w2 ⟨rfl,rfl⟩
 go_wp2_with fail
 refine HLK.out.mono ?_
 rintro e w3 ⟨⟨k3,hl3,hk3⟩,hkp3,hres⟩
 have hM3:=HM1.out.logTo hkp3 hl3 rfl (HM1.out.inv.held hk3)
 have HM3:=hI hM3
 have HH3:=hI hk3
 have HKX3:=hI ((Kept.of_below HB1.out HXL.out).trans hkp3 (fun b hb=>.inl (.inl hb)))
 have HR3:=hI (HR1.out.kept hkp3 (.inl (.inr ⟨nR _,HR1.out.lt⟩)))
 have HSZ:=hI (show w.heap.size<w2.heap.size∧w2.heap.size≤w3.heap.size from ⟨HR1.out.lt,hkp3.size⟩)
 clear hl3 hk3 hkp3 hM3 HLK
 rcases hres with ⟨hno,rfl⟩ | ⟨q,b1,b2,hq,rfl,hq1,hq2,hq12,hr1,hr2,kb,hlb,hkb⟩
 ·have HNO:=hI (show getS st s.f now us=none by unfold getS; rw[hno])
  clear hno c0 c1
  have HB4:=hI ((Below.refl w3.heap.size w3).alloc (nR _) (.cells ent0C 154))
  have HR4:=hI (HR3.out.alloc (.cells ent0C 154))
  go_wp2_with (first
   | (refine wpList_store_rowB (.tmp 6) (.tmp 48) 53 rfl rfl w.heap.size itm0C rfl rfl 53 _ HR4.out size_itm rfl one_itm0 ?_)
   | (with_reducible refine halt_end ?_))
  have hfin:=get_fin HXL.out HM3.out HSZ.out HKX3.out HB4.out itm0C
  exact Halt.ret (results_row2 (p:=6) (u:=7) rfl _ _ w.heap.size 53 itm0C _ rfl (setRow_heap _ _ _ _ _ _ HR4.out) Tryz.underlying53 rfl size_itm) rfl ⟨⟨k3,hfin.1,HH3.out⟩,hfin.2.1,.inl ⟨HNO.out,rfl⟩⟩
 ·have HQ:=hI hq
  have HA31:=hI hr1
  have HA32:=hI hr2
  have HLB:=hI hlb
  have HKB:=hI hkb
  have HBB:=hI (And.intro hq1 (And.intro hq2 hq12))
  clear hq hr1 hr2 hq1 hq2 hq12 c0 c1 hlb hkb
  obtain ⟨w4,hw4⟩:∃ w4,w4=(w3.alloc (.cells ent0C 154)).setRow w3.heap.size (entC' q b1 b2):=⟨_,rfl⟩
  have HBN:=hI (Blk.new w3 154 ent0C)
  have hb4:Below w3.heap.size w3 w4:=by rw[hw4]; exact Kept.to_below (((Kept.refl (fun b=>b<w3.heap.size) w3).alloc (fun b h=>h) _).setRow (fun h=>by omega) _) (fun b h=>h)
  have HE4:=hI (show Blk w4 w3.heap.size 154 (entC' q b1 b2) by rw[hw4]; exact setRow_heap _ _ _ _ _ _ HBN.out)
  have HW4:=hI hw4.symm
  have HB4:=hI hb4
  have HVD:=hI (void_ok (HM3.out.below hb4) (kindOf q.2) (flagsOf q.2) (expOf q.2) (seqOf q.2) (some ⟨b1,0,none⟩) (some ⟨b2,0,none⟩) (klenOf q.2) (klenOf q.2) (vlenOf q.2) (vlenOf q.2))
  clear hw4 hb4
  have e0:w4.cell? ⟨w3.heap.size,0,none⟩=some (.bool true):=HE4.out.cell 0
  have e4:w4.cell? ⟨w3.heap.size,4,none⟩=some (.int .i64 (kindOf q.2)):=HE4.out.cell 4
  have e5:w4.cell? ⟨w3.heap.size,5,none⟩=some (.int .u32 (flagsOf q.2)):=HE4.out.cell 5
  have e6:w4.cell? ⟨w3.heap.size,6,none⟩=some (.int .u32 (expOf q.2)):=HE4.out.cell 6
  have e7:w4.cell? ⟨w3.heap.size,7,none⟩=some (.int .u64 (seqOf q.2)):=HE4.out.cell 7
  have e8:w4.cell? ⟨w3.heap.size,8,none⟩=some (.slice (some ⟨b1,0,none⟩) (klenOf q.2) (klenOf q.2)):=HE4.out.cell 8
  have e9:w4.cell? ⟨w3.heap.size,9,none⟩=some (.slice (some ⟨b2,0,none⟩) (vlenOf q.2) (vlenOf q.2)):=HE4.out.cell 9
  go_wp2_with (refine wpList_store_rowB (.tmp 8) (.tmp 25) 154 rfl rfl w3.heap.size (entC' q b1 b2) rfl rfl 154 _ HBN.out size_entry rfl (one_ent _ _ _) ?_; rw[HW4.out])
  refine HVD.out.mono ?_
  rintro e w5 ⟨rfl,hb5⟩
  have HB5:=hI (HB4.out.trans (hb5.mono HB4.out.size))
  have HE5:=hI (HE4.out.below hb5 HE4.out.lt)
  clear hb5 HVD e0 e4 e5 e6 e7 e8 e9
  have e4:w5.cell? ⟨w3.heap.size,4,none⟩=some (.int .i64 (kindOf q.2)):=HE5.out.cell 4
  have e5:w5.cell? ⟨w3.heap.size,5,none⟩=some (.int .u32 (flagsOf q.2)):=HE5.out.cell 5
  have e6:w5.cell? ⟨w3.heap.size,6,none⟩=some (.int .u32 (expOf q.2)):=HE5.out.cell 6
  have e7:w5.cell? ⟨w3.heap.size,7,none⟩=some (.int .u64 (seqOf q.2)):=HE5.out.cell 7
  have e8:w5.cell? ⟨w3.heap.size,8,none⟩=some (.slice (some ⟨b1,0,none⟩) (klenOf q.2) (klenOf q.2)):=HE5.out.cell 8
  have e9:w5.cell? ⟨w3.heap.size,9,none⟩=some (.slice (some ⟨b2,0,none⟩) (vlenOf q.2) (vlenOf q.2)):=HE5.out.cell 9
  have HR5:=hI ((HR3.out.below HB5.out HR3.out.lt))
  by_cases hv:seqOf q.2≤s.f
  ·have HNO:=hI (show getS st s.f now us=none by unfold getS; rw[HQ.out]; exact if_pos (.inl hv))
   rw[decide_eq_true hv]
   clear hv
   go_wp2_with (first
    | (refine wpList_store_rowB (.tmp 6) (.tmp 48) 53 rfl rfl w.heap.size itm0C rfl rfl 53 _ HR5.out size_itm rfl one_itm0 ?_)
    | (with_reducible refine halt_end ?_))
   have hfin:=get_fin HXL.out HM3.out HSZ.out HKX3.out HB5.out itm0C
   exact Halt.ret (results_row2 (p:=6) (u:=7) rfl _ _ w.heap.size 53 itm0C _ rfl (setRow_heap _ _ _ _ _ _ HR5.out) Tryz.underlying53 rfl size_itm) rfl ⟨⟨k3,hfin.1,HH3.out⟩,hfin.2.1,.inl ⟨HNO.out,rfl⟩⟩
  ·rw[decide_eq_false hv]
   have HV:=hI hv
   clear hv
   go_wp2_with fail
   refine (expired_ok (kindOf q.2) (flagsOf q.2) (expOf q.2) (seqOf q.2) now (some ⟨b1,0,none⟩) (some ⟨b2,0,none⟩) (klenOf q.2) (klenOf q.2) (vlenOf q.2) (vlenOf q.2) w5).mono ?_
   rintro e w6 ⟨rfl,hb6⟩
   have HB6:=hI (HB5.out.trans (hb6.mono HB5.out.size))
   have HE6:=hI (HE5.out.below hb6 HE5.out.lt)
   clear hb6 e4 e5 e6 e7 e8 e9
   have HR6:=hI ((HR3.out.below HB6.out HR3.out.lt))
   by_cases hx:0<expOf q.2∧expOf q.2≤now
   ·have HNO:=hI (show getS st s.f now us=none by unfold getS; rw[HQ.out]; exact if_pos (.inr hx))
    rw[decide_eq_true hx]
    clear hx
    go_wp2_with (first
     | (refine wpList_store_rowB (.tmp 6) (.tmp 48) 53 rfl rfl w.heap.size itm0C rfl rfl 53 _ HR6.out size_itm rfl one_itm0 ?_)
     | (with_reducible refine halt_end ?_))
    have hfin:=get_fin HXL.out HM3.out HSZ.out HKX3.out HB6.out itm0C
    exact Halt.ret (results_row2 (p:=6) (u:=7) rfl _ _ w.heap.size 53 itm0C _ rfl (setRow_heap _ _ _ _ _ _ HR6.out) Tryz.underlying53 rfl size_itm) rfl ⟨⟨k3,hfin.1,HH3.out⟩,hfin.2.1,.inl ⟨HNO.out,rfl⟩⟩
   ·have HYES:=hI (show getS st s.f now us=some q.2 by unfold getS; rw[HQ.out]; exact if_neg (fun h=>h.elim (fun h9=>by have:=HV.out; omega) hx))
    rw[decide_eq_false hx]
    clear hx
    have e4:w6.cell? ⟨w3.heap.size,4,none⟩=some (.int .i64 (kindOf q.2)):=HE6.out.cell 4
    have e5:w6.cell? ⟨w3.heap.size,5,none⟩=some (.int .u32 (flagsOf q.2)):=HE6.out.cell 5
    have e6:w6.cell? ⟨w3.heap.size,6,none⟩=some (.int .u32 (expOf q.2)):=HE6.out.cell 6
    have e7:w6.cell? ⟨w3.heap.size,7,none⟩=some (.int .u64 (seqOf q.2)):=HE6.out.cell 7
    have e8:w6.cell? ⟨w3.heap.size,8,none⟩=some (.slice (some ⟨b1,0,none⟩) (klenOf q.2) (klenOf q.2)):=HE6.out.cell 8
    have e9:w6.cell? ⟨w3.heap.size,9,none⟩=some (.slice (some ⟨b2,0,none⟩) (vlenOf q.2) (vlenOf q.2)):=HE6.out.cell 9
    go_wp2_with fail
    refine (itemOf_ok q.2 b1 b2 w6).mono ?_
    rintro e w7 ⟨rfl,hb7⟩
    have HB7:=hI (HB6.out.trans (hb7.mono HB6.out.size))
    clear hb7 e4 e5 e6 e7 e8 e9
    have HR7:=hI ((HR3.out.below HB7.out HR3.out.lt))
    go_wp2_with (first
     | (refine wpList_store_rowB (.tmp 6) (.tmp 51) 53 rfl rfl w.heap.size (itmC q.2 b1 b2) rfl rfl 53 _ HR7.out size_itm rfl (one_itm _ _ _) ?_)
     | (with_reducible refine halt_end ?_))
    have hfin:=get_fin HXL.out HM3.out HSZ.out HKX3.out HB7.out (itmC q.2 b1 b2)
    have hsz:=HSZ.out
    have hbb:=HBB.out
    refine Halt.ret (results_row2 (p:=6) (u:=7) rfl _ _ w.heap.size 53 (itmC q.2 b1 b2) _ rfl (setRow_heap _ _ _ _ _ _ HR7.out) Tryz.underlying53 rfl size_itm) rfl ⟨⟨k3,hfin.1,HH3.out⟩,hfin.2.1,.inr ⟨q.2,b1,b2,HYES.out,rfl,by omega,by omega,hbb.2.2,?_,?_,kb,?_,HKB.out⟩⟩
    ·exact Blk.kept HA31.out hfin.2.2 ⟨Blk.lt HA31.out,by omega⟩
    ·exact Blk.kept HA32.out hfin.2.2 ⟨Blk.lt HA32.out,by omega⟩
    ·exact ((HLB.out.below HB7.out).off ((Kept.refl (fun b=>b≠w.heap.size) w7).setRow (fun h=>h rfl) (itmC q.2 b1 b2)) (fun b hb hn e=>hn (.inl (.inl (.inr ⟨by omega,by omega⟩))))).less (fun b hb=>hb.imp (fun h=>h.imp .inl id) id)
end
end
section
attribute [local go_sem] Oper.semAt_some
theorem index_adr {w:World} {S:Nat→Prop} {A:Option Addr} {n c:Nat} {L:List Seg} (h:RowZ w S A n L) (hS:∀ b,S b→b<w.heap.size) (hn:n≤1000000) (x y z:Int) :
 Calls Tryz.prog 149 #[.slice A n c,.agg #[.int .i64 x,.int .u64 y,.int .i64 z]] w fun e w'=>(∃ j:Int,e=.returned (.int .i64 j)∧(0≤j↔(x,y,z)∈L))∧Below w.heap.size w w':=by
 obtain ⟨w1,hw1⟩:∃ w1,w1=w.alloc (.cells #[.int .i64 x,.int .u64 y,.int .i64 z] 35):=⟨_,rfl⟩
 have hb1:Below w.heap.size w w1:=by rw[hw1]; exact (Below.refl _ w).alloc (nR _) _
 have HA1:=hI (show Blk w1 w.heap.size 35 #[.int .i64 x,.int .u64 y,.int .i64 z] by rw[hw1]; exact Blk.new w _ _)
 have HR:=hI (show ∀ j,j<n→∃ b off,A=some ⟨b,off,none⟩∧w1.cell? ⟨b,off+j*3,none⟩=some (.int .i64 (L.getD j seg0).1)∧w1.cell? ⟨b,off+j*3+1,none⟩=some (.int .u64 (L.getD j seg0).2.1)∧w1.cell? ⟨b,off+j*3+2,none⟩=some (.int .i64 (L.getD j seg0).2.2) from fun j hj=>by
  obtain ⟨b,off,e,hb,hc⟩:=h.2 (by omega)
  have h9:=hc j hj
  exact ⟨b,off,e,(hb1.cell (p:=⟨b,_,none⟩) (hS b hb)).trans (h9 0 _ rfl),(hb1.cell (p:=⟨b,_,none⟩) (hS b hb)).trans (h9 1 _ rfl),(hb1.cell (p:=⟨b,_,none⟩) (hS b hb)).trans (h9 2 _ rfl)⟩)
 have HN:=hI h.1
 have HB1:=hI hb1
 have HW1:=hI hw1
 have a0:w1.cell? ⟨w.heap.size,0,none⟩=some (.int .i64 x):=HA1.out.cell 0
 have a1:w1.cell? ⟨w.heap.size,1,none⟩=some (.int .u64 y):=HA1.out.cell 1
 have a2:w1.cell? ⟨w.heap.size,2,none⟩=some (.int .i64 z):=HA1.out.cell 2
 clear h hS hb1 hw1
 go_enter Tryz.func149,Tryz.ntmps149
 go_upto_region 1 with fail
 rw[← HW1.out]
 go_wp2
 go_loopw [8] (fun i wr=>∃ k d:Nat,k≤n∧i=.int .i64 k∧wr=w1.drewN d∧∀ j,j<k→L.getD j seg0≠(x,y,z)) (fun i _=>n-(intOf i).toNat)
 case atStart=>exact ⟨0,0,by omega,rfl,rfl,fun j hj=>by omega⟩
 case round =>
  obtain ⟨k,d,hk,rfl,rfl,hall⟩:=hrel
  have HALL:=hI hall
  clear hall
  by_cases hlt:k<n
  ·obtain ⟨b,off,rfl,q0,q1,q2⟩:=HR.out k hlt
   have hq:=eql_adr x y z (L.getD k seg0).1 (L.getD k seg0).2.1 (L.getD k seg0).2.2
   have HE:=hI (show (L.getD k seg0)=((L.getD k seg0).1,(L.getD k seg0).2.1,(L.getD k seg0).2.2) from rfl)
   have HIN:=hI (show L.getD k seg0∈L by
    have h9:=HN.out
    rw[show L.getD k seg0=L[k]'(by omega) by simp[List.getD,List.getElem?_eq_getElem (show k<L.length by omega)]]
    exact List.getElem_mem _)
   generalize (L.getD k seg0).1=x' at *
   generalize (L.getD k seg0).2.1=y' at *
   generalize (L.getD k seg0).2.2=z' at *
   by_cases he:(x,y,z)=(x',y',z')
   ·have HHE:=hI he
    rw[decide_eq_true he] at hq
    clear he
    go_wp2
    go_quiet (fail)
    go_wp2
    go_ret
    exact ⟨⟨(k:Int),rfl,fun _=>by rw[HHE.out,← HE.out]; exact HIN.out,fun _=>by omega⟩,below_drewN (below_drewN HB1.out _) _⟩
   ·have HHE:=hI he
    rw[decide_eq_false he] at hq
    clear he
    go_wp2
    go_quiet (fail)
    go_wp2
    go_roundw
    case rel=>exact ⟨k+1,_,by omega,by go_num,rfl,fun j hj=>by
     by_cases e:j=k
     ·rw[e,HE.out]; exact fun h=>HHE.out h.symm
     ·exact HALL.out j (by omega)⟩
    case measure=>(simp[intOf] <;> omega)
  ·obtain rfl:k=n:=by omega
   go_wp2
   go_ret
   refine ⟨⟨-1,rfl,fun h=>by omega,fun h=>?_⟩,below_drewN HB1.out _⟩
   exfalso
   obtain ⟨j,hj,e⟩:=List.mem_iff_getElem.1 h
   exact HALL.out j (by have:=HN.out; omega) (by simp[List.getD,List.getElem?_eq_getElem hj,e])
theorem contains_adr {w:World} {S:Nat→Prop} {A:Option Addr} {n c:Nat} {L:List Seg} (h:RowZ w S A n L) (hS:∀ b,S b→b<w.heap.size) (hn:n≤1000000) (x y z:Int) :
 Calls Tryz.prog 98 #[.slice A n c,.agg #[.int .i64 x,.int .u64 y,.int .i64 z]] w fun e w'=>e=.returned (.bool (decide ((x,y,z)∈L)))∧Below w.heap.size w w':=by
 obtain ⟨w1,hw1⟩:∃ w1,w1=w.alloc (.cells #[.int .i64 x,.int .u64 y,.int .i64 z] 35):=⟨_,rfl⟩
 have hb1:Below w.heap.size w w1:=by rw[hw1]; exact (Below.refl _ w).alloc (nR _) _
 have HA1:=hI (show Blk w1 w.heap.size 35 #[.int .i64 x,.int .u64 y,.int .i64 z] by rw[hw1]; exact Blk.new w _ _)
 have HR:=hI (index_adr (c:=c) (x:=x) (y:=y) (z:=z) (w:=w1) (S:=S) ⟨h.1,fun h0=>by
  obtain ⟨b,off,e,hb,hc⟩:=h.2 h0
  exact ⟨b,off,e,hb,fun j hj i v hv=>(hb1.cell (p:=⟨b,_,none⟩) (hS b hb)).trans (hc j hj i v hv)⟩⟩ (fun b hb=>nL (hS b hb) hb1.size) hn)
 have HB1:=hI hb1
 have HW1:=hI hw1
 have a0:w1.cell? ⟨w.heap.size,0,none⟩=some (.int .i64 x):=HA1.out.cell 0
 have a1:w1.cell? ⟨w.heap.size,1,none⟩=some (.int .u64 y):=HA1.out.cell 1
 have a2:w1.cell? ⟨w.heap.size,2,none⟩=some (.int .i64 z):=HA1.out.cell 2
 clear h hS hb1 hw1
 go_enter Tryz.func98,Tryz.ntmps98
 go_upto_region 1 with fail
 rw[← HW1.out]
 go_wp2_with fail
 refine HR.out.mono ?_
 rintro e w2 ⟨⟨j,rfl,hj⟩,hb2⟩
 have HB2:=hI (HB1.out.trans (hb2.mono HB1.out.size))
 clear a0 a1 a2 hb2
 by_cases hm:(x,y,z)∈L
 ·have hj0:0≤j:=hj.2 hm
  have HD:=hI (decide_eq_true hm)
  clear hj hm
  go_wp2
  (first | go_ret | go_ret2)
  exact ⟨by rw[HD.out]; first | rfl | simp[hj0],HB2.out⟩
 ·have hj0:¬ 0≤j:=fun h=>hm (hj.1 h)
  have HD:=hI (decide_eq_false hm)
  clear hj hm
  go_wp2
  (first | go_ret | go_ret2)
  exact ⟨by rw[HD.out]; first | rfl | simp[hj0],HB2.out⟩
end
section
attribute [local go_sem] Oper.semAt_some
abbrev lv0:Oper:=⟨some 19,.move (.tmp 0),56,"store.go:175",#[],none⟩
abbrev lv1:Oper:=⟨some 20,.nilCheck (.tmp 19),0,"store.go:175",#[⟨0,.data⟩],none⟩
abbrev lv2:Oper:=⟨some 21,.fieldAddr 137 (.tmp 20) 0,0,"store.go:175",#[⟨1,.data⟩],none⟩
abbrev lv3:Oper:=⟨some 22,.fieldAddr 134 (.tmp 21) 1,0,"store.go:175",#[⟨2,.data⟩],none⟩
abbrev lv4:Oper:=⟨some 23,.load 130 (.tmp 22),130,"store.go:175",#[⟨3,.data⟩],none⟩
abbrev lv5:Oper:=⟨some 24,.fieldAddr 40 (.tmp 3) 1,0,"store.go:175",#[],none⟩
abbrev lv6:Oper:=⟨some 25,.fieldAddr 33 (.tmp 24) 4,0,"store.go:175",#[⟨5,.data⟩],none⟩
abbrev lv7:Oper:=⟨some 26,.load 31 (.tmp 25),31,"store.go:175",#[⟨6,.data⟩],none⟩
abbrev lv8:Oper:=⟨some 27,.call { callee:=.value (.func 100),args:=#[.tmp 26],argTypes:=#[31] },29,"store.go:175",#[⟨7,.data⟩],none⟩
abbrev lv9:Oper:=⟨some 28,.call { callee:=.value (.func 99),args:=#[.tmp 23,.tmp 27],argTypes:=#[130,29] },176,"store.go:175",#[⟨4,.data⟩,⟨8,.data⟩,⟨8,.chain⟩],none⟩
abbrev lv10:Oper:=⟨some 29,.fieldAddr 40 (.tmp 3) 0,0,"store.go:175",#[],none⟩
abbrev lv11:Oper:=⟨some 30,.load 35 (.tmp 29),35,"store.go:175",#[⟨10,.data⟩],none⟩
abbrev lv12:Oper:=⟨some 31,.call { callee:=.value (.func 98),args:=#[.tmp 28,.tmp 30],argTypes:=#[176,35] },4,"store.go:175",#[⟨9,.data⟩,⟨11,.data⟩,⟨9,.chain⟩],none⟩
abbrev lv13:Oper:=⟨some 4,.assign (.tmp 31),4,"store.go:175",#[⟨12,.data⟩,⟨12,.chain⟩,⟨0,.phase⟩,⟨1,.phase⟩,⟨2,.phase⟩,⟨3,.phase⟩,⟨4,.phase⟩,⟨5,.phase⟩,⟨6,.phase⟩,⟨7,.phase⟩,⟨8,.phase⟩,⟨9,.phase⟩,⟨10,.phase⟩,⟨11,.phase⟩,⟨12,.phase⟩],none⟩
section
variable {w w':World} {X Y:Nat→Prop} {B:StB} {slots:Nat} {s:Sup} {xs:List Seg} {st:List EntS} {bl:List (List Int)} {u:Bool} {A A2:Option Addr} {m c m2 c2:Nat} {us:List Int}
def liveS (st:List EntS) (fl sg g sc kd q:Int) (us:List Int):Bool:=decide (kd=1)&&(!decide (q≤fl)&&decide ((sg,g,sc)∈(ofF st us).map (·.1)))
theorem live_s14 (h:StoM2 w X B slots s xs st bl u) (sg g sc kd f x q:Int) (hk:RowI .u8 w (fun b=>b<w.heap.size) A m us) (hb:Bytes us) (hm:m≤1000000) :
 Calls Tryz.prog 36 #[.pointer (some ⟨B.q,0,none⟩),.agg #[.int .i64 sg,.int .u64 g,.int .i64 sc,.int .i64 kd,.int .u32 f,.int .u32 x,.int .u64 q,.slice A m c,.slice A2 m2 c2]] w fun e w'=>e=.returned (.bool (liveS st s.f sg g sc kd q us))∧Below w.heap.size w w':=by
 obtain ⟨w1,hw1⟩:∃ w1,w1=w.alloc (.cells #[.int .i64 sg,.int .u64 g,.int .i64 sc,.int .i64 kd,.int .u32 f,.int .u32 x,.int .u64 q,.slice A m c,.slice A2 m2 c2] 40):=⟨_,rfl⟩
 have hb1:Below w.heap.size w w1:=by rw[hw1]; exact (Below.refl _ w).alloc (nR _) _
 have HP1:=hI (show Blk w1 w.heap.size 40 #[.int .i64 sg,.int .u64 g,.int .i64 sc,.int .i64 kd,.int .u32 f,.int .u32 x,.int .u64 q,.slice A m c,.slice A2 m2 c2] by rw[hw1]; exact Blk.new w _ _)
 have HM1:=hI (h.below hb1)
 have HK1:=hI (hk.below hb1 (fun b h=>h))
 have HBY:=hI hb
 have HM:=hI hm
 have HB1:=hI hb1
 have HW1:=hI hw1
 have p3:w1.cell? ⟨w.heap.size,3,none⟩=some (.int .i64 kd):=HP1.out.cell 3
 have p4:w1.cell? ⟨w.heap.size,4,none⟩=some (.int .u32 f):=HP1.out.cell 4
 have p5:w1.cell? ⟨w.heap.size,5,none⟩=some (.int .u32 x):=HP1.out.cell 5
 have p6:w1.cell? ⟨w.heap.size,6,none⟩=some (.int .u64 q):=HP1.out.cell 6
 have p7:w1.cell? ⟨w.heap.size,7,none⟩=some (.slice A m c):=HP1.out.cell 7
 have p8:w1.cell? ⟨w.heap.size,8,none⟩=some (.slice A2 m2 c2):=HP1.out.cell 8
 clear h hk hb hm hb1 hw1
 by_cases hkd:kd=1
 case neg =>
  have hd:(kd != 1)=true:=by simpa using hkd
  have HF:=hI (show liveS st s.f sg g sc kd q us=false by unfold liveS; rw[decide_eq_false hkd]; rfl)
  clear hkd
  go_enter Tryz.func36,Tryz.ntmps36
  go_upto_region 1 with fail
  rw[← HW1.out]
  go_wp2_with fail
  (first | go_ret | go_ret2)
  exact ⟨by rw[HF.out]; rfl,HB1.out⟩
 case pos =>
  subst hkd
  have HVD:=hI (void_ok HM1.out 1 f x q A A2 m c m2 c2)
  by_cases hv:q≤s.f
  ·have HF:=hI (show liveS st s.f sg g sc 1 q us=false by unfold liveS; rw[decide_eq_true hv]; rfl)
   rw[decide_eq_true hv] at HVD
   clear hv
   go_enter Tryz.func36,Tryz.ntmps36
   go_upto_region 1 with fail
   rw[← HW1.out]
   go_wp2_with fail
   refine HVD.out.mono ?_
   rintro e w2 ⟨rfl,hb2⟩
   have HB2:=hI (HB1.out.trans (hb2.mono HB1.out.size))
   clear hb2
   go_wp2_with fail
   (first | go_ret | go_ret2)
   exact ⟨by rw[HF.out]; rfl,HB2.out⟩
  ·have HF:=hI (show liveS st s.f sg g sc 1 q us=decide ((sg,g,sc)∈(ofF st us).map (·.1)) by unfold liveS; rw[decide_eq_false hv]; rfl)
   rw[decide_eq_false hv] at HVD
   clear hv
   go_enter Tryz.func36,Tryz.ntmps36
   go_upto_region 1 with fail
   rw[← HW1.out]
   go_wp2_with fail
   refine HVD.out.mono ?_
   rintro e w2 ⟨rfl,hb2⟩
   have HP2:=hI (HP1.out.below hb2 HP1.out.lt)
   have HM2:=hI (HM1.out.below hb2)
   have HK2:=hI (HK1.out.below hb2 (fun b h=>nL h HB1.out.size))
   have HB2:=hI (HB1.out.trans (hb2.mono HB1.out.size))
   clear hb2 p3 p4 p5 p6 p7 p8
   go_upto_region 3 with fail
   refine Tillst.region (fun W=>Below w2.heap.size w2 W) [] (by kernel_rfl) ((Below.refl _ _).drew) (fun hė=>?_)
   generalize w2.drew=vd at *
   refine tK 0 lv0 (v:=?_) ?_ hė ?_
   rotate_left
   ·intro W hSW; unfold lv0; go_simp; with_reducible rfl
   simp only[lv0,Act.put,sA,sZ,sS]
   refine tK 1 lv1 (v:=?_) ?_ hė ?_
   rotate_left
   ·intro W hSW; unfold lv1; go_simp; with_reducible rfl
   simp only[lv1,Act.put,sA,sZ,sS]
   refine tK 2 lv2 (v:=?_) ?_ hė ?_
   rotate_left
   ·intro W hSW; unfold lv2; go_simp; with_reducible rfl
   simp only[lv2,Act.put,sA,sZ,sS]
   refine tK 3 lv3 (v:=?_) ?_ hė ?_
   rotate_left
   ·intro W hSW; unfold lv3; go_simp; with_reducible rfl
   simp only[lv3,Act.put,sA,sZ,sS]
   refine tK 4 lv4 (v:=?_) ?_ hė ?_
   rotate_left
   ·intro W hSW; have h9:=(HM2.out.below hSW).cells.2.1; clear hSW; unfold lv4; go_simp; with_reducible rfl
   simp only[lv4,Act.put,sA,sZ,sS]
   refine tK 5 lv5 (v:=?_) ?_ hė ?_
   rotate_left
   ·intro W hSW; unfold lv5; go_simp; with_reducible rfl
   simp only[lv5,Act.put,sA,sZ,sS]
   refine tK 6 lv6 (v:=?_) ?_ hė ?_
   rotate_left
   ·intro W hSW; unfold lv6; go_simp; with_reducible rfl
   simp only[lv6,Act.put,sA,sZ,sS]
   refine tK 7 lv7 (v:=?_) ?_ hė ?_
   rotate_left
   ·intro W hSW; have h9:W.cell? ⟨w.heap.size,7,none⟩=some (.slice A m c):=(HP2.out.below hSW HP2.out.lt).cell 7; clear hSW; unfold lv7; go_simp; with_reducible rfl
   simp only[lv7,Act.put,sA,sZ,sS]
   refine tK 10 lv10 (v:=?_) ?_ hė ?_
   rotate_left
   ·intro W hSW; unfold lv10; go_simp; with_reducible rfl
   simp only[lv10,Act.put,sA,sZ,sS]
   refine tK 11 lv11 (v:=.agg #[.int .i64 sg,.int .u64 g,.int .i64 sc]) ?_ hė ?_
   ·intro W hSW; have h0:W.cell? ⟨w.heap.size,0,none⟩=some (.int .i64 sg):=(HP2.out.below hSW HP2.out.lt).cell 0; have h1:W.cell? ⟨w.heap.size,1,none⟩=some (.int .u64 g):=(HP2.out.below hSW HP2.out.lt).cell 1; have h2:W.cell? ⟨w.heap.size,2,none⟩=some (.int .i64 sc):=(HP2.out.below hSW HP2.out.lt).cell 2; clear hSW; unfold lv11; go_simp
   simp only[lv11,Act.put,sA,sZ,sS]
   refine tO 8 lv8 ?_
   intro K hK
   refine step_call 100 #[.tmp 26] #[31] rfl rfl Tryz.func100 rfl rfl [.slice A m c] rfl ((finger_key A m c us vd (HK2.out.below hė (fun b h=>nL h HB2.out.size)) (fun b h=>nL h (nT HB2.out.size hė.size)) HBY.out HM.out).mono ?_)
   rintro e w3 ⟨rfl,rfl⟩
   refine ⟨_,rfl,?_⟩
   simp only[lv8,Act.put,sA,sZ,sS]
   refine hK.out _ _ (fun _=>hė) (fun hė=>?_)
   replace hė:=hė (by decide)
   clear hK K
   refine tO 9 lv9 ?_
   intro K hK
   refine step_call 99 #[.tmp 23,.tmp 27] #[130,29] rfl rfl Tryz.func99 rfl rfl [.pointer (some ⟨B.x,0,none⟩),.int .u32 (fingK us:Nat)] rfl ((find_ix (HM2.out.ix.below hė HM2.out.ix.lt) (fingK us)).mono ?_)
   rintro e w4 ⟨⟨v,rfl,hown⟩,hb4⟩
   rw[es_find,List.length_map] at hown
   obtain ⟨A3,c3,e9,hAn,hAc,hrow⟩:=Adr.rowZ_own hown rfl (List.length_map _)
   subst e9
   refine ⟨_,rfl,?_⟩
   simp only[lv9,Act.put,sA,sZ,sS]
   have hH4:=hė.trans (hb4.mono hė.size)
   have HR4:=hI hrow
   have HLL:=hI (show (ofF st us).length≤1024 by
    have h1:=HM2.out.ix.len
    have h2:(ofF st us).length≤st.length:=by unfold ofF; rw[List.length_reverse]; exact List.length_filter_le _ _
    unfold esS at h1
    rw[List.length_map] at h1
    omega)
   refine hK.out _ _ (fun _=>hH4) (fun hė=>?_)
   replace hė:=hė (by decide)
   clear hK K hH4 hb4 hrow hown hAn hAc
   refine tO 12 lv12 ?_
   intro K hK
   refine step_call 98 #[.tmp 28,.tmp 30] #[176,35] rfl rfl Tryz.func98 rfl rfl [.slice A3 (ofF st us).length c3,.agg #[.int .i64 sg,.int .u64 g,.int .i64 sc]] rfl ((contains_adr HR4.out (fun b h=>h.2) (by have:=HLL.out; omega) sg g sc).mono ?_)
   rintro e w5 ⟨rfl,hb5⟩
   refine ⟨_,rfl,?_⟩
   simp only[lv12,Act.put,sA,sZ,sS]
   have hH5:=hė.trans (hb5.mono hė.size)
   refine hK.out _ _ (fun _=>hH5) (fun hė=>?_)
   replace hė:=hė (by decide)
   clear hK K hH5 hb5
   refine tK 13 lv13 (v:=?_) ?_ hė ?_
   rotate_left
   ·intro W hSW; unfold lv13; go_simp; with_reducible rfl
   simp only[lv13,Act.put,sA,sZ,sS]
   refine Tillst.done (by kernel_rfl) ?_ _
   go_wp2_with fail
   go_ret
   exact ⟨by rw[HF.out]; rfl,HB2.out.trans (hė.mono HB2.out.size)⟩
end
end
section
attribute [local go_sem] Oper.semAt_some
abbrev mv0:Oper:=⟨some 23,.load 56 (.tmp 2),56,"store.go:196",#[],none⟩
abbrev mv1:Oper:=⟨some 24,.nilCheck (.tmp 23),0,"store.go:196",#[⟨0,.data⟩],none⟩
abbrev mv2:Oper:=⟨some 25,.fieldAddr 137 (.tmp 24) 0,0,"store.go:196",#[⟨1,.data⟩],none⟩
abbrev mv3:Oper:=⟨some 26,.fieldAddr 134 (.tmp 25) 0,0,"store.go:196",#[⟨2,.data⟩],none⟩
abbrev mv4:Oper:=⟨some 27,.load 24 (.tmp 26),24,"store.go:196",#[⟨3,.data⟩],none⟩
abbrev mv5:Oper:=⟨some 28,.fieldAddr 40 (.tmp 3) 1,0,"store.go:196",#[],none⟩
abbrev mv6:Oper:=⟨some 29,.load 33 (.tmp 28),33,"store.go:196",#[⟨5,.data⟩],none⟩
abbrev mv7:Oper:=⟨some 30,.call { callee:=.value (.func 9),args:=#[.tmp 27,.tmp 29],argTypes:=#[24,33] },37,"store.go:196",#[⟨4,.data⟩,⟨6,.data⟩],none⟩
abbrev mv8:Oper:=⟨some 22,.move (.tmp 30),37,"store.go:196",#[⟨7,.data⟩],none⟩
abbrev mv9:Oper:=⟨some 31,.extract (.tmp 22) 0,35,"store.go:196",#[⟨8,.data⟩],none⟩
abbrev mv10:Oper:=⟨some 32,.extract (.tmp 22) 1,36,"store.go:196",#[⟨8,.data⟩,{ on:=11,ground:=Go.Ground.gcOnly Go.Departure.lateStores }],none⟩
abbrev mv11:Oper:=⟨none,.store 35 (.tmp 6) (.tmp 31),0,"store.go:196",#[⟨9,.data⟩,⟨7,.chain⟩,⟨0,.phase⟩,⟨1,.phase⟩,⟨2,.phase⟩,⟨3,.phase⟩,⟨4,.phase⟩,⟨5,.phase⟩,⟨6,.phase⟩,⟨7,.phase⟩,⟨8,.phase⟩,⟨9,.phase⟩,{ on:=10,ground:=Go.Ground.textOnly Go.Departure.lateStores }],none⟩
abbrev mv12:Oper:=⟨none,.store 36 (.tmp 4) (.tmp 32),0,"store.go:196",#[⟨10,.data⟩,⟨11,.chain⟩,⟨0,.phase⟩,⟨1,.phase⟩,⟨2,.phase⟩,⟨3,.phase⟩,⟨4,.phase⟩,⟨5,.phase⟩,⟨6,.phase⟩,⟨7,.phase⟩,⟨8,.phase⟩,⟨9,.phase⟩,⟨10,.phase⟩,⟨11,.phase⟩],none⟩
section
variable {w w':World} {X Y:Nat→Prop} {B:StB} {slots:Nat} {s:Sup} {xs:List Seg} {st:List EntS} {bl:List (List Int)} {u:Bool} {A A2:Option Addr} {m c n2 c2:Nat} {us vs:List Int} {p:EntS} {f0 x0 q0:Int}
def MoveT (w : World) (X : Nat → Prop) (B : StB) (slots : Nat) (s : Sup) (xs : List Seg) (st : List EntS) (bl : List (List Int)) (bs : List Int) (e : Ending) (w' : World) : Prop :=
 Kept X w w' ∧
 ((appR s xs (cntOf bs.length)=none∧e=.returned (.int .i64 6)∧∃ k',StoM2 w' X { B with t:=B.t,k:=k',pe:=B.pe } slots s xs st bl false∧k'.held=B.k.held) ∨
  (∃ i s1 xs1 t' k',appR s xs (cntOf bs.length)=some (i,s1,xs1)∧(s1=s∨s1=genS s)∧e=.returned (.int .i64 0) ∧
    StoM2 w' X { B with t:=t',k:=k',pe:=B.pe+17 } slots s1 (useX xs1 ((cntOf bs.length:Nat):Int)) (outS st (keyOf bs)++[(((i:Int),genG xs1 i,usedG xs1 i),bs)]) (addB bl i (keyOf bs)) false∧HsT B.k s xs k' s1 xs1 (useX xs1 ((cntOf bs.length:Nat):Int)) i bs ∧
    ∀ q,q∈st→q.1≠((i:Int),genG xs1 i,usedG xs1 i)))
theorem live_of (hp:p∈st) (hk:keyOf p.2=us) (hq:s.f<q0):liveS st s.f p.1.1 p.1.2.1 p.1.2.2 1 q0 us=true:=by
 unfold liveS
 rw[decide_eq_false (show ¬ q0≤s.f by omega),decide_eq_true (show (p.1.1,p.1.2.1,p.1.2.2)∈(ofF st us).map (·.1) from ?_)]
 ·rfl
 ·refine List.mem_map.2 ⟨p,?_,rfl⟩
  unfold ofF
  rw[List.mem_reverse,List.mem_filter]
  exact ⟨hp,by rw[hk]; simp⟩
theorem move_s14 (h:StoM2 w X B slots s xs st bl false) (hp:p∈st) (hbs:recB 1 f0 x0 q0 us vs=p.2) (hk:RowI .u8 w X A m us) (hv:RowI .u8 w X A2 n2 vs) (hb:Bytes us) (hbv:Bytes vs) (hnc:A=none→c=0) (hnc2:A2=none→c2=0)
 (hmay:May 1 f0 x0 q0 m n2) (hr:Rng f0 x0 q0) (hq:s.f<q0) (hpe:B.pe≤900000) (hgm:s.g+1≤18446744073709551615) :
 Calls Tryz.prog 37 #[.pointer (some ⟨B.q,0,none⟩),.agg #[.int .i64 p.1.1,.int .u64 p.1.2.1,.int .i64 p.1.2.2,.int .i64 1,.int .u32 f0,.int .u32 x0,.int .u64 q0,.slice A m c,.slice A2 n2 c2]] w (MoveT w X B slots s xs st bl p.2):=by
 obtain ⟨w1,hw1⟩:∃ w1,w1=((w.alloc (.cells #[.pointer (some ⟨B.q,0,none⟩)] 56)).alloc (.cells #[.int .i64 p.1.1,.int .u64 p.1.2.1,.int .i64 p.1.2.2,.int .i64 1,.int .u32 f0,.int .u32 x0,.int .u64 q0,.slice A m c,.slice A2 n2 c2] 40)).alloc (.cells #[.int .i64 0] 36):=⟨_,rfl⟩
 have hb1:Below w.heap.size w w1:=by rw[hw1]; exact (((Below.refl _ w).alloc (nR _) _).alloc (by simp) _).alloc (by simp; omega) _
 have HS1:=hI (show Blk w1 w.heap.size 56 #[.pointer (some ⟨B.q,0,none⟩)] by rw[hw1]; exact ((Blk.new w _ _).alloc _).alloc _)
 have HP1:=hI (show Blk w1 (w.heap.size+1) 40 #[.int .i64 p.1.1,.int .u64 p.1.2.1,.int .i64 p.1.2.2,.int .i64 1,.int .u32 f0,.int .u32 x0,.int .u64 q0,.slice A m c,.slice A2 n2 c2] by rw[hw1]; exact (blk_new2 w _ _ _).alloc _)
 have HE1:=hI (show Blk w1 (w.heap.size+1+1) 36 #[.int .i64 0] by rw[hw1]; exact blk_new3 w _ _ _ _)
 have HM0:=hI h
 have HM1:=hI (h.grow hb1)
 have HB1:=hI hb1
 have HBL:=hI (show w.heap.size+1+1<w1.heap.size from HE1.out.lt)
 have HPP:=hI hp
 have HK:=hI hk
 have HV:=hI hv
 have HBY:=hI (And.intro hb hbv)
 have HNC:=hI (And.intro hnc hnc2)
 have HMAY:=hI hmay
 have HRNG:=hI hr
 have HPE:=hI (And.intro hpe hgm)
 have HM:=hI (show m≤250 from by have:=hmay.2.2.1; omega)
 have hkl:us.length=m:=hk.1
 have HKEY:=hI (show keyOf p.2=us by
  rw[← hbs]
  have h9:=rec_key (k:=1) (f:=f0) (x:=x0) (s:=q0) (xs:=us) (ys:=vs) (zs:=[]) (by have:=hmay.2.2.1; omega)
  rwa [List.append_nil] at h9)
 have HBS:=hI hbs
 have HLV:=hI (live_of (q0:=q0) hp HKEY.out hq)
 have HOL:=hI (fun b (hb:B.own b)=>h.own_lt hb)
 have HW1:=hI hw1
 clear hw1 hb1 h hp hbs hk hv hb hbv hnc hnc2 hmay hr hq hpe hgm hkl
 go_enter_defers Tryz.func37,Tryz.ntmps37
 go_upto_region 1 with fail
 rw[← HW1.out]
 have s0:w1.cell? ⟨w.heap.size,0,none⟩=some (.pointer (some ⟨B.q,0,none⟩)):=HS1.out.cell 0
 go_wp2_with fail
 refine (degraded_ok HM1.out).mono ?_
 rintro e w2 ⟨rfl,rfl⟩
 have HLC:=hI (live_s14 (c:=c) (A2:=A2) (m2:=n2) (c2:=c2) HM1.out p.1.1 p.1.2.1 p.1.2.2 1 f0 x0 q0 ((HK.out.below HB1.out HM0.out.lt).more (fun b hb=>nL (HM0.out.lt b hb) HB1.out.size)) HBY.out.1 (by have:=HM.out; omega))
 rw[HLV.out] at HLC
 go_wp2_with (refine wpList_load_rowB (.tmp 3) 40 rfl rfl (w.heap.size+1) rfl 40 (Array.toList #[.int .i64 p.1.1,.int .u64 p.1.2.1,.int .i64 p.1.2.2,.int .i64 1,.int .u32 f0,.int .u32 x0,.int .u64 q0,.slice A m c,.slice A2 n2 c2]) _ Tryz.underlying40 rfl size_pl9 HP1.out ?_)
 refine HLC.out.mono ?_
 rintro e w3 ⟨rfl,hb3⟩
 have hmf:∀ (fn:Fn) (first cap:Array Value) (w:World),(Instr.makeFunc fn first cap).run Tryz.prog w=.ok (.func fn first cap) w:=fun _ _ _ _=>rfl
 obtain ⟨wc,hwc⟩:∃ wc,wc=w3.alloc (.cells #[.slice A m c] 31):=⟨_,rfl⟩
 have hbc:Below w2.heap.size w2 wc:=by rw[hwc]; exact hb3.alloc hb3.size _
 have HKBc:=hI (show Blk wc w3.heap.size 31 #[.slice A m c] by rw[hwc]; exact Blk.new w3 _ _)
 have HWC:=hI hwc.symm
 obtain ⟨w8,hw8⟩:∃ w8,w8=wc.alloc (.cells #[.int .i64 0,.int .u64 0,.int .i64 0] 35):=⟨_,rfl⟩
 have hal:Below wc.heap.size wc w8:=by rw[hw8]; exact (Below.refl _ wc).alloc (nR _) _
 have hb8:Below w2.heap.size w2 w8:=hbc.trans (hal.mono hbc.size)
 have HA8:=hI (show Blk w8 wc.heap.size 35 #[.int .i64 0,.int .u64 0,.int .i64 0] by rw[hw8]; exact Blk.new wc _ _)
 have HM8:=hI (HM0.out.grow (HB1.out.trans (hb8.mono HB1.out.size)))
 have HS8:=hI (HS1.out.below hb8 HS1.out.lt)
 have HP8:=hI (HP1.out.below hb8 HP1.out.lt)
 have HKB8:=hI (HKBc.out.below hal HKBc.out.lt)
 have HBE8:=hI (HE1.out.below hb8 HE1.out.lt)
 have HB8:=hI (HB1.out.trans (hb8.mono HB1.out.size))
 have HKX8:=hI (Kept.of_below (S:=X) HB8.out HM0.out.lt)
 have HSZ7:=hI (And.intro hbc.size (And.intro hb3.size (And.intro HKBc.out.lt HA8.out.lt)))
 have HW8:=hI hw8.symm
 have p7:w3.cell? ⟨w.heap.size+1,7,none⟩=some (.slice A m c):=(HP1.out.below hb3 HP1.out.lt).cell 7
 clear hwc hbc hw8 hal hb8 hb3 s0 HM1 HS1 HE1 HKBc
 go_upto_region 8 with fail
 rw[HWC.out]
 clear p7
 go_upto_region 10 with fail
 rw[HW8.out]
 clear HW8 HWC
 obtain ⟨X8,hX8⟩:∃ X8:Nat→Prop,(fun b=>X b∨(w.heap.size≤b∧b<w8.heap.size))=X8:=⟨_,rfl⟩
 rw[hX8] at HM8
 have hx0:∀ b,X b→X8 b:=fun b hb=>by rw[← hX8]; exact .inl hb
 have hbl:=HBL.out
 have hz7:=HSZ7.out
 have HIN:=hI (show X8 w.heap.size∧X8 (w.heap.size+1)∧X8 (w.heap.size+1+1)∧X8 w3.heap.size∧X8 w3.heap.size∧X8 wc.heap.size by
  rw[← hX8]
  exact ⟨.inr ⟨by omega,by omega⟩,.inr ⟨by omega,by omega⟩,.inr ⟨by omega,by omega⟩,.inr ⟨by omega,by omega⟩,.inr ⟨by omega,by omega⟩,.inr ⟨by omega,by omega⟩⟩)
 have HX0:=hI hx0
 have HQL:=hI (show B.q<w.heap.size from HOL.out _ (.inl rfl))
 clear hX8 hx0 hbl hz7
 have HSS:=hI (show ∀ W,Kept (fun b=>(X8 b∨B.own b)∧b≠w.heap.size+1+1∧b≠wc.heap.size) w8 W→W.cell? ⟨w.heap.size,0,none⟩=some (.pointer (some ⟨B.q,0,none⟩))∧W.cell? ⟨B.q,0,none⟩=some (.pointer (some ⟨B.l,0,none⟩))∧W.rangeAt (w.heap.size+1) 3 [.int .i64 1,.int .u32 f0,.int .u32 x0,.int .u64 q0,.slice A m c,.slice A2 n2 c2] from fun W hW=>by
  obtain ⟨q0,q1,_,_⟩:=HM8.out.cells
  obtain ⟨i1,i2,i3,i4,i5,i6⟩:=HIN.out
  have h3:=HQL.out
  have hbl:=HBL.out
  have hz7:=HSZ7.out
  have hp:=HP8.out.kept hW ⟨.inl i2,by omega,by omega⟩
  exact ⟨(HS8.out.kept hW ⟨.inl i1,by omega,by omega⟩).cell 0,(hW.cell (p:=⟨B.q,0,none⟩) ⟨.inr (.inl rfl),(by omega:B.q≠_),(by omega:B.q≠_)⟩).trans q0,fun i v hv=>(hp.cell (3+i)).trans (by rcases i with _ | _ | _ | _ | _ | _ | i <;> simp at hv ⊢ <;> exact hv)⟩)
 have HRK:=hI (HK.out.kept HKX8.out (fun b hb=>hb))
 have HRV:=hI (HV.out.kept HKX8.out (fun b hb=>hb))
 have HYL:=hI (HM8.out.ylt)
 refine wp_region_noPanic ?_
 refine Tillst.region (fun W=>Kept (fun b=>(X8 b∨B.own b)∧b≠w.heap.size+1+1∧b≠wc.heap.size) w8 W) [] (by kernel_rfl) ((Kept.refl _ _).drew) (fun hė=>?_)
 have hdr:=(Below.refl w8.heap.size w8).drew
 have HAP:=hI (append_hist (HM8.out.below hdr).log (HM8.out.below hdr).ylt HPE.out.1 HPE.out.2 (c1:=c) (c2:=c2) HMAY.out HRNG.out
  ((HRK.out.below hdr (fun b hb=>HM8.out.lt b (HX0.out b hb))).more (fun b hb=>HM8.out.lt b (HX0.out b hb))) ((HRV.out.below hdr (fun b hb=>HM8.out.lt b (HX0.out b hb))).more (fun b hb=>HM8.out.lt b (HX0.out b hb))) HNC.out.1 HNC.out.2 HBY.out.1 HBY.out.2)
 rw[HBS.out] at HAP
 clear hdr
 refine tK 0 mv0 (v:=?_) ?_ hė ?_
 rotate_left
 ·intro W hSW; have h9:=(HSS.out W hSW).1; clear hSW; unfold mv0; go_simp; with_reducible rfl
 simp only[mv0,Act.put,sA,sZ,sS]
 refine tK 1 mv1 (v:=?_) ?_ hė ?_
 rotate_left
 ·intro W hSW; unfold mv1; go_simp; with_reducible rfl
 simp only[mv1,Act.put,sA,sZ,sS]
 refine tK 2 mv2 (v:=?_) ?_ hė ?_
 rotate_left
 ·intro W hSW; unfold mv2; go_simp; with_reducible rfl
 simp only[mv2,Act.put,sA,sZ,sS]
 refine tK 3 mv3 (v:=?_) ?_ hė ?_
 rotate_left
 ·intro W hSW; unfold mv3; go_simp; with_reducible rfl
 simp only[mv3,Act.put,sA,sZ,sS]
 refine tK 4 mv4 (v:=?_) ?_ hė ?_
 rotate_left
 ·intro W hSW; have h9:=(HSS.out W hSW).2.1; clear hSW; unfold mv4; go_simp; with_reducible rfl
 simp only[mv4,Act.put,sA,sZ,sS]
 refine tK 5 mv5 (v:=?_) ?_ hė ?_
 rotate_left
 ·intro W hSW; unfold mv5; go_simp; with_reducible rfl
 simp only[mv5,Act.put,sA,sZ,sS]
 refine tK 6 mv6 (v:=.agg #[.int .i64 1,.int .u32 f0,.int .u32 x0,.int .u64 q0,.slice A m c,.slice A2 n2 c2]) ?_ hė ?_
 ·intro W hSW; refine exec_load_row (.tmp 28) 33 ?_ (w.heap.size+1) 3 ?_ [.int .i64 1,.int .u32 f0,.int .u32 x0,.int .u64 q0,.slice A m c,.slice A2 n2 c2] _ Tryz.underlying33 rfl size_rec (HSS.out W hSW).2.2 <;> rfl
 simp only[mv6,Act.put,sA,sZ,sS]
 refine tO 7 mv7 ?_
 intro K hK
 refine step_call 9 #[.tmp 27,.tmp 29] #[24,33] rfl rfl Tryz.func9 rfl rfl [.pointer (some ⟨B.l,0,none⟩),.agg #[.int .i64 1,.int .u32 f0,.int .u32 x0,.int .u64 q0,.slice A m c,.slice A2 n2 c2]] rfl (HAP.out.mono ?_)
 intro e w9 hap
 obtain ⟨a,er,s1,xs1,t1,k1,pe1,rfl,hk9,hl9,hcase⟩:=hap.told
 refine ⟨_,rfl,?_⟩
 simp only[mv7,Act.put,sA,sZ,sS]
 have hS9:Kept (fun b=>(X8 b∨B.own b)∧b≠w.heap.size+1+1∧b≠wc.heap.size) w8 w9:=hė.trans hk9 (fun b h=>h.1)
 have HK9:=hI (((Kept.refl (fun b=>X8 b∨B.own b) w8).drew).trans hk9 (fun b h=>h))
 have HL9:=hI hl9
 have HC:=hI hcase
 have HA9:=hI (HA8.out.kept HK9.out (.inl HIN.out.2.2.2.2.2))
 have HE9:=hI (HBE8.out.kept HK9.out (.inl HIN.out.2.2.1))
 clear hap hk9 hl9 hcase HAP hė
 refine hK.out _ _ (fun _=>hS9) (fun hė=>?_)
 replace hė:=hė (by decide)
 clear hK K hS9
 refine tK 8 mv8 (v:=?_) ?_ hė ?_
 rotate_left
 ·intro W hSW; unfold mv8; go_simp; with_reducible rfl
 simp only[mv8,Act.put,sA,sZ,sS]
 refine tK 9 mv9 (v:=?_) ?_ hė ?_
 rotate_left
 ·intro W hSW; unfold mv9; go_simp; with_reducible rfl
 simp only[mv9,Act.put,sA,sZ,sS]
 refine tK 10 mv10 (v:=?_) ?_ hė ?_
 rotate_left
 ·intro W hSW; unfold mv10; go_simp; with_reducible rfl
 simp only[mv10,Act.put,sA,sZ,sS]
 refine tO 11 mv11 ?_
 intro K hK
 refine step_store14 (.tmp 6) (.tmp 31) 35 rfl rfl wc.heap.size #[.int .i64 a.1,.int .u64 a.2.1,.int .i64 a.2.2] rfl rfl 35 _ HA9.out size_addr rfl (by simp[Value.oneCell']) ?_
 simp only[mv11,Act.put,sA,sZ,sS]
 have hk10:Kept (fun b=>b≠wc.heap.size) w9 (w9.setRow wc.heap.size #[.int .i64 a.1,.int .u64 a.2.1,.int .i64 a.2.2]):=(Kept.refl _ _).setRow (fun h=>h rfl) _
 have hS10:Kept (fun b=>(X8 b∨B.own b)∧b≠w.heap.size+1+1∧b≠wc.heap.size) w8 (w9.setRow wc.heap.size #[.int .i64 a.1,.int .u64 a.2.1,.int .i64 a.2.2]):=hė.trans hk10 (fun b h=>h.2.2)
 have hcb:wc.heap.size≠w.heap.size+1+1:=by have:=HBL.out; have:=HSZ7.out; omega
 have HE10:=hI (HE9.out.kept hk10 (Ne.symm hcb))
 have HA10:=hI (setRow_heap _ _ _ #[.int .i64 a.1,.int .u64 a.2.1,.int .i64 a.2.2] _ _ HA9.out)
 have HK10:=hI hk10
 obtain ⟨w10,hw10⟩:∃ w10,w10=w9.setRow wc.heap.size #[.int .i64 a.1,.int .u64 a.2.1,.int .i64 a.2.2]:=⟨_,rfl⟩
 rw[← hw10] at HE10 HA10 HK10 hS10 ⊢
 clear hk10 hw10
 refine hK.out _ _ (fun _=>hS10) (fun hė=>?_)
 replace hė:=hė (by decide)
 clear hK K hS10
 refine tO 12 mv12 ?_
 intro K hK
 have e8:w10.cell? ⟨w.heap.size+1+1,0,none⟩=some (.int .i64 0):=HE10.out.cell 0
 have e9:=HE10.out.frozen 0
 go_simp
 clear e8 e9
 have hS11:Kept (fun b=>(X8 b∨B.own b)∧b≠w.heap.size+1+1∧b≠wc.heap.size) w8 (w10.setCell ⟨w.heap.size+1+1,0,none⟩ (.int .i64 er)):=hė.setCell (p:=⟨w.heap.size+1+1,0,none⟩) (fun h=>h.2.1 rfl) _
 refine hK.out _ _ (fun _=>hS11) (fun hė=>?_)
 clear hK K hS11
 refine Tillst.done (by kernel_rfl) ?_ _
 refine NoPanic.normal ?_
 obtain ⟨w11,hw11⟩:∃ w11,w11=w10.setCell ⟨w.heap.size+1+1,0,none⟩ (.int .i64 er):=⟨_,rfl⟩
 have HE11:=hI (show Blk w11 (w.heap.size+1+1) 36 #[.int .i64 er] by rw[hw11]; exact HE10.out.set_ 0 (.int .i64 er))
 have HA11:=hI (show Blk w11 wc.heap.size 35 #[.int .i64 a.1,.int .u64 a.2.1,.int .i64 a.2.2] by rw[hw11]; exact Blk.far HA10.out (p:=⟨w.heap.size+1+1,0,none⟩) hcb _)
 have HK11:=hI (show Kept (fun b=>b≠wc.heap.size∧b≠w.heap.size+1+1) w9 w11 by rw[hw11]; exact (HK10.out.mono (fun b h=>h.1)).setCell (p:=⟨w.heap.size+1+1,0,none⟩) (fun h=>h.2 rfl) _)
 rw[← hw11]
 clear hw11 HE10 HA10 HK10 HE9 HA9
 have e8:w11.cell? ⟨w.heap.size+1+1,0,none⟩=some (.int .i64 er):=HE11.out.cell 0
 have e9:=HE11.out.frozen 0
 go_wp2_with fail
 clear e8 e9
 obtain ⟨w12,hw12⟩:∃ w12,w12=w11.setCell ⟨w.heap.size+1+1,0,none⟩ (.int .i64 er):=⟨_,rfl⟩
 have HE12:=hI (show Blk w12 (w.heap.size+1+1) 36 #[.int .i64 er] by rw[hw12]; exact HE11.out.set_ 0 (.int .i64 er))
 have hcb:wc.heap.size≠w.heap.size+1+1:=by have:=HBL.out; have:=HSZ7.out; omega
 have HA12:=hI (show Blk w12 wc.heap.size 35 #[.int .i64 a.1,.int .u64 a.2.1,.int .i64 a.2.2] by rw[hw12]; exact Blk.far HA11.out (p:=⟨w.heap.size+1+1,0,none⟩) hcb _)
 have HK12:=hI (show Kept (fun b=>b≠wc.heap.size∧b≠w.heap.size+1+1) w9 w12 by rw[hw12]; exact HK11.out.setCell (p:=⟨w.heap.size+1+1,0,none⟩) (fun h=>h.2 rfl) _)
 rw[← hw12]
 clear hw12 HE11 HA11 HK11
 have hbl:=HBL.out
 have hz7:=HSZ7.out
 obtain ⟨i1,i2,i3,i4,i5,i6⟩:=HIN.out
 have hk812:Kept (fun b=>(X8 b∨B.own b)∧b≠wc.heap.size∧b≠w.heap.size+1+1) w8 w12:=(HK9.out.mono (fun b h=>h.1)).trans HK12.out (fun b h=>h.2)
 have HS12:=hI (HS8.out.kept hk812 ⟨.inl i1,by omega,by omega⟩)
 have HP12:=hI (HP8.out.kept hk812 ⟨.inl i2,by omega,by omega⟩)
 have HKB12:=hI (HKB8.out.kept hk812 ⟨.inl i4,by omega,by omega⟩)
 have hkx:Kept X w w12:=HKX8.out.trans hk812 (fun b hb=>⟨.inl (HX0.out b hb),by have:=HM0.out.lt b hb; omega,by have:=HM0.out.lt b hb; omega⟩)
 have hl12:=HL9.out.off HK12.out (fun b _ hn=>⟨fun e=>hn (.inl (e▸i6)),fun e=>hn (.inl (e▸i3))⟩)
 have hdim:xs1.length=xs.length:=by
  have h1:=hl12.dims
  have h2:=HM8.out.log.dims
  rcases HC.out with ⟨_,_,e,_⟩ | ⟨_,_,_,_,_,e | e,_⟩
  ·rw[e] at h1; omega
  ·rw[e] at h1; omega
  ·rw[e] at h1
   have h3:(genS s).a=s.a:=rfl
   omega
 refine leaves_cons (f:=101) (args:=#[.pointer (some ⟨w.heap.size+1+1,0,none⟩),.pointer (some ⟨w.heap.size,0,none⟩),.pointer (some ⟨w3.heap.size,0,none⟩),.pointer (some ⟨w.heap.size+1,0,none⟩),.pointer (some ⟨wc.heap.size,0,none⟩)]) (by simp) (by simp[go_sem]) ?_
 rcases HC.out with ⟨hno,rfl,rfl,rfl,rfl,rfl,rfl⟩ | ⟨i,ys,hsome,rfl,ha,hs1,hxs,hpe1,hat,hall,hhs⟩
 ·refine (moveD_no _ _ _ _ HE12.out (by decide)).mono ?_
  rintro e u' w13 ⟨rfl,rfl,rfl⟩
  have hm:=HM8.out.logTo2 hk812 (fun b hb=>⟨.inr hb,by have:=HOL.out b hb; omega,by have:=HOL.out b hb; omega⟩) (fun b hb=>hb) HM8.out.off (fun b hb=>nL (HM8.out.lt b hb) hk812.size) hl12 rfl HM8.out.inv
  refine ⟨.int .i64 6,?_,hkx,.inl ⟨hno,rfl,_,hm.less HX0.out,rfl⟩⟩
  have c6:w13.cell? ⟨w.heap.size+1+1,0,none⟩=some (.int .i64 6):=HE12.out.cell 0
  simp[results,Tryz.f37,go_sem,c6]
 ·have hm:=HM8.out.logTo2 hk812 (fun b hb=>⟨.inr hb,by have:=HOL.out b hb; omega,by have:=HOL.out b hb; omega⟩) (fun b hb=>hb) HM8.out.off (fun b hb=>nL (HM8.out.lt b hb) hk812.size) hl12 hdim (HM8.out.inv.go (fun a' bs' h=>(hall a' bs' h).1))
  have hil:i<bl.length:=by
   obtain ⟨_,j,cc,e,h2,_⟩:=hat
   rw[ha] at e
   injection e with e1 _
   have:=HM8.out.num
   omega
  have hfr:∀ q,q∈st→q.1≠a:=fun q hq=>(hall _ _ (HM8.out.inv.here q hq)).2
  have hsl:(outS st (keyOf p.2)).length≠slots:=by
   have h9:=HM8.out.ix.len
   unfold esS at h9
   rw[List.length_map] at h9
   have h8:(outS st (keyOf p.2)).length<st.length:=by
    unfold outS
    exact List.length_filter_lt_length_iff_exists.2 ⟨p,HPP.out,by simp⟩
   omega
  rw[ha] at hat hfr
  have hA12:Blk w12 wc.heap.size 35 #[.int .i64 (i:Int),.int .u64 (genG ys i),.int .i64 (usedG ys i)]:=by
   have h9:=HA12.out
   rw[ha] at h9
   exact h9
  have hrow:RowI .u8 w12 X8 A m (keyOf p.2):=by
   rw[HKEY.out]
   exact (HK.out.kept hkx (fun b hb=>hb)).more HX0.out
  have hpr:w12.rangeAt (w.heap.size+1) 0 [.int .i64 p.1.1,.int .u64 p.1.2.1,.int .i64 p.1.2.2]:=fun j v hv=>(HP12.out.cell (0+j)).trans (by rcases j with _ | _ | _ | j <;> simp at hv ⊢ <;> exact hv)
  refine (moveD_ok (c:=c) hm HPP.out HE12.out HS12.out HKB12.out hpr hA12 ⟨i1,i4,i6,HP12.out.lt⟩ hil hrow (by rw[HKEY.out]; exact HBY.out.1) (by have:=HM.out; omega) hat hfr hsl).mono ?_
  rintro e u' w13 ⟨rfl,rfl,hm13,hk13⟩
  subst hxs hpe1
  have hown:∀ b,X8 b→b<w12.heap.size∧¬ B.own b:=fun b hb=>⟨nL (HM8.out.lt b hb) hk812.size,fun e=>HM8.out.off b e hb⟩
  refine ⟨.int .i64 0,?_,hkx.trans hk13 (fun b hb=>hown b (HX0.out b hb)),.inr ⟨i,s1,ys,t1,k1,hsome,hs1,rfl,hm13.less HX0.out,hhs,hfr⟩⟩
  have c6:w13.cell? ⟨w.heap.size+1+1,0,none⟩=some (.int .i64 0):=(HE12.out.kept hk13 (hown _ i3)).cell 0
  simp[results,Tryz.f37,go_sem,c6]
theorem move_no (h:StoM2 w X B slots s xs st bl false) (sg g sc kd f x q:Int) (hk:RowI .u8 w (fun b=>b<w.heap.size) A m us) (hb:Bytes us) (hm:m≤1000000) (hl:liveS st s.f sg g sc kd q us=false) :
 Calls Tryz.prog 37 #[.pointer (some ⟨B.q,0,none⟩),.agg #[.int .i64 sg,.int .u64 g,.int .i64 sc,.int .i64 kd,.int .u32 f,.int .u32 x,.int .u64 q,.slice A m c,.slice A2 n2 c2]] w fun e w'=>e=.returned (.int .i64 4)∧Below w.heap.size w w':=by
 obtain ⟨w1,hw1⟩:∃ w1,w1=((w.alloc (.cells #[.pointer (some ⟨B.q,0,none⟩)] 56)).alloc (.cells #[.int .i64 sg,.int .u64 g,.int .i64 sc,.int .i64 kd,.int .u32 f,.int .u32 x,.int .u64 q,.slice A m c,.slice A2 n2 c2] 40)).alloc (.cells #[.int .i64 0] 36):=⟨_,rfl⟩
 have hb1:Below w.heap.size w w1:=by rw[hw1]; exact (((Below.refl _ w).alloc (nR _) _).alloc (by simp) _).alloc (by simp; omega) _
 have HS1:=hI (show Blk w1 w.heap.size 56 #[.pointer (some ⟨B.q,0,none⟩)] by rw[hw1]; exact ((Blk.new w _ _).alloc _).alloc _)
 have HP1:=hI (show Blk w1 (w.heap.size+1) 40 #[.int .i64 sg,.int .u64 g,.int .i64 sc,.int .i64 kd,.int .u32 f,.int .u32 x,.int .u64 q,.slice A m c,.slice A2 n2 c2] by rw[hw1]; exact (blk_new2 w _ _ _).alloc _)
 have HE1:=hI (show Blk w1 (w.heap.size+1+1) 36 #[.int .i64 0] by rw[hw1]; exact blk_new3 w _ _ _ _)
 have HM1:=hI (h.below hb1)
 have HB1:=hI hb1
 have HLC:=hI (live_s14 (c:=c) (A2:=A2) (m2:=n2) (c2:=c2) HM1.out sg g sc kd f x q ((hk.below hb1 (fun b h=>h)).more (fun b h=>nL h hb1.size)) hb hm)
 rw[hl] at HLC
 have HW1:=hI hw1
 clear hw1 hb1 h hk hb hm hl
 go_enter_defers Tryz.func37,Tryz.ntmps37
 go_upto_region 1 with fail
 rw[← HW1.out]
 have s0:w1.cell? ⟨w.heap.size,0,none⟩=some (.pointer (some ⟨B.q,0,none⟩)):=HS1.out.cell 0
 go_wp2_with fail
 refine (degraded_ok HM1.out).mono ?_
 rintro e w2 ⟨rfl,rfl⟩
 go_wp2_with (refine wpList_load_rowB (.tmp 3) 40 rfl rfl (w.heap.size+1) rfl 40 (Array.toList #[.int .i64 sg,.int .u64 g,.int .i64 sc,.int .i64 kd,.int .u32 f,.int .u32 x,.int .u64 q,.slice A m c,.slice A2 n2 c2]) _ Tryz.underlying40 rfl size_pl9 HP1.out ?_)
 refine HLC.out.mono ?_
 rintro e w3 ⟨rfl,hb3⟩
 have HE3:=hI (HE1.out.below hb3 HE1.out.lt)
 have HB3:=hI (HB1.out.trans (hb3.mono HB1.out.size))
 have e8:w3.cell? ⟨w.heap.size+1+1,0,none⟩=some (.int .i64 0):=HE3.out.cell 0
 have e9:=HE3.out.frozen 0
 clear hb3 s0
 go_wp2_with fail
 refine ⟨.int .i64 4,?_,rfl,HB3.out.setCell (p:=⟨w.heap.size+1+1,0,none⟩) (by show w.heap.size≤w.heap.size+1+1; omega) _⟩
 have c6:(w3.setCell ⟨w.heap.size+1+1,0,none⟩ (.int .i64 4)).cell? ⟨w.heap.size+1+1,0,none⟩=some (.int .i64 4):=(HE3.out.set_ 0 (.int .i64 4)).cell 0
 simp[results,Tryz.f37,go_sem,c6]
end
end
section
attribute [local go_sem] Oper.semAt_some
abbrev ku0:Oper:=⟨some 27,.load 56 (.tmp 3),56,"store.go:127",#[],none⟩
abbrev ku1:Oper:=⟨some 28,.nilCheck (.tmp 27),0,"store.go:127",#[⟨0,.data⟩],none⟩
abbrev ku2:Oper:=⟨some 29,.fieldAddr 137 (.tmp 28) 0,0,"store.go:127",#[⟨1,.data⟩],none⟩
abbrev ku3:Oper:=⟨some 30,.load 134 (.tmp 29),134,"store.go:127",#[⟨2,.data⟩],none⟩
abbrev ku4:Oper:=⟨some 31,.load 31 (.tmp 4),31,"store.go:127",#[],none⟩
abbrev ku5:Oper:=⟨some 32,.call { callee:=.value (.func 72),args:=#[.tmp 30,.tmp 31],argTypes:=#[134,31] },155,"store.go:127",#[⟨3,.data⟩,⟨4,.data⟩],none⟩
abbrev ku6:Oper:=⟨some 26,.move (.tmp 32),155,"store.go:127",#[⟨5,.data⟩],none⟩
abbrev ku7:Oper:=⟨some 33,.extract (.tmp 26) 0,154,"store.go:127",#[⟨6,.data⟩],none⟩
abbrev ku8:Oper:=⟨some 34,.extract (.tmp 26) 1,36,"store.go:127",#[⟨6,.data⟩,{ on:=10,ground:=Go.Ground.gcOnly Go.Departure.lateStores }],none⟩
abbrev ku9:Oper:=⟨some 8,.alloc 154,0,"store.go:127",#[],none⟩
abbrev ku10:Oper:=⟨none,.store 154 (.tmp 8) (.tmp 33),0,"store.go:127",#[⟨9,.data⟩,⟨7,.data⟩,⟨5,.chain⟩,⟨0,.phase⟩,⟨1,.phase⟩,⟨2,.phase⟩,⟨3,.phase⟩,⟨4,.phase⟩,⟨5,.phase⟩,⟨6,.phase⟩,⟨7,.phase⟩,{ on:=8,ground:=Go.Ground.textOnly Go.Departure.lateStores },⟨9,.phase⟩],none⟩
abbrev ku11:Oper:=⟨none,.store 36 (.tmp 6) (.tmp 34),0,"store.go:127",#[⟨8,.data⟩,⟨10,.chain⟩,⟨0,.phase⟩,⟨1,.phase⟩,⟨2,.phase⟩,⟨3,.phase⟩,⟨4,.phase⟩,⟨5,.phase⟩,⟨6,.phase⟩,⟨7,.phase⟩,⟨8,.phase⟩,⟨9,.phase⟩,⟨10,.phase⟩],none⟩
abbrev kw0:Oper:=⟨some 40,.load 56 (.tmp 3),56,"store.go:136",#[],none⟩
abbrev kw1:Oper:=⟨some 41,.nilCheck (.tmp 40),0,"store.go:136",#[⟨0,.data⟩],none⟩
abbrev kw2:Oper:=⟨some 42,.fieldAddr 137 (.tmp 41) 0,0,"store.go:136",#[⟨1,.data⟩],none⟩
abbrev kw3:Oper:=⟨some 43,.fieldAddr 134 (.tmp 42) 0,0,"store.go:136",#[⟨2,.data⟩],none⟩
abbrev kw4:Oper:=⟨some 44,.load 24 (.tmp 43),24,"store.go:136",#[⟨3,.data⟩],none⟩
abbrev kw5:Oper:=⟨some 45,.load 33 (.tmp 7),33,"store.go:136",#[],none⟩
abbrev kw6:Oper:=⟨some 46,.call { callee:=.value (.func 9),args:=#[.tmp 44,.tmp 45],argTypes:=#[24,33] },37,"store.go:136",#[⟨4,.data⟩,⟨5,.data⟩],none⟩
abbrev kw7:Oper:=⟨some 39,.move (.tmp 46),37,"store.go:136",#[⟨6,.data⟩],none⟩
abbrev kw8:Oper:=⟨some 47,.extract (.tmp 39) 0,35,"store.go:136",#[⟨7,.data⟩],none⟩
abbrev kw9:Oper:=⟨some 48,.extract (.tmp 39) 1,36,"store.go:136",#[⟨7,.data⟩,{ on:=11,ground:=Go.Ground.gcOnly Go.Departure.lateStores }],none⟩
abbrev kw10:Oper:=⟨some 9,.alloc 35,0,"store.go:136",#[],none⟩
abbrev kw11:Oper:=⟨none,.store 35 (.tmp 9) (.tmp 47),0,"store.go:136",#[⟨10,.data⟩,⟨8,.data⟩,⟨6,.chain⟩,⟨0,.phase⟩,⟨1,.phase⟩,⟨2,.phase⟩,⟨3,.phase⟩,⟨4,.phase⟩,⟨5,.phase⟩,⟨6,.phase⟩,⟨7,.phase⟩,⟨8,.phase⟩,{ on:=9,ground:=Go.Ground.textOnly Go.Departure.lateStores },⟨10,.phase⟩],none⟩
abbrev kw12:Oper:=⟨some 10,.assign (.tmp 48),36,"store.go:136",#[⟨9,.data⟩,⟨11,.chain⟩,⟨0,.phase⟩,⟨1,.phase⟩,⟨2,.phase⟩,⟨3,.phase⟩,⟨4,.phase⟩,⟨5,.phase⟩,⟨6,.phase⟩,⟨7,.phase⟩,⟨8,.phase⟩,⟨9,.phase⟩,⟨10,.phase⟩,⟨11,.phase⟩],none⟩
section
variable {w w':World} {X Y:Nat→Prop} {B:StB} {slots:Nat} {s:Sup} {xs:List Seg} {st:List EntS} {bl:List (List Int)} {u:Bool} {A:Option Addr} {m c:Nat} {us:List Int} {k k':Dk} {l p d n pe:Nat} {t:Int}
theorem sync_lg (h:LgM w X l p d n s t k xs pe) (hX:∀ b,X b→b<w.heap.size) :
 Calls Tryz.prog 92 #[.pointer (some ⟨l,0,none⟩)] w fun e w'=>e=.returned (.int .i64 0)∧LgM w' X l p d n s t (k.wr Dk.sync) xs pe∧Kept X w w':=by
 obtain ⟨A,c,hl,hc,hn⟩:=h.log
 refine (sync_good hl hX h.good).mono ?_
 rintro e w' ⟨rfl,hl',hk⟩
 exact ⟨rfl,⟨⟨A,c,hl',hc,hn⟩,h.good.sync,h.ok,h.top,h.may,h.sin,h.dims,h.n2,h.room,by rw[h.good.pend_sync]; exact Nat.zero_le _⟩,hk⟩
def AppC (w:World) (Y:Nat→Prop) (l p d n:Nat) (s:Sup) (t:Int) (k:Dk) (xs:List Seg) (pe:Nat) (bs:List Int) (v:Value) (wx:World):Prop :=
 ∃ a er s1 xs1 t1 k1 pe1, v = .int .i64 er ∧ LgM wx Y l p d n s1 t1 k1 xs1 pe1 ∧ Kept Y w wx ∧
  ((appR s xs (cntOf bs.length)=none∧er=6∧s1=s∧xs1=xs∧t1=t∧k1=k∧pe1=pe) ∨
   (∃ i ys,appR s xs (cntOf bs.length)=some (i,s1,ys)∧er=0∧a=((i:Int),genG ys i,usedG ys i)∧(s1=s∨s1=genS s)∧xs1=useX ys ((cntOf bs.length:Nat):Int)∧pe1=pe+17∧AtR k1 s1 xs1 a bs∧(∀ a' bs',AtR k s xs a' bs'→AtR k1 s1 xs1 a' bs'∧a'≠a)∧HsT k s xs k1 s1 ys xs1 i bs))
def KillT (w : World) (X : Nat → Prop) (B : StB) (slots : Nat) (s : Sup) (xs : List Seg) (st : List EntS) (bl : List (List Int)) (us bs : List Int) (e : Ending) (w' : World) : Prop :=
 Kept X w w' ∧
 ((appR s xs (cntOf bs.length)=none∧e=.returned (.int .i64 6)∧∃ k',StoM2 w' X { B with t:=B.t,k:=k',pe:=B.pe } slots s xs st bl false∧k'.held=B.k.held) ∨
  (∃ i s1 xs1 t' k',appR s xs (cntOf bs.length)=some (i,s1,xs1)∧(s1=s∨s1=genS s)∧e=.returned (.int .i64 0) ∧
    StoM2 w' X { B with t:=t',k:=k',pe:=B.pe+17 } slots s1 (useX xs1 ((cntOf bs.length:Nat):Int)) (outS st us) bl false∧HsT B.k s xs k' s1 xs1 (useX xs1 ((cntOf bs.length:Nat):Int)) i bs))
theorem kill_s14 (h:StoM2 w X B slots s xs st bl false) {q0:Int} (hk:RowI .u8 w X A m us) (hb:Bytes us) (hmay:May 2 0 0 q0 m 0) (hr:Rng 0 0 q0) (hpe:B.pe≤900000) (hgm:s.g+1≤18446744073709551615) :
 Calls Tryz.prog 26 #[.pointer (some ⟨B.q,0,none⟩),.slice A m c,.int .u64 q0] w (KillT w X B slots s xs st bl us (recB 2 0 0 q0 us [])):=by
 obtain ⟨w1,hw1⟩:∃ w1,w1=((w.alloc (.cells #[.pointer (some ⟨B.q,0,none⟩)] 56)).alloc (.cells #[.slice A m c] 31)).alloc (.cells #[.int .i64 0] 36):=⟨_,rfl⟩
 have hb1:Below w.heap.size w w1:=by rw[hw1]; exact (((Below.refl _ w).alloc (nR _) _).alloc (by simp) _).alloc (by simp; omega) _
 have HS1:=hI (show Blk w1 w.heap.size 56 #[.pointer (some ⟨B.q,0,none⟩)] by rw[hw1]; exact ((Blk.new w _ _).alloc _).alloc _)
 have HI1:=hI (show Blk w1 (w.heap.size+1) 31 #[.slice A m c] by rw[hw1]; exact (blk_new2 w _ _ _).alloc _)
 have HE1:=hI (show Blk w1 (w.heap.size+1+1) 36 #[.int .i64 0] by rw[hw1]; exact blk_new3 w _ _ _ _)
 have HZ1:=hI (show w1.heap.size=w.heap.size+3 by rw[hw1]; simp)
 have HM0:=hI h
 have HB1:=hI hb1
 have HK:=hI hk
 have HBY:=hI hb
 have HMAY:=hI hmay
 have HRNG:=hI hr
 have HPE:=hI (And.intro hpe hgm)
 have HM:=hI (show m≤250 by unfold May at hmay; omega)
 have HLEN:=hI hk.1
 have HW1:=hI hw1
 have HTB:=hI (tomb_yes A m c us q0 (fun b=>b<w1.heap.size) w1 ((hk.below hb1 h.lt).more (fun b hb=>nL (h.lt b hb) hb1.size)) (fun b h=>h) hmay)
 clear hw1 hb1 h hk hb hmay hr hpe hgm
 go_enter_defers Tryz.func26,Tryz.ntmps26
 go_upto_region 1 with fail
 rw[← HW1.out]
 have s1:w1.cell? ⟨w.heap.size,0,none⟩=some (.pointer (some ⟨B.q,0,none⟩)):=HS1.out.cell 0
 have i1:w1.cell? ⟨w.heap.size+1,0,none⟩=some (.slice A m c):=HI1.out.cell 0
 go_wp2_with fail
 refine HTB.out.mono ?_
 rintro e w2 ⟨gt,rfl,hgt,hgr,hb2⟩
 have HT2:=hI hgr
 have HGT:=hI hgt
 have HB2:=hI hb2
 have HE2:=hI (HE1.out.below hb2 HE1.out.lt)
 clear s1 i1 hgr hb2 hgt HTB
 obtain ⟨w3,hw3⟩:∃ w3,w3=w2.alloc (.cells #[.int .i64 2,.int .u32 0,.int .u32 0,.int .u64 q0,.slice (some ⟨gt,0,none⟩) us.length us.length,.slice none 0 0] 33):=⟨_,rfl⟩
 have hb3:Below w2.heap.size w2 w3:=by rw[hw3]; exact (Below.refl _ _).alloc (nR _) _
 have HE3:=hI (HE2.out.below hb3 HE2.out.lt)
 have HR3:=hI (show Blk w3 w2.heap.size 33 #[.int .i64 2,.int .u32 0,.int .u32 0,.int .u64 q0,.slice (some ⟨gt,0,none⟩) us.length us.length,.slice none 0 0] by rw[hw3]; exact Blk.new w2 _ _)
 have HT3:=hI (Blk.below HT2.out hb3 (Blk.lt HT2.out))
 have HB3:=hI (HB2.out.trans (hb3.mono HB2.out.size))
 have HGL:=hI (show gt<w2.heap.size from Blk.lt HT2.out)
 have e0:w3.cell? ⟨w.heap.size+1+1,0,none⟩=some (.int .i64 0):=HE3.out.cell 0
 have e9:=HE3.out.frozen 0
 rw[hw3] at e0 e9
 have HW3:=hI hw3
 clear hb3 hw3 HE2 HT2
 go_upto_region 4 with fail
 rw[← HW3.out]
 obtain ⟨w4,hw5⟩:∃ w4,w4=w3.setCell ⟨w.heap.size+1+1,0,none⟩ (.int .i64 0):=⟨_,rfl⟩
 have hk5:Kept (fun b=>b≠w.heap.size+1+1) w3 w4:=by rw[hw5]; exact (Kept.refl _ _).setCell (p:=⟨w.heap.size+1+1,0,none⟩) (fun h=>h rfl) _
 have hz1:=HZ1.out
 have hz2:=HB2.out.size
 have hgt:=HGT.out
 have HE4:=hI (show Blk w4 (w.heap.size+1+1) 36 #[.int .i64 0] by rw[hw5]; exact HE3.out.set_ 0 (.int .i64 0))
 have HB35:=hI (show Below w.heap.size w w4 from (HB1.out.trans (HB3.out.mono HB1.out.size)).trans (hk5.to_below (fun b hb=>by omega)))
 have HB4:=hI (show Below w.heap.size w1 w4 from (HB3.out.mono HB1.out.size).trans (hk5.to_below (fun b hb=>by omega)))
 have HR4:=hI (HR3.out.kept hk5 (by omega))
 have HT4:=hI (Blk.kept HT3.out hk5 (by omega))
 have HS4:=hI ((HS1.out.below HB3.out HS1.out.lt).kept hk5 (by omega))
 have HI4:=hI ((HI1.out.below HB3.out HI1.out.lt).kept hk5 (by omega))
 have HM4:=hI (HM0.out.grow HB35.out)
 have HZ2:=hI hz2
 have HZ4:=hI (show gt<w2.heap.size∧w2.heap.size<w4.heap.size from ⟨HGL.out,HR4.out.lt⟩)
 rw[← hw5]
 clear hk5 hz1 hz2 hgt hw5 e0 e9 HE3 HR3 HT3
 have hs4:w4.cell? ⟨w.heap.size,0,none⟩=some (.pointer (some ⟨B.q,0,none⟩)):=HS4.out.cell 0
 have he4:w4.cell? ⟨w.heap.size+1+1,0,none⟩=some (.int .i64 0):=HE4.out.cell 0
 go_wp2_with fail
 refine (degraded_ok HM4.out).mono ?_
 rintro e w5 ⟨rfl,rfl⟩
 go_upto_region 8 with fail
 clear hs4 he4
 go_cut [8] from 26 to 34 (fun v6 wx=>ElkC w5 (fun b=>(X b∨(w.heap.size≤b∧b<w5.heap.size))∨B.own b) (w.heap.size+1+1) B.l B.p B.d B.n s B.t B.k xs B.pe st us v6 wx)
 case first J KK hJ hKK =>
  have HQL:=hI (show B.q<w.heap.size from HM0.out.own_lt (.inl rfl))
  have HSS:=hI (show ∀ W,Kept (fun b=>((X b∨(w.heap.size≤b∧b<w5.heap.size))∨B.own b)∧b≠w.heap.size+1+1) w5 W→W.cell? ⟨w.heap.size,0,none⟩=some (.pointer (some ⟨B.q,0,none⟩))∧W.cell? ⟨B.q,0,none⟩=some (.pointer (some ⟨B.l,0,none⟩))∧W.cell? ⟨B.q,1,none⟩=some (.pointer (some ⟨B.x,0,none⟩))∧W.cell? ⟨w.heap.size+1,0,none⟩=some (.slice A m c) from fun W hW=>by
   obtain ⟨q0,q1,_,_⟩:=HM4.out.cells
   have h1:=HS4.out.lt
   have h2:=HI4.out.lt
   have h3:=HQL.out
   exact ⟨(HS4.out.kept hW ⟨.inl (.inr ⟨by omega,by omega⟩),by omega⟩).cell 0,(hW.cell (p:=⟨B.q,0,none⟩) ⟨.inr (.inl rfl),(by omega:B.q≠_)⟩).trans q0,(hW.cell (p:=⟨B.q,1,none⟩) ⟨.inr (.inl rfl),(by omega:B.q≠_)⟩).trans q1,(HI4.out.kept hW ⟨.inl (.inr ⟨by omega,by omega⟩),by omega⟩).cell 0⟩)
  have hMd:=HM4.out.below ((Below.refl w5.heap.size w5).drew)
  have HKd:=hI (show RowI .u8 w5.drew (fun b=>(X b∨(w.heap.size≤b∧b<w5.heap.size))∨B.own b) A m us from ((HK.out.below (HB35.out) HM0.out.lt).below ((Below.refl w5.heap.size w5).drew) (fun b hb=>HM4.out.lt b (.inl hb))).more (fun b hb=>.inl (.inl hb)))
  have HMD:=hI hMd
  have HED:=hI (show Blk w5.drew (w.heap.size+1+1) 36 #[.int .i64 0] from HE4.out.below ((Below.refl w5.heap.size w5).drew) HE4.out.lt)
  have HYL:=hI (show ∀ b,((X b∨(w.heap.size≤b∧b<w5.heap.size))∨B.own b)→b<w5.heap.size from HM4.out.ylt)
  have HYE:=hI (show (X (w.heap.size+1+1)∨(w.heap.size≤w.heap.size+1+1∧w.heap.size+1+1<w5.heap.size))∨B.own (w.heap.size+1+1) from .inl (.inr ⟨by omega,HE4.out.lt⟩))
  clear hMd
  refine wp_region_noPanic ?_
  refine Tillst.region (fun W=>Kept (fun b=>((X b∨(w.heap.size≤b∧b<w5.heap.size))∨B.own b)∧b≠w.heap.size+1+1) w5 W) [] (by kernel_rfl) ((Kept.refl _ _).drew) (fun hė=>?_)
  obtain ⟨vd,hvd⟩:∃ vd,vd=w5.drew:=⟨_,rfl⟩
  have HZD:=hI (show vd.heap.size=w5.heap.size by rw[hvd]; rfl)
  rw[← hvd] at HKd HMD HED hė ⊢
  have HVD:=hI (show Kept (fun b=>(X b∨(w.heap.size≤b∧b<w5.heap.size))∨B.own b) w5 vd by rw[hvd]; exact (Kept.refl _ _).drew)
  clear hvd
  refine tK 0 ku0 (v:=?_) ?_ hė ?_
  rotate_left
  ·intro W hSW; have h9:=(HSS.out W hSW).1; clear hSW; unfold ku0; go_simp; with_reducible rfl
  simp only[ku0,Act.put,sA,sZ,sS]
  refine tK 1 ku1 (v:=?_) ?_ hė ?_
  rotate_left
  ·intro W hSW; unfold ku1; go_simp; with_reducible rfl
  simp only[ku1,Act.put,sA,sZ,sS]
  refine tK 2 ku2 (v:=?_) ?_ hė ?_
  rotate_left
  ·intro W hSW; unfold ku2; go_simp; with_reducible rfl
  simp only[ku2,Act.put,sA,sZ,sS]
  refine tK 3 ku3 (v:=shV B) ?_ hė ?_
  ·intro W hSW; obtain ⟨_,h8,h9,_⟩:=HSS.out W hSW; clear hSW; unfold ku3; go_simp
  simp only[ku3,Act.put,sA,sZ,sS]
  refine tK 4 ku4 (v:=?_) ?_ hė ?_
  rotate_left
  ·intro W hSW; have h9:=(HSS.out W hSW).2.2.2; clear hSW; unfold ku4; go_simp; with_reducible rfl
  simp only[ku4,Act.put,sA,sZ,sS]
  refine Tillst.two (i:=5) (j:=9) (o:=ku5) (o':=ku9) (by kernel_rfl) rfl rfl ?_ ?_
  ·intro K hK
   refine step_call 72 #[.tmp 30,.tmp 31] #[134,31] rfl rfl Tryz.func72 rfl rfl [shV B,.slice A m c] rfl ((look_any (c:=c) HMD.out.log HMD.out.ylt HMD.out.ix (.inr (.inr (.inl rfl))) HMD.out.inv HKd.out HBY.out (by have:=HM.out; omega)).mono ?_)
   intro e w6 hlk
   obtain ⟨ev,k6,rfl,hev,hl6,hk6,hkp6⟩:=hlk.ent
   refine ⟨_,rfl,?_⟩
   simp only[ku5,Act.put,sA,sZ,sS]
   have hS6:Kept (fun b=>((X b∨(w.heap.size≤b∧b<w5.heap.size))∨B.own b)∧b≠w.heap.size+1+1) w5 w6:=hė.trans hkp6 (fun b h=>h.1)
   have HEV:=hI hev
   have HL6:=hI hl6
   have HK6:=hI hk6
   have HKP6:=hI (HVD.out.trans hkp6 (fun b h=>h))
   have HE6:=hI (HED.out.kept hkp6 HYE.out)
   clear hlk hev hl6 hk6 hkp6 hė
   refine hK.out _ _ (fun _=>hS6) (fun hė=>?_)
   replace hė:=hė (by decide)
   clear hK K hS6
   refine tK 6 ku6 (v:=?_) ?_ hė ?_
   rotate_left
   ·intro W hSW; unfold ku6; go_simp; with_reducible rfl
   simp only[ku6,Act.put,sA,sZ,sS]
   refine tK 7 ku7 (v:=?_) ?_ hė ?_
   rotate_left
   ·intro W hSW; unfold ku7; go_simp; with_reducible rfl
   simp only[ku7,Act.put,sA,sZ,sS]
   refine tK 8 ku8 (v:=?_) ?_ hė ?_
   rotate_left
   ·intro W hSW; unfold ku8; go_simp; with_reducible rfl
   simp only[ku8,Act.put,sA,sZ,sS]
   refine tO 9 ku9 ?_
   intro K hK
   refine step_alloc14 154 rfl rfl ent0C zero_entry ?_
   simp only[ku9,Act.put,sA,sZ,sS]
   have hal:=(Below.refl w6.heap.size w6).alloc (nR _) (.cells ent0C 154)
   have hS7:Kept (fun b=>((X b∨(w.heap.size≤b∧b<w5.heap.size))∨B.own b)∧b≠w.heap.size+1+1) w5 (w6.alloc (.cells ent0C 154)):=hė.trans (Kept.of_below (S:=fun b=>((X b∨(w.heap.size≤b∧b<w5.heap.size))∨B.own b)∧b≠w.heap.size+1+1) hal (fun b h=>nL (HYL.out b h.1) hė.size)) (fun b h=>h)
   have HL7:=hI (HL6.out.grow hal)
   have HKP7:=hI (HKP6.out.trans (Kept.of_below (S:=fun b=>(X b∨(w.heap.size≤b∧b<w5.heap.size))∨B.own b) hal (fun b h=>nL (HYL.out b h) HKP6.out.size)) (fun b h=>h))
   have HE7:=hI (HE6.out.below hal HE6.out.lt)
   have HN7:=hI (Blk.new w6 154 ent0C)
   have HZ6:=hI HKP6.out.size
   have HZ7:=hI (show w6.heap.size<(w6.alloc (.cells ent0C 154)).heap.size by simp)
   clear hal
   generalize w6.heap.size=g6 at *
   generalize w6.alloc _=w7 at *
   refine hK.out _ _ (fun _=>hS7) (fun hė=>?_)
   replace hė:=hė (by decide)
   clear hK K hS7
   refine tO 10 ku10 ?_
   intro K hK
   refine step_store14 (.tmp 8) (.tmp 33) 154 rfl rfl g6 ev rfl rfl 154 _ HN7.out (by rw[size_entry,HEV.out.size.1]) (by rw[HEV.out.size.1]; rfl) HEV.out.size.2 ?_
   simp only[ku10,Act.put,sA,sZ,sS]
   have hk8:Kept (fun b=>b≠g6) w7 (w7.setRow g6 ev):=(Kept.refl _ _).setRow (fun h=>h rfl) ev
   have hS8:Kept (fun b=>((X b∨(w.heap.size≤b∧b<w5.heap.size))∨B.own b)∧b≠w.heap.size+1+1) w5 (w7.setRow g6 ev):=hė.trans hk8 (fun b h=>by have:=HYL.out b h.1; have:=HZ6.out; omega)
   have HE8:=hI (HE7.out.kept hk8 (by have:=HYL.out _ HYE.out; have:=HZ6.out; omega))
   refine hK.out _ _ (fun _=>hS8) (fun hė=>?_)
   replace hė:=hė (by decide)
   clear hK K hk8 hS8
   refine tO 11 ku11 ?_
   intro K hK
   have e8:(w7.setRow g6 ev).cell? ⟨w.heap.size+1+1,0,none⟩=some (.int .i64 0):=HE8.out.cell 0
   have e9:=HE8.out.frozen 0
   go_simp
   clear e8 e9
   have hS9:Kept (fun b=>((X b∨(w.heap.size≤b∧b<w5.heap.size))∨B.own b)∧b≠w.heap.size+1+1) w5 ((w7.setRow g6 ev).setCell ⟨w.heap.size+1+1,0,none⟩ (.int .i64 0)):=hė.setCell (p:=⟨w.heap.size+1+1,0,none⟩) (fun h=>h.2 rfl) _
   refine hK.out _ _ (fun _=>hS9) (fun hė=>?_)
   clear hK K hS9
   refine Tillst.done (by kernel_rfl) ?_ _
   refine hKK _ _ (Met.intro (hJ _ _ ?_))
   (repeat apply Exists.intro)
   exact ⟨ElkC.fin HYL.out HYE.out HZ6.out (fun b h=>.inl h) (.inr ⟨nR _,HZ7.out⟩) HL7.out HK6.out HKP7.out HN7.out HE7.out HEV.out,rfl⟩
  ·intro K hK
   refine step_alloc14 154 rfl rfl ent0C zero_entry ?_
   simp only[ku9,Act.put,sA,sZ,sS]
   have hal:=(Below.refl vd.heap.size vd).alloc (nR _) (.cells ent0C 154)
   have hS6:Kept (fun b=>((X b∨(w.heap.size≤b∧b<w5.heap.size))∨B.own b)∧b≠w.heap.size+1+1) w5 (vd.alloc (.cells ent0C 154)):=hė.trans (Kept.of_below (S:=fun b=>((X b∨(w.heap.size≤b∧b<w5.heap.size))∨B.own b)∧b≠w.heap.size+1+1) hal (fun b h=>nL (HYL.out b h.1) hė.size)) (fun b h=>h)
   have HL6:=hI (HMD.out.log.grow hal)
   have HX6:=hI (HMD.out.ix.below hal HMD.out.ix.lt)
   have HKP6:=hI (HVD.out.trans (Kept.of_below (S:=fun b=>(X b∨(w.heap.size≤b∧b<w5.heap.size))∨B.own b) hal (fun b h=>nL (HYL.out b h) HVD.out.size)) (fun b h=>h))
   have HE6:=hI (HED.out.below hal HED.out.lt)
   have HKR6:=hI (HKd.out.below hal (fun b h=>nL (HYL.out b h) HVD.out.size))
   have HN6:=hI (Blk.new vd 154 ent0C)
   have HZ6:=hI HVD.out.size
   have HZ7:=hI (show vd.heap.size<(vd.alloc (.cells ent0C 154)).heap.size by simp)
   have HINV:=hI HMD.out.inv
   clear hal HMD HKd HED
   generalize vd.heap.size=g6 at *
   generalize vd.alloc _=w6 at *
   refine hK.out _ _ (fun _=>hS6) (fun hė=>?_)
   replace hė:=hė (by decide)
   clear hK K hS6
   refine tO 5 ku5 ?_
   intro K hK
   refine step_call 72 #[.tmp 30,.tmp 31] #[134,31] rfl rfl Tryz.func72 rfl rfl [shV B,.slice A m c] rfl ((look_any (c:=c) HL6.out (fun b h=>by
    rcases h with h | h
    ·exact nL (HYL.out b h) HKP6.out.size
    ·exact h.2) HX6.out (.inl (.inr (.inr (.inl rfl)))) HINV.out (HKR6.out.more (fun b h=>.inl h)) HBY.out (by have:=HM.out; omega)).mono ?_)
   intro e w7 hlk
   obtain ⟨ev,k6,rfl,hev,hl7,hk7,hkp7⟩:=hlk.ent
   refine ⟨_,rfl,?_⟩
   simp only[ku5,Act.put,sA,sZ,sS]
   have hS7:Kept (fun b=>((X b∨(w.heap.size≤b∧b<w5.heap.size))∨B.own b)∧b≠w.heap.size+1+1) w5 w7:=hė.trans hkp7 (fun b h=>.inl h.1)
   have HEV:=hI hev
   have HL7:=hI hl7
   have HK6:=hI hk7
   have HKP7:=hI (HKP6.out.trans hkp7 (fun b h=>.inl h))
   have HE7:=hI (HE6.out.kept hkp7 (.inl HYE.out))
   have HN7:=hI (HN6.out.kept hkp7 (.inr ⟨nR _,HZ7.out⟩))
   clear hlk hev hl7 hk7 hkp7 hė HN6 HE6 HL6
   refine hK.out _ _ (fun _=>hS7) (fun hė=>?_)
   replace hė:=hė (by decide)
   clear hK K hS7
   refine tK 6 ku6 (v:=?_) ?_ hė ?_
   rotate_left
   ·intro W hSW; unfold ku6; go_simp; with_reducible rfl
   simp only[ku6,Act.put,sA,sZ,sS]
   refine tK 7 ku7 (v:=?_) ?_ hė ?_
   rotate_left
   ·intro W hSW; unfold ku7; go_simp; with_reducible rfl
   simp only[ku7,Act.put,sA,sZ,sS]
   refine tK 8 ku8 (v:=?_) ?_ hė ?_
   rotate_left
   ·intro W hSW; unfold ku8; go_simp; with_reducible rfl
   simp only[ku8,Act.put,sA,sZ,sS]
   refine tO 10 ku10 ?_
   intro K hK
   refine step_store14 (.tmp 8) (.tmp 33) 154 rfl rfl g6 ev rfl rfl 154 _ HN7.out (by rw[size_entry,HEV.out.size.1]) (by rw[HEV.out.size.1]; rfl) HEV.out.size.2 ?_
   simp only[ku10,Act.put,sA,sZ,sS]
   have hk8:Kept (fun b=>b≠g6) w7 (w7.setRow g6 ev):=(Kept.refl _ _).setRow (fun h=>h rfl) ev
   have hS8:Kept (fun b=>((X b∨(w.heap.size≤b∧b<w5.heap.size))∨B.own b)∧b≠w.heap.size+1+1) w5 (w7.setRow g6 ev):=hė.trans hk8 (fun b h=>by have:=HYL.out b h.1; have:=HZ6.out; omega)
   have HE8:=hI (HE7.out.kept hk8 (by have:=HYL.out _ HYE.out; have:=HZ6.out; omega))
   refine hK.out _ _ (fun _=>hS8) (fun hė=>?_)
   replace hė:=hė (by decide)
   clear hK K hk8 hS8
   refine tO 11 ku11 ?_
   intro K hK
   have e8:(w7.setRow g6 ev).cell? ⟨w.heap.size+1+1,0,none⟩=some (.int .i64 0):=HE8.out.cell 0
   have e9:=HE8.out.frozen 0
   go_simp
   clear e8 e9
   have hS9:Kept (fun b=>((X b∨(w.heap.size≤b∧b<w5.heap.size))∨B.own b)∧b≠w.heap.size+1+1) w5 ((w7.setRow g6 ev).setCell ⟨w.heap.size+1+1,0,none⟩ (.int .i64 0)):=hė.setCell (p:=⟨w.heap.size+1+1,0,none⟩) (fun h=>h.2 rfl) _
   refine hK.out _ _ (fun _=>hS9) (fun hė=>?_)
   clear hK K hS9
   refine Tillst.done (by kernel_rfl) ?_ _
   refine hKK _ _ (Met.intro (hJ _ _ ?_))
   (repeat apply Exists.intro)
   exact ⟨ElkC.fin HYL.out HYE.out HZ6.out (fun b h=>.inl h) (.inr ⟨nR _,HZ7.out⟩) HL7.out HK6.out HKP7.out HN7.out HE7.out HEV.out,rfl⟩
 case rest =>
  obtain ⟨g6,k6,ev,rfl,hg6,hl6,hk6,hkp6,hen6,hbe6,hev⟩:=hcut
  have HOL:=hI (show ∀ b,B.own b→b<w.heap.size from fun b hb=>HM0.out.own_lt hb)
  have hw45:=HB1.out.size
  have hw55:=HB4.out.size
  have hM6:StoM2 wc (fun b=>(X b∨(w.heap.size≤b∧b<w5.heap.size))∨b=g6) { B with t:=B.t,k:=k6,pe:=B.pe } slots s xs st bl false :=
   HM4.out.logTo2 hkp6 (fun b hb=>⟨.inr hb,by have:=HOL.out b hb; omega⟩) (fun b hb=>.inl hb) (fun b hb hx=>by
    have h1:=HOL.out b hb
    rcases hx with hx | hx
    ·exact HM4.out.off b hb hx
    ·omega) (fun b hb=>by
    rcases hb with hb | hb
    ·exact nL (HM4.out.lt b hb) hkp6.size
    ·rw[hb]; exact hen6.lt) (hl6.less (fun b hb=>by
    rcases hb with (h | h) | h
    ·exact .inl (.inl h)
    ·exact .inr h
    ·exact .inl (.inr h))) rfl (HM4.out.inv.held hk6)
  have h1:=HS4.out.lt
  have h2:=HI4.out.lt
  have h3:=HE4.out.lt
  have h4:=HR4.out.lt
  have h5:=HZ1.out
  have h6:=HZ2.out
  have HS6:=hI (HS4.out.kept hkp6 ⟨.inl (.inr ⟨by omega,by omega⟩),by omega⟩)
  have HI6:=hI (HI4.out.kept hkp6 ⟨.inl (.inr ⟨by omega,by omega⟩),by omega⟩)
  have HR6:=hI (HR4.out.kept hkp6 ⟨.inl (.inr ⟨by omega,by omega⟩),by omega⟩)
  have HKX6:=hI (show Kept X w wc from (Kept.of_below (HB35.out) HM0.out.lt).trans hkp6 (fun b hb=>⟨.inl (.inl hb),by have:=HM0.out.lt b hb; omega⟩))
  have HM6:=hI hM6
  have HEN6:=hI hen6
  have HBE6:=hI hbe6
  have HEV:=hI hev
  have HH6:=hI hk6
  have HG6:=hI hg6
  have HSZ6:=hI hkp6.size
  have HBL:=hI (show w.heap.size+3≤w2.heap.size∧w2.heap.size<w5.heap.size by omega)
  have HT6:=hI (Blk.kept HT4.out hkp6 ⟨.inl (.inr ⟨by have:=HGT.out; omega,by have:=HZ4.out; omega⟩),by have:=HGT.out; omega⟩)
  clear hM6 hen6 hbe6 hev hk6 hg6 hkp6 hl6 h1 h2 h3 h4 h5 h6 hw45 hw55 HS4 HI4 HE4 HR4 HS1 HI1 HE1
  have e0:wc.cell? ⟨w.heap.size+1+1,0,none⟩=some (.int .i64 0):=HBE6.out.cell 0
  have hmf:∀ (fn:Fn) (first cap:Array Value) (w:World),(Instr.makeFunc fn first cap).run Tryz.prog w=.ok (.func fn first cap) w:=fun _ _ _ _=>rfl
  go_upto_region 12 with fail
  clear e0
  obtain ⟨X6,hX6⟩:∃ X6:Nat→Prop,(fun b=>(X b∨(w.heap.size≤b∧b<w5.heap.size))∨b=g6)=X6:=⟨_,rfl⟩
  rw[hX6] at HM6
  have hx0:∀ b,X b→X6 b:=fun b hb=>by rw[← hX6]; exact .inl (.inl hb)
  have hbl:=HBL.out
  have hgt:=HGT.out
  have hz4:=HZ4.out
  have hz1:=HZ1.out
  have HIN:=hI (show X6 w.heap.size∧X6 (w.heap.size+1)∧X6 (w.heap.size+1+1)∧X6 w2.heap.size∧X6 g6∧X6 gt by
   rw[← hX6]
   exact ⟨.inl (.inr ⟨by omega,by omega⟩),.inl (.inr ⟨by omega,by omega⟩),.inl (.inr ⟨by omega,by omega⟩),.inl (.inr ⟨by omega,by omega⟩),.inr rfl,.inl (.inr ⟨by omega,by omega⟩)⟩)
  have HX0:=hI hx0
  clear hX6 hx0 hbl hgt hz4 hz1
  have HYL:=hI (HM6.out.ylt)
  have hrb:=HMAY.out
  have HRT:=hI (show RowI .u8 wc (fun b=>b=gt) (some ⟨gt,0,none⟩) us.length us from Arr.rowN (S:=fun b=>b=gt) HT6.out 0 rfl rfl)
  clear hrb
  have HNIL:=hI (show ∀ W:World,RowI .u8 W (·<W.heap.size) none 0 [] from fun W=>⟨rfl,fun h=>absurd h (by omega)⟩)
  go_cut [9,10] from 39 to 48 (fun v9 v10 wx=>AppC wc (fun b=>X6 b∨B.own b) B.l B.p B.d B.n s B.t k6 xs B.pe (recB 2 0 0 q0 us []) v10 wx)
  case first J KK hJ hKK =>
   have HSS:=hI (show ∀ W,Kept (fun b=>X6 b∨B.own b) wc W→W.cell? ⟨w.heap.size,0,none⟩=some (.pointer (some ⟨B.q,0,none⟩))∧W.cell? ⟨B.q,0,none⟩=some (.pointer (some ⟨B.l,0,none⟩))∧Blk W w2.heap.size 33 #[.int .i64 2,.int .u32 0,.int .u32 0,.int .u64 q0,.slice (some ⟨gt,0,none⟩) us.length us.length,.slice none 0 0] from fun W hW=>by
    obtain ⟨q0,q1,_,_⟩:=HM6.out.cells
    obtain ⟨i1,i2,i3,i4,i5,i6⟩:=HIN.out
    exact ⟨(HS6.out.kept hW (.inl i1)).cell 0,(hW.cell (p:=⟨B.q,0,none⟩) (.inr (.inl rfl))).trans q0,HR6.out.kept hW (.inl i4)⟩)
   refine wp_region_noPanic ?_
   refine Tillst.region (fun W=>Kept (fun b=>X6 b∨B.own b) wc W) [] (by kernel_rfl) ((Kept.refl _ _).drew) (fun hė=>?_)
   have hdr:=(Below.refl wc.heap.size wc).drew
   have HMD:=hI (HM6.out.below hdr)
   have HRD:=hI (HRT.out.below hdr (fun b h=>by rw[h]; exact Blk.lt HT6.out))
   obtain ⟨vd,hvd⟩:∃ vd,vd=wc.drew:=⟨_,rfl⟩
   have HZD:=hI (show vd.heap.size=wc.heap.size by rw[hvd]; rfl)
   rw[← hvd] at HMD HRD hė ⊢
   clear hdr hvd
   have HGV:=hI (show gt<vd.heap.size by rw[HZD.out]; exact Blk.lt HT6.out)
   have HMAYL:=hI (show May 2 0 0 q0 us.length 0 by rw[HLEN.out]; exact HMAY.out)
   refine tK 0 kw0 (v:=?_) ?_ hė ?_
   rotate_left
   ·intro W hSW; have h9:=(HSS.out W hSW).1; clear hSW; unfold kw0; go_simp; with_reducible rfl
   simp only[kw0,Act.put,sA,sZ,sS]
   refine tK 1 kw1 (v:=?_) ?_ hė ?_
   rotate_left
   ·intro W hSW; unfold kw1; go_simp; with_reducible rfl
   simp only[kw1,Act.put,sA,sZ,sS]
   refine tK 2 kw2 (v:=?_) ?_ hė ?_
   rotate_left
   ·intro W hSW; unfold kw2; go_simp; with_reducible rfl
   simp only[kw2,Act.put,sA,sZ,sS]
   refine tK 3 kw3 (v:=?_) ?_ hė ?_
   rotate_left
   ·intro W hSW; unfold kw3; go_simp; with_reducible rfl
   simp only[kw3,Act.put,sA,sZ,sS]
   refine tK 4 kw4 (v:=?_) ?_ hė ?_
   rotate_left
   ·intro W hSW; have h9:=(HSS.out W hSW).2.1; clear hSW; unfold kw4; go_simp; with_reducible rfl
   simp only[kw4,Act.put,sA,sZ,sS]
   refine tK 5 kw5 (v:=.agg #[.int .i64 2,.int .u32 0,.int .u32 0,.int .u64 q0,.slice (some ⟨gt,0,none⟩) us.length us.length,.slice none 0 0]) ?_ hė ?_
   ·intro W hSW; exact row_runs (.tmp 7) 33 rfl w2.heap.size rfl 33 [.int .i64 2,.int .u32 0,.int .u32 0,.int .u64 q0,.slice (some ⟨gt,0,none⟩) us.length us.length,.slice none 0 0] _ Tryz.underlying33 rfl size_rec (HSS.out W hSW).2.2
   simp only[kw5,Act.put,sA,sZ,sS]
   refine Tillst.two (i:=6) (j:=10) (o:=kw6) (o':=kw10) (by kernel_rfl) rfl rfl ?_ ?_
   ·intro K hK
    refine step_call 9 #[.tmp 44,.tmp 45] #[24,33] rfl rfl Tryz.func9 rfl rfl [.pointer (some ⟨B.l,0,none⟩),.agg #[.int .i64 2,.int .u32 0,.int .u32 0,.int .u64 q0,.slice (some ⟨gt,0,none⟩) us.length us.length,.slice none 0 0]] rfl ((append_hist HMD.out.log HMD.out.ylt HPE.out.1 HPE.out.2 HMAYL.out HRNG.out (HRD.out.more (fun b h=>by rw[h]; exact HGV.out)) (HNIL.out vd) (fun h=>by cases h) (fun _=>rfl) HBY.out bytes_none).mono ?_)
    intro e w9 hap
    obtain ⟨a,er,s1,xs1,t1,k1,pe1,rfl,hk9,hl9,hcase⟩:=hap.told
    refine ⟨_,rfl,?_⟩
    simp only[kw6,Act.put,sA,sZ,sS]
    have hS9:=hė.trans hk9 (fun b h=>h)
    have HL9:=hI hl9
    have HC:=hI hcase
    have HK9:=hI hS9
    clear hap hk9 hl9 hcase hė
    refine hK.out _ _ (fun _=>hS9) (fun hė=>?_)
    replace hė:=hė (by decide)
    clear hK K hS9
    refine tK 7 kw7 (v:=?_) ?_ hė ?_
    rotate_left
    ·intro W hSW; unfold kw7; go_simp; with_reducible rfl
    simp only[kw7,Act.put,sA,sZ,sS]
    refine tK 8 kw8 (v:=?_) ?_ hė ?_
    rotate_left
    ·intro W hSW; unfold kw8; go_simp; with_reducible rfl
    simp only[kw8,Act.put,sA,sZ,sS]
    refine tK 9 kw9 (v:=?_) ?_ hė ?_
    rotate_left
    ·intro W hSW; unfold kw9; go_simp; with_reducible rfl
    simp only[kw9,Act.put,sA,sZ,sS]
    refine tO 10 kw10 ?_
    intro K hK
    refine step_alloc14 35 rfl rfl #[.int .i64 0,.int .u64 0,.int .i64 0] zero_addr ?_
    simp only[kw10,Act.put,sA,sZ,sS]
    have hal:=(Below.refl w9.heap.size w9).alloc (nR _) (.cells #[.int .i64 0,.int .u64 0,.int .i64 0] 35)
    have hS10:Kept (fun b=>X6 b∨B.own b) wc (w9.alloc (.cells #[.int .i64 0,.int .u64 0,.int .i64 0] 35)):=hė.trans (Kept.of_below (S:=fun b=>X6 b∨B.own b) hal (fun b h=>nL (HYL.out b h) hė.size)) (fun b h=>h)
    have HL10:=hI (HL9.out.grow hal)
    have HN10:=hI (Blk.new w9 35 #[.int .i64 0,.int .u64 0,.int .i64 0])
    have HZ9:=hI hė.size
    have HZ10:=hI (show w9.heap.size<(w9.alloc (.cells #[.int .i64 0,.int .u64 0,.int .i64 0] 35)).heap.size by simp)
    clear hal
    generalize w9.heap.size=g9 at *
    generalize w9.alloc _=w10 at *
    refine hK.out _ _ (fun _=>hS10) (fun hė=>?_)
    replace hė:=hė (by decide)
    clear hK K hS10
    refine tO 11 kw11 ?_
    intro K hK
    refine step_store14 (.tmp 9) (.tmp 47) 35 rfl rfl g9 #[.int .i64 a.1,.int .u64 a.2.1,.int .i64 a.2.2] rfl rfl 35 _ HN10.out size_addr rfl (by simp[Value.oneCell']) ?_
    simp only[kw11,Act.put,sA,sZ,sS]
    have hk11:Kept (fun b=>b≠g9) w10 (w10.setRow g9 #[.int .i64 a.1,.int .u64 a.2.1,.int .i64 a.2.2]):=(Kept.refl _ _).setRow (fun h=>h rfl) _
    have hS11:Kept (fun b=>X6 b∨B.own b) wc (w10.setRow g9 #[.int .i64 a.1,.int .u64 a.2.1,.int .i64 a.2.2]):=hė.trans hk11 (fun b h=>by have:=HYL.out b h; have:=HZ9.out; omega)
    have HL11:=hI ((HL10.out.off hk11 (fun b _ hn=>fun e=>hn (.inr (by rw[e]; exact ⟨nR _,HZ10.out⟩)))).less (X:=fun b=>X6 b∨B.own b) (fun b h=>.inl h))
    refine hK.out _ _ (fun _=>hS11) (fun hė=>?_)
    replace hė:=hė (by decide)
    clear hK K hk11
    refine tO 12 kw12 ?_
    intro K hK
    go_simp
    refine hK.out _ _ (fun _=>hė) (fun _=>?_)
    clear hK K
    refine Tillst.done (by kernel_rfl) ?_ _
    refine hKK _ _ (Met.intro (hJ _ _ ?_))
    (repeat apply Exists.intro)
    exact ⟨⟨a,er,s1,xs1,t1,k1,pe1,rfl,HL11.out,hė,HC.out⟩,rfl⟩
   ·intro K hK
    refine step_alloc14 35 rfl rfl #[.int .i64 0,.int .u64 0,.int .i64 0] zero_addr ?_
    simp only[kw10,Act.put,sA,sZ,sS]
    have hal:=(Below.refl vd.heap.size vd).alloc (nR _) (.cells #[.int .i64 0,.int .u64 0,.int .i64 0] 35)
    have hS10:Kept (fun b=>X6 b∨B.own b) wc (vd.alloc (.cells #[.int .i64 0,.int .u64 0,.int .i64 0] 35)):=hė.trans (Kept.of_below (S:=fun b=>X6 b∨B.own b) hal (fun b h=>nL (HYL.out b h) hė.size)) (fun b h=>h)
    have HL10:=hI (HMD.out.log.grow hal)
    have HN10:=hI (Blk.new vd 35 #[.int .i64 0,.int .u64 0,.int .i64 0])
    have HZ9:=hI hė.size
    have HZ10:=hI (show vd.heap.size<(vd.alloc (.cells #[.int .i64 0,.int .u64 0,.int .i64 0] 35)).heap.size by simp)
    have HRA:=hI (HRD.out.below hal (fun b h=>by rw[h]; exact HGV.out))
    clear hal HMD HRD
    generalize vd.heap.size=g9 at *
    generalize vd.alloc _=w10 at *
    refine hK.out _ _ (fun _=>hS10) (fun hė=>?_)
    replace hė:=hė (by decide)
    clear hK K hS10
    refine tO 6 kw6 ?_
    intro K hK
    refine step_call 9 #[.tmp 44,.tmp 45] #[24,33] rfl rfl Tryz.func9 rfl rfl [.pointer (some ⟨B.l,0,none⟩),.agg #[.int .i64 2,.int .u32 0,.int .u32 0,.int .u64 q0,.slice (some ⟨gt,0,none⟩) us.length us.length,.slice none 0 0]] rfl ((append_hist HL10.out (fun b h=>by
     rcases h with h | h
     ·exact nL (HYL.out b h) hė.size
     ·exact h.2) HPE.out.1 HPE.out.2 HMAYL.out HRNG.out (HRA.out.more (fun b h=>by rw[h]; exact Nat.lt_trans HGV.out HZ10.out)) (HNIL.out w10) (fun h=>by cases h) (fun _=>rfl) HBY.out bytes_none).mono ?_)
    intro e w11 hap
    obtain ⟨a,er,s1,xs1,t1,k1,pe1,rfl,hk9,hl9,hcase⟩:=hap.told
    refine ⟨_,rfl,?_⟩
    simp only[kw6,Act.put,sA,sZ,sS]
    have hS9:=hė.trans hk9 (fun b h=>.inl h)
    have HL9:=hI hl9
    have HC:=hI hcase
    have HN11:=hI (HN10.out.kept hk9 (.inr ⟨nR _,HZ10.out⟩))
    clear hap hk9 hl9 hcase hė HN10 HL10
    refine hK.out _ _ (fun _=>hS9) (fun hė=>?_)
    replace hė:=hė (by decide)
    clear hK K hS9
    refine tK 7 kw7 (v:=?_) ?_ hė ?_
    rotate_left
    ·intro W hSW; unfold kw7; go_simp; with_reducible rfl
    simp only[kw7,Act.put,sA,sZ,sS]
    refine tK 8 kw8 (v:=?_) ?_ hė ?_
    rotate_left
    ·intro W hSW; unfold kw8; go_simp; with_reducible rfl
    simp only[kw8,Act.put,sA,sZ,sS]
    refine tK 9 kw9 (v:=?_) ?_ hė ?_
    rotate_left
    ·intro W hSW; unfold kw9; go_simp; with_reducible rfl
    simp only[kw9,Act.put,sA,sZ,sS]
    refine tO 11 kw11 ?_
    intro K hK
    refine step_store14 (.tmp 9) (.tmp 47) 35 rfl rfl g9 #[.int .i64 a.1,.int .u64 a.2.1,.int .i64 a.2.2] rfl rfl 35 _ HN11.out size_addr rfl (by simp[Value.oneCell']) ?_
    simp only[kw11,Act.put,sA,sZ,sS]
    have hk11:Kept (fun b=>b≠g9) w11 (w11.setRow g9 #[.int .i64 a.1,.int .u64 a.2.1,.int .i64 a.2.2]):=(Kept.refl _ _).setRow (fun h=>h rfl) _
    have hS11:Kept (fun b=>X6 b∨B.own b) wc (w11.setRow g9 #[.int .i64 a.1,.int .u64 a.2.1,.int .i64 a.2.2]):=hė.trans hk11 (fun b h=>by have:=HYL.out b h; have:=HZ9.out; omega)
    have HL11:=hI ((HL9.out.off hk11 (fun b _ hn=>fun e=>hn (.inr (by rw[e]; exact ⟨nR _,HZ10.out⟩)))).less (X:=fun b=>X6 b∨B.own b) (fun b h=>.inl h))
    refine hK.out _ _ (fun _=>hS11) (fun hė=>?_)
    replace hė:=hė (by decide)
    clear hK K hk11
    refine tO 12 kw12 ?_
    intro K hK
    go_simp
    refine hK.out _ _ (fun _=>hė) (fun _=>?_)
    clear hK K
    refine Tillst.done (by kernel_rfl) ?_ _
    refine hKK _ _ (Met.intro (hJ _ _ ?_))
    (repeat apply Exists.intro)
    exact ⟨⟨a,er,s1,xs1,t1,k1,pe1,rfl,HL11.out,hė,HC.out⟩,rfl⟩
  case rest =>
   obtain ⟨a,er,s1,xs1,t1,k1,pe1,rfl,hl9,hk9,hcase⟩:=hcut
   rename World=>wa
   obtain ⟨i1,i2,i3,i4,i5,i6⟩:=HIN.out
   have HS9:=hI (HS6.out.kept hk9 (.inl i1))
   have HI9:=hI (HI6.out.kept hk9 (.inl i2))
   have HE9:=hI (HBE6.out.kept hk9 (.inl i3))
   have HEN9:=hI (HEN6.out.kept hk9 (.inl i5))
   have HKX9:=hI (HKX6.out.trans hk9 (fun b hb=>.inl (HX0.out b hb)))
   have hdim:xs1.length=xs.length:=by
    have h1:=hl9.dims
    have h2:=HM6.out.log.dims
    rcases hcase with ⟨_,_,e,_⟩ | ⟨_,_,_,_,_,e | e,_⟩
    ·rw[e] at h1; omega
    ·rw[e] at h1; omega
    ·rw[e] at h1
     have h3:(genS s).a=s.a:=rfl
     omega
   have HXW:=hI (show ∀ b,X6 b→b<wa.heap.size from fun b hb=>nL (HM6.out.lt b hb) hk9.size)
   have HLE:=hI (show ∀ b,X b→b≠w.heap.size+1+1 from fun b hb=>by have:=HM0.out.lt b hb; omega)
   rcases hcase with ⟨hno,rfl,rfl,rfl,rfl,rfl,rfl⟩ | ⟨i,ys,hsome,rfl,ha,hs1,hxs,hpe1,hat,hall,hhs⟩
   ·have HM9:=hI (HM6.out.logTo2 hk9 (fun b hb=>.inr hb) (fun b hb=>hb) HM6.out.off HXW.out hl9 rfl HM6.out.inv)
    have HNO:=hI hno
    clear hl9 hk9 hno hdim i1 i2 i4 i5 i6
    have e8:wa.cell? ⟨w.heap.size+1+1,0,none⟩=some (.int .i64 0):=HE9.out.cell 0
    have e9:=HE9.out.frozen 0
    go_wp2_with fail
    clear e8 e9
    refine leaves_cons (f:=91) (args:=#[.pointer (some ⟨w.heap.size+1+1,0,none⟩),.pointer (some ⟨w.heap.size,0,none⟩),.pointer (some ⟨w.heap.size+1,0,none⟩),.pointer (some ⟨g6,0,none⟩)]) (by simp) (by simp[go_sem]) ?_
    have HE12:=HE9.out.set_ 0 (.int .i64 6)
    refine (killD_no _ _ _ HE12 (by decide)).mono ?_
    rintro e u' w13 ⟨rfl,rfl,rfl⟩
    have hkb:Kept (fun b=>b≠w.heap.size+1+1) wa (wa.setCell ⟨w.heap.size+1+1,0,none⟩ (.int .i64 6)):=(Kept.refl _ _).setCell (p:=⟨w.heap.size+1+1,0,none⟩) (fun h=>h rfl) _
    refine ⟨.int .i64 6,?_,HKX9.out.trans hkb HLE.out,.inl ⟨HNO.out,rfl,_,(HM9.out.offX hkb (fun b _ hn=>fun e=>hn (e▸i3))).less HX0.out,HH6.out⟩⟩
    have c6:(wa.setCell ⟨w.heap.size+1+1,0,none⟩ (.int .i64 6)).cell? ⟨w.heap.size+1+1,0,none⟩=some (.int .i64 6):=HE12.cell 0
    simp[results,Tryz.f26,go_sem,c6]
   ·have HM9:=hI (HM6.out.logTo2 hk9 (fun b hb=>.inr hb) (fun b hb=>hb) HM6.out.off HXW.out hl9 hdim (HM6.out.inv.go (fun a' bs' h=>(hall a' bs' h).1)))
    have HSO:=hI (And.intro hsome (And.intro hs1 (And.intro hxs hpe1)))
    have HHS:=hI hhs
    clear hl9 hk9 hdim i1 i2 i4 i5 i6 hsome hs1 hxs hpe1 hat hall ha hhs
    have s8:wa.cell? ⟨w.heap.size,0,none⟩=some (.pointer (some ⟨B.q,0,none⟩)):=HS9.out.cell 0
    have q8:wa.cell? ⟨B.q,0,none⟩=some (.pointer (some ⟨B.l,0,none⟩)):=HM9.out.cells.1
    have HSY:=hI (sync_lg HM9.out.log HM9.out.ylt)
    go_wp2_with fail
    refine HSY.out.mono ?_
    rintro e wb ⟨rfl,hlb,hkb⟩
    have HMB:=hI (HM9.out.logTo hkb hlb rfl (HM9.out.inv.held (HM9.out.log.good.held_sync)))
    have HHY:=hI (HM9.out.log.good.held_sync)
    have HSB:=hI (HS9.out.kept hkb (.inl HIN.out.1))
    have HIB:=hI (HI9.out.kept hkb (.inl HIN.out.2.1))
    have HEB:=hI (HE9.out.kept hkb (.inl HIN.out.2.2.1))
    have HENB:=hI (HEN9.out.kept hkb (.inl HIN.out.2.2.2.2.1))
    have HKXB:=hI (HKX9.out.trans hkb (fun b hb=>.inl (HX0.out b hb)))
    clear hlb hkb s8 q8 HSY
    have e8:wb.cell? ⟨w.heap.size+1+1,0,none⟩=some (.int .i64 0):=HEB.out.cell 0
    have e9:=HEB.out.frozen 0
    go_wp2_with fail
    clear e8 e9
    obtain ⟨wd,hwd⟩:∃ wd,wd=wb.setCell ⟨w.heap.size+1+1,0,none⟩ (.int .i64 0):=⟨_,rfl⟩
    have hkb:Kept (fun b=>b≠w.heap.size+1+1) wb wd:=by rw[hwd]; exact (Kept.refl _ _).setCell (p:=⟨w.heap.size+1+1,0,none⟩) (fun h=>h rfl) _
    have HED:=hI (show Blk wd (w.heap.size+1+1) 36 #[.int .i64 0] by rw[hwd]; exact HEB.out.set_ 0 (.int .i64 0))
    rw[← hwd]
    clear hwd
    have HMW:=hI (HMB.out.offX hkb (fun b _ hn=>fun e=>hn (e▸HIN.out.2.2.1)))
    have hsz:=HZ1.out
    have hg6:=HG6.out
    have hbl:=HBL.out
    have HSD:=hI (HSB.out.kept hkb (by omega))
    have HID:=hI (HIB.out.kept hkb (by omega))
    have HEND:=hI (HENB.out.kept hkb (by omega))
    have HKXD:=hI (HKXB.out.trans hkb HLE.out)
    refine leaves_cons (f:=91) (args:=#[.pointer (some ⟨w.heap.size+1+1,0,none⟩),.pointer (some ⟨w.heap.size,0,none⟩),.pointer (some ⟨w.heap.size+1,0,none⟩),.pointer (some ⟨g6,0,none⟩)]) (by simp) (by simp[go_sem]) ?_
    have hrow:RowI .u8 wd X6 A m us:=(HK.out.kept HKXD.out (fun b hb=>hb)).more HX0.out
    refine (killD_ok (c:=c) HMW.out HEV.out HED.out HSD.out HID.out HEND.out hrow HBY.out (by have:=HM.out; omega)).mono ?_
    rintro e u' we ⟨rfl,rfl,hm,hk⟩
    obtain ⟨hsome,hs1,hxs,hpe1⟩:=HSO.out
    subst hxs hpe1
    have hown:∀ b,X6 b→b<wd.heap.size∧¬ B.own b:=fun b hb=>⟨HMW.out.lt b hb,fun e=>HMW.out.off b e hb⟩
    refine ⟨.int .i64 0,?_,HKXD.out.trans hk (fun b hb=>hown b (HX0.out b hb)),.inr ⟨i,s1,ys,t1,_,hsome,hs1,rfl,hm.less HX0.out,(HHS.out.from HH6.out).to HHY.out⟩⟩
    have c6:we.cell? ⟨w.heap.size+1+1,0,none⟩=some (.int .i64 0):=(HED.out.kept hk (hown _ i3)).cell 0
    simp[results,Tryz.f26,go_sem,c6]
end
end
section
def flS (s:Sup) (q:Int):Sup:=⟨s.a,s.b,s.g,s.r,s.v,q⟩
def flK (k:Dk) (s:Sup) (t q:Int):Dk:=(k.wr (Dk.put (secOf t) (supL s.a s.b s.g s.r s.v q (nxt t)))).wr Dk.sync
section
variable {w w':World} {X Y:Nat→Prop} {l p d n pe:Nat} {s:Sup} {t q:Int} {k:Dk} {xs:List Seg} {a:Int × Int × Int} {bs:List Int}
theorem fl_V (hg:Good k) (seg j:Nat):strV (flK k s t q) (flS s q) seg j=strV k s seg j:=by
 unfold strV
 show (if (j:Int)<s.b then (flK k s t q).held.getD (2+(seg:Int)*s.b+j).toNat [] else noughts 64)=_
 by_cases h:(j:Int)<s.b
 ·rw[if_pos h,if_pos h]
  have h0:0≤(seg:Int)*s.b:=Int.mul_nonneg (by omega) (by omega)
  have h1:=sec_lt t
  unfold flK
  rw[(hg.put _ _).held_sync,hg.held_put]
  simp only[List.getD]
  rw[List.getElem?_set_ne (by omega)]
 ·rw[if_neg h,if_neg h]
theorem fl_at (hg:Good k) (h:AtR k s xs a bs):AtR (flK k s t q) (flS s q) xs a bs:=by
 obtain ⟨h1,i,c,e,h2,h3,h4,h5⟩:=h
 exact ⟨h1,i,c,e,h2,h3,h4,fun j hj=>by rw[fl_V hg]; exact h5 j hj⟩
theorem lg_setF (h:LgM w X l p d n s t k xs pe) (hX:∀ b,X b→b<w.heap.size) (hpe:pe≤900000) (hq:s.f<q) (hq2:q≤18446744073709551615) :
 Calls Tryz.prog 61 #[.pointer (some ⟨p,0,none⟩),.agg (supC s.a s.b s.g s.r s.v q)] w fun e w'=>e=.returned (.int .i64 0)∧LgM w' X l p d n (flS s q) (nxt t) (flK k s t q) xs pe∧∃ R:Nat→Prop,(∀ b,R b→b<w.heap.size∧¬ X b)∧Kept (fun b=>X b∨R b) w w':=by
 obtain ⟨A,c,⟨h1,h2,R,h3,h4,h5⟩,hc,hA⟩:=h.log
 have hin:=h.sin
 have hmay:=h.may
 have hgd:=h.good
 have hp:=h.pend
 refine (set_go (w:=w) (X:=fun b=>X b∨b=l∨R b) h3 (fun b hb=>by
  rcases hb with hb | rfl | hb
  ·exact hX b hb
  ·exact h1.lt
  ·exact (h5 b hb).1) s.g s.r s.v q hmay (by unfold Sup.In InS at hin; unfold InS; omega) (by unfold BackS; omega) h.n2.1 (by omega) hgd.wre (hgd.put _ _).wre).mono ?_
 rintro e w1 ⟨rfl,hs,hk⟩
 refine ⟨rfl,⟨⟨A,c,⟨h1.kept hk (.inr (.inl rfl)),h2,R,hs,h4.kept hk (fun b hb=>.inr (.inr hb)),fun b hb=>⟨nL (h5 b hb).1 hk.size,(h5 b hb).2⟩⟩,hc,hA⟩,(hgd.put _ _).sync,h.ok,h.top,hmay,?_,h.dims,h.n2,h.room,?_⟩,fun b=>b=l∨R b,fun b hb=>?_,hk⟩
 ·unfold flS Sup.In InS at *
  simp only at *
  omega
 ·unfold flK
  rw[(hgd.put _ _).pend_sync]
  exact Nat.zero_le _
 ·rcases hb with rfl | hb
  ·exact ⟨h1.lt,h2⟩
  ·exact ⟨(h5 b hb).1,(h5 b hb).2.2⟩
end
end
section
attribute [local go_sem] Oper.semAt_some
abbrev fl0:Oper:=⟨some 26,.load 56 (.tmp 2),56,"store.go:156",#[],none⟩
abbrev fl1:Oper:=⟨some 27,.nilCheck (.tmp 26),0,"store.go:156",#[⟨0,.data⟩],none⟩
abbrev fl2:Oper:=⟨some 28,.fieldAddr 137 (.tmp 27) 0,0,"store.go:156",#[⟨1,.data⟩],none⟩
abbrev fl3:Oper:=⟨some 29,.fieldAddr 134 (.tmp 28) 0,0,"store.go:156",#[⟨2,.data⟩],none⟩
abbrev fl4:Oper:=⟨some 30,.load 24 (.tmp 29),24,"store.go:156",#[⟨3,.data⟩],none⟩
abbrev fl5:Oper:=⟨some 31,.call { callee:=.value (.func 11),args:=#[.tmp 30],argTypes:=#[24] },45,"store.go:156",#[⟨4,.data⟩],none⟩
abbrev fl6:Oper:=⟨some 32,.load 115 (.tmp 5),115,"store.go:156",#[],none⟩
abbrev fl7:Oper:=⟨some 33,.call { callee:=.value (.func 61),args:=#[.tmp 31,.tmp 32],argTypes:=#[45,115] },36,"store.go:156",#[⟨5,.data⟩,⟨6,.data⟩,⟨5,.chain⟩],none⟩
abbrev fl8:Oper:=⟨none,.store 36 (.tmp 4) (.tmp 33),0,"store.go:156",#[⟨7,.data⟩,⟨7,.chain⟩,⟨0,.phase⟩,⟨1,.phase⟩,⟨2,.phase⟩,⟨3,.phase⟩,⟨4,.phase⟩,⟨5,.phase⟩,⟨6,.phase⟩,⟨7,.phase⟩],none⟩
section
variable {w w':World} {X Y:Nat→Prop} {B:StB} {slots:Nat} {s:Sup} {xs:List Seg} {st:List EntS} {bl:List (List Int)} {u:Bool}
theorem unset_eq (h:StoM2 w X B slots s xs st bl false):w.setCell ⟨B.q,3,none⟩ (.bool false)=w:=by
 have h1:=h.blk
 unfold Blk at h1
 rw[setCell_eq_setRow w B.q 3 _ _ (0,0) (.bool false) h1]
 exact setRow_self w B.q _ _ (0,0) h1
theorem flushD_ok {be bs_:Nat} {u0:FrameMode} (h:StoM2 w X B slots s xs st bl false) (h1:Blk w be 36 #[.int .i64 0]) (h2:Blk w bs_ 56 #[.pointer (some ⟨B.q,0,none⟩)]) :
 CallsD Tryz.prog 97 #[.pointer (some ⟨be,0,none⟩),.pointer (some ⟨bs_,0,none⟩)] u0 w fun e u' w'=>u'=u0∧e=.returned (.tuple #[])∧w'=w:=by
 have HU:=hI (unset_eq h)
 have c1:w.cell? ⟨be,0,none⟩=some (.int .i64 0):=h1.cell 0
 have c2:w.cell? ⟨bs_,0,none⟩=some (.pointer (some ⟨B.q,0,none⟩)):=h2.cell 0
 have c3:=h.cells.2.2.2
 have c4:=h.blk.frozen 3
 clear h h1 h2
 go_enter_d Tryz.func97,Tryz.ntmps97
 go_wp2_with fail
 go_end0
 exact ⟨rfl,HU.out⟩
def FlushT (w:World) (X:Nat→Prop) (B:StB) (slots:Nat) (s:Sup) (xs:List Seg) (st:List EntS) (bl:List (List Int)) (q:Int) (e:Ending) (w':World):Prop :=
 e=.returned (.int .i64 0)∧Kept X w w' ∧
 ((q≤s.f∧StoM2 w' X B slots s xs st bl false) ∨
  (s.f<q∧StoM2 w' X { B with t:=nxt B.t,k:=flK B.k s B.t q,pe:=B.pe } slots (flS s q) xs st bl false))
theorem flush_s14 (h:StoM2 w X B slots s xs st bl false) (hpe:B.pe≤900000) (q:Int) (hq2:q≤18446744073709551615) :
 Calls Tryz.prog 34 #[.pointer (some ⟨B.q,0,none⟩),.int .u64 q] w (FlushT w X B slots s xs st bl q):=by
 obtain ⟨w1,hw1⟩:∃ w1,w1=(w.alloc (.cells #[.pointer (some ⟨B.q,0,none⟩)] 56)).alloc (.cells #[.int .i64 0] 36):=⟨_,rfl⟩
 have hb1:Below w.heap.size w w1:=by rw[hw1]; exact ((Below.refl _ w).alloc (nR _) _).alloc (by simp) _
 have HS1:=hI (show Blk w1 w.heap.size 56 #[.pointer (some ⟨B.q,0,none⟩)] by rw[hw1]; exact (Blk.new w _ _).alloc _)
 have HE1:=hI (show Blk w1 (w.heap.size+1) 36 #[.int .i64 0] by rw[hw1]; exact blk_new2 w _ _ _)
 have HM1:=hI (h.grow hb1)
 have HX:=hI h.lt
 have HPE:=hI (And.intro hpe hq2)
 have HB1:=hI hb1
 have HW1:=hI hw1
 clear h hpe hq2 hb1 hw1
 go_enter_defers Tryz.func34,Tryz.ntmps34
 go_upto_region 1 with fail
 rw[← HW1.out]
 have s0:w1.cell? ⟨w.heap.size,0,none⟩=some (.pointer (some ⟨B.q,0,none⟩)):=HS1.out.cell 0
 go_wp2_with fail
 refine (degraded_ok HM1.out).mono ?_
 rintro e w2 ⟨rfl,rfl⟩
 have q0:=HM1.out.cells.1
 obtain ⟨A2,c2,hl,_,_⟩:=HM1.out.log.log
 have HL:=hI hl
 clear hl
 go_wp2_with fail
 refine (log_super HL.out).mono ?_
 rintro e w3 ⟨rfl,rfl⟩
 obtain ⟨_,_,R,hs,_,_⟩:=HL.out
 go_wp2_with fail
 refine (get_any hs).mono ?_
 rintro e w4 ⟨rfl,hb4⟩
 clear hs s0 q0
 obtain ⟨w5,hw5⟩:∃ w5,w5=w4.alloc (.cells #[.int .i64 s.a,.int .i64 s.b,.int .u64 s.g,.int .u64 s.r,.int .u64 s.v,.int .u64 s.f] 115):=⟨_,rfl⟩
 have hb5:Below w3.heap.size w3 w5:=by rw[hw5]; exact hb4.alloc hb4.size _
 have HK5:=hI (show Blk w5 w4.heap.size 115 #[.int .i64 s.a,.int .i64 s.b,.int .u64 s.g,.int .u64 s.r,.int .u64 s.v,.int .u64 s.f] by rw[hw5]; exact Blk.new w4 _ _)
 have HM5:=hI (HM1.out.grow hb5)
 have HS5:=hI (HS1.out.below hb5 HS1.out.lt)
 have HE5:=hI (HE1.out.below hb5 HE1.out.lt)
 have HB5:=hI (HB1.out.trans (hb5.mono HB1.out.size))
 have HZ5:=hI (And.intro HB1.out.size (And.intro hb4.size HK5.out.lt))
 have HW5:=hI hw5
 clear hb4 hb5 hw5
 go_upto_region 6 with fail
 rw[← HW5.out]
 have k5:w5.cell? ⟨w4.heap.size,5,none⟩=some (.int .u64 s.f):=HK5.out.cell 5
 by_cases hle:q≤s.f
 ·have HLE:=hI hle
  have e0:w5.cell? ⟨w.heap.size+1,0,none⟩=some (.int .i64 0):=HE5.out.cell 0
  have e9:=HE5.out.frozen 0
  go_wp2_with fail
  have hkb:Kept (fun b=>b≠w.heap.size+1) w5 (w5.setCell ⟨w.heap.size+1,0,none⟩ (.int .i64 0)):=(Kept.refl _ _).setCell (p:=⟨w.heap.size+1,0,none⟩) (fun h=>h rfl) _
  have h1:=HE1.out.lt
  refine ⟨.int .i64 0,?_,rfl,(Kept.of_below HB5.out HX.out).trans hkb (fun b hb=>by have:=HX.out b hb; omega),.inl ⟨HLE.out,(HM5.out.offX hkb (fun b _ hn=>fun e=>hn (.inl (.inr ⟨by omega,by omega⟩)))).less (fun b hb=>.inl (.inl hb))⟩⟩
  have c6:(w5.setCell ⟨w.heap.size+1,0,none⟩ (.int .i64 0)).cell? ⟨w.heap.size+1,0,none⟩=some (.int .i64 0):=(HE5.out.set_ 0 (.int .i64 0)).cell 0
  simp[results,Tryz.f34,go_sem,c6]
 ·have HLE:=hI hle
  have k9:=HK5.out.frozen 5
  go_upto_region 10 with fail
  clear k5 k9
  obtain ⟨w6,hw6⟩:∃ w6,w6=w5.setCell ⟨w4.heap.size,5,none⟩ (.int .u64 q):=⟨_,rfl⟩
  rw[← hw6]
  have hk6:Kept (fun b=>b≠w4.heap.size) w5 w6:=by rw[hw6]; exact (Kept.refl _ _).setCell (p:=⟨w4.heap.size,5,none⟩) (fun h=>h rfl) _
  have HK6:=hI (show Blk w6 w4.heap.size 115 #[.int .i64 s.a,.int .i64 s.b,.int .u64 s.g,.int .u64 s.r,.int .u64 s.v,.int .u64 q] by rw[hw6]; exact HK5.out.set_ 5 (.int .u64 q))
  clear hw6
  obtain ⟨Z,hZ⟩:∃ Z:Nat→Prop,Z=fun b=>(X b∨(w.heap.size≤b∧b<w3.heap.size))∨(w3.heap.size≤b∧b<w5.heap.size):=⟨_,rfl⟩
  have HZD:=hI (show ∀ b,(X b∨(w.heap.size≤b∧b<w5.heap.size))→Z b by
   intro b hb
   rw[hZ]
   rcases hb with hb | ⟨h1,h2⟩
   ·exact .inl (.inl hb)
   ·rcases Nat.lt_or_ge b w3.heap.size with h | h
    ·exact .inl (.inr ⟨h1,h⟩)
    ·exact .inr ⟨h,h2⟩)
  have HM5Z:=HM5.out
  rw[← hZ] at HM5Z
  have hz:=HZ5.out
  have HM6:=hI (HM5Z.offX hk6 (fun b _ hn=>fun e=>hn (HZD.out b (.inr ⟨by omega,by omega⟩))))
  have h1:=HE1.out.lt
  have HS6:=hI (HS5.out.kept hk6 (by omega))
  have HE6:=hI (HE5.out.kept hk6 (by omega))
  have HKX6:=hI (show Kept X w w6 from (Kept.of_below HB5.out HX.out).trans hk6 (fun b hb=>by have:=HX.out b hb; omega))
  have HX0:=hI (show ∀ b,X b→Z b from fun b hb=>HZD.out b (.inl hb))
  have HZE:=hI (show Z (w.heap.size+1)∧Z w.heap.size from ⟨HZD.out _ (.inr ⟨by omega,by omega⟩),HZD.out _ (.inr ⟨by omega,by omega⟩)⟩)
  have HLT1:=hI h1
  clear hZ HM5Z hz hk6 h1 HM5 HS5 HE5 HK5 HW5 HZ5
  refine wp_region_noPanic ?_
  refine Tillst.region (fun W=>Below w6.heap.size w6 W) [7,8] (by kernel_rfl) ((Below.refl _ _).drew) (fun hė=>?_)
  generalize w6.drew=vd at *
  refine Tillst.takeG (i:=0) (oi:=fl0) (v:=?_) rfl (by kernel_rfl) (by kernel_rfl) (by kernel_rfl) (by kernel_rfl) (by kernel_rfl) (fun _ _ _ h=>h) (by rfl) ?_ hė ?_
  rotate_left
  ·intro W hSW; have h9:W.cell? ⟨w.heap.size,0,none⟩=some (.pointer (some ⟨B.q,0,none⟩)):=(HS6.out.below hSW HS6.out.lt).cell 0; clear hSW; unfold fl0; go_simp; with_reducible rfl
  simp only[fl0,Act.put,sA,sZ,sS]
  refine Tillst.takeG (i:=1) (oi:=fl1) (v:=?_) rfl (by kernel_rfl) (by kernel_rfl) (by kernel_rfl) (by kernel_rfl) (by kernel_rfl) (fun _ _ _ h=>h) (by rfl) ?_ hė ?_
  rotate_left
  ·intro W hSW; unfold fl1; go_simp; with_reducible rfl
  simp only[fl1,Act.put,sA,sZ,sS]
  refine Tillst.takeG (i:=2) (oi:=fl2) (v:=?_) rfl (by kernel_rfl) (by kernel_rfl) (by kernel_rfl) (by kernel_rfl) (by kernel_rfl) (fun _ _ _ h=>h) (by rfl) ?_ hė ?_
  rotate_left
  ·intro W hSW; unfold fl2; go_simp; with_reducible rfl
  simp only[fl2,Act.put,sA,sZ,sS]
  refine Tillst.takeG (i:=3) (oi:=fl3) (v:=?_) rfl (by kernel_rfl) (by kernel_rfl) (by kernel_rfl) (by kernel_rfl) (by kernel_rfl) (fun _ _ _ h=>h) (by rfl) ?_ hė ?_
  rotate_left
  ·intro W hSW; unfold fl3; go_simp; with_reducible rfl
  simp only[fl3,Act.put,sA,sZ,sS]
  refine Tillst.takeG (i:=4) (oi:=fl4) (v:=?_) rfl (by kernel_rfl) (by kernel_rfl) (by kernel_rfl) (by kernel_rfl) (by kernel_rfl) (fun _ _ _ h=>h) (by rfl) ?_ hė ?_
  rotate_left
  ·intro W hSW; have h9:=(HM6.out.below hSW).cells.1; clear hSW; unfold fl4; go_simp; with_reducible rfl
  simp only[fl4,Act.put,sA,sZ,sS]
  refine Tillst.takeG (i:=6) (oi:=fl6) (v:=.agg #[.int .i64 s.a,.int .i64 s.b,.int .u64 s.g,.int .u64 s.r,.int .u64 s.v,.int .u64 q]) rfl (by kernel_rfl) (by kernel_rfl) (by kernel_rfl) (by kernel_rfl) (by kernel_rfl) (fun _ _ _ h=>h) (by rfl) ?_ hė ?_
  ·intro W hSW; have h9:=HK6.out.below hSW HK6.out.lt; have c0:=h9.cell 0; have c1:=h9.cell 1; have c2:=h9.cell 2; have c3:=h9.cell 3; have c4:=h9.cell 4; have c5:=h9.cell 5; clear hSW h9; simp only[List.getElem?_toArray,List.getElem?_cons_zero,List.getElem?_cons_succ] at c0 c1 c2 c3 c4 c5; unfold fl6; go_simp
  simp only[fl6,Act.put,sA,sZ,sS]
  refine tO 5 fl5 ?_
  intro K hK
  obtain ⟨A3,c3,hl,_,_⟩:=(HM6.out.below hė).log.log
  refine step_call 11 #[.tmp 30] #[24] rfl rfl Tryz.func11 rfl rfl [.pointer (some ⟨B.l,0,none⟩)] rfl ((log_super hl).mono ?_)
  rintro e v2 ⟨rfl,rfl⟩
  refine ⟨_,rfl,?_⟩
  simp only[fl5,Act.put,sA,sZ,sS]
  refine hK.out _ _ (fun _=>hė) (fun hė=>?_)
  replace hė:=hė (by decide)
  clear hK K hl
  have HM7:=hI (HM6.out.below hė)
  have HS7:=hI (HS6.out.below hė HS6.out.lt)
  have HE7:=hI (HE6.out.below hė HE6.out.lt)
  have HKX7:=hI (HKX6.out.trans (Kept.of_below (S:=X) hė (fun b hb=>nL (HX.out b hb) HKX6.out.size)) (fun b h=>h))
  have hle2:=HLE.out
  have hpe:=HPE.out
  refine tO 7 fl7 ?_
  intro K hK
  refine step_call 61 #[.tmp 31,.tmp 32] #[45,115] rfl rfl Tryz.func61 rfl rfl [.pointer (some ⟨B.p,0,none⟩),.agg (supC s.a s.b s.g s.r s.v q)] rfl ((lg_setF HM7.out.log HM7.out.ylt hpe.1 (q:=q) (by omega) hpe.2).mono ?_)
  rintro e w8 ⟨rfl,hlg,R,hR,hk8⟩
  refine ⟨_,rfl,?_⟩
  simp only[fl7,Act.put,sA,sZ,sS]
  have hm8:=HM7.out.logTo2 hk8 (fun b hb=>.inl (.inr hb)) (fun b hb=>hb) HM7.out.off (fun b hb=>nL (HM7.out.lt b hb) hk8.size) hlg rfl (HM7.out.inv.go (fun a' bs' h=>fl_at HM7.out.log.good h))
  have HM8:=hI hm8
  have HS8:=hI (HS7.out.kept hk8 (.inl (.inl HZE.out.2)))
  have HE8:=hI (HE7.out.kept hk8 (.inl (.inl HZE.out.1)))
  have HKX8:=hI (HKX7.out.trans hk8 (fun b hb=>.inl (.inl (HX0.out b hb))))
  clear hm8 hlg hR hk8 hle2 hpe
  refine hK.out _ _ (fun h=>by cases h) (fun _=>?_)
  clear hK K hė
  refine tO 8 fl8 ?_
  intro K hK
  have e8:w8.cell? ⟨w.heap.size+1,0,none⟩=some (.int .i64 0):=HE8.out.cell 0
  have e9:=HE8.out.frozen 0
  go_simp
  clear e8 e9
  refine hK.out _ _ (fun h=>by cases h) (fun _=>?_)
  clear hK K
  refine Tillst.done (by kernel_rfl) ?_ _
  refine NoPanic.normal ?_
  obtain ⟨w9,hw9⟩:∃ w9,w9=w8.setCell ⟨w.heap.size+1,0,none⟩ (.int .i64 0):=⟨_,rfl⟩
  have hk9:Kept (fun b=>b≠w.heap.size+1) w8 w9:=by rw[hw9]; exact (Kept.refl _ _).setCell (p:=⟨w.heap.size+1,0,none⟩) (fun h=>h rfl) _
  have HE9:=hI (show Blk w9 (w.heap.size+1) 36 #[.int .i64 0] by rw[hw9]; exact HE8.out.set_ 0 (.int .i64 0))
  rw[← hw9]
  clear hw9
  have HM9:=hI (HM8.out.offX hk9 (fun b _ hn=>fun e=>hn (e▸HZE.out.1)))
  have HS9:=hI (HS8.out.kept hk9 (by omega))
  have HKX9:=hI (HKX8.out.trans hk9 (fun b hb=>by have:=HX.out b hb; omega))
  clear hk9
  go_wp2_with fail
  refine leaves_cons (f:=97) (args:=#[.pointer (some ⟨w.heap.size+1,0,none⟩),.pointer (some ⟨w.heap.size,0,none⟩)]) (by simp) (by simp[go_sem]) ?_
  refine (flushD_ok HM9.out HE9.out HS9.out).mono ?_
  rintro e u' w10 ⟨rfl,rfl,rfl⟩
  refine ⟨.int .i64 0,?_,rfl,HKX9.out,.inr ⟨by have:=HLE.out; omega,HM9.out.less HX0.out⟩⟩
  have c6:=HE9.out.cell 0
  simp[results,Tryz.f34,go_sem,c6]
end
end
end Go.Proofs.YtdkbpchmnhbhcaaGreat
