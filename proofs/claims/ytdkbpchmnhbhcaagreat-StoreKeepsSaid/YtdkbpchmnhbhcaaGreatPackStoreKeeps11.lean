/- Texts of StoreKeeps, packed. -/
import Derived.Test.YtdkbpchmnhbhcaaGreatPackStoreKeeps10
import Derived.Great.BuildSlice
import Derived.Laws.CopyRow
import Derived.Laws.CopyOwn
import Derived.OwnWalk
import Derived.Lib.Hide
import Derived.Deep.OwnRows
import Derived.WalkMore
import Derived.Deep.LoopGhost
set_option linter.unusedVariables false
set_option linter.unusedSimpArgs false
set_option maxRecDepth 100000
set_option maxHeartbeats 16000000
namespace Go.Proofs.YtdkbpchmnhbhcaaGreat
open Go.RowKit
section
open Go.RowKit Go.Shelf
attribute [local go_sem] Oper.semAt_some
theorem Ka (A:Option Addr) (f:Nat) (w:World) :
 Calls Tryz.prog 150 #[.pointer A,.int .u32 f] w fun e w'=>∃ gx gf,(w.heap.size≤gx∧gx<w'.heap.size∧w.heap.size≤gf∧gf<w'.heap.size)∧e=.returned (.func (.func 195) #[] #[.pointer (some ⟨gx,0,none⟩),.pointer (some ⟨gf,0,none⟩)]) ∧
  z8 w' gx 130 #[.pointer A]∧z8 w' gf 29 #[.int .u32 f]∧Below w.heap.size w w':=by
 go_enter Tryz.func150,Tryz.ntmps150
 go_wp2
 go_ret
 refine ⟨_,_,⟨?_,?_,?_,?_⟩,rfl,(z8.new w _ _).alloc _,?_,((Below.refl _ w).alloc (nR _) _).alloc (by simp) _⟩
 ·simp
 ·simp; omega
 ·simp
 ·simp
 have h:=z8.new (w.alloc (.cells #[.pointer A] 130)) 29 #[.int .u32 f]
 simpa using h
def Zy (c:Nat→Int) (k:Nat):List Value:=[.int .i64 (c (1027+k*3)),.int .u64 (c (1027+k*3+1)),.int .i64 (c (1027+k*3+2))]
def gF (a:Int × Int × Int):List Value:=[.int .i64 a.1,.int .u64 a.2.1,.int .i64 a.2.2]
theorem LG {w:World} {x f g:Nat} {c:Nat→Int} {C T:List Nat} (h:jO w x c) (hg:f % 1024=g) (hC:Lk 4102 c (c (5127+g)) C) (hT:T=C.filter (fun k=>c (2+k)=(f:Int))) (a:Int × Int × Int) :
 Calls Tryz.prog 188 #[.pointer (some ⟨x,0,none⟩),.int .u32 f,.agg (gF a).toArray] w fun e w' =>
  ((∃ i,i<T.length∧e=.returned (.int .i64 (T.getD i 0:Nat))∧Zy c (T.getD i 0)=gF a)∨(e=.returned (.int .i64 0)∧∀ i,i<T.length→Zy c (T.getD i 0)≠gF a))∧Below w.heap.size w w':=by
 obtain ⟨a0,a1,a2⟩:=a
 have hxl:=h.lt
 have HX:=hI h
 have HC:=hI hC
 have HT:=hI hT
 have HG:=hI hg
 have UE:∀ i,i<T.length→1≤T.getD i 0∧T.getD i 0<1025:=fun i hi=>by
  have hm:T.getD i 0∈T:=by simp[List.getD,List.getElem?_eq_getElem hi]
  have h2:T.getD i 0∈C:=by
   have h3:∀ k,k∈T→k∈C:=fun k hk=>by rw[hT] at hk; exact (List.mem_filter.1 hk).1
   exact h3 _ hm
  exact hC.mem _ h2
 have HTM:=hI UE
 clear h hC hT hg UE
 obtain ⟨w3,hw3⟩:∃ w3,w3=((w.alloc (.cells #[.pointer (some ⟨x,0,none⟩)] 130)).alloc (.cells #[.int .i64 a0,.int .u64 a1,.int .i64 a2] 35)).alloc (.cells #[.int .i64 0] 3):=⟨_,rfl⟩
 have HW3:=hI hw3
 have HB3:=hI (show Below w.heap.size w w3 by rw[hw3]; exact (((Below.refl _ w).alloc (nR _) _).alloc (by simp) _).alloc (by simp; omega) _)
 have yG:=hI (show w3.heap.size=w.heap.size+3 by rw[hw3]; simp)
 have pQ:=hI (show z8 w3 w.heap.size 130 #[.pointer (some ⟨x,0,none⟩)] by rw[hw3]; exact ((z8.new w _ _).alloc _).alloc _)
 have jh:=hI (show z8 w3 (w.heap.size+1) 35 #[.int .i64 a0,.int .u64 a1,.int .i64 a2] by rw[hw3]; have h:=(z8.new (w.alloc (.cells #[.pointer (some ⟨x,0,none⟩)] 130)) 35 #[.int .i64 a0,.int .u64 a1,.int .i64 a2]).alloc (.cells #[.int .i64 0] 3); simpa using h)
 have yI:=hI (show z8 w3 (w.heap.size+1+1) 3 #[.int .i64 0] by rw[hw3]; have h:=z8.new ((w.alloc (.cells #[.pointer (some ⟨x,0,none⟩)] 130)).alloc (.cells #[.int .i64 a0,.int .u64 a1,.int .i64 a2] 35)) 3 #[.int .i64 0]; simpa using h)
 have HH:=hI (Ka (some ⟨x,0,none⟩) f w3)
 rw[hw3] at HH
 clear hw3
 refine (callsIn_wide (n:=5)).1 ?_
 refine callsIn_of_wp_marks Tryz.func188 rfl trivial ?_ rfl
 simp only[Tryz.ntmps188,List.size_toArray,List.length_cons,List.length_nil,Nat.reduceAdd,Nat.reduceSub,Array.replicate_succ,Array.replicate_zero,List.push_toArray,List.append_toArray,List.nil_append,List.cons_append]
 gi_wp2_with (refine ⟨trivial,?_⟩; gi_at_call 150; refine (callsIn_wide.2 HH.out).mono ?_; rintro e w5 ⟨gx,gf,hgg,rfl,bx,bf,hb5⟩)
 rw[← HW3.out] at hgg hb5
 obtain ⟨hg1,hg2,hg3,hg4⟩:=hgg
 have hs3:=yG.out
 have hs5:=hb5.size
 have hk0:=pQ.out.below hb5 pQ.out.lt
 have hk1:=jh.out.below hb5 jh.out.lt
 have hk2:=yI.out.below hb5 yI.out.lt
 have qM:=hI (HB3.out.trans (hb5.mono (by omega)))
 refine GX rfl (by omega) (gf:=195) (lb:=#[.pointer (some ⟨gx,0,none⟩),.pointer (some ⟨gf,0,none⟩)]) rfl trivial (enters_of Tryz.func195 (by kernel_rfl) rfl)
  (encs:=fun i=>#[.int .i64 (T.getD i 0:Nat)]) (N:=T.length) (M:=fun _ V=>jO V x c∧z8 V gx 130 #[.pointer (some ⟨x,0,none⟩)]∧z8 V gf 29 #[.int .u32 f])
  (KZ 4 gx gf x f g c C T HG.out HC.out HT.out _ (fun i V hV=>⟨hV.1,hV.2.1.cell 0,hV.2.2.cell 0⟩)) (fun _=>rfl)
  (fun i V=>(((z8 V w.heap.size 130 #[.pointer (some ⟨x,0,none⟩)]∧z8 V (w.heap.size+1) 35 #[.int .i64 a0,.int .u64 a1,.int .i64 a2])∧z8 V (w.heap.size+1+1) 3 #[.int .i64 0])∧z8 V gx 130 #[.pointer (some ⟨x,0,none⟩)]∧z8 V gf 29 #[.int .u32 f])∧Below w.heap.size w V∧∀ j,j<i→Zy c (T.getD j 0)≠gF (a0,a1,a2))
  (fun cd i V=>(cd=.ret∧Zy c (T.getD i 0)=gF (a0,a1,a2))∧z8 V (w.heap.size+1+1) 3 #[.int .i64 (T.getD i 0:Nat)]∧Below w.heap.size w V)
  (OwnFrom.and (OwnFrom.and (OwnFrom.and (OwnFrom.and (Own.from (vC _ _ _) _) (Own.from (vC _ _ _) _)) (Own.from (vC _ _ _) _)) (OwnFrom.and (Own.from (vC _ _ _) _) (Own.from (vC _ _ _) _))) (OwnFrom.and (ownFrom_below (nR _) qM.out.size) (YM _)))
  (fun cd=>OwnFrom.and (YM _) (OwnFrom.and (Own.from (vC _ _ (fun i=>#[.int .i64 (T.getD i 0:Nat)])) _) (ownFrom_below (nR _) qM.out.size)))
  ⟨⟨⟨⟨hk0,hk1⟩,hk2⟩,bx,bf⟩,qM.out,fun j hj=>absurd hj (by omega)⟩
  (fun i V hV=>⟨HX.out.below hV.2.1 hxl,hV.1.2.1,hV.1.2.2⟩)
  (fun i a' W=>a'={ tmps:=#[.pointer (some ⟨x,0,none⟩),.int .u32 f,.agg (gF (a0,a1,a2)).toArray,.pointer (some ⟨w.heap.size,0,none⟩),undef,.pointer (some ⟨w.heap.size+1,0,none⟩),.pointer (some ⟨w.heap.size+1+1,0,none⟩),.int .i64 (T.getD i 0:Nat),.pointer (some ⟨x,0,none⟩),.int .u32 f,.func (.func 195) #[] #[.pointer (some ⟨gx,0,none⟩),.pointer (some ⟨gf,0,none⟩)],.int .i64 (T.getD i 0:Nat),undef,undef,undef,undef,undef,undef,undef,undef,undef],defers:=[] })
  (fun i a' _ X Y row hs hg hr=>hs)
  ?assign ?body ?done ?stop
 case assign =>
  rintro l i W K hi hI hK
  clear hi
  obtain ⟨k,hk⟩:∃ k,T.getD i 0=k:=⟨_,rfl⟩
  rw[hk] at hK ⊢
  gi_wp2
  exact hK _ _ (KeepsFrom.refl _ _) hI rfl
 case body =>
  rintro l i a' W hi hl ⟨r,hr⟩ ⟨⟨⟨⟨h0,h1⟩,h2⟩,h3,h4⟩,hB,hj⟩ rfl
  obtain ⟨hk1,hk2⟩:=HTM.out i hi
  clear hi
  obtain ⟨k,hk⟩:∃ k,T.getD i 0=k:=⟨_,rfl⟩
  rw[hk] at hk1 hk2 ⊢
  have hX:=HX.out.below hB hxl
  have c0:=h0.cell 0
  have x0:=hX.adr0 hk2
  have x1:=hX.adr1 hk2
  have x2:=hX.adr2 hk2
  have y0:=h1.cell 0
  have y1:=h1.cell 1
  have y2:=h1.cell 2
  have z0:=h2.cell 0
  have hq:=Hr (c (1027+k*3)) (c (1027+k*3+1)) (c (1027+k*3+2)) a0 a1 a2
  obtain ⟨t,ht⟩:∃ t,decide ((c (1027+k*3),c (1027+k*3+1),c (1027+k*3+2))=(a0,a1,a2))=t:=⟨_,rfl⟩
  rw[ht] at hq
  have HT:=hI ht
  clear ht
  have zf:=h2.frozen 0
  gi_wp2
  refine BO (by kernel_rfl) (by kernel_rfl) (by kernel_rfl) ?_
  repeat (gi_big_quiet_step (fail))
  refine wpQuietIn_nil ?_
  intro _ hw'
  obtain ⟨nq,hw''⟩:=hw'
  subst hw''
  cases t
  ·gi_wp2
   refine ⟨(QT W nq).from _,⟨⟨⟨h0.drewN nq,h1.drewN nq⟩,h2.drewN nq⟩,h3.drewN nq,h4.drewN nq⟩,below_drewN hB nq,fun j hj2=>?_⟩
   by_cases e:j<i
   ·exact hj j e
   ·obtain rfl:j=i:=by omega
    rw[hk]
    intro e
    have h9:=of_decide_eq_false HT.out
    refine h9 ?_
    simp only[Zy,gF,List.cons.injEq,Value.int.injEq] at e
    simp only[Prod.mk.injEq]
    exact ⟨e.1.2,e.2.1.2,e.2.2.1.2⟩
  ·gi_wp2
   refine ⟨((QT W nq).trans (KeepsOthers.setCell _ _ _)).from _,⟨rfl,?_⟩,?_,(below_drewN hB nq).setCell (p:=⟨w.heap.size+1+1,0,none⟩) (by simp; omega) _⟩
   ·have h9:=of_decide_eq_true HT.out
    simp only[Prod.mk.injEq] at h9
    rw[hk]
    simp[Zy,gF,h9.1,h9.2.1,h9.2.2]
   ·rw[hk]
    exact (h2.drewN nq).set_ 0 (.int .i64 (k:Nat))
 case done =>
  rintro D W hD ⟨⟨⟨⟨h0,h1⟩,h2⟩,h3,h4⟩,hB,hj⟩ hK
  have f2:=h2.frozen 0
  have c2:W.cell? ⟨w.heap.size+1+1,0,none⟩=some (.int .i64 0):=h2.cell 0
  gi_wp2
  have hK':=(KeepsOthers.setCell W ⟨w.heap.size+1+1,0,none⟩ (.int .i64 0)).same D _ hK rfl
  refine ⟨by simp,.inl ⟨_,_,rfl,run_takeDeferred hK',?_⟩⟩
  have hd2:=(h2.set_ 0 (.int .i64 0)).cell 0
  have hc2:=cell_kept (v:=.int .i64 0) hd2 (grownBy_putObj' _ D (.deferred none)) (fun r e=>by cases e; exact ⟨_,hK',rfl⟩)
  refine ⟨.int .i64 0,?_,.inr ⟨rfl,hj⟩,(hB.setCell (p:=⟨w.heap.size+1+1,0,none⟩) (by simp; omega) _).trans (belowK_b (w:=w) (nR _) _ D _ _ (nT qM.out.size hD) hK' rfl rfl)⟩
  simp[results,Tryz.f188,go_sem,hc2]
 case stop =>
  rintro D cd i W hD hi ⟨⟨rfl,he⟩,h2,hB⟩ hK
  have c2:W.cell? ⟨w.heap.size+1+1,0,none⟩=some (.int .i64 (T.getD i 0:Nat)):=h2.cell 0
  gi_wp2
  refine ⟨by simp,.inl ⟨_,_,rfl,run_takeDeferred hK,?_⟩⟩
  have hc2:=cell_kept c2 (grownBy_putObj' _ D (.deferred none)) (fun r e=>by cases e; exact ⟨_,hK,rfl⟩)
  refine ⟨.int .i64 (T.getD i 0:Nat),?_,.inl ⟨i,hi,rfl,he⟩,hB.trans (belowK_b (w:=w) (nR _) W D _ _ (nT qM.out.size hD) hK rfl rfl)⟩
  simp[results,Tryz.f188,go_sem,hc2]
end
section
attribute [local go_sem] Oper.semAt_some
def zJS:Value→Nat
 | .pointer (some a)=>a.off
 | _=>0
theorem NW {w:World} {x:Nat} {c:Nat→Int} (h:jO w x c) (k f g:Nat) (pre post:List Nat) (hk:k<1025) (hc:c (2+k)=f) (hg:f % 1024=g) (hC:Lk 4102 c (c (5127+g)) (pre++k::post)) (hn:(pre++k::post).Nodup) :
 Calls Tryz.prog 214 #[.pointer (some ⟨x,0,none⟩),.int .i64 k] w fun e w'=>e=.returned (.tuple #[])∧jO w' x (upd c (kX 4102 (5127+g) pre) (c (4102+k)))∧Kept (·≠x) w w':=by
 have hg':g<1024:=by omega
 have h1:=h.fing (i:=k) hk
 rw[hc] at h1
 have h2:=h.hi (i:=4102+k) (by omega) (by omega)
 obtain ⟨vk,hvk⟩:∃ v,c (4102+k)=v:=⟨_,rfl⟩
 rw[hvk] at h2 ⊢
 have HVK:=hI hvk
 have HX:=hI h
 have HC:=hI hC
 have HN:=hI hn
 have HM:=hI hC.mem
 have HH:=hI (fun (W:World)=>by have:=Ya f W; rw[hg] at this; exact this)
 clear h hc hC hn hvk hg
 go_enter Tryz.func214,Tryz.ntmps214
 go_wp2_with fail
 go_quiet ((go_at_call 196; exact Calls.quiet_of_same (HH.out _)))
 go_wp2
 go_loopw [4] (fun i wr=>∃ (a b:List Nat),pre=a++b∧i=.pointer (some ⟨x,kX 4102 (5127+g) a,none⟩)∧jO wr x c∧Kept (·≠x) w wr)
  (fun i _=>iA 4102 c (c (zJS i)))
 case atStart=>exact ⟨[],pre,rfl,rfl,HX.out,(Kept.refl _ w).drewN _⟩
 case round =>
  obtain ⟨a,b,hab,rfl,hXr,hKr⟩:=hrel
  have JZ:=hI hXr
  have HKR:=hI hKr
  clear hXr hKr
  have hL:=HC.out
  rw[hab,List.append_assoc] at hL
  have hB:=hL.behind
  have hlen:=hB.len
  obtain ⟨p,hp⟩:∃ p,kX 4102 (5127+g) a=p:=⟨_,rfl⟩
  have hpr:4102≤p∧p<8202:=by
   rcases oF 4102 (5127+g) a with e | ⟨j,hj,e⟩
   ·omega
   ·have:=HM.out j (by rw[hab]; simp[hj])
    omega
  rw[hp] at hB hlen ⊢
  have c1:=JZ.out.hi hpr.1 hpr.2
  have f1:=JZ.out.frozen p
  cases b with
  | nil =>
   have e1:c p=k:=hB.1
   rw[e1] at c1
   have HAB:=hI (show kX 4102 (5127+g) pre=p by rw[hab,List.append_nil]; exact hp)
   have c2:wr.cell? ⟨x,4102+k,none⟩=some (.int .i64 vk):=by rw[← HVK.out]; exact JZ.out.hi (by omega) (by omega)
   clear hL hB hlen hab hp e1
   go_wp2
   go_end0
   refine ⟨rfl,?_,?_⟩
   ·rw[HAB.out]
    exact JZ.out.set (kK hpr.1) vk
   ·exact HKR.out.setCell (by simp) _
  | cons j b =>
   have e1:c p=j:=hB.1
   have hj1:1≤j:=hB.2.1
   have hj2:j<1025:=hB.2.2.1
   have f4:=JZ.out.frozen (4102+j)
   have hne:j≠k:=by
    rintro rfl
    have:=HN.out
    rw[hab,List.append_assoc,List.nodup_append] at this
    have:=(List.nodup_cons.1 this.2.1).1
    simp at this
   rw[e1] at c1
   have hq:((j:Int) != (k:Int))=true:=by simp; omega
   have HE:=hI (JQ 4102 (5127+g) j a)
   have HAB:=hI (show pre=(a++[j])++b by rw[hab]; simp)
   have HL2:=hI (hB.2.2.2.len)
   have lM:=hI hlen
   clear hL hB hlen hab hp e1
   go_wp2
   go_quiet (fail)
   go_roundw
   case rel=>exact ⟨_,_,_,_,_,_,_,_,_,_,_,_,_,⟨a++[j],b,HAB.out,by rw[HE.out],JZ.out.drewN _,HKR.out.drewN _⟩,rfl⟩
   case measure=>show iA 4102 c (c (4102+j))<iA 4102 c (c p); rw[lM.out,HL2.out]; simp
end
section
attribute [local go_sem] Oper.semAt_some
theorem AA {w:World} {x:Nat} {c:Nat→Int} {slots:Nat} {L fr pre post:List Nat} {k f g p b d:Nat} (h:jO w x c) (hr:kY c slots L fr) (ho:Kz c L pre post k g p b d) :
 Calls Tryz.prog 189 #[.pointer (some ⟨x,0,none⟩),.int .i64 k] w fun e w'=>e=.returned (.tuple #[])∧jO w' x (xW c k p b d)∧Kept (·≠x) w w':=by
 have Xh:k∈L:=by rw[ho.eL]; simp
 obtain ⟨hk1,hk2⟩:=hr.memL Xh
 have hgk:c (2+k) % 1024=(g:Int):=by simpa [ko] using ho.eg
 obtain ⟨f0,f1⟩:=hr.fin k Xh
 obtain ⟨f,hf⟩:∃ f:Nat,c (2+k)=f:=⟨(c (2+k)).toNat,by omega⟩
 have hg':g<1024:=by omega
 have hch:=hr.ch g hg'
 rw[ho.eL,vI ho.eg] at hch
 have hnd:(((post.filter (ko c g)).reverse)++k::(pre.filter (ko c g)).reverse).Nodup:=by
  have h2:=(List.reverse_perm _).nodup_iff.2 (List.Pairwise.filter (ko c g) hr.ndL)
  rw[ho.eL,vI ho.eg] at h2
  exact h2
 have hU:=NW h k f g _ _ hk2 hf (by omega) hch hnd
 rw[← ho.ep] at hU
 have hpr:4102<p∧p<6151∧p≠4102+k:=by
  rw[ho.ep]
  rcases oF 4102 (5127+g) ((post.filter (ko c g)).reverse) with e | ⟨j,hj,e⟩
  ·omega
  ·have hjp:=(List.mem_filter.1 (List.mem_reverse.1 hj)).1
   have hjL:j∈L:=by rw[ho.eL]; simp[hjp]
   have:=hr.memL hjL
   have:j≠k:=by
    rintro rfl
    have:=hr.ndL
    rw[ho.eL,List.nodup_append] at this
    exact (List.nodup_cons.1 this.2.1).1 hjp
   omega
 have hb:b<1025:=by
  rcases ho.b2 with e | hm
  ·omega
  ·exact (hr.memL (by rw[ho.eL]; simp[hm])).2
 have hd:d<1025:=by
  rcases ho.d2 with e | hm
  ·omega
  ·exact (hr.memL (by rw[ho.eL]; simp[hm])).2
 have HL:=hI (fun (W:World) (hX:jO W x (upd c p (c (4102+k))))=>TT hX k b d hk2 hb hd (by rw[zX _ _ (by omega)]; exact ho.eb) (by rw[zX _ _ (by omega)]; exact ho.ed))
 have HU:=hI hU
 have hn:=hr.n
 have hall:=hr.all
 have htop:=hr.top
 have hc1:xW c k p b d 1=c 1-1:=by simp (disch:=omega) only[xW,upd_same,zX]
 have sw:=hI (show (upd (upd (upd (upd (upd (upd (upd (upd (upd c p (c (4102+k))) (6152+b) d) (7177+d) b) (2+k) 0) (1027+k*3) 0) (1027+k*3+1) 0) (1027+k*3+2) 0) (4102+k) ((upd (upd (upd (upd (upd (upd (upd c p (c (4102+k))) (6152+b) d) (7177+d) b) (2+k) 0) (1027+k*3) 0) (1027+k*3+1) 0) (1027+k*3+2) 0) 6151)) 6151 k) 1=(L.length:Int) by
  rw[← hn]; simp (disch:=omega) only[upd_same,zX])
 have hl:L.length≤1024:=by omega
 have hl0:0<L.length:=List.length_pos_of_mem Xh
 clear h hr ho hgk f0 f1 hf hch hnd hU hn hall htop hc1
 go_enter Tryz.func189,Tryz.ntmps189
 go_wp2_with fail
 refine HU.out.mono ?_
 rintro e w1 ⟨rfl,hx1,zGk⟩
 have hL:=HL.out _ hx1
 have jh:=hI zGk
 clear hx1 zGk
 go_wp2_with fail
 refine hL.mono ?_
 rintro e w2 ⟨rfl,hx2,zGj⟩
 have yI:=hI (jh.out.trans zGj (fun b h=>h))
 have dV:=hI hx2
 have a0:=hx2.fing hk2
 have a1:=hx2.adr0 hk2
 have a2:=hx2.adr1 hk2
 have a3:=hx2.adr2 hk2
 have b0:=hx2.frozen (2+k)
 have b1:=hx2.frozen (1027+k*3)
 have b2:=hx2.frozen (1027+k*3+1)
 have b3:=hx2.frozen (1027+k*3+2)
 clear hL hx2 zGj
 go_wp2_with fail
 go_region
 go_wp2_with fail
 have hx3:=((((dV.out.set (aL hk2) 0).set (aO hk2) 0).set (aN hk2) 0).set (aM hk2) 0).drew
 have yH:=hI (show Kept (·≠x) w ((((w2.setCell ⟨x,2+k,none⟩ (.int .u32 0)).setCell ⟨x,1027+k*3,none⟩ (.int .i64 0)).setCell ⟨x,1027+k*3+1,none⟩ (.int .u64 0)).setCell ⟨x,1027+k*3+2,none⟩ (.int .i64 0)).drew from
  ((((yI.out.setCell (by simp) _).setCell (by simp) _).setCell (by simp) _).setCell (by simp) _).drew)
 generalize ((((w2.setCell ⟨x,2+k,none⟩ (.int .u32 0)).setCell ⟨x,1027+k*3,none⟩ (.int .i64 0)).setCell ⟨x,1027+k*3+1,none⟩ (.int .u64 0)).setCell ⟨x,1027+k*3+2,none⟩ (.int .i64 0)).drew=w3 at *
 refine (PX hx3 k hk2).mono ?_
 rintro e w4 ⟨rfl,hx4,hk4⟩
 clear hx3 a0 a1 a2 a3 b0 b1 b2 b3
 have sW:=hI (yH.out.trans hk4 (fun b h=>h))
 have c4:=hx4.lo (i:=1) (by omega)
 rw[sw.out] at c4
 have f4:=hx4.frozen 1
 have nQ:=hI hx4
 clear hx4 hk4
 go_wp2_with fail
 (first | go_ret | go_ret2 | go_end0)
 refine ⟨rfl,?_,sW.out.setCell (by simp) _⟩
 have hx5:=nQ.out.set (i:=1) (k:=.i64) rfl ((L.length:Int)-1)
 show jO _ x (upd _ 1 (_-1))
 rw[sw.out]
 exact hx5
end
section
attribute [local go_sem] Oper.semAt_some
def gJ (w:World) (x slots:Nat) (es:List pU):Prop:=∃ c L fr,jO w x c∧kY c slots L fr∧L.map (jX c)=es
theorem gJ.kept {w w':World} {x slots:Nat} {es:List pU} {S:Nat→Prop} (h:gJ w x slots es) (hk:Kept S w w') (hS:S x):gJ w' x slots es:=by
 obtain ⟨c,L,fr,h1,h2,h3⟩:=h
 exact ⟨c,L,fr,h1.kept hk hS,h2,h3⟩
theorem gJ.below {w w':World} {x slots B:Nat} {es:List pU} (h:gJ w x slots es) (hk:Below B w w') (hx:x<B):gJ w' x slots es:=by
 obtain ⟨c,L,fr,h1,h2,h3⟩:=h
 exact ⟨c,L,fr,h1.below hk hx,h2,h3⟩
theorem gJ.lt {w:World} {x slots:Nat} {es:List pU} (h:gJ w x slots es):x<w.heap.size:=by
 obtain ⟨c,L,fr,h1,h2,h3⟩:=h
 exact h1.lt
theorem gJ.len {w:World} {x slots:Nat} {es:List pU} (h:gJ w x slots es):es.length≤slots∧slots≤1024:=by
 obtain ⟨c,L,fr,h1,h2,rfl⟩:=h
 have:=h2.all
 have:=h2.top
 simp; omega
theorem Ko {c:Nat→Int} {slots:Nat} {L fr:List Nat} (hr:kY c slots L fr) (f g:Nat) (hg:f % 1024=g) :
 ((L.filter (ko c g)).reverse).filter (fun k=>c (2+k)=(f:Int))=(L.filter (fun k=>c (2+k)=(f:Int))).reverse:=by
 rw[List.filter_reverse,List.filter_filter]
 congr 1
 refine List.filter_congr fun k hk=>?_
 by_cases e:c (2+k)=(f:Int)
 ·simp[e,ko]; omega
 ·simp[e]
theorem Wn {w:World} {x slots:Nat} {c:Nat→Int} {L fr:List Nat} (h:jO w x c) (hr:kY c slots L fr) (f:Nat) (a:Int × Int × Int) :
 Calls Tryz.prog 188 #[.pointer (some ⟨x,0,none⟩),.int .u32 f,.agg (gF a).toArray] w fun e w' =>
  (∃ k:Nat,e=.returned (.int .i64 k)∧((k∈L∧jX c k=((f:Int),a))∨(k=0∧((f:Int),a) ∉ L.map (jX c))))∧Below w.heap.size w w':=by
 have hT:=Ko hr f (f % 1024) rfl
 refine (LG h rfl (hr.ch (f % 1024) (by omega)) hT.symm a).mono ?_
 have hmem:∀ k,k∈(L.filter (fun k=>c (2+k)=(f:Int))).reverse↔k∈L∧c (2+k)=(f:Int):=fun k=>by simp
 have hent:∀ k,c (2+k)=(f:Int)→Zy c k=gF a→jX c k=((f:Int),a):=fun k h1 h2=>by
  obtain ⟨a0,a1,a2⟩:=a
  simp only[Zy,gF,List.cons.injEq,Value.int.injEq] at h2
  simp[jX,h1,h2.1.2,h2.2.1.2,h2.2.2.1.2]
 rintro e w' ⟨h1 | ⟨rfl,h1⟩,hb⟩
 ·obtain ⟨i,hi,rfl,ha⟩:=h1
  have hm:((L.filter (fun k=>c (2+k)=(f:Int))).reverse).getD i 0∈(L.filter (fun k=>c (2+k)=(f:Int))).reverse:=by
   simp only[List.getD,List.getElem?_eq_getElem hi,Option.getD_some]; exact List.getElem_mem hi
  obtain ⟨m1,m2⟩:=(hmem _).1 hm
  exact ⟨⟨_,rfl,.inl ⟨m1,hent _ m2 ha⟩⟩,hb⟩
 ·refine ⟨⟨0,rfl,.inr ⟨rfl,fun hm=>?_⟩⟩,hb⟩
  obtain ⟨k,hk,he⟩:=List.mem_map.1 hm
  have h2:c (2+k)=(f:Int):=congrArg (·.1) he
  obtain ⟨i,hi,hki⟩:=List.getElem_of_mem ((hmem k).2 ⟨hk,h2⟩)
  refine h1 i hi ?_
  simp only[List.getD,List.getElem?_eq_getElem hi,Option.getD_some,hki]
  obtain ⟨a0,a1,a2⟩:=a
  simp only[jX,Prod.mk.injEq] at he
  simp[Zy,gF,he.2.1,he.2.2.1,he.2.2.2]
def Zz (slots:Nat) (es:List pU) (e:pU):List pU × Int:=if e∈es then (es,5) else if es.length=slots then (es,6) else (es++[e],0)
theorem zHs {w:World} {x slots:Nat} {es:List pU} (h:gJ w x slots es) (f:Nat) (hf:f<4294967296) (a:Int × Int × Int) :
 Calls Tryz.prog 186 #[.pointer (some ⟨x,0,none⟩),.int .u32 f,.agg (gF a).toArray] w fun e w' =>
  e=.returned (.int .i64 (Zz slots es (f,a)).2)∧gJ w' x slots (Zz slots es (f,a)).1∧Kept (fun b=>b<w.heap.size∧b≠x) w w':=by
 obtain ⟨a0,a1,a2⟩:=a
 obtain ⟨c,L,fr,hx,hr,rfl⟩:=h
 have hxl:=hx.lt
 have HR:=hI hr
 obtain ⟨w1,hw1⟩:∃ w1,w1=w.alloc (.cells #[.int .i64 a0,.int .u64 a1,.int .i64 a2] 35):=⟨_,rfl⟩
 have HW1:=hI hw1
 have HB1:=hI (show Below w.heap.size w w1 by rw[hw1]; exact (Below.refl _ w).alloc (nR _) _)
 have jh:=hI (show z8 w1 w.heap.size 35 #[.int .i64 a0,.int .u64 a1,.int .i64 a2] by rw[hw1]; exact z8.new w _ _)
 have ql:=hI (show w1.heap.size=w.heap.size+1 by rw[hw1]; simp)
 have pJ:=hI (hx.below HB1.out hxl)
 have HP:=hI (Wn pJ.out hr f (a0,a1,a2))
 rw[hw1] at HP
 have hn:=hr.n
 have hs0:=hr.s0
 have htop:=hr.top
 have hall:=hr.all
 clear hx hw1 hr
 show Calls Tryz.prog 186 #[.pointer (some ⟨x,0,none⟩),.int .u32 f,.agg #[.int .i64 a0,.int .u64 a1,.int .i64 a2]] w _
 go_enter Tryz.func186,Tryz.ntmps186
 go_wp2_with fail
 refine HP.out.mono ?_
 rintro e w2 ⟨⟨v,rfl,hv⟩,hb2⟩
 rw[← HW1.out] at hb2
 have HB2:=hI (HB1.out.trans (hb2.mono (by have:=ql.out; omega)))
 have hx2:=pJ.out.below hb2 (by have:=ql.out; omega)
 have yI:=hI (jh.out.below hb2 jh.out.lt)
 clear hb2
 rcases hv with ⟨PL,QU⟩ | ⟨rfl,QU⟩
 ·obtain ⟨hv1,_⟩:=HR.out.memL PL
  have hq:((v:Int) != 0)=true:=by simp; omega
  have HA:=hI (show Zz slots (L.map (jX c)) (f,a0,a1,a2)=(L.map (jX c),5) from if_pos (List.mem_map.2 ⟨v,PL,QU⟩))
  have HE2:=hI (show gJ w2 x slots (L.map (jX c)) from ⟨c,L,fr,hx2,HR.out,rfl⟩)
  have BD:=hI (Kept.of_below (S:=fun b=>b<w.heap.size∧b≠x) HB2.out (fun b h=>h.1))
  clear hx2 PL QU
  go_wp2
  go_ret
  rw[HA.out]
  exact ⟨rfl,HE2.out,BD.out⟩
 have z0:=hx2.lo (i:=0) (by omega)
 have z1:=hx2.lo (i:=1) (by omega)
 rw[hs0] at z0
 rw[hn] at z1
 have dV:=hI hx2
 have OA:=hI QU
 have q0:(((0:Nat):Int) != 0)=false:=rfl
 clear hx2 QU hs0 hn
 by_cases hfull:L.length=slots
 ·have q1:((L.length:Int)==(slots:Int))=true:=by simp; omega
  have HA:=hI (show Zz slots (L.map (jX c)) (f,a0,a1,a2)=(L.map (jX c),6) by unfold Zz; rw[if_neg OA.out,if_pos (by simpa using hfull)])
  go_wp2_with fail
  go_quiet (fail)
  go_wp2
  go_ret
  rw[HA.out]
  exact ⟨rfl,⟨c,L,fr,dV.out.drewN _,HR.out,rfl⟩,(Kept.of_below (S:=fun b=>b<w.heap.size∧b≠x) HB2.out (fun b h=>h.1)).drewN _⟩
 have q1:((L.length:Int)==(slots:Int))=false:=by simp; omega
 have HA:=hI (show Zz slots (L.map (jX c)) (f,a0,a1,a2)=(L.map (jX c)++[((f:Int),a0,a1,a2)],0) by unfold Zz; rw[if_neg OA.out,if_neg (by simpa using hfull)])
 obtain ⟨k,fr',rfl⟩:∃ k fr',fr=k::fr':=by
  cases fr with
  | nil=>simp at hall; omega
  | cons k fr'=>exact ⟨k,fr',rfl⟩
 obtain ⟨hk1,hk2⟩:=HR.out.memF (List.mem_cons_self ..)
 have hc6:c 6151=k:=HR.out.free.1
 obtain ⟨l,hl,hl2,hl3⟩:=Mg HR.out.ear
 have hl4:l<1025:=by
  rcases hl3 with rfl | hl3
  ·omega
  ·exact (HR.out.memL hl3).2
 obtain ⟨g,hg⟩:∃ g,f % 1024=g:=⟨_,rfl⟩
 have hg':g<1024:=by omega
 have zNS:=hI (zAI (c:=c) (k:=k) (l:=l) (g:=g) (e:=((f:Int),a0,a1,a2)) HR.out hl (by simp only[]; omega) (by simp only[]; omega) OA.out)
 have zBV:(L++[k]).map (jX (jY c k g l ((f:Int),a0,a1,a2)))=L.map (jX c)++[((f:Int),a0,a1,a2)]:=by
  rw[List.map_append,List.map_congr_left (fun j hj=>(C8 (e:=((f:Int),a0,a1,a2)) hk2 hg' hl4 (HR.out.memL hj).2 (fun e=>HR.out.apart (e▸hj) (List.mem_cons_self ..))).1)]
  rw[List.map_cons,C9 hk2 hg' hl4]
  rfl
 have Z8:=hI zBV
 have HTF:=hI (fun (n:Nat)=>TW (dV.out.drewN n) k hk2 hc6)
 clear hc6 hl2 hl3 zBV
 go_wp2_with fail
 go_quiet (fail)
 go_wp2_with fail
 refine (HTF.out _).mono ?_
 rintro e w3 ⟨rfl,hx3,hk3⟩
 have b0:=hx3.fing hk2
 have b1:=hx3.adr0 hk2
 have b2:=hx3.adr1 hk2
 have b3:=hx3.adr2 hk2
 have d0:=hx3.frozen (2+k)
 have d1:=hx3.frozen (1027+k*3)
 have d2:=hx3.frozen (1027+k*3+1)
 have d3:=hx3.frozen (1027+k*3+2)
 have hne:w.heap.size≠x:=by omega
 have e0:w3.cell? ⟨w.heap.size,0,none⟩=some (.int .i64 a0):=(hk3.cell (p:=⟨w.heap.size,0,none⟩) hne).trans (yI.out.cell 0)
 have e1:w3.cell? ⟨w.heap.size,1,none⟩=some (.int .u64 a1):=(hk3.cell (p:=⟨w.heap.size,1,none⟩) hne).trans (yI.out.cell 1)
 have e2:w3.cell? ⟨w.heap.size,2,none⟩=some (.int .i64 a2):=(hk3.cell (p:=⟨w.heap.size,2,none⟩) hne).trans (yI.out.cell 2)
 have zNg:=hI ((((Kept.of_below (S:=fun b=>b<w.heap.size∧b≠x) HB2.out (fun b h=>h.1)).drewN _).trans hk3 (fun b h=>h.2)))
 have CX:=hI hx3
 clear hx3 hk3 z0 z1
 go_wp2_with fail
 go_region
 go_wp2_with fail
 have hx4:=((((CX.out.set (aL hk2) (f:Int)).set (aO hk2) a0).set (aN hk2) a1).set (aM hk2) a2).drew
 have sW:=hI (show Kept (fun b=>b<w.heap.size∧b≠x) w (((((w3.setCell ⟨x,2+k,none⟩ (.int .u32 f)).setCell ⟨x,1027+k*3,none⟩ (.int .i64 a0)).setCell ⟨x,1027+k*3+1,none⟩ (.int .u64 a1)).setCell ⟨x,1027+k*3+2,none⟩ (.int .i64 a2)).drew) from
  ((((zNg.out.setCell (by simp) _).setCell (by simp) _).setCell (by simp) _).setCell (by simp) _).drew)
 generalize ((((w3.setCell ⟨x,2+k,none⟩ (.int .u32 f)).setCell ⟨x,1027+k*3,none⟩ (.int .i64 a0)).setCell ⟨x,1027+k*3+1,none⟩ (.int .u64 a1)).setCell ⟨x,1027+k*3+2,none⟩ (.int .i64 a2)).drew=w4 at *
 have hC4:=Iy hx4 k f g hk2 (by simp (disch:=omega) only[upd_same,zX]) hg
 clear b0 b1 b2 b3 d0 d1 d2 d3 e0 e1 e2 hx4
 refine hC4.mono ?_
 rintro e w5 ⟨rfl,hx5,hk5⟩
 have kS:=hI (sW.out.trans hk5 (fun b h=>h.2))
 have hC5:=zCt hx5 k l hk2 hl4 (by simp (disch:=omega) only[upd_same,zX]; exact hl)
 clear hC4 hk5 hx5
 go_wp2_with fail
 refine hC5.mono ?_
 rintro e w6 ⟨rfl,hx6,xU⟩
 have je:=hI (kS.out.trans xU (fun b h=>h.2))
 have z1:=hx6.lo (i:=1) (by omega)
 have z2:=hx6.frozen 1
 have hone:jY c k g l ((f:Int),a0,a1,a2) 1=(L.length:Int)+1:=by
  have:=HR.out.n
  simp (disch:=omega) only[jY,upd_same,zX]
  omega
 have hLl:L.length≤1024:=by omega
 obtain ⟨c6,hc6⟩:∃ c6,c6=upd (upd (upd (upd (upd (upd (upd (upd (upd (upd (upd c 6151 (c (4102+k))) (2+k) (f:Int)) (1027+k*3) a0) (1027+k*3+1) a1) (1027+k*3+2) a2) (4102+k) (upd (upd (upd (upd (upd c 6151 (c (4102+k))) (2+k) (f:Int)) (1027+k*3) a0) (1027+k*3+1) a1) (1027+k*3+2) a2 (5127+g))) (5127+g) k) (7177+k) l) (6152+k) 0) (6152+l) k) 7177 k:=⟨_,rfl⟩
 have hadd:jY c k g l ((f:Int),a0,a1,a2)=upd c6 1 (c6 1+1):=by rw[hc6]; rfl
 have Ia:c6 1=(L.length:Int):=by
  rw[hadd,upd_same] at hone
  omega
 rw[← hc6] at hx6 z1
 rw[Ia] at z1
 have Qa:=hI hx6
 have zOF:=hI hadd
 have zOA:=hI Ia
 clear hC5 xU hx6 hc6 hadd hone Ia
 go_wp2_with fail
 (first | go_ret | go_ret2 | go_end0)
 rw[HA.out]
 refine ⟨rfl,⟨_,_,fr',?_,zNS.out,Z8.out⟩,je.out.setCell (by simp) _⟩
 rw[zOF.out,zOA.out]
 exact Qa.out.set (i:=1) (k:=.i64) rfl ((L.length:Int)+1)
end
end Go.Proofs.YtdkbpchmnhbhcaaGreat
namespace Go.Proofs.YtdkbpchmnhbhcaaGreat.Adr
open Go.RowKit
open Go.Proofs.YtdkbpchmnhbhcaaGreat
def flatG (L:List Seg):List Value:=L.flatMap zu
theorem flatG_append (L M:List Seg):flatG (L++M)=flatG L++flatG M:=by simp[flatG]
theorem q9 (L:List Seg):(flatG L).length=L.length*3:=by
 induction L with
 | nil=>rfl
 | cons x r ih =>
  simp only[flatG,List.flatMap_cons,List.length_append,List.length_cons] at *
  rw[ih]
  simp only[zu,List.length_cons,List.length_nil]
  omega
theorem jV:∀ (L:List Seg) (t:Nat),t<L.length*3→(flatG L)[t]? = (zu (L.getD (t / 3) zK))[t % 3]?
 | [],t,h=>by simp at h
 | y :: L, t, h => by
  unfold flatG
  rw[List.flatMap_cons]
  by_cases h4:t<3
  ·rw[List.getElem?_append_left (by simpa using h4)]
   rw[show t / 3=0 by omega,show t % 3=t by omega]
   rfl
  ·have e:t-(zu y).length=t-3:=by simp
   rw[List.getElem?_append_right (by simp; omega),e]
   have ih:=jV L (t-3) (by simp at h; omega)
   unfold flatG at ih
   rw[ih,show t / 3=(t-3) / 3+1 by omega,show t % 3=(t-3) % 3 by omega]
   rfl
theorem dD (L:List Seg):∀ v∈flatG L,v.oneCell'=true:=by
 intro v hv
 obtain ⟨s,_,h⟩:=List.mem_flatMap.1 hv
 exact YO s v h
def ArrS (w:World) (g:Nat) (L:List Seg):Prop:=z8 w g 35 (flatG L).toArray
theorem row_of_flat {w:World} {g:Nat} {t:TypeId} {L:List Seg} {X:List Value} (h:z8 w g t (flatG L++X).toArray) {S:Nat→Prop} (hS:S g) {n:Nat} (hn:L.length=n):qH w S (some ⟨g,0,none⟩) n L :=
 ⟨hn,fun _=>⟨g,0,rfl,hS,fun i hi j v hv=>by
  have hj:j<3:=by have:=(List.getElem?_eq_some_iff.1 hv).1; simpa using this
  show w.cell? ⟨g,0+i*3+j,none⟩=some v
  rw[h.cell,Nat.zero_add]
  have hlt:i*3+j<(flatG L).length:=by rw[q9]; omega
  rw[List.getElem?_toArray,List.getElem?_append_left hlt,jV L _ (by rw[q9] at hlt; exact hlt),show (i*3+j) / 3=i by omega,show (i*3+j) % 3=j by omega]
  exact hv⟩⟩
theorem ArrS.row {w:World} {g:Nat} {L:List Seg} (h:ArrS w g L) {S:Nat→Prop} (hS:S g) {n:Nat} (hn:L.length=n):qH w S (some ⟨g,0,none⟩) n L :=
 row_of_flat (X:=[]) (by simpa [ArrS] using h) hS hn
theorem Q5 {w:World} {S:Nat→Prop} {A:Option Addr} {n:Nat} {xs:List Seg} (h:qH w S A n xs) (hn:0<n) :
 ∃ ad,A=some ad∧∀ j v,(flatG xs)[j]? = some v→w.cell? (ad.add j)=some v:=by
 obtain ⟨b,off,e,_,hc⟩:=h.2 hn
 refine ⟨_,e,fun j v hv=>?_⟩
 have hj:j<xs.length*3:=by have:=(List.getElem?_eq_some_iff.1 hv).1; rwa [q9] at this
 rw[jV xs j hj] at hv
 have h1:=hc (j / 3) (by have:=h.1; omega) (j % 3) v hv
 rw[add_plain,show off+j=off+j / 3*3+j % 3 by omega]
 exact h1
theorem info_seg:(Tryz.prog.info? 35).map (fun i=>(i.zero,i.size,i.bytes))=some (some (.agg (zu zK).toArray),3,24):=by kernel_rfl
theorem ArrS.setRow {w:World} {g:Nat} {L:List Seg} (h:ArrS w g L) (M:List Seg):ArrS (w.setRow g (flatG M).toArray) g M:=setRow_heap w g _ _ _ _ h
theorem ArrS.alloc {w:World} {g:Nat} {L:List Seg} (h:ArrS w g L) (o:Obj):ArrS (w.alloc o) g L:=z8.alloc h o
theorem ArrS.below {w w':World} {g B:Nat} {L:List Seg} (h:ArrS w g L) (hb:Below B w w') (hg:g<B):ArrS w' g L:=z8.below h hb hg
theorem kI (w:World) (ty:TypeId) (base:Nat) (v:Value) (n:Nat) (P:List Value) (hown:w.ownsRow base 35 3 v n P)
 (S:Nat→Prop) (A:Option Addr) (m c:Nat) (ys:List Seg) (hr:qH w S A m ys) (hnil:A=none→c=0) (h63:n+m≤1000000) (hbase:base≤w.heap.size) :
 ∃ v' w',(Builtin.append_ #[176,176] ty #[v,.slice A m c]).run Tryz.prog w=.ok v' w'∧w'.ownsRow base 35 3 v' (n+m) (P++flatG ys)∧w.grownBy w' v.ownBlock∧(v'.ownBlock=v.ownBlock∨v'.ownBlock=some w.heap.size):=by
 obtain ⟨i0,hi,hz0,hz1,hz2⟩:=info_parts info_seg
 have hl:=hr.1
 rcases A with _ | ad
 ·have hm:m=0:=by
   rcases Nat.eq_zero_or_pos m with h0 | h0
   ·exact h0
   ·obtain ⟨_,_,h1,_⟩:=hr.2 h0
    cases h1
  subst hm
  have hn:ys=[]:=List.eq_nil_of_length_eq_zero hl
  subst hn
  rw[hnil rfl]
  exact ⟨v,w,run_append_owned_none (P:=Tryz.prog) (w:=w) base 176 ty 35 i0 3 Tryz.underlying176 hi v n P hown,by simpa [flatG] using hown,World.grownBy.refl w _,.inl rfl⟩
 ·obtain ⟨v',w',h1,h2,h3,_,h4⟩:=run_append_own_at (P:=Tryz.prog) w base 176 ty 35 i0 (.agg (zu zK).toArray) 3 24 Tryz.underlying176 hi hz0 hz1 hz2 (by simp[Value.cells]) (by omega) v n P hown ad m c (flatG ys) (by rw[q9,hl])
   (fun j u hu=>by
     have hm:0<m:=by
      rcases Nat.eq_zero_or_pos m with h0 | h0
      ·have:ys=[]:=List.eq_nil_of_length_eq_zero (by omega)
       subst this
       simp[flatG] at hu
      ·exact h0
     obtain ⟨ad',e,hc⟩:=Q5 hr hm
     injection e with e
     subst e
     exact hc j u hu)
   (dD ys) (by unfold maxLen; omega) (by omega) hbase
  exact ⟨v',w',h1,h2,h3,h4⟩
theorem rowZ_own {w:World} {base:Nat} {v:Value} {n:Nat} {xs:List Seg} {P:List Value} (ho:w.ownsRow base 35 3 v n P) (hP:P=flatG xs) (hn:xs.length=n) :
 ∃ A cap,v=.slice A n cap∧n≤cap∧(A=none→cap=0)∧qH w (fun b=>base≤b∧b<w.heap.size) A n xs:=by
 subst hP
 have hlt:=ho.lt
 rcases ho.2 with ⟨rfl,rfl⟩ | ⟨g,cap,cur,rfl,hg,hh,hnc,hc⟩
 ·exact ⟨none,0,rfl,by omega,fun _=>rfl,hn,fun h=>absurd h (by omega)⟩
 ·refine ⟨_,cap,rfl,hnc,(fun h=>by cases h),hn,fun _=>⟨g,0,rfl,⟨hg,(hlt g rfl).2⟩,fun i hi j v hv=>?_⟩⟩
  have hj:j<3:=by have:=(List.getElem?_eq_some_iff.1 hv).1; simpa using this
  have h1:=ho.cells (g:=g) rfl (i*3+j) v (by rw[jV xs _ (by omega),show (i*3+j) / 3=i by omega,show (i*3+j) % 3=j by omega]; exact hv)
  rw[add_plain] at h1
  rw[Nat.add_assoc]
  exact h1
section
variable {w:World} {ops:Array Oper} {rest:List Oper} {o:Oper} {a:Act} {Q:Exit→Act→World→Prop}
theorem step_append_rowZ {K:Act→World→Prop} {E:Prop} (s x:Operand) (ho:o.op=.call { callee:=.builtin .append,args:=#[s,x],argTypes:=#[176,176] }) (hgd:o.guard=none)
 (base:Nat) (v:Value) (n:Nat) (P:List Value) (hs:a.eval s=v) (hown:w.ownsRow base 35 3 v n P)
 (S:Nat→Prop) (A:Option Addr) (m c:Nat) (ys:List Seg) (hx:a.eval x=.slice A m c) (hr:qH w S A m ys) (hnil:A=none→c=0) (h63:n+m≤1000000) (hbase:base≤w.heap.size)
 (h:∀ v' w',w'.ownsRow base 35 3 v' (n+m) (P++flatG ys)→w.grownBy w' v.ownBlock→(v'.ownBlock=v.ownBlock∨v'.ownBlock=some w.heap.size)→K (a.put o.dst v') w') :
 if Region.wanted o (yielded ops a.tmps)=true then Oper.wp Tryz.prog o a w K Q else E:=by
 obtain ⟨v',w',hrun,h2,h3,h4⟩:=kI w o.type base v n P hown S A m c ys hr hnil h63 hbase
 have hw:Region.wanted o (yielded ops a.tmps)=true:=by simp[Region.wanted,hgd]
 rw[if_pos hw]
 unfold Oper.wp execOp
 simp only[ho,resolve,invoke,builtin,Sem.run_bind,Sem.run_pure,Result.andThen_ok,List.map_toArray,List.map_cons,List.map_nil,hs,hx,hrun]
 exact h v' w' h2 h3 h4
end
end Go.Proofs.YtdkbpchmnhbhcaaGreat.Adr

namespace Go.Proofs.YtdkbpchmnhbhcaaGreat
open Go.RowKit
section
open Go.RowKit Go.Shelf
attribute [local go_sem] Oper.semAt_some
section
variable {w:World} {o:Oper} {a:Act} {Q:Exit→Act→World→Prop} {K:Act→World→Prop} {E:Prop} {ops:Array Oper}
theorem Tf (x:Operand) (ho:o.op=.buildSlice 176 1 #[(0,x)]) (hgd:Region.wanted o (yielded ops a.tmps)=true) (s:Seg) (hx:a.eval x=.agg (zu s).toArray)
 (h:∀ w',qH w' (fun b=>b=w.heap.size) (some ⟨w.heap.size,0,none⟩) 1 [s]→w'=w.alloc (.cells (Adr.flatG [s]).toArray 35)→K (a.put o.dst (.slice (some ⟨w.heap.size,0,none⟩) 1 1)) w') :
 if Region.wanted o (yielded ops a.tmps)=true then Oper.wp Tryz.prog o a w K Q else E:=by
 have hrow:qH (w.alloc (.cells (Adr.flatG [s]).toArray 35)) (fun b=>b=w.heap.size) (some ⟨w.heap.size,0,none⟩) 1 [s]:=Adr.ArrS.row (S:=fun b=>b=w.heap.size) (L:=[s]) (z8.new w _ _) rfl rfl
 rw[if_pos hgd]
 obtain ⟨i0,hi,hz0,hz1,hz2⟩:=info_parts Adr.info_seg
 refine wp_buildSlice 176 35 1 #[(0,x)] ho (Adr.flatG [s]).toArray i0 _ Tryz.underlying176 hi hz0 (by rw[hz1]; decide) (by rw[hz1]; decide) ?_ (h _ hrow rfl)
 rw[hz1]
 have e:(Array.map (fun (p:Nat × Operand)=>(p.1,a.eval p.2)) #[(0,x)]).toList=[(0,.agg (zu s).toArray)]:=by simp[hx]
 refine (congrArg _ e).trans ?_
 kernel_rfl
end
def gY (c:Nat→Int) (k:Nat):Seg:=(c (1027+k*3),c (1027+k*3+1),c (1027+k*3+2))
abbrev fi0:Oper:=⟨some 11,.load 176 (.tmp 5),176,"index.go:66",#[],none⟩
abbrev fi1:Oper:=⟨some 12,.load 130 (.tmp 2),130,"index.go:66",#[],none⟩
abbrev fi2:Oper:=⟨some 13,.move (.tmp 6),3,"index.go:66",#[],none⟩
abbrev fi3:Oper:=⟨some 14,.nilCheck (.tmp 12),0,"index.go:66",#[⟨1,.data⟩],none⟩
abbrev fi4:Oper:=⟨some 15,.fieldAddr 221 (.tmp 14) 3,0,"index.go:66",#[⟨3,.data⟩],none⟩
abbrev fi5:Oper:=⟨some 16,.indexAddr 217 (.tmp 15) (.tmp 13),0,"index.go:66",#[⟨4,.data⟩,⟨2,.data⟩],none⟩
abbrev fi6:Oper:=⟨some 17,.load 35 (.tmp 16),35,"index.go:66",#[⟨5,.data⟩],none⟩
abbrev fi7:Oper:=⟨some 18,.buildSlice 176 1 #[(0,.tmp 17)],176,"index.go:66",#[⟨6,.data⟩],none⟩
abbrev fi8:Oper:=⟨some 19,.call { callee:=.builtin Go.Builtin.append,args:=#[.tmp 11,.tmp 18],argTypes:=#[176,176] },176,"index.go:66",#[⟨0,.data⟩,⟨7,.data⟩],none⟩
abbrev fi9:Oper:=⟨none,.store 176 (.tmp 5) (.tmp 19),0,"index.go:66",#[⟨8,.data⟩,⟨8,.chain⟩,⟨0,.phase⟩,⟨1,.phase⟩,⟨2,.phase⟩,⟨3,.phase⟩,⟨4,.phase⟩,⟨5,.phase⟩,⟨6,.phase⟩,⟨7,.phase⟩,⟨8,.phase⟩],none⟩
theorem Im {w:World} {x f g:Nat} {c:Nat→Int} {C T:List Nat} (h:jO w x c) (hg:f % 1024=g) (hC:Lk 4102 c (c (5127+g)) C) (hT:T=C.filter (fun k=>c (2+k)=(f:Int))) (hTl:T.length≤1024) :
 Calls Tryz.prog 99 #[.pointer (some ⟨x,0,none⟩),.int .u32 f] w fun e w' =>
  (∃ v,e=.returned v∧w'.ownsRow w.heap.size 35 3 v T.length (Adr.flatG (T.map (gY c))))∧Below w.heap.size w w':=by
 have hxl:=h.lt
 have HX:=hI h
 have HC:=hI hC
 have HT:=hI hT
 have HG:=hI hg
 have UE:∀ i,i<T.length→1≤T.getD i 0∧T.getD i 0<1025:=fun i hi=>by
  have hm:T.getD i 0∈T:=by simp[List.getD,List.getElem?_eq_getElem hi]
  have h2:T.getD i 0∈C:=by
   have h3:∀ k,k∈T→k∈C:=fun k hk=>by rw[hT] at hk; exact (List.mem_filter.1 hk).1
   exact h3 _ hm
  exact hC.mem _ h2
 have HTM:=hI UE
 clear h hC hT hg UE
 obtain ⟨w3,hw3⟩:∃ w3,w3=(w.alloc (.cells #[.pointer (some ⟨x,0,none⟩)] 130)).alloc (.cells #[.slice none 0 0] 176):=⟨_,rfl⟩
 have HW3:=hI hw3
 have HB3:=hI (show Below w.heap.size w w3 by rw[hw3]; exact ((Below.refl _ w).alloc (nR _) _).alloc (by simp) _)
 have yG:=hI (show w3.heap.size=w.heap.size+2 by rw[hw3]; simp)
 have pQ:=hI (show z8 w3 w.heap.size 130 #[.pointer (some ⟨x,0,none⟩)] by rw[hw3]; exact (z8.new w _ _).alloc _)
 have jh:=hI (show z8 w3 (w.heap.size+1) 176 #[.slice none 0 0] by rw[hw3]; have h:=z8.new (w.alloc (.cells #[.pointer (some ⟨x,0,none⟩)] 130)) 176 #[.slice none 0 0]; simpa using h)
 have HH:=hI (Ka (some ⟨x,0,none⟩) f w3)
 rw[hw3] at HH
 clear hw3
 refine (callsIn_wide (n:=5)).1 ?_
 refine callsIn_of_wp_marks Tryz.func99 rfl trivial ?_ rfl
 simp only[Tryz.ntmps99,List.size_toArray,List.length_cons,List.length_nil,Nat.reduceAdd,Nat.reduceSub,Array.replicate_succ,Array.replicate_zero,List.push_toArray,List.append_toArray,List.nil_append,List.cons_append]
 gi_wp2_with (refine ⟨trivial,?_⟩; gi_at_call 150; refine (callsIn_wide.2 HH.out).mono ?_; rintro e w5 ⟨gx,gf,hgg,rfl,bx,bf,hb5⟩)
 rw[← HW3.out] at hgg hb5
 obtain ⟨hg1,hg2,hg3,hg4⟩:=hgg
 have hs3:=yG.out
 have hs5:=hb5.size
 have hk0:=pQ.out.below hb5 pQ.out.lt
 have hk1:=jh.out.below hb5 jh.out.lt
 have qM:=hI (HB3.out.trans (hb5.mono (by omega)))
 refine GX rfl (by omega) (gf:=195) (lb:=#[.pointer (some ⟨gx,0,none⟩),.pointer (some ⟨gf,0,none⟩)]) rfl trivial (enters_of Tryz.func195 (by kernel_rfl) rfl)
  (encs:=fun i=>#[.int .i64 (T.getD i 0:Nat)]) (N:=T.length) (M:=fun _ V=>jO V x c∧z8 V gx 130 #[.pointer (some ⟨x,0,none⟩)]∧z8 V gf 29 #[.int .u32 f])
  (KZ 4 gx gf x f g c C T HG.out HC.out HT.out _ (fun i V hV=>⟨hV.1,hV.2.1.cell 0,hV.2.2.cell 0⟩)) (fun _=>rfl)
  (fun i V=>(z8 V w.heap.size 130 #[.pointer (some ⟨x,0,none⟩)]∧∃ v,zAJ (w.heap.size+1) 176 35 3 w.heap.size v i (Adr.flatG ((T.map (gY c)).take i)) V)∧(z8 V gx 130 #[.pointer (some ⟨x,0,none⟩)]∧z8 V gf 29 #[.int .u32 f])∧Below w.heap.size w V)
  (fun cd i V=>False)
  (OwnFrom.and (OwnFrom.and (Own.from (vC _ _ _) _) (Own.from (Ah _ _ _ _ _ (fun i=>i) (fun i=>Adr.flatG ((T.map (gY c)).take i))) _)) (OwnFrom.and (OwnFrom.and (Own.from (vC _ _ _) _) (Own.from (vC _ _ _) _)) (ownFrom_below (nR _) qM.out.size)))
  (fun cd=>YM _)
  ⟨⟨hk0,.slice none 0 0,hk1,by rw[List.take_zero]; exact World.ownsRow_nil _ _ _ _⟩,⟨bx,bf⟩,qM.out⟩
  (fun i V hV=>⟨HX.out.below hV.2.2 hxl,hV.2.1.1,hV.2.1.2⟩)
  (fun i a' W=>a'={ tmps:=#[.pointer (some ⟨x,0,none⟩),.int .u32 f,.pointer (some ⟨w.heap.size,0,none⟩),undef,.slice none 0 0,.pointer (some ⟨w.heap.size+1,0,none⟩),.int .i64 (T.getD i 0:Nat),.pointer (some ⟨x,0,none⟩),.int .u32 f,.func (.func 195) #[] #[.pointer (some ⟨gx,0,none⟩),.pointer (some ⟨gf,0,none⟩)],.int .i64 (T.getD i 0:Nat),undef,undef,undef,undef,undef,undef,undef,undef,undef,undef],defers:=[] })
  (fun i a' _ X Y row hs hg hr=>hs)
  ?assign ?body ?done ?stop
 case assign =>
  rintro l i W K hi hI hK
  clear hi
  obtain ⟨k,hk⟩:∃ k,T.getD i 0=k:=⟨_,rfl⟩
  rw[hk] at hK ⊢
  gi_wp2
  exact hK _ _ (KeepsFrom.refl _ _) hI rfl
 case body =>
  rintro l i a' W hi hl ⟨r,hr⟩ ⟨⟨h0,v,h1,ho⟩,⟨h3,h4⟩,hB⟩ rfl
  have hTk:(T.map (gY c)).take (i+1)=(T.map (gY c)).take i++[gY c (T.getD i 0)]:=by
   rw[List.take_add_one]
   simp[List.getD,List.getElem?_eq_getElem hi]
  obtain ⟨hk1,hk2⟩:=HTM.out i hi
  have hi1:i+1≤1000000:=by omega
  clear hi
  obtain ⟨k,hk⟩:∃ k,T.getD i 0=k:=⟨_,rfl⟩
  rw[hk] at hk1 hk2 hTk ⊢
  have HTK:=hI hTk
  have HO:=hI ho
  have hX:=HX.out.below hB hxl
  clear hk hTk ho
  have h10:=qM.out.size
  have hBs:=hB.size
  gi_wp2
  refine zB.calm (fun V=>z8 V (w.heap.size+1) 176 #[v]∧z8 V w.heap.size 130 #[.pointer (some ⟨x,0,none⟩)]∧jO V x c) [9] (by kernel_rfl) (by kernel_rfl) ⟨h1,h0,hX⟩ (fun hė=>?_)
  refine tK 0 fi0 (v:=?_) ?_ hė ?_
  rotate_left
  ·intro W hSW; obtain ⟨s1,s2,s3⟩:=hSW; have s4:=s1.cell 0; have s5:=s2.cell 0; have s6:=s3.adr0 hk2; have s7:=s3.adr1 hk2; have s8:=s3.adr2 hk2; have s9:(k:Int)<1025:=(by omega); unfold fi0; go_simp; with_reducible rfl
  simp only[fi0,Act.put,sA,sZ,sS]
  refine tK 1 fi1 (v:=?_) ?_ hė ?_
  rotate_left
  ·intro W hSW; obtain ⟨s1,s2,s3⟩:=hSW; have s4:=s1.cell 0; have s5:=s2.cell 0; have s6:=s3.adr0 hk2; have s7:=s3.adr1 hk2; have s8:=s3.adr2 hk2; have s9:(k:Int)<1025:=(by omega); unfold fi1; go_simp; with_reducible rfl
  simp only[fi1,Act.put,sA,sZ,sS]
  refine tK 2 fi2 (v:=?_) ?_ hė ?_
  rotate_left
  ·intro W hSW; obtain ⟨s1,s2,s3⟩:=hSW; have s4:=s1.cell 0; have s5:=s2.cell 0; have s6:=s3.adr0 hk2; have s7:=s3.adr1 hk2; have s8:=s3.adr2 hk2; have s9:(k:Int)<1025:=(by omega); unfold fi2; go_simp; with_reducible rfl
  simp only[fi2,Act.put,sA,sZ,sS]
  refine tK 3 fi3 (v:=?_) ?_ hė ?_
  rotate_left
  ·intro W hSW; obtain ⟨s1,s2,s3⟩:=hSW; have s4:=s1.cell 0; have s5:=s2.cell 0; have s6:=s3.adr0 hk2; have s7:=s3.adr1 hk2; have s8:=s3.adr2 hk2; have s9:(k:Int)<1025:=(by omega); unfold fi3; go_simp; with_reducible rfl
  simp only[fi3,Act.put,sA,sZ,sS]
  refine tK 4 fi4 (v:=?_) ?_ hė ?_
  rotate_left
  ·intro W hSW; obtain ⟨s1,s2,s3⟩:=hSW; have s4:=s1.cell 0; have s5:=s2.cell 0; have s6:=s3.adr0 hk2; have s7:=s3.adr1 hk2; have s8:=s3.adr2 hk2; have s9:(k:Int)<1025:=(by omega); unfold fi4; go_simp; with_reducible rfl
  simp only[fi4,Act.put,sA,sZ,sS]
  refine tK 5 fi5 (v:=?_) ?_ hė ?_
  rotate_left
  ·intro W hSW; obtain ⟨s1,s2,s3⟩:=hSW; have s4:=s1.cell 0; have s5:=s2.cell 0; have s6:=s3.adr0 hk2; have s7:=s3.adr1 hk2; have s8:=s3.adr2 hk2; have s9:(k:Int)<1025:=(by omega); unfold fi5; go_simp; with_reducible rfl
  simp only[fi5,Act.put,sA,sZ,sS]
  refine tK 6 fi6 (v:=?_) ?_ hė ?_
  rotate_left
  ·intro W hSW; obtain ⟨s1,s2,s3⟩:=hSW; have s4:=s1.cell 0; have s5:=s2.cell 0; have s6:=s3.adr0 hk2; have s7:=s3.adr1 hk2; have s8:=s3.adr2 hk2; have s9:(k:Int)<1025:=(by omega); unfold fi6; go_simp; with_reducible rfl
  simp only[fi6,Act.put,sA,sZ,sS]
  refine tO 7 fi7 ?_
  intro K hK
  refine Tf (.tmp 17) rfl rfl (gY c k) rfl ?_
  intro W7 hlit UD
  have zAZ:=hI hlit
  have hs7:W7.heap.size=W.heap.size+1:=by rw[UD,World.size_alloc]; rfl
  have jy:Below W.heap.size W W7:=by rw[UD]; exact (Below.refl W.heap.size W).drew.alloc (nR _) _
  have zGi:KeepsOthers W W7:=by rw[UD]; exact (KeepsOthers.drew W).trans (KeepsOthers.alloc _ _)
  have wQ:=hI (show W7.ownsRow w.heap.size 35 3 v i (Adr.flatG ((T.map (gY c)).take i)) from tL (row:=none) HO.out (by rw[UD]; exact Kg _ _) (fun g hg e=>by cases e))
  clear hlit UD
  simp only[fi7,Act.put,sA,sZ,sS]
  refine hK.out _ _ (fun _=>⟨h1.below jy h1.lt,h0.below jy h0.lt,hX.below jy hX.lt⟩) (fun hė=>?_)
  clear hė hK K
  refine tO 8 fi8 ?_
  intro K hK
  refine Adr.step_append_rowZ (.tmp 11) (.tmp 18) rfl rfl w.heap.size v i _ rfl wQ.out (fun b=>b=W.drew.heap.size) _ 1 1 [gY c k] rfl zAZ.out (fun h=>by cases h) (by omega) (by omega) ?_
  intro v8 W8 hown hgrow _
  obtain ⟨A8,c8,rfl⟩:=tJ hown
  rw[← Adr.flatG_append,← HTK.out] at hown
  have h17:=h1.below jy h1.lt
  have h18:=kP h17 wQ.out (by decide) hgrow
  have h08:=kP (h0.below jy h0.lt) wQ.out (by decide) hgrow
  have JG:jO W8 x c:=kP (hX.below jy hX.lt) wQ.out (by decide) hgrow
  have zGh:=zGi.trans (DI wQ.out hgrow)
  have hB8:=oH (hB.trans (jy.mono hBs)) wQ.out (nR _) (by omega) hgrow
  have h38:=kP (h3.below jy h3.lt) wQ.out (by decide) hgrow
  have h48:=kP (h4.below jy h4.lt) wQ.out (by decide) hgrow
  have HOW:=hI hown
  clear hown hgrow
  simp only[fi8,Act.put,sA,sZ,sS]
  refine hK.out _ _ (fun _=>⟨h18,h08,JG⟩) (fun hė=>?_)
  clear hė hK K
  refine tO 9 fi9 ?_
  intro K hK
  refine aB (.tmp 5) (.tmp 19) 176 (by with_reducible rfl) (by rfl) ⟨w.heap.size+1,0,none⟩ (.slice A8 (i+1) c8) (by rfl) (by rfl) ?_ ?_
  ·have f18:=h18.frozen 0
   have c18:=h18.cell 0
   go_simp
  simp only[fi9,Act.put]
  have HF:=hI ((KeepsOthers.trans zGh (KeepsOthers.setCell W8 ⟨w.heap.size+1,0,none⟩ (.slice A8 (i+1) c8))).from w5.heap.size)
  have n1:(w.heap.size:Nat)≠w.heap.size+1:=by omega
  have n2:gx≠w.heap.size+1:=by omega
  have n3:gf≠w.heap.size+1:=by omega
  have HI:=hI (show (z8 (W8.setCell ⟨w.heap.size+1,0,none⟩ (.slice A8 (i+1) c8)) w.heap.size 130 #[.pointer (some ⟨x,0,none⟩)]∧∃ v,zAJ (w.heap.size+1) 176 35 3 w.heap.size v (i+1) (Adr.flatG ((T.map (gY c)).take (i+1))) (W8.setCell ⟨w.heap.size+1,0,none⟩ (.slice A8 (i+1) c8)))∧(z8 (W8.setCell ⟨w.heap.size+1,0,none⟩ (.slice A8 (i+1) c8)) gx 130 #[.pointer (some ⟨x,0,none⟩)]∧z8 (W8.setCell ⟨w.heap.size+1,0,none⟩ (.slice A8 (i+1) c8)) gf 29 #[.int .u32 f])∧Below w.heap.size w (W8.setCell ⟨w.heap.size+1,0,none⟩ (.slice A8 (i+1) c8)) from
   ⟨⟨h08.far (p:=⟨w.heap.size+1,0,none⟩) n1 _,(.slice A8 (i+1) c8),h18.set_ 0 (.slice A8 (i+1) c8),ZX HOW.out h18 (by decide) 0 (.slice A8 (i+1) c8)⟩,⟨h38.far (p:=⟨w.heap.size+1,0,none⟩) n2 _,h48.far (p:=⟨w.heap.size+1,0,none⟩) n3 _⟩,hB8.setCell (p:=⟨w.heap.size+1,0,none⟩) (by simp) _⟩)
  refine hK.out _ _ (fun h=>absurd h (by decide)) (fun _=>?_)
  clear hK K
  refine zB.done (by kernel_rfl) ?_ _
  exact ⟨HF.out,HI.out⟩
 case done =>
  rintro D W hD ⟨⟨h0,v,h1,ho⟩,⟨h3,h4⟩,hB⟩ hK
  have c1:W.cell? ⟨w.heap.size+1,0,none⟩=some v:=h1.cell 0
  rw[show (T.map (gY c)).take T.length=T.map (gY c) by rw[List.take_of_length_le (by simp)]] at ho
  gi_wp2
  refine ⟨by simp,.inl ⟨_,_,rfl,run_takeDeferred hK,?_⟩⟩
  refine ⟨v,?_,⟨v,rfl,tL ho (grownBy_putObj' _ D (.deferred none)) (fun g hg e=>?_)⟩,hB.trans (belowK_b (w:=w) (nR _) W D _ _ (nT qM.out.size hD) hK rfl rfl)⟩
  ·simp[results,Tryz.f99,go_sem]
  ·cases e
   obtain ⟨cur,hh,_⟩:=p9 ho hg
   rw[hK] at hh
   cases hh
 case stop =>
  rintro D cd i W _ _ h _
  exact h.elim
end
section
attribute [local go_sem] Oper.semAt_some
def Qv (es:List pU) (e:pU):List pU × Int:=if e∈es then (es.filter (·≠e),0) else (es,4)
theorem Ak {c:Nat→Int} {slots:Nat} {L fr pre post:List Nat} {k g p b d:Nat} (hr:kY c slots L fr) (ho:Kz c L pre post k g p b d) :
 (pre++post).map (jX (xW c k p b d))=(L.map (jX c)).filter (·≠jX c k):=by
 have h:=(Gj hr ho).2
 rw[List.map_congr_left (fun j hj=>(h j hj).1)]
 have ho1:=ho.eL
 have hone:=hr.one
 rw[ho1] at hone ⊢
 rw[List.map_append,List.map_cons] at hone
 rw[List.map_append,List.map_append,List.map_cons]
 rw[List.nodup_append] at hone
 obtain ⟨n1,n2,n3⟩:=hone
 have n4:=(List.nodup_cons.1 n2).1
 rw[List.filter_append,List.filter_cons_of_neg (by simp)]
 congr 1
 ·refine (List.filter_eq_self.2 fun e he=>?_).symm
  have:=n3 e he (jX c k) (List.mem_cons_self ..)
  simpa using this
 ·refine (List.filter_eq_self.2 fun e he=>?_).symm
  have:e≠jX c k:=fun h=>n4 (h▸he)
  simpa using this
theorem LQ {c:Nat→Int} {slots:Nat} {L fr:List Nat} {k:Nat} (h:kY c slots L fr) (hk:k∈L):∃ pre post g p b d,Kz c L pre post k g p b d:=by
 obtain ⟨h1,h2⟩:=h.fin k hk
 obtain ⟨pre,post,p,b,d,ho⟩:=zJR h hk (g:=(c (2+k) % 1024).toNat) (by simp[ko]; omega)
 exact ⟨pre,post,_,p,b,d,ho⟩
theorem Wd {w:World} {x slots:Nat} {es:List pU} (h:gJ w x slots es) (f:Nat) (a:Int × Int × Int) :
 Calls Tryz.prog 140 #[.pointer (some ⟨x,0,none⟩),.int .u32 f,.agg (gF a).toArray] w fun e w' =>
  e=.returned (.int .i64 (Qv es (f,a)).2)∧gJ w' x slots (Qv es (f,a)).1∧Kept (fun b=>b<w.heap.size∧b≠x) w w':=by
 obtain ⟨a0,a1,a2⟩:=a
 obtain ⟨c,L,fr,hx,hr,rfl⟩:=h
 have hxl:=hx.lt
 have HR:=hI hr
 obtain ⟨w1,hw1⟩:∃ w1,w1=w.alloc (.cells #[.int .i64 a0,.int .u64 a1,.int .i64 a2] 35):=⟨_,rfl⟩
 have HW1:=hI hw1
 have HB1:=hI (show Below w.heap.size w w1 by rw[hw1]; exact (Below.refl _ w).alloc (nR _) _)
 have ql:=hI (show w1.heap.size=w.heap.size+1 by rw[hw1]; simp)
 have pJ:=hI (hx.below HB1.out hxl)
 have HP:=hI (Wn pJ.out hr f (a0,a1,a2))
 rw[hw1] at HP
 clear hx hw1 hr
 show Calls Tryz.prog 140 #[.pointer (some ⟨x,0,none⟩),.int .u32 f,.agg #[.int .i64 a0,.int .u64 a1,.int .i64 a2]] w _
 go_enter Tryz.func140,Tryz.ntmps140
 go_wp2_with fail
 refine HP.out.mono ?_
 rintro e w2 ⟨⟨v,rfl,hv⟩,hb2⟩
 rw[← HW1.out] at hb2
 have HB2:=hI (HB1.out.trans (hb2.mono (by have:=ql.out; omega)))
 have dV:=hI (pJ.out.below hb2 (by have:=ql.out; omega))
 clear hb2
 rcases hv with ⟨PL,QU⟩ | ⟨rfl,QU⟩
 ·obtain ⟨hv1,_⟩:=HR.out.memL PL
  have hq:((v:Int)==0)=false:=by simp; omega
  obtain ⟨pre,post,g,p,b,d,ho⟩:=LQ HR.out PL
  have HOE:=hI (Ak HR.out ho)
  have HA:=hI (show Qv (L.map (jX c)) (f,a0,a1,a2)=((L.map (jX c)).filter (·≠((f:Int),a0,a1,a2)),0) from if_pos (List.mem_map.2 ⟨v,PL,QU⟩))
  have HOR:=hI (Gj HR.out ho).1
  have HT:=hI (AA (f:=0) dV.out HR.out ho)
  have OA:=hI QU
  have BD:=hI (Kept.of_below (S:=fun b=>b<w.heap.size∧b≠x) HB2.out (fun b h=>h.1))
  clear PL QU ho
  go_wp2_with fail
  refine HT.out.mono ?_
  rintro e w3 ⟨rfl,hx3,hk3⟩
  have CX:=hI hx3
  have yH:=hI (BD.out.trans hk3 (fun b h=>h.2))
  clear hx3 hk3
  go_wp2_with fail
  go_ret
  rw[HA.out]
  exact ⟨rfl,⟨_,_,_,CX.out,HOR.out,by rw[HOE.out,OA.out]⟩,yH.out⟩
 ·have q0:(((0:Nat):Int)==0)=true:=rfl
  have HA:=hI (show Qv (L.map (jX c)) (f,a0,a1,a2)=(L.map (jX c),4) from if_neg QU)
  have BD:=hI (Kept.of_below (S:=fun b=>b<w.heap.size∧b≠x) HB2.out (fun b h=>h.1))
  clear QU
  go_wp2_with fail
  go_ret
  rw[HA.out]
  exact ⟨rfl,⟨c,L,fr,dV.out,HR.out,rfl⟩,BD.out⟩
def XB (es:List pU) (f:Int):List Seg:=((es.filter (fun e=>e.1=f)).reverse).map (·.2)
theorem Hl {w:World} {x slots:Nat} {es:List pU} (h:gJ w x slots es) (f:Nat) :
 Calls Tryz.prog 99 #[.pointer (some ⟨x,0,none⟩),.int .u32 f] w fun e w' =>
  (∃ v,e=.returned v∧w'.ownsRow w.heap.size 35 3 v (XB es f).length (Adr.flatG (XB es f)))∧Below w.heap.size w w':=by
 obtain ⟨c,L,fr,hx,hr,rfl⟩:=h
 have hT:=Ko hr f (f % 1024) rfl
 have he:XB (L.map (jX c)) f=((L.filter (fun k=>c (2+k)=(f:Int))).reverse).map (gY c):=by
  unfold XB
  rw[List.filter_map,← List.map_reverse,List.map_map]
  rfl
 rw[he]
 have hl:=List.length_filter_le (fun k=>decide (c (2+k)=(f:Int))) L
 have hall:=hr.all
 have htop:=hr.top
 have:=Im hx (C:=(L.filter (ko c (f % 1024))).reverse) rfl (hr.ch (f % 1024) (by omega)) hT.symm (by rw[List.length_reverse]; omega)
 rw[List.length_map]
 exact this
end
section
abbrev zm:=(Int × Int × Int) × List Int
def tu (p:zm):pU:=((xJ (keyOf p.2):Int),p.1)
def gD (st:List zm):List pU:=st.map tu
structure yN (k:Dk) (s:Sup) (xs:List Seg) (st:List zm):Prop where
 here:∀ p,p∈st→AtR k s xs p.1 p.2
 kind:∀ p,p∈st→kindOf p.2=1
 adr:∀ p,p∈st→∀ q,q∈st→p.1=q.1→p=q
 key:∀ p,p∈st→∀ q,q∈st→keyOf p.2=keyOf q.2→p=q
def jC (st:List zm) (us:List Int):Option zm:=st.find? fun p=>decide (keyOf p.2=us)
def qV (st:List zm) (us:List Int):List zm:=st.filter fun p=>!decide (keyOf p.2=us)
def mP (st:List zm) (us:List Int):List zm:=(st.filter fun p=>decide (xJ (keyOf p.2)=xJ us)).reverse
section
variable {k k':Dk} {s s1:Sup} {xs xs1:List Seg} {st:List zm} {us:List Int} {p:zm} {a:Int × Int × Int} {bs:List Int}
theorem rE (h:jC st us=some p):p∈st∧keyOf p.2=us :=
 ⟨List.mem_of_find?_eq_some h,by simpa using List.find?_some h⟩
theorem Dh (h:jC st us=none):∀ p,p∈st→keyOf p.2≠us:=fun p hp=>by simpa using List.find?_eq_none.1 h p hp
theorem UC (h:yN k s xs st) (hp:p∈st):jC st (keyOf p.2)=some p:=by
 cases e:jC st (keyOf p.2) with
 | none=>exact absurd rfl (Dh e p hp)
 | some q=>rw[h.key q (rE e).1 p hp (rE e).2]
theorem zEf (h:∀ p,p∈st→keyOf p.2≠us):jC st us=none:=by
 unfold jC
 rw[List.find?_eq_none]
 intro p hp
 simpa using h p hp
theorem kJ:p∈qV st us↔p∈st∧keyOf p.2≠us:=by unfold qV; simp
theorem Gi (h:jC st us=none):qV st us=st:=by
 unfold qV
 rw[List.filter_eq_self]
 intro p hp
 simpa using Dh h p hp
theorem yN.sub {st2:List zm} (h:yN k s xs st) (hs:∀ p,p∈st2→p∈st):yN k s xs st2 :=
 ⟨fun p hp=>h.here p (hs p hp),fun p hp=>h.kind p (hs p hp),fun p hp q hq=>h.adr p (hs p hp) q (hs q hq),fun p hp q hq=>h.key p (hs p hp) q (hs q hq)⟩
theorem yN.out (h:yN k s xs st):yN k s xs (qV st us):=h.sub fun p hp=>(kJ.1 hp).1
theorem yN.held (h:yN k s xs st) (hk:k'.held=k.held):yN k' s xs st:=⟨fun p hp=>(h.here p hp).held hk,h.kind,h.adr,h.key⟩
theorem yN.go (h:yN k s xs st) (hg:∀ a bs,AtR k s xs a bs→AtR k' s1 xs1 a bs):yN k' s1 xs1 st:=⟨fun p hp=>hg _ _ (h.here p hp),h.kind,h.adr,h.key⟩
theorem yN.put (h:yN k s xs st) (h2:AtR k' s1 xs1 a bs) (hg:∀ a' bs',AtR k s xs a' bs'→AtR k' s1 xs1 a' bs'∧a'≠a) (hk:kindOf bs=1) (hn:∀ p,p∈st→keyOf p.2≠keyOf bs):yN k' s1 xs1 (st++[(a,bs)]):=by
 refine ⟨fun p hp=>?_,fun p hp=>?_,fun p hp q hq e=>?_,fun p hp q hq e=>?_⟩
 ·rcases List.mem_append.1 hp with h3 | h3
  ·exact (hg _ _ (h.here p h3)).1
  ·rw[List.mem_singleton.1 h3]; exact h2
 ·rcases List.mem_append.1 hp with h3 | h3
  ·exact h.kind p h3
  ·rw[List.mem_singleton.1 h3]; exact hk
 ·rcases List.mem_append.1 hp with h3 | h3 <;> rcases List.mem_append.1 hq with h4 | h4
  ·exact h.adr p h3 q h4 e
  ·rw[List.mem_singleton.1 h4] at e
   exact absurd e (hg _ _ (h.here p h3)).2
  ·rw[List.mem_singleton.1 h3] at e
   exact absurd e.symm (hg _ _ (h.here q h4)).2
  ·rw[List.mem_singleton.1 h3,List.mem_singleton.1 h4]
 ·rcases List.mem_append.1 hp with h3 | h3 <;> rcases List.mem_append.1 hq with h4 | h4
  ·exact h.key p h3 q h4 e
  ·rw[List.mem_singleton.1 h4] at e
   exact absurd e (hn p h3)
  ·rw[List.mem_singleton.1 h3] at e
   exact absurd e.symm (hn q h4)
  ·rw[List.mem_singleton.1 h3,List.mem_singleton.1 h4]
theorem zHQ (h:yN k s xs st) (hp:p∈st):Qv (gD st) (tu p)=(gD (qV st (keyOf p.2)),0):=by
 have hm:tu p∈gD st:=List.mem_map.2 ⟨p,hp,rfl⟩
 unfold Qv
 rw[if_pos hm]
 refine congrArg (·,(0:Int)) ?_
 unfold gD qV
 rw[List.filter_map]
 refine congrArg (List.map tu) (List.filter_congr fun q hq=>?_)
 simp only[Function.comp]
 by_cases e:keyOf q.2=keyOf p.2
 ·have:=h.key q hq p hp e
  subst this
  simp
 ·have hne:tu q≠tu p:=fun e2=>by
   unfold tu at e2
   injection e2 with e3 e4
   exact e (by rw[h.adr q hq p hp e4])
  simp[e,hne]
theorem Ua {f:Int} (h:∀ p,p∈st→p.1≠a):Qv (gD st) (f,a)=(gD st,4):=by
 unfold Qv
 rw[if_neg]
 intro hm
 obtain ⟨p,hp,e⟩:=List.mem_map.1 hm
 unfold tu at e
 injection e with e1 e2
 exact h p hp e2
theorem zHR {slots:Nat} (h:∀ p,p∈st→p.1≠a) (hl:st.length≠slots):Zz slots (gD st) ((xJ (keyOf bs):Int),a)=(gD (st++[(a,bs)]),0):=by
 unfold Zz
 rw[if_neg,if_neg]
 ·unfold gD
  rw[List.map_append]
  rfl
 ·unfold gD
  rw[List.length_map]
  exact hl
 ·intro hm
  obtain ⟨p,hp,e⟩:=List.mem_map.1 hm
  unfold tu at e
  injection e with e1 e2
  exact h p hp e2
theorem Hq:XB (gD st) (xJ us:Int)=(mP st us).map (·.1):=by
 unfold XB gD mP
 rw[List.filter_map,← List.map_reverse,List.map_map,List.map_reverse,List.map_reverse]
 refine congrArg List.reverse ?_
 have:(st.filter ((fun e:pU=>decide (e.1=(xJ us:Int))) ∘ tu))=st.filter (fun p=>decide (xJ (keyOf p.2)=xJ us)):=List.filter_congr fun q hq=>by
  simp only[Function.comp,tu]
  by_cases e:xJ (keyOf q.2)=xJ us
  ·simp[e]
  ·have:¬ ((xJ (keyOf q.2):Int)=(xJ us:Int)):=by omega
   simp[e,this]
 rw[this]
 rfl
theorem Jv:p∈mP st us↔p∈st∧xJ (keyOf p.2)=xJ us:=by unfold mP; simp
theorem Aw (h:∀ p,p∈mP st us→keyOf p.2≠us):jC st us=none:=zEf fun p hp e=>h p (Jv.2 ⟨hp,by rw[e]⟩) e
end
end
section
section
variable {P:Program} {w:World} {ops:Array Oper} {o:Oper} {a:Act} {Q:Exit→Act→World→Prop} {K:Act→World→Prop} {E:Prop}
theorem y9 (ty:TypeId) (ho:o.op=.alloc ty) (hgd:Region.wanted o (yielded ops a.tmps)=true) (zs:Array Value) (hz:∀ w,(zeroValue ty).run P w=.ok (.agg zs) w)
 (h:K (a.put o.dst (.pointer (some ⟨w.heap.size,0,none⟩))) (w.alloc (.cells zs ty))):if Region.wanted o (yielded ops a.tmps)=true then Oper.wp P o a w K Q else E:=by
 rw[if_pos hgd]
 unfold Oper.wp execOp
 simp only[ho,Instr.alloc,Sem.run_bind,hz,Result.andThen_ok]
 exact h
theorem jS (x y:Operand) (ty:TypeId) (ho:o.op=.store ty x y) (hgd:Region.wanted o (yielded ops a.tmps)=true) (g:Nat) (cs:Array Value) (hx:a.eval x=.pointer (some ⟨g,0,none⟩)) (hy:a.eval y=.agg cs)
 (t:TypeId) (cs0:Array Value) (hg:z8 w g t cs0) (hi:(P.info? ty).map (·.size)=some cs.size) (hl:cs0.size=cs.size) (hone:cs.all (·.oneCell')=true)
 (h:K (a.put o.dst undef) (w.setRow g cs)):if Region.wanted o (yielded ops a.tmps)=true then Oper.wp P o a w K Q else E:=by
 rw[if_pos hgd]
 exact wp_store_row ty x y ho g cs hx hy t cs0 hg hi hl hone h
end
abbrev jE:Array Value:=#[.bool false,.int .i64 0,.int .u64 0,.int .i64 0,.int .i64 0,.int .u32 0,.int .u32 0,.int .u64 0,.slice none 0 0,.slice none 0 0]
abbrev wY (p:(Int × Int × Int) × List Int) (b1 b2:Nat):Array Value:=#[.bool true,.int .i64 p.1.1,.int .u64 p.1.2.1,.int .i64 p.1.2.2,.int .i64 (kindOf p.2),.int .u32 (flagsOf p.2),.int .u32 (qA p.2),.int .u64 (zo p.2),.slice (some ⟨b1,0,none⟩) (zH p.2) (zH p.2),.slice (some ⟨b2,0,none⟩) (zO p.2) (zO p.2)]
theorem lU (w:World):(zeroValue 154).run Tryz.prog w=.ok (.agg jE) w:=(Tryz.zeroValue154 w).trans rfl
theorem xE:(Tryz.prog.info? 154).map (·.size)=some 10:=by kernel_rfl
theorem Ju (p:(Int × Int × Int) × List Int) (b1 b2:Nat):(wY p b1 b2).all (·.oneCell')=true:=by simp[wY,Value.oneCell']
theorem Gt:jE.all (·.oneCell')=true:=by simp[jE,Value.oneCell']
end
section
theorem Rk:(Tryz.prog.info? 3).map (fun i=>(i.zero,i.size,i.bytes))=some (some (.int .i64 0),1,8):=by kernel_rfl
def stepOf (h:Int):Int:=bits .or .u32 (h / 4294967296 % 4294967296) 1
def probe (h m:Int) (i:Nat):Int:=(h+i*stepOf h) % 4294967296 % m
def probes (h m:Int) (n:Nat):List Int:=(List.range n).map (probe h m)
theorem uh (h m:Int) (i:Nat) (m1:1≤m):0≤probe h m i∧probe h m i<m:=by
 unfold probe
 exact ⟨Int.emod_nonneg _ (by omega),Int.emod_lt_of_pos _ (by omega)⟩
theorem Ay (h:Int) (k:Nat) :
 ((h+k*stepOf h) % 4294967296+bits BinOp.or IntKind.u32 (h / 4294967296 % 4294967296) 1) % 4294967296=(h+((k+1:Nat):Int)*stepOf h) % 4294967296:=by
 show ((h+k*stepOf h) % 4294967296+stepOf h) % 4294967296=_
 generalize stepOf h=s
 rw[Int.natCast_add,Int.add_mul]
 omega
theorem RD (h m:Int) (k:Nat) (m1:1≤m) (m2:m≤16777216):wrap64 ((h+k*stepOf h) % 4294967296 % m)=probe h m k:=by
 have:=uh h m k m1
 exact IntWalk.wrap64_in _ ⟨by unfold probe at this; omega,by unfold probe at this; omega⟩
theorem FT (h m:Int) (n:Nat) (w:World) (h0:0≤h) (m1:1≤m) (m2:m≤16777216) (n1:1≤n) (n2:n≤16) :
 Calls Tryz.prog 190 #[.int .u64 h,.int .i64 m,.int .i64 n] w fun e w'=>e=.returned (.slice (some ⟨w.heap.size,0,none⟩) n n) ∧
  w'.rowIs w.heap.size 3 n (fun j=>.int .i64 (probe h m j))∧Below w.heap.size w w':=by
 have hmk:=fun u:World=>run_make_row' (P:=Tryz.prog) 232 3 (.int .i64 0) 8 Tryz.underlying232 Rk rfl .i64 .i64 n (by omega) (by omega) u
 have d1:decide (m<1)=false:=by simp; omega
 have d2:decide (16777216<m)=false:=by simp; omega
 have d3:decide ((n:Int)<1)=false:=by simp; omega
 have d4:decide (16<(n:Int))=false:=by simp; omega
 go_enter Tryz.func190,Tryz.ntmps190
 go_wp2
 go_loopw [7,35] (fun v i wr=>∃ k:Nat,k≤n∧i=.int .i64 k∧v=.int .u32 ((h+k*stepOf h) % 4294967296) ∧
  wr.rowIs w.heap.size 3 n (fun j=>if j<k then .int .i64 (probe h m j) else .int .i64 0)∧Below w.heap.size w wr) (fun _ i _=>n-(intOf i).toNat)
 case atStart =>
  refine ⟨0,by omega,rfl,by simp,(World.rowIs_made w (.int .i64 0) n 3).congr (fun j _=>by simp),(Below.refl _ _).alloc (nR _) _⟩
 case round =>
  obtain ⟨k,hk,rfl,rfl,hrow,hbel⟩:=hrel
  by_cases hlt:k<n
  ·have hcell:=hrow.cell hlt
   rw[if_neg (by omega)] at hcell
   have hfr:=hrow.frozen k
   have HR:=hI hrow
   have HB:=hI hbel
   clear hrow hbel
   go_wp2
   go_roundw
   case rel =>
    refine ⟨k+1,by omega,by go_num,congrArg (Value.int .u32) (Ay h k),?_,?_⟩
    ·rw[RD h m k m1 m2]
     refine (HR.out.set k _).congr fun j hj=>?_
     by_cases e:j=k
     ·subst e; simp
     ·rw[if_neg e]
      by_cases hjk:j<k
      ·rw[if_pos hjk,if_pos (by omega)]
      ·rw[if_neg hjk,if_neg (by omega)]
    ·exact HB.out.setCell (nR _) _
   case measure=>simp[intOf]; omega
  ·have HR:=hI hrow
   have HB:=hI hbel
   clear hrow hbel
   go_wp2
   go_ret
   exact ⟨rfl,HR.out.congr (fun j hj=>by rw[if_pos (by omega)]),HB.out⟩
theorem RA (h m:Int) (k:Nat):(probes h m k).length=k:=by simp[probes]
end
section
def nC (b:Int) (s:Nat):Bool:=b.toNat.testBit (7-s)
def wE (s:Nat):Int:=((2 ^ (7-s):Nat):Int)
def Gl (x y:Int):Int:=((x.toNat ||| y.toNat:Nat):Int)
theorem tN (s:Nat):1≤wE s∧wE s≤128:=by
 unfold wE
 have h1:2 ^ (7-s)≤2 ^ 7:=Nat.pow_le_pow_right (by omega) (by omega)
 have h2:0<2 ^ (7-s):=Nat.pow_pos (by omega)
 omega
theorem RN {x y:Int} (hx:0≤x∧x≤255) (hy:0≤y∧y≤255):0≤Gl x y∧Gl x y≤255:=by
 unfold Gl
 have:x.toNat ||| y.toNat<2 ^ 8:=Nat.or_lt_two_pow (by omega) (by omega)
 omega
theorem zDO (x y:Int) (s:Nat):nC (Gl x y) s=(nC x s||nC y s):=by
 simp[nC,Gl,Nat.testBit_or]
theorem Sd (r s:Nat) (hr:r<8) (hs:s<8):nC (wE r) s=decide (s=r):=by
 unfold nC wE
 rw[Int.toNat_natCast,Nat.testBit_two_pow]
 congr 1
 simp only[eq_iff_iff]
 omega
def Zv (b:Int):List Bool:=(List.range 8).map (nC b)
def bitsOf (xs:List Int):List Bool:=xs.flatMap Zv
theorem aT (b:Int):(Zv b).length=8:=by simp[Zv]
theorem pG (xs:List Int):(bitsOf xs).length=8*xs.length:=by
 induction xs with
 | nil=>rfl
 | cons x r ih =>
  simp only[bitsOf,List.flatMap_cons,List.length_append,aT,List.length_cons] at *
  rw[ih]; omega
theorem Zx (xs:List Int) (i:Nat) (h:i<8*xs.length):(bitsOf xs).getD i false=nC (xs.getD (i / 8) 0) (i % 8):=by
 induction xs generalizing i with
 | nil=>simp at h
 | cons x r ih =>
  simp only[bitsOf,List.flatMap_cons] at *
  by_cases hi:i<8
  ·rw[show i / 8=0 by omega,show i % 8=i by omega]
   simp[List.getD,List.getElem?_append,Zv,hi]
  ·have:=ih (i-8) (by simp at h; omega)
   rw[show (i-8) / 8=i / 8-1 by omega,show (i-8) % 8=i % 8 by omega] at this
   rw[show i / 8=(i / 8-1)+1 by omega]
   simp only[List.getD_cons_succ]
   rw[← this]
   simp[List.getD,List.getElem?_append,aT,hi]
def setBit (xs:List Int) (i:Nat):List Int:=xs.set (i / 8) (Gl (xs.getD (i / 8) 0) (wE (i % 8)))
theorem wu (xs:List Int) (i:Nat):(setBit xs i).length=xs.length:=by simp[setBit]
theorem Kh (xs:List Int) (i j:Nat) (v:Int) (h:i<xs.length):(xs.set i v).getD j 0=if j=i then v else xs.getD j 0:=by
 simp only[List.getD,List.getElem?_set]
 by_cases e:i=j
 ·subst e; simp[h]
 ·rw[if_neg e,if_neg (fun h=>e h.symm)]
theorem GA {xs:List Int} (h:Bytes xs) (i:Nat) (hi:i / 8<xs.length):Bytes (setBit xs i):=by
 intro j
 unfold setBit
 rw[Kh _ _ _ _ hi]
 split
 ·exact RN (h _) (by have:=tN (i % 8); omega)
 ·exact h j
theorem Ba (xs:List Int) (i:Nat) (hi:i<8*xs.length):bitsOf (setBit xs i)=(bitsOf xs).set i true:=by
 apply List.ext_getElem
 ·simp[pG,wu]
 ·intro j h1 h2
  have hj:j<8*xs.length:=by simpa [pG,wu] using h1
  have g1:=Zx (setBit xs i) j (by rw[wu]; exact hj)
  rw[List.getD_eq_getElem?_getD,List.getElem?_eq_getElem h1,Option.getD_some] at g1
  rw[g1,List.getElem_set]
  have g2:=Zx xs j hj
  have hjl:j<(bitsOf xs).length:=by rw[pG]; exact hj
  rw[List.getD_eq_getElem?_getD,List.getElem?_eq_getElem hjl,Option.getD_some] at g2
  rw[g2]
  unfold setBit
  rw[Kh _ _ _ _ (by omega)]
  by_cases e:j / 8=i / 8
  ·rw[if_pos e,zDO,Sd _ _ (by omega) (by omega),e]
   by_cases e2:i=j
   ·rw[if_pos e2]; subst e2; simp
   ·rw[if_neg e2,decide_eq_false (by omega)]; simp
  ·rw[if_neg e,if_neg (by rintro rfl; exact e rfl)]
def setBits (xs:List Int) (ps:List Int):List Int:=ps.foldl (fun xs p=>setBit xs p.toNat) xs
def iP (l:List Bool) (ps:List Int):List Bool:=ps.foldl (fun l p=>l.set p.toNat true) l
def vJ (l:List Bool) (ps:List Int):Bool:=ps.all fun p=>l.getD p.toNat false
theorem G9 (xs ps:List Int) (p:Int):setBits xs (ps++[p])=setBit (setBits xs ps) p.toNat:=by simp[setBits]
theorem gX (xs ps:List Int):(setBits xs ps).length=xs.length:=by
 induction ps generalizing xs with
 | nil=>rfl
 | cons p r ih=>show (setBits (setBit xs p.toNat) r).length=_; rw[ih,wu]
theorem iX (xs ps:List Int) (hp:∀ p∈ps,0≤p∧p<8*xs.length):bitsOf (setBits xs ps)=iP (bitsOf xs) ps:=by
 induction ps generalizing xs with
 | nil=>rfl
 | cons p r ih =>
  have hp0:=hp p (by simp)
  show bitsOf (setBits (setBit xs p.toNat) r)=iP ((bitsOf xs).set p.toNat true) r
  rw[ih _ (fun q hq=>by rw[wu]; exact hp q (by simp[hq])),Ba _ _ (by omega)]
theorem Xa (l:List Bool) (ps:List Int) (i:Nat) (hi:i<l.length):(iP l ps).getD i false=(l.getD i false||ps.any fun p=>decide (p.toNat=i)):=by
 induction ps generalizing l with
 | nil=>simp[iP]
 | cons p r ih =>
  show (iP (l.set p.toNat true) r).getD i false=_
  rw[ih _ (by simpa using hi)]
  simp only[List.any_cons,List.getD,List.getElem?_set,List.length_set]
  by_cases e:p.toNat=i
  ·subst e; simp[hi]
  ·simp[e]
def top (b:Int) (j:Nat):Int:=((b.toNat / 2 ^ (8-j):Nat):Int)
theorem Dz (l:List Bool) (ps:List Int) (k:Nat) (hk:k<ps.length) (h:l.getD (ps.getD k 0).toNat false=false):vJ l ps=false:=by
 unfold vJ
 rw[List.all_eq_false]
 refine ⟨ps.getD k 0,?_,by rw[h]; simp⟩
 simp[List.getD,List.getElem?_eq_getElem hk]
theorem Fy (l:List Bool) (ps:List Int) (k:Nat) (hk:k<ps.length) (h:vJ l (ps.take k)=true) (h2:l.getD (ps.getD k 0).toNat false=true):vJ l (ps.take (k+1))=true:=by
 unfold vJ at *
 rw[bR ps k hk,List.all_append,h]
 simp[List.all_cons,h2]
 simpa [List.getD] using h2
theorem Uv:∀ v:Nat,v<256→∀ r:Nat,r<8→(v &&& 2 ^ (7-r)==0)=!v.testBit (7-r):=by decide +kernel
theorem zAG (v:Nat) (hv:v<256) (r:Nat) (hr:r<8):(((v &&& 2 ^ (7-r):Nat):Int)==0)=!v.testBit (7-r):=by
 rw[← Uv v hv r hr]
 generalize v &&& 2 ^ (7-r)=q
 rw[Bool.eq_iff_iff]
 simp
theorem zDP {x:Int} (hx:0≤x∧x≤255) (r:Nat) (hr:r<8):(bits .and .u8 x (wE r)==0)=!nC x r:=by
 have hm:=tN r
 rw[u8_and _ _ hx.1 (by omega) (by omega) (by omega)]
 unfold wE nC
 rw[Int.toNat_natCast]
 exact zAG x.toNat (by omega) r hr
end
section
def jG (w:World) (f h:Nat) (xs:List Int):Prop :=
 z8 w f 224 #[.slice (some ⟨h,0,none⟩) xs.length xs.length]∧zn w h xs∧f≠h∧Bytes xs∧1≤xs.length∧xs.length≤8192
section
variable {w w':World} {f h:Nat} {xs:List Int}
theorem jG.cell0 (H:jG w f h xs):w.cell? ⟨f,0,none⟩=some (.slice (some ⟨h,0,none⟩) xs.length xs.length):=H.1.cell 0
theorem jG.arr (H:jG w f h xs):zn w h xs:=H.2.1
theorem jG.bytes (H:jG w f h xs):Bytes xs:=H.2.2.2.1
theorem jG.one (H:jG w f h xs):1≤xs.length:=H.2.2.2.2.1
theorem jG.most (H:jG w f h xs):xs.length≤8192:=H.2.2.2.2.2
theorem jG.kept {S:Nat→Prop} (H:jG w f h xs) (hk:Kept S w w') (hf:S f) (hh:S h):jG w' f h xs:=⟨H.1.kept hk hf,H.2.1.kept hk hh,H.2.2⟩
theorem jG.below {B:Nat} (H:jG w f h xs) (hb:Below B w w') (hf:f<B) (hh:h<B):jG w' f h xs:=⟨H.1.below hb hf,H.2.1.below hb hh,H.2.2⟩
theorem jG.ltf (H:jG w f h xs):f<w.heap.size:=H.1.lt
theorem jG.lth (H:jG w f h xs):h<w.heap.size:=H.2.1.lt
theorem jG.behind {w2:World} (H:jG w f h xs) (hb:Below w2.heap.size w2 w') (e:w2.heap=w.heap):jG w' f h xs:=by
 have H2:jG w2 f h xs:=⟨(congrArg (fun z:Array Obj=>z[f]?) e).trans H.1,(congrArg (fun z:Array Obj=>z[h]?) e).trans H.2.1,H.2.2⟩
 exact H2.below hb H2.1.lt H2.2.1.lt
theorem jG.belowAll (H:jG w f h xs) (hb:Below w.heap.size w w'):jG w' f h xs:=H.below hb H.ltf H.lth
end
theorem jG.store {w:World} {f h:Nat} {xs:List Int} (H:jG w f h xs) (i:Nat) (y:Int) (hy:Bytes (xs.set i y)) (d:Nat) :
 jG ((w.drewN d).setCell ⟨h,i,none⟩ (.int .u8 y)) f h (xs.set i y):=by
 have hl:(xs.set i y).length=xs.length:=by simp
 refine ⟨?_,qF.set (mk:=Value.int .u8) (H.2.1:zn (w.drewN d) h xs) i y,H.2.2.1,hy,by rw[hl]; exact H.one,by rw[hl]; exact H.most⟩
 rw[hl]
 exact z8.far (H.1.drewN d) (p:=⟨h,i,none⟩) H.2.2.1 _
theorem zEZ {x y:Int} (hx:0≤x∧x≤255) (hy:0≤y∧y≤255):bits .or .u8 x y=Gl x y:=by
 rw[u8_or _ _ hx.1 (by omega) hy.1 (by omega)]
 rfl
theorem jG.setBit {w:World} {f h:Nat} {xs:List Int} (H:jG w f h xs) (p:Nat) (hp:p<8*xs.length) (d:Nat) :
 jG ((w.drewN d).setCell ⟨h,p / 8,none⟩ (.int .u8 (bits .or .u8 (xs.getD (p / 8) 0) (wE (p % 8))))) f h (setBit xs p):=by
 have hm:=tN (p % 8)
 rw[zEZ (H.bytes _) (by omega)]
 exact H.store _ _ (GA H.bytes p (by omega)) d
theorem E5 (m:Int) (k:Nat) (w:World) (hm:m=8*(k:Int)) (k1:1≤k) (k2:k≤8192) :
 Calls Tryz.prog 65 #[.int .i64 m] w fun e w'=>e=.returned (.tuple #[.pointer (some ⟨w.heap.size+1,0,none⟩),.int .i64 0])∧jG w' (w.heap.size+1) w.heap.size (List.replicate k 0)∧Below w.heap.size w w':=by
 have hmk:=fun u:World=>run_make_row' (P:=Tryz.prog) 31 5 (.int .u8 0) 1 Tryz.underlying31 rC rfl .i64 .i64 k (by omega) (by omega) u
 rw[show (k:Int)=m / 8 by omega] at hmk
 have d1:decide (m<8)=false:=by simp; omega
 have d2:decide (65536<m)=false:=by simp; omega
 have h0:0≤m:=by omega
 have h1:m≤65536:=by omega
 have d3:(m % 8 != 0)=false:=by simp; omega
 have HM:=hI hm
 clear hm
 go_enter Tryz.func65,Tryz.ntmps65
 go_wp2
 go_ret2
 refine ⟨by simp,⟨?_,?_,by omega,?_,by simp; omega,by simp; omega⟩,((Below.refl _ _).alloc (nR _) _).alloc (by simp) _⟩
 ·have:=z8.new (w.alloc (.cells (madeCells #[.int .u8 0] k) 5)) 224 #[.slice (some ⟨w.heap.size,0,none⟩) k k]
  simpa using this
 ·exact (qF.made (mk:=Value.int .u8) w 0 k 5).alloc _
 ·intro j
  by_cases hj:j<k <;> simp[List.getD,hj]
theorem zAD (w:World) (f h:Nat) (xs:List Int) (H:jG w f h xs) :
 Calls Tryz.prog 191 #[.pointer (some ⟨f,0,none⟩)] w fun e w'=>e=.returned (.int .i64 ((8*xs.length:Nat):Int))∧w=w':=by
 have c0:=H.cell0
 have hl:=H.most
 clear H
 go_enter Tryz.func191,Tryz.ntmps191
 go_wp2
 go_ret
 exact ⟨pV (by omega),rfl⟩
theorem zCo:∀ r:Nat,r<8→(128:Int) / 2 ^ r=wE r:=by
 intro r hr
 match r,hr with
 | 0,_=>rfl
 | 1,_=>rfl
 | 2,_=>rfl
 | 3,_=>rfl
 | 4,_=>rfl
 | 5,_=>rfl
 | 6,_=>rfl
 | 7,_=>rfl
theorem eZ (p:Nat) (w:World) (h1:p<65536) :
 Calls Tryz.prog 144 #[.int .i64 p] w fun e w'=>e=.returned (.tuple #[.int .i64 ((p / 8:Nat):Int),.int .u8 (wE (p % 8))])∧∃ k,w.drewN k=w':=by
 go_enter Tryz.func144,Tryz.ntmps144
 go_wp2
 go_quiet (fail)
 go_wp2
 go_ret2
 refine ⟨?_,_,rfl⟩
 have e1:((p:Int) % 8).toNat=p % 8:=by omega
 simp[e1,zCo (p % 8) (by omega)]
def jk (hh:Int) (xs:List Int):List Int:=probes hh ((8*xs.length:Nat):Int) 4
theorem bY (hh:Int) (xs:List Int):(jk hh xs).length=4:=RA _ _ _
theorem Ww (hh:Int) (xs:List Int) (hx:1≤xs.length) (k:Nat) (hk:k<4):∃ p:Nat,(jk hh xs).getD k 0=(p:Int)∧p<8*xs.length:=by
 have hb:=uh hh ((8*xs.length:Nat):Int) k (by omega)
 refine ⟨(probe hh ((8*xs.length:Nat):Int) k).toNat,?_,by omega⟩
 unfold jk probes
 generalize ((8*xs.length:Nat):Int)=m at *
 simp[List.getD,List.getElem?_range hk]
 omega
theorem aG (hh:Int) (xs:List Int) (hx:1≤xs.length):∀ p∈jk hh xs,0≤p∧p<8*xs.length:=by
 intro p hp
 obtain ⟨i,hi,rfl⟩:=List.mem_map.1 hp
 have hb:=uh hh ((8*xs.length:Nat):Int) i (by omega)
 omega
theorem RB (h m x:Int) (n:Nat) (w:World) (hx:x=n) (h0:0≤h) (m1:1≤m) (m2:m≤16777216) (n1:1≤n) (n2:n≤16) :
 Calls Tryz.prog 190 #[.int .u64 h,.int .i64 m,.int .i64 x] w fun e w'=>e=.returned (.slice (some ⟨w.heap.size,0,none⟩) n n) ∧
  zW .i64 w' (·=w.heap.size) (some ⟨w.heap.size,0,none⟩) n (probes h m n)∧Below w.heap.size w w'∧w.heap.size<w'.heap.size:=by
 subst hx
 refine (FT h m n w h0 m1 m2 n1 n2).mono ?_
 rintro e w' ⟨rfl,hr,hb⟩
 refine ⟨rfl,⟨by simp[probes],fun _=>⟨_,0,rfl,rfl,fun j hj=>?_⟩⟩,hb,hr.lt⟩
 rw[Nat.zero_add,hr.cell hj]
 simp[probes,List.getD,List.getElem?_range hj]
theorem XT (w:World) (f h:Nat) (xs:List Int) (hh:Int) (H:jG w f h xs) (h0:0≤hh) :
 Calls Tryz.prog 143 #[.pointer (some ⟨f,0,none⟩),.int .u64 hh] w fun e w'=>e=.returned (.slice (some ⟨w.heap.size,0,none⟩) 4 4) ∧
  zW .i64 w' (·=w.heap.size) (some ⟨w.heap.size,0,none⟩) 4 (jk hh xs)∧Below w.heap.size w w'∧w.heap.size<w'.heap.size:=by
 have HF:=hI H
 have h1:=H.one
 have h2:=H.most
 clear H
 go_enter Tryz.func143,Tryz.ntmps143
 go_wp2_with fail
 refine (zAD _ f h xs HF.out).mono ?_
 rintro e w' ⟨rfl,rfl⟩
 go_wp2_with (go_at_call 190; refine (RB hh _ _ 4 _ rfl h0 (by omega) (by omega) (by omega) (by omega)).mono ?_; rintro e w' ⟨rfl,hr,hb⟩; have HR:=hI hr; have HB:=hI hb; clear hr hb)
 go_ret
 exact ⟨rfl,HR.out,HB.out⟩
theorem zDQ (w:World) (f h:Nat) (xs:List Int) (hh:Int) (H:jG w f h xs) (h0:0≤hh) :
 Calls Tryz.prog 187 #[.pointer (some ⟨f,0,none⟩),.int .u64 hh] w fun e w'=>e=.returned (.int .i64 0) ∧
  jG w' f h (setBits xs (jk hh xs))∧Kept (fun b=>b<w.heap.size∧b≠h) w w':=by
 have HF:=hI H
 have h1:=H.one
 have h2:=H.most
 clear H
 go_enter Tryz.func187,Tryz.ntmps187
 go_wp2_with (go_at_call 143; refine (XT _ f h xs hh HF.out h0).mono ?_; rintro e w1 ⟨rfl,hr,hb,hlt⟩; have HR:=hI hr; have HB:=hI hb; have qd:=hI hlt; clear hr hb hlt)
 have Y7:=hI (HF.out.belowAll HB.out)
 go_loopw [15] (fun i wr=>∃ k:Nat,k≤4∧i=.int .i64 k∧jG wr f h (setBits xs ((jk hh xs).take k))∧Kept (fun b=>b<w1.heap.size∧b≠h) w1 wr) (fun i _=>4-(intOf i).toNat)
 case atStart=>exact ⟨0,by omega,rfl,Y7.out,Kept.refl _ _⟩
 case round =>
  obtain ⟨k,hk,rfl,hfil,hkept⟩:=hrel
  by_cases hlt:k<4
  ·obtain ⟨p,hp,QW⟩:=Ww hh xs h1 k hlt
   have hrow:=HR.out.kept hkept (fun b e=>by subst e; exact ⟨qd.out,fun e=>by have:=HF.out.lth; omega⟩)
   obtain ⟨_,off,e0,rfl,hc⟩:=hrow.2 (by omega)
   injection e0 with e0
   injection e0 with _ e1
   subst e1
   have hcell:=hc k hlt
   rw[hp,Nat.zero_add] at hcell
   have hlen:(setBits xs ((jk hh xs).take k)).length=xs.length:=gX _ _
   have hc0:=hfil.cell0
   have hch:=hfil.arr.cell (i:=p / 8) (by rw[hlen]; omega) 0
   have hfr:=hfil.arr.frozen (p / 8)
   have hby:=hfil.bytes (p / 8)
   rw[hlen] at hc0
   have HFI:=hI hfil
   have HK:=hI hkept
   have HP:=hI hp
   have HLEN:=hI hlen
   generalize hv:(setBits xs ((jk hh xs).take k)).getD (p / 8) 0=v at hch hby
   have HV:=hI hv
   clear hc hfil hkept hp hlen hv hrow
   go_wp2_with (go_at_call 144; refine (eZ p _ (by omega)).mono ?_; rintro e w' ⟨rfl,d,rfl⟩)
   go_roundw
   case rel =>
    refine ⟨k+1,by omega,by go_num,?_,?_⟩
    ·rw[bR _ k (by rw[bY]; exact hlt),G9,HP.out,Int.toNat_natCast,← HV.out]
     exact HFI.out.setBit p (by rw[HLEN.out]; exact QW) d
    ·exact (HK.out.drewN d).setCell (fun h=>h.2 rfl) _
   case measure=>(simp[intOf] <;> omega)
  ·go_wp2
   go_ret
   obtain rfl:k=4:=by omega
   rw[List.take_of_length_le (by rw[bY]; omega)] at hfil
   refine ⟨rfl,hfil,(Kept.of_below HB.out (fun b h=>h.1)).trans hkept (fun b h=>⟨nL h.1 HB.out.size,h.2⟩)⟩
theorem Ld (w:World) (f h:Nat) (xs:List Int) (hh:Int) (H:jG w f h xs) (h0:0≤hh) :
 Calls Tryz.prog 83 #[.pointer (some ⟨f,0,none⟩),.int .u64 hh] w fun e w'=>e=.returned (.bool (vJ (bitsOf xs) (jk hh xs)))∧Below w.heap.size w w':=by
 have HF:=hI H
 have h1:=H.one
 have h2:=H.most
 clear H
 go_enter Tryz.func83,Tryz.ntmps83
 go_wp2
 go_step3
 go_wp2
 go_step3
 go_wp2_with (go_at_call 143; refine (XT _ f h xs hh HF.out h0).mono ?_; rintro e w1 ⟨rfl,hr,hb,hlt⟩; have HR:=hI hr; have HB:=hI hb; have qd:=hI hlt; clear hr hb hlt)
 have Y7:=hI (HF.out.belowAll HB.out)
 go_loopw [5,16] (fun m i wr=>∃ k d:Nat,k≤4∧i=.int .i64 k∧m=.bool true∧wr=w1.drewN d∧vJ (bitsOf xs) ((jk hh xs).take k)=true) (fun _ i _=>4-(intOf i).toNat)
 case atStart=>exact ⟨0,0,by omega,rfl,rfl,rfl,rfl⟩
 case round =>
  obtain ⟨k,d,hk,rfl,rfl,rfl,hall⟩:=hrel
  by_cases hlt:k<4
  ·obtain ⟨p,hp,QW⟩:=Ww hh xs h1 k hlt
   obtain ⟨_,off,e0,rfl,hc⟩:=HR.out.2 (by omega)
   injection e0 with e0
   injection e0 with _ e1
   subst e1
   have hcell:=hc k hlt
   rw[hp,Nat.zero_add] at hcell
   have hc0:=Y7.out.cell0
   have hch:=Y7.out.arr.cell (i:=p / 8) (by omega) 0
   have hby:=Y7.out.bytes (p / 8)
   have hbit:=Zx xs p QW
   have HP:=hI hp
   have yK:=hI hall
   generalize hv:xs.getD (p / 8) 0=v at hch hby hbit
   have hand:=zDP hby (p % 8) (by omega)
   clear hc hp hv hall
   by_cases hb:nC v (p % 8)=true
   ·rw[hb] at hand hbit
    have hand':(bits .and .u8 v (wE (p % 8))==0)=false:=hand
    have zOD:=hI hbit
    clear hand hb hbit
    go_wp2_with (go_at_call 144; refine (eZ p _ (by omega)).mono ?_; rintro e w' ⟨rfl,d,rfl⟩)
    go_roundw
    case rel=>exact ⟨k+1,_,by omega,by go_num,rfl,rfl,Fy _ _ k (by rw[bY]; exact hlt) yK.out (by rw[HP.out,Int.toNat_natCast]; exact zOD.out)⟩
    case measure=>(simp[intOf] <;> omega)
   ·rw[Bool.not_eq_true] at hb
    rw[hb] at hand hbit
    have hand':(bits .and .u8 v (wE (p % 8))==0)=true:=hand
    have hres:=hI (Dz (bitsOf xs) (jk hh xs) k (by rw[bY]; exact hlt) (by rw[HP.out,Int.toNat_natCast]; exact hbit))
    clear hand hb hbit
    go_wp2_with (go_at_call 144; refine (eZ p _ (by omega)).mono ?_; rintro e w' ⟨rfl,d,rfl⟩)
    rw[Exit.noGoto_ret]
    go_ret
    exact ⟨bV hres.out.symm,below_drewN HB.out _⟩
  ·obtain rfl:k=4:=by omega
   rw[List.take_of_length_le (by rw[bY]; omega)] at hall
   have yK:=hI hall
   clear hall
   go_wp2
   rw[Exit.noGoto_ret]
   go_ret
   exact ⟨bV yK.out.symm,below_drewN HB.out _⟩
end
section
structure xu where
 l:Nat
 p:Nat
 d:Nat
 n:Nat
 q:Nat
 x:Nat
 F:Nat
 c:Nat
 t:Int
 k:Dk
 pe:Nat
 fs:List (Nat × Nat)
def xu.own (B:xu) (b:Nat):Prop:=b=B.q∨b=B.x∨b=B.F∨∃ f,f∈B.fs∧(b=f.1∨b=f.2)
structure ow (w:World) (F:Nat) (fs:List (Nat × Nat)) (bl:List (List Int)):Prop where
 row:∃ cs,z8 w F 139 cs∧∀ (i:Nat) f,fs[i]? = some f→cs[i]? = some (.pointer (some ⟨f.1,0,none⟩))
 fil:∀ (i:Nat) f,fs[i]? = some f→jG w f.1 f.2 (bl.getD i [])
 len:fs.length=bl.length
 bits:∀ i,i<bl.length→(bl.getD i []).length=128
 inj:∀ (i j:Nat) f g,fs[i]? = some f→fs[j]? = some g→i≠j→f.1≠g.1∧f.2≠g.2
structure zT (w:World) (X:Nat→Prop) (B:xu) (slots:Nat) (s:Sup) (xs:List Seg) (st:List zm) (bl:List (List Int)) (u:Bool):Prop where
 blk:z8 w B.q 137 #[.pointer (some ⟨B.l,0,none⟩),.pointer (some ⟨B.x,0,none⟩),.slice (some ⟨B.F,0,none⟩) B.fs.length B.c,.bool u]
 fm:ow w B.F B.fs bl
 num:bl.length=xs.length
 ix:gJ w B.x slots (gD st)
 log:jJ w (fun b=>X b∨B.own b) B.l B.p B.d B.n s B.t B.k xs B.pe
 inv:yN B.k s xs st
 off:∀ b,B.own b→¬ X b
 lt:∀ b,X b→b<w.heap.size
section
variable {w w':World} {X Y:Nat→Prop} {B:xu} {slots:Nat} {s:Sup} {xs:List Seg} {st:List zm} {bl:List (List Int)} {u:Bool} {F:Nat} {fs:List (Nat × Nat)}
theorem ow.flt (h:ow w F fs bl):F<w.heap.size:=by obtain ⟨cs,h1,_⟩:=h.row; exact h1.lt
theorem ow.lt (h:ow w F fs bl) {f:Nat × Nat} (hf:f∈fs):f.1<w.heap.size∧f.2<w.heap.size:=by
 obtain ⟨i,hi⟩:=List.mem_iff_getElem?.1 hf
 exact ⟨(h.fil i f hi).ltf,(h.fil i f hi).lth⟩
theorem ow.kept {S:Nat→Prop} (h:ow w F fs bl) (hk:Kept S w w') (hF:S F) (hf:∀ f,f∈fs→S f.1∧S f.2):ow w' F fs bl:=by
 obtain ⟨cs,h1,h2⟩:=h.row
 exact ⟨⟨cs,h1.kept hk hF,h2⟩,fun i f hi=>(h.fil i f hi).kept hk (hf f (List.mem_of_getElem? hi)).1 (hf f (List.mem_of_getElem? hi)).2,h.len,h.bits,h.inj⟩
theorem zT.own_lt (h:zT w X B slots s xs st bl u) {b:Nat} (hb:B.own b):b<w.heap.size:=by
 rcases hb with rfl | rfl | rfl | ⟨f,hf,rfl | rfl⟩
 ·exact h.blk.lt
 ·exact h.ix.lt
 ·exact h.fm.flt
 ·exact (h.fm.lt hf).1
 ·exact (h.fm.lt hf).2
theorem zT.ylt (h:zT w X B slots s xs st bl u):∀ b,(X b∨B.own b)→b<w.heap.size:=fun b hb=>hb.elim (h.lt b) h.own_lt
theorem zT.own_kept {S:Nat→Prop} (h:zT w X B slots s xs st bl u) (hk:Kept S w w') (hS:∀ b,B.own b→S b) :
 z8 w' B.q 137 #[.pointer (some ⟨B.l,0,none⟩),.pointer (some ⟨B.x,0,none⟩),.slice (some ⟨B.F,0,none⟩) B.fs.length B.c,.bool u]∧ow w' B.F B.fs bl∧gJ w' B.x slots (gD st) :=
 ⟨h.blk.kept hk (hS _ (.inl rfl)),h.fm.kept hk (hS _ (.inr (.inr (.inl rfl)))) (fun f hf=>⟨hS _ (.inr (.inr (.inr ⟨f,hf,.inl rfl⟩))),hS _ (.inr (.inr (.inr ⟨f,hf,.inr rfl⟩)))⟩),h.ix.kept hk (hS _ (.inr (.inl rfl)))⟩
theorem zT.offX {S:Nat→Prop} (h:zT w X B slots s xs st bl u) (hk:Kept S w w') (hS:∀ b,b<w.heap.size→¬ X b→S b):zT w' X B slots s xs st bl u:=by
 obtain ⟨h1,h2,h3⟩:=h.own_kept hk (fun b hb=>hS b (h.own_lt hb) (h.off b hb))
 exact ⟨h1,h2,h.num,h3,h.log.off hk (fun b hb hn=>hS b hb (fun e=>hn (.inl e))),h.inv,h.off,fun b hb=>nL (h.lt b hb) hk.size⟩
theorem zT.below (h:zT w X B slots s xs st bl u) (hb:Below w.heap.size w w'):zT w' X B slots s xs st bl u :=
 h.offX (Kept.of_below (S:=fun b=>b<w.heap.size) hb (fun b h=>h)) (fun b h _=>h)
theorem zT.less (h:zT w Y B slots s xs st bl u) (hX:∀ b,X b→Y b):zT w X B slots s xs st bl u :=
 ⟨h.blk,h.fm,h.num,h.ix,h.log.less (fun b hb=>hb.imp (hX b) id),h.inv,fun b hb hx=>h.off b hb (hX b hx),fun b hb=>h.lt b (hX b hb)⟩
theorem zT.grow (h:zT w X B slots s xs st bl u) (hb:Below w.heap.size w w'):zT w' (fun b=>X b∨(w.heap.size≤b∧b<w'.heap.size)) B slots s xs st bl u:=by
 have h2:=h.below hb
 refine ⟨h2.blk,h2.fm,h2.num,h2.ix,(h.log.grow hb).less (fun b hb=>?_),h2.inv,fun b ho hx=>?_,fun b hx=>?_⟩
 ·rcases hb with (h | h) | h
  ·exact .inl (.inl h)
  ·exact .inr h
  ·exact .inl (.inr h)
 ·have:=h.own_lt ho
  rcases hx with hx | hx
  ·exact h.off b ho hx
  ·omega
 ·rcases hx with hx | hx
  ·exact h2.lt b hx
  ·exact hx.2
theorem zT.logTo {s1:Sup} {xs1:List Seg} {t1:Int} {k1:Dk} {fQ:Nat} (h:zT w X B slots s xs st bl u) (hk:Kept (fun b=>X b∨B.own b) w w') (hl:jJ w' (fun b=>X b∨B.own b) B.l B.p B.d B.n s1 t1 k1 xs1 fQ) (hn:xs1.length=xs.length) (hi:yN k1 s1 xs1 st) :
 zT w' X { B with t:=t1,k:=k1,pe:=fQ } slots s1 xs1 st bl u:=by
 obtain ⟨h1,h2,h3⟩:=h.own_kept hk (fun b hb=>.inr hb)
 exact ⟨h1,h2,h.num.trans hn.symm,h3,hl,hi,h.off,fun b hb=>nL (h.lt b hb) hk.size⟩
theorem zT.cells (h:zT w X B slots s xs st bl u):w.cell? ⟨B.q,0,none⟩=some (.pointer (some ⟨B.l,0,none⟩))∧w.cell? ⟨B.q,1,none⟩=some (.pointer (some ⟨B.x,0,none⟩))∧w.cell? ⟨B.q,2,none⟩=some (.slice (some ⟨B.F,0,none⟩) B.fs.length B.c)∧w.cell? ⟨B.q,3,none⟩=some (.bool u) :=
 ⟨h.blk.cell 0,h.blk.cell 1,h.blk.cell 2,h.blk.cell 3⟩
theorem zT.xq (h:zT w X B slots s xs st bl u):B.x≠B.q∧B.x≠B.F∧∀ f,f∈B.fs→B.x≠f.1∧B.x≠f.2:=by
 obtain ⟨c,L,fr,hx,_,_⟩:=h.ix
 obtain ⟨cs,hF,_⟩:=h.fm.row
 refine ⟨fun e=>?_,fun e=>?_,fun f hf=>?_⟩
 ·have h1:z8 w B.x 221 (jr c):=hx
  exact h1.ne_ h.blk (by decide) e
 ·have h1:z8 w B.x 221 (jr c):=hx
  exact h1.ne_ hF (by decide) e
 ·obtain ⟨i,hi⟩:=List.mem_iff_getElem?.1 hf
  have h2:=h.fm.fil i f hi
  have h1:z8 w B.x 221 (jr c):=hx
  exact ⟨fun e=>h1.ne_ h2.1 (by decide) e,fun e=>h1.ne_ h2.2.1 (by decide) e⟩
theorem zT.ixTo {st1:List zm} {es:List pU} (h:zT w X B slots s xs st bl u) (hk:Kept (fun b=>b<w.heap.size∧b≠B.x) w w') (hx:gJ w' B.x slots es) (he:es=gD st1) (hi:yN B.k s xs st1):zT w' X B slots s xs st1 bl u:=by
 obtain ⟨x1,x2,x3⟩:=h.xq
 subst he
 refine ⟨h.blk.kept hk ⟨h.blk.lt,Ne.symm x1⟩,h.fm.kept hk ⟨h.fm.flt,Ne.symm x2⟩ (fun f hf=>⟨⟨(h.fm.lt hf).1,Ne.symm (x3 f hf).1⟩,⟨(h.fm.lt hf).2,Ne.symm (x3 f hf).2⟩⟩),h.num,hx,h.log.off hk (fun b hb hn=>⟨hb,fun e=>hn (.inr (.inr (.inl e)))⟩),hi,h.off,fun b hb=>nL (h.lt b hb) hk.size⟩
theorem zT.filTo (h:zT w X B slots s xs st bl u) {i:Nat} {f:Nat × Nat} (hf:B.fs[i]? = some f) {ys:List Int} (hk:Kept (fun b=>b<w.heap.size∧b≠f.2) w w') (hF:jG w' f.1 f.2 ys) (hl:ys.length=128):zT w' X B slots s xs st (bl.set i ys) u:=by
 obtain ⟨x1,x2,x3⟩:=h.xq
 have hm:=List.mem_of_getElem? hf
 have h2:=h.fm.fil i f hf
 obtain ⟨cs,UN,hcs⟩:=h.fm.row
 have hq:B.q≠f.2:=h.blk.ne_ h2.2.1 (by decide)
 have hFf:B.F≠f.2:=UN.ne_ h2.2.1 (by decide)
 have hil:i<bl.length:=by rw[← h.fm.len]; exact (List.getElem?_eq_some_iff.1 hf).1
 refine ⟨h.blk.kept hk ⟨h.blk.lt,hq⟩,⟨⟨cs,UN.kept hk ⟨UN.lt,hFf⟩,hcs⟩,fun j g hg=>?_,by rw[List.length_set]; exact h.fm.len,fun j hj=>?_,h.fm.inj⟩,by rw[List.length_set]; exact h.num,h.ix.kept hk ⟨h.ix.lt,(x3 f hm).2⟩,h.log.off hk (fun b hb hn=>⟨hb,fun e=>hn (.inr (.inr (.inr (.inr ⟨f,hm,.inr e⟩))))⟩),h.inv,h.off,fun b hb=>nL (h.lt b hb) hk.size⟩
 ·by_cases e:i=j
  ·subst e
   rw[hf] at hg
   injection hg with hg
   subst hg
   simp only[List.getD,List.getElem?_set_self hil]
   exact hF
  ·simp only[List.getD,List.getElem?_set_ne e]
   have h3:=h.fm.fil j g hg
   have h4:g.1≠f.2:=h3.1.ne_ h2.2.1 (by decide)
   exact h3.kept hk ⟨h3.ltf,h4⟩ ⟨h3.lth,fun e2=>(h.fm.inj i j f g hf hg e).2 e2.symm⟩
 ·rw[List.length_set] at hj
  by_cases e:i=j
  ·subst e; simp only[List.getD,List.getElem?_set_self hil]; exact hl
  ·simp only[List.getD,List.getElem?_set_ne e]
   exact h.fm.bits j hj
end
end
end Go.Proofs.YtdkbpchmnhbhcaaGreat
