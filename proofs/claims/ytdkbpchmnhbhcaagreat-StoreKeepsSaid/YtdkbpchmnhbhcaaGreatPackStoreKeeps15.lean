/- Texts of StoreKeeps, packed. -/
import Derived.Test.YtdkbpchmnhbhcaaGreatPackStoreKeeps14
import Derived.Great.BuildSlice
import Derived.Laws.CopyRow
import Derived.Laws.CopyOwn
import Derived.OwnWalk
import Derived.Lib.Hide
import Derived.Maps.OwnSet
import Derived.Maps.OwnOps
import Derived.Maps.RangeWalk
import Derived.Maps.Views
set_option linter.unusedVariables false
set_option linter.unusedSimpArgs false
set_option maxRecDepth 100000
set_option maxHeartbeats 16000000
namespace Go.Proofs.YtdkbpchmnhbhcaaGreat
open Go.RowKit
section
attribute [local go_sem] Oper.semAt_some
theorem Qw (q:Nat) (A:Option Addr) (m c:Nat) (A2:Option Addr) (n2 c2:Nat) (f0 x0 q0:Int) (dy:Bool) (w:World) (hno:¬ May 1 f0 x0 q0 m n2):Calls Tryz.prog 19 #[.pointer (some ⟨q,0,none⟩),Zi A m c A2 n2 c2 f0 x0 q0 dy] w fun e w'=>e=.returned (.int .i64 230)∧Below w.heap.size w w':=by
 obtain ⟨w1,hw1⟩:∃ w1,w1=((w.alloc (.cells #[.pointer (some ⟨q,0,none⟩)] 56)).alloc (.cells #[.slice A m c,.slice A2 n2 c2,.int .u32 f0,.int .u32 x0,.int .u64 q0,.bool dy] 53)).alloc (.cells #[.int .i64 0] 36):=⟨_,rfl⟩
 have hb1:Below w.heap.size w w1:=by rw[hw1]; exact (((Below.refl _ w).alloc (nR _) _).alloc (by simp) _).alloc (by simp; omega) _
 have ql:=hI (show z8 w1 w.heap.size 56 #[.pointer (some ⟨q,0,none⟩)] by rw[hw1]; exact ((z8.new w _ _).alloc _).alloc _)
 have HI1:=hI (show z8 w1 (w.heap.size+1) 53 #[.slice A m c,.slice A2 n2 c2,.int .u32 f0,.int .u32 x0,.int .u64 q0,.bool dy] by rw[hw1]; exact (zY w _ _ _).alloc _)
 have yS:=hI (show z8 w1 (w.heap.size+1+1) 36 #[.int .i64 0] by rw[hw1]; exact jw w _ _ _ _)
 have HB1:=hI hb1
 have HW1:=hI hw1
 clear hb1 hw1
 go_enter_defers Tryz.func19,Tryz.ntmps19
 go_upto_region 1 with fail
 rw[← HW1.out]
 have i0:w1.cell? ⟨w.heap.size+1,0,none⟩=some (.slice A m c):=HI1.out.cell 0
 have i1:w1.cell? ⟨w.heap.size+1,1,none⟩=some (.slice A2 n2 c2):=HI1.out.cell 1
 have i2:w1.cell? ⟨w.heap.size+1,2,none⟩=some (.int .u32 f0):=HI1.out.cell 2
 have i3:w1.cell? ⟨w.heap.size+1,3,none⟩=some (.int .u32 x0):=HI1.out.cell 3
 have i4:w1.cell? ⟨w.heap.size+1,4,none⟩=some (.int .u64 q0):=HI1.out.cell 4
 have i5:w1.cell? ⟨w.heap.size+1,5,none⟩=some (.bool dy):=HI1.out.cell 5
 go_wp2_with fail
 refine (XO A m c A2 n2 c2 f0 x0 q0 dy w1).mono ?_
 rintro e w2 ⟨rfl,hb2⟩
 clear i0 i1 i2 i3 i4 i5
 obtain ⟨w3,hw3⟩:∃ w3,w3=w2.alloc (.cells #[.int .i64 1,.int .u32 f0,.int .u32 x0,.int .u64 q0,.slice A m c,.slice A2 n2 c2] 33):=⟨_,rfl⟩
 have hb3:Below w1.heap.size w1 w3:=by rw[hw3]; exact hb2.alloc hb2.size _
 have yG:=hI (ql.out.below hb3 ql.out.lt)
 have dh:=hI (yS.out.below hb3 yS.out.lt)
 have HB3:=hI (HB1.out.trans (hb3.mono HB1.out.size))
 have HW3:=hI hw3
 have HR3:=hI (show z8 w3 w2.heap.size 33 #[.int .i64 1,.int .u32 f0,.int .u32 x0,.int .u64 q0,.slice A m c,.slice A2 n2 c2] by rw[hw3]; exact z8.new w2 _ _)
 clear hb2 hb3 hw3
 have s0:w3.cell? ⟨w.heap.size,0,none⟩=some (.pointer (some ⟨q,0,none⟩)):=yG.out.cell 0
 have r0:w3.cell? ⟨w2.heap.size,0,none⟩=some (.int .i64 1):=HR3.out.cell 0
 have r1:w3.cell? ⟨w2.heap.size,1,none⟩=some (.int .u32 f0):=HR3.out.cell 1
 have r2:w3.cell? ⟨w2.heap.size,2,none⟩=some (.int .u32 x0):=HR3.out.cell 2
 have r3:w3.cell? ⟨w2.heap.size,3,none⟩=some (.int .u64 q0):=HR3.out.cell 3
 have r4:w3.cell? ⟨w2.heap.size,4,none⟩=some (.slice A m c):=HR3.out.cell 4
 have r5:w3.cell? ⟨w2.heap.size,5,none⟩=some (.slice A2 n2 c2):=HR3.out.cell 5
 have HCK:=hI (Du 1 f0 x0 q0 A A2 m c n2 c2 w3 hno)
 clear hno
 go_upto_region 2 with fail
 rw[← HW3.out]
 go_wp2_with fail
 refine HCK.out.mono ?_
 rintro e w4 ⟨rfl,hb4⟩
 have vQ:=hI (dh.out.below hb4 dh.out.lt)
 have zq:=hI (HB3.out.trans (hb4.mono HB3.out.size))
 have e0:w4.cell? ⟨w.heap.size+1+1,0,none⟩=some (.int .i64 0):=vQ.out.cell 0
 have e9:=vQ.out.frozen 0
 clear hb4
 go_wp2_with fail
 have c6:(w4.setCell ⟨w.heap.size+1+1,0,none⟩ (.int .i64 230)).cell? ⟨w.heap.size+1+1,0,none⟩=some (.int .i64 230):=(vQ.out.set_ 0 (.int .i64 230)).cell 0
 refine ⟨.int .i64 230,?_,rfl,zq.out.setCell (p:=⟨w.heap.size+1+1,0,none⟩) (by show w.heap.size≤w.heap.size+1+1; omega) _⟩
 simp[results,Tryz.f19,go_sem,c6]
theorem Zh (g:Nat) (A:Option Addr) (n c:Nat) (q:Int) (w:World) (hno:¬ May 2 0 0 q n 0):Calls Tryz.prog 26 #[.pointer (some ⟨g,0,none⟩),.slice A n c,.int .u64 q] w fun e w'=>e=.returned (.int .i64 160)∧Below w.heap.size w w':=by
 obtain ⟨w1,hw1⟩:∃ w1,w1=((w.alloc (.cells #[.pointer (some ⟨g,0,none⟩)] 56)).alloc (.cells #[.slice A n c] 31)).alloc (.cells #[.int .i64 0] 36):=⟨_,rfl⟩
 have hb1:Below w.heap.size w w1:=by rw[hw1]; exact (((Below.refl _ w).alloc (nR _) _).alloc (by simp) _).alloc (by simp; omega) _
 have ql:=hI (show z8 w1 w.heap.size 56 #[.pointer (some ⟨g,0,none⟩)] by rw[hw1]; exact ((z8.new w _ _).alloc _).alloc _)
 have yS:=hI (show z8 w1 (w.heap.size+1+1) 36 #[.int .i64 0] by rw[hw1]; exact jw w _ _ _ _)
 have HI1:=hI (show z8 w1 (w.heap.size+1) 31 #[.slice A n c] by rw[hw1]; exact (zY w _ _ _).alloc _)
 have OC:=hI (zCR A n c q w1 hno)
 have HB1:=hI hb1
 have HW1:=hI hw1
 clear hb1 hw1 hno
 go_enter_defers Tryz.func26,Tryz.ntmps26
 go_upto_region 1 with fail
 rw[← HW1.out]
 have s1:w1.cell? ⟨w.heap.size,0,none⟩=some (.pointer (some ⟨g,0,none⟩)):=ql.out.cell 0
 have i1:w1.cell? ⟨w.heap.size+1,0,none⟩=some (.slice A n c):=HI1.out.cell 0
 go_wp2_with fail
 refine OC.out.mono ?_
 rintro e w2 ⟨rfl,hb2⟩
 have HE2:=hI (yS.out.below hb2 yS.out.lt)
 have HB2:=hI (HB1.out.trans (hb2.mono HB1.out.size))
 clear s1 i1 hb2 OC
 obtain ⟨w3,hw3⟩:∃ w3,w3=w2.alloc (.cells #[.int .i64 0,.int .u32 0,.int .u32 0,.int .u64 0,.slice none 0 0,.slice none 0 0] 33):=⟨_,rfl⟩
 have hb3:Below w2.heap.size w2 w3:=by rw[hw3]; exact (Below.refl _ _).alloc (nR _) _
 have dh:=hI (HE2.out.below hb3 HE2.out.lt)
 have HB3:=hI (HB2.out.trans (hb3.mono HB2.out.size))
 have e0:w3.cell? ⟨w.heap.size+1+1,0,none⟩=some (.int .i64 0):=dh.out.cell 0
 have e9:=dh.out.frozen 0
 rw[hw3] at e0 e9
 have HW3:=hI hw3
 clear hb3 hw3 HE2
 go_upto_region 4 with fail
 rw[← HW3.out]
 obtain ⟨w4,hw4⟩:∃ w4,w4=w3.setCell ⟨w.heap.size+1+1,0,none⟩ (.int .i64 160):=⟨_,rfl⟩
 have vQ:=hI (show z8 w4 (w.heap.size+1+1) 36 #[.int .i64 160] by rw[hw4]; exact dh.out.set_ 0 (.int .i64 160))
 have zq:=hI (show Below w.heap.size w w4 by rw[hw4]; exact HB3.out.setCell (p:=⟨w.heap.size+1+1,0,none⟩) (by show w.heap.size≤w.heap.size+1+1; omega) _)
 clear e0 e9
 have nI:=hI hw4
 clear hw4
 rw[← nI.out]
 have e0:w4.cell? ⟨w.heap.size+1+1,0,none⟩=some (.int .i64 160):=vQ.out.cell 0
 have e9:=vQ.out.frozen 0
 go_wp2_with fail
 have c6:(w4.setCell ⟨w.heap.size+1+1,0,none⟩ (.int .i64 160)).cell? ⟨w.heap.size+1+1,0,none⟩=some (.int .i64 160):=(vQ.out.set_ 0 (.int .i64 160)).cell 0
 refine ⟨.int .i64 160,?_,rfl,zq.out.setCell (p:=⟨w.heap.size+1+1,0,none⟩) (by show w.heap.size≤w.heap.size+1+1; omega) _⟩
 simp[results,Tryz.f26,go_sem,c6]
end
section
def RS (sec:Int) (xs zs:List Seg):Prop:=Kj zs<Kj xs∨(Kj xs=Kj zs∧jB sec zs≤jB sec xs)
end
section
attribute [local go_sem] Oper.semAt_some
def iJ (n:Int):List Value:=[.int .i64 n,.int .i64 0]++(List.replicate 1025 (.int .u32 0)++((List.replicate 1025 [Value.int .i64 0,Value.int .u64 0,Value.int .i64 0]).flatten++List.replicate 4100 (.int .i64 0)))
theorem TN:(Tryz.prog.info? 221).bind (·.zero)=some (.agg (iJ 0).toArray):=by kernel_rfl
theorem flat3 (a b d:Value):∀ (m j:Nat),j<m*3→((List.replicate m [a,b,d]).flatten)[j]? = [a,b,d][j % 3]?
 | 0,j,h=>by omega
 | m + 1, j, h => by
  rw[List.replicate_succ,List.flatten_cons]
  by_cases h3:j<3
  ·rw[List.getElem?_append_left (by simpa using h3),Nat.mod_eq_of_lt h3]
  ·rw[List.getElem?_append_right (by simp; omega),show j-[a,b,d].length=j-3 from rfl,flat3 a b d m (j-3) (by omega)]
   rw[show (j-3) % 3=j % 3 by omega]
theorem NQ (n:Int):(iJ n).toArray=jr (upd (fun _=>0) 0 n):=by
 apply Array.ext'
 apply List.ext_getElem?
 intro i
 have Bd:((List.replicate 1025 [Value.int .i64 0,Value.int .u64 0,Value.int .i64 0]).flatten).length=3075:=by
  rw[List.length_flatten,List.map_replicate,List.sum_replicate_nat]; rfl
 by_cases hi:i<8202
 ·have hr:(jr (upd (fun _=>0) 0 n)).toList[i]? = some (.int (vP i) (upd (fun _=>0) 0 n i)):=by rw[Array.getElem?_toList]; exact Kr _ hi
  rw[hr]
  show (iJ n)[i]? = _
  unfold iJ
  by_cases h0:i<2
  ·rw[List.getElem?_append_left (by simpa using h0),Mt h0]
   obtain rfl | rfl:i=0∨i=1:=by omega
   ·rw[upd_same]; rfl
   ·rw[zX _ _ (by omega)]; rfl
  ·rw[zX _ _ (by omega),List.getElem?_append_right (by simp; omega)]
   rw[show i-[Value.int .i64 n,Value.int .i64 0].length=i-2 from rfl]
   by_cases h1:i<1027
   ·rw[List.getElem?_append_left (by rw[List.length_replicate]; omega),List.getElem?_replicate,if_pos (by omega)]
    obtain ⟨j,rfl⟩:∃ j,i=2+j:=⟨i-2,by omega⟩
    rw[aL (by omega)]
   ·rw[List.getElem?_append_right (by rw[List.length_replicate]; omega),List.length_replicate]
    by_cases h2:i<4102
    ·rw[List.getElem?_append_left (by rw[Bd]; omega),flat3 _ _ _ _ _ (by omega)]
     obtain ⟨j,t,ht,rfl⟩:∃ j t,t<3∧i=1027+j*3+t:=⟨(i-1027) / 3,(i-1027) % 3,by omega,by omega⟩
     rw[show (1027+j*3+t-2-1025) % 3=t by omega]
     obtain rfl | rfl | rfl:t=0∨t=1∨t=2:=by omega
     ·rw[Nat.add_zero,aO (by omega)]; rfl
     ·rw[aN (by omega)]; rfl
     ·rw[aM (by omega)]; rfl
    ·rw[List.getElem?_append_right (by rw[Bd]; omega),Bd,List.getElem?_replicate,if_pos (by omega),kK (by omega)]
 ·rw[List.getElem?_eq_none,List.getElem?_eq_none]
  ·rw[Array.length_toList,Xn]; omega
  ·show (iJ n).length≤i
   unfold iJ
   rw[List.length_append,List.length_append,List.length_append,Bd,List.length_replicate,List.length_replicate]
   simp; omega
theorem Od (w:World):(zeroValue 221).run Tryz.prog w=.ok (.agg (jr (fun _=>0))) w:=by
 have h:=TN
 rw[NQ,show upd (fun _=>(0:Int)) 0 0=(fun _=>0) by funext j; unfold upd; split <;> rfl] at h
 cases hi:Tryz.prog.info? 221 with
 | none=>rw[hi] at h; cases h
 | some i =>
  rw[hi] at h
  have h2:i.zero=some (.agg (jr (fun _=>0))):=h
  simp[zeroValue,typeInfo,hi,h2]
structure Q7 (c:Nat→Int) (n i:Nat):Prop where
 lk:Lk 4102 c (c 6151) (List.range' (n-i+1) i)
 rest:∀ j,(j<4102∨5127≤j)→j≠6151→c j=upd (fun _=>0) 0 n j
theorem Q7.start (n:Nat):Q7 (upd (fun _=>0) 0 n) n 0:=⟨by rw[zX _ _ (by omega)]; exact rfl,fun _ _ _=>rfl⟩
theorem Q7.next {c:Nat→Int} {n i:Nat} (h:Q7 c n i) (hn:n≤1024) (hi:i<n):Q7 (upd (upd c (4102+(n-i)) (c 6151)) 6151 ((n-i:Nat):Int)) n (i+1):=by
 have hp:=Lk.push (b:=4102) (c:=c) (k:=n-i) (p:=6151) h.lk (by rw[List.mem_range']; rintro ⟨j,hj,e⟩; omega) (by omega) (by omega)
  (fun j hj=>by obtain ⟨t,ht,e⟩:=List.mem_range'.1 hj; omega) (by omega)
 refine ⟨?_,fun j h1 h2=>?_⟩
 ·rw[show n-(i+1)+1=n-i by omega,show List.range' (n-i) (i+1)=(n-i)::List.range' (n-i+1) i from rfl]
  exact hp
 ·rw[zX _ _ h2,zX _ _ (by omega)]
  exact h.rest j h1 h2
theorem Q7.done {c:Nat→Int} {n:Nat} (h:Q7 c n n) (hn:n≤1024):kY c n [] (List.range' 1 n):=by
 have hl:=h.lk
 rw[show n-n+1=1 by omega] at hl
 have hz:∀ j,(j<4102∨5127≤j)→j≠6151→j≠0→c j=0:=fun j h1 h2 h3=>by rw[h.rest j h1 h2,zX _ _ h3]
 constructor
 ·rw[h.rest 0 (by omega) (by omega),upd_same]
 ·rw[hz 1 (by omega) (by omega) (by omega)]; rfl
 ·exact hn
 ·rw[List.nil_append]; exact List.nodup_range'
 ·intro k hk
  rw[List.nil_append] at hk
  obtain ⟨j,hj,e⟩:=List.mem_range'.1 hk
  omega
 ·simp
 ·exact hl
 ·intro g hg
  exact hz _ (by omega) (by omega) (by omega)
 ·exact hz _ (by omega) (by omega) (by omega)
 ·exact hz _ (by omega) (by omega) (by omega)
 ·intro k hk; cases hk
 ·exact List.nodup_nil
theorem Az (n:Nat) (h1:1≤n) (h2:n≤1024) (w:World):Calls Tryz.prog 63 #[.int .i64 n] w fun e w'=>∃ x,e=.returned (.tuple #[.pointer (some ⟨x,0,none⟩),.int .i64 0])∧gJ w' x n []∧Below w.heap.size w w'∧w.heap.size≤x:=by
 have hb:=Od
 have hst:(jr (fun _=>0)).setIfInBounds 0 (.int .i64 n)=jr (upd (fun _=>0) 0 n):=Kq (i:=0) (fun _=>0) (n:Int)
 obtain ⟨cz,hcz⟩:∃ cz,cz=jr (fun _=>0):=⟨_,rfl⟩
 have hne:(cz=#[])=False:=by rw[hcz]; exact eq_false (fun e=>by have:=congrArg Array.size e; rw[Xn] at this; exact absurd this (by decide))
 rw[← hcz] at hb hst
 clear hcz
 have HI:=hI (Q7.start n)
 obtain ⟨c0,hc0⟩:∃ c0:Nat→Int,c0=upd (fun _=>0) 0 n:=⟨_,rfl⟩
 rw[← hc0] at hst HI
 clear hc0
 have q1:((n:Int)<1)=False:=by simp; omega
 have HX:=hI (show jO (w.alloc (.cells (jr c0) 221)) w.heap.size c0 from z8.new w _ _)
 have HB:=hI (show Below w.heap.size w (w.alloc (.cells (jr c0) 221)) from (Below.refl _ w).alloc (nR _) _)
 obtain ⟨cs,hcs⟩:∃ cs,cs=jr c0:=⟨_,rfl⟩
 rw[← hcs] at hst HX HB
 clear hcs
 go_enter Tryz.func63,Tryz.ntmps63
 go_wp2_with fail
 generalize w.alloc (.cells cs 221)=w1 at *
 have hbs:=HB.out.size
 go_loopw [16] (fun i wr=>∃ (k:Nat) (c:Nat→Int),i=.int .i64 k∧k≤n∧jO wr w.heap.size c∧Q7 c n k∧Below w.heap.size w wr)
  (fun i _=>n-(intOf i).toNat)
 case atStart=>exact ⟨0,c0,rfl,Nat.zero_le _,HX.out,HI.out,HB.out⟩
 case round =>
  obtain ⟨k,c,rfl,hk,hX,hN,hB⟩:=hrel
  have JZ:=hI hX
  have HNR:=hI hN
  have HBR:=hI hB
  clear hX hN hB
  by_cases hkn:k<n
  ·have e1:((n:Int)-k)=((n-k:Nat):Int):=by omega
   have HG:=hI (PX JZ.out (n-k) (by omega))
   have hnk:n-k≤1024:=by omega
   obtain ⟨nk,zGc⟩:∃ nk,nk=n-k:=⟨_,rfl⟩
   have OJ:=hI (HNR.out.next h2 hkn)
   rw[← zGc] at e1 HG OJ hnk
   have q2:(k:Int)<n:=by omega
   clear zGc
   go_wp2_with fail
   refine HG.out.mono ?_
   rintro e w2 ⟨rfl,hx2,hk2⟩
   have dV:=hI hx2
   have HB2:=hI (HBR.out.trans (hk2.to_below (fun b hb=>by show b≠w.heap.size; omega)))
   clear hx2 hk2
   go_wp2_with fail
   go_roundw
   case rel=>exact ⟨k+1,_,by simp,by omega,dV.out,OJ.out,HB2.out⟩
   case measure=>show n-(Int.toNat ((k:Int)+1))<n-(Int.toNat (k:Int)); omega
  ·obtain rfl:n=k:=by omega
   go_wp2_with fail
   (first | go_ret | go_ret2)
   exact ⟨_,rfl,⟨c,[],_,JZ.out,HNR.out.done h2,rfl⟩,HBR.out,nR _⟩
end
section
section
variable {w:World} {X:Nat→Prop} {l p d n m c:Nat} {s:Sup} {t:Int} {k:Dk} {sec:Int} {A:Option Addr} {xs:List Seg} {br:Bool}
theorem EW (h:qX w X l p d n s t k sec A m c xs br) (hnil:A=none→c=0) (hmc:m≤c) (hm:m≤1000) :
 Calls Tryz.prog 64 #[.pointer (some ⟨l,0,none⟩)] w fun e w'=>(∃ A' c',e=.returned (xk sec A' m c')∧xX w' w.heap.size A' m c' xs)∧Below w.heap.size w w':=by
 have HB:=hI ((Below.refl w.heap.size w).alloc (nR _) (.cells #[.int .i64 0,.slice none 0 0] 95))
 have HL:=hI (h.below HB.out)
 have HK:=hI (z8.new w 95 #[.int .i64 0,.slice none 0 0])
 obtain ⟨_,c1,c2,_⟩:=yU HL.out
 have HC:=hI (Xm HL.out.now hnil hmc hm sec)
 clear h
 go_enter Tryz.func64,Tryz.ntmps64
 go_wp2_with fail
 refine HC.out.mono ?_
 rintro e w3 ⟨⟨A',c',rfl,hown⟩,hb⟩
 have yH:=hI (HK.out.below hb HK.out.lt)
 have HB3:=hI (HB.out.trans (hb.mono HB.out.size))
 have HO:=hI (hown.base (m:=w.heap.size+1) (by simp))
 obtain ⟨f0,f1⟩:=And.intro (yH.out.frozen 0) (yH.out.frozen 1)
 obtain ⟨k0,k1⟩:=qG yH.out
 clear hb hown c1 c2
 go_wp2_with (with_reducible refine zJ ?_)
 have hst:=(yH.out.set_ 0 (.int .i64 sec)).set_ 1 (.slice A' m c')
 have hown:=(HO.out.far (p:=⟨w.heap.size,0,none⟩) (by show w.heap.size<_; omega) (.int .i64 sec)).far (p:=⟨w.heap.size,1,none⟩) (by show w.heap.size<_; omega) (.slice A' m c')
 have hbel:=(HB3.out.setCell (p:=⟨w.heap.size,0,none⟩) (nR _) (.int .i64 sec)).setCell (p:=⟨w.heap.size,1,none⟩) (nR _) (.slice A' m c')
 exact Halt.ret (jF (p:=2) rfl _ _ w.heap.size 95 #[.int .i64 sec,.slice A' m c'] _ rfl hst Tryz.underlying95 rfl qZ) rfl ⟨⟨A',c',rfl,hown.base (by omega)⟩,hbel⟩
end
end
end Go.Proofs.YtdkbpchmnhbhcaaGreat
namespace Go.Proofs.YtdkbpchmnhbhcaaGreat.EntM
open Go.RowKit
open Go.Proofs.YtdkbpchmnhbhcaaGreat
end Go.Proofs.YtdkbpchmnhbhcaaGreat.EntM

namespace Go.Proofs.YtdkbpchmnhbhcaaGreat
open Go.RowKit
section
attribute [local go_sem] Oper.semAt_some
abbrev Wz (f:Nat × Nat):Value:=.pointer (some ⟨f.1,0,none⟩)
theorem DJ {P:Program} {e:TypeId} {z:Value} {n b:Nat} (h:(P.info? e).map (fun i=>(i.zero,i.size,i.bytes))=some (some z,n,b)):∃ i,P.info? e=some i∧i.zero=some z∧i.size=n∧i.bytes=b:=by
 cases hi:P.info? e with
 | none=>rw[hi] at h; cases h
 | some i =>
  rw[hi] at h
  simp only[Option.map_some,Option.some.injEq,Prod.mk.injEq] at h
  exact ⟨i,rfl,h.1,h.2.1,h.2.2⟩
theorem zDG:(Tryz.prog.info? 139).map (fun i=>(i.zero,i.size,i.bytes))=some (some (.pointer none),1,8):=by kernel_rfl
theorem Nb (q:Nat) (w:World):Calls Tryz.prog 66 #[.pointer (some ⟨q,0,none⟩),.slice none 0 0] w fun e w'=>e=.returned (.int .i64 0)∧w'=w:=by
 go_enter Tryz.func66,Tryz.ntmps66
 go_wp2_with fail
 go_loopw [12] (fun i wr=>i=.int .i64 0∧wr=w) (fun i _=>0)
 case atStart=>exact ⟨rfl,rfl⟩
 case round =>
  obtain ⟨rfl,rfl⟩:=hrel
  go_wp2_with fail
  go_ret
  exact ⟨rfl,rfl⟩
theorem zDF (k:Dk) (s:Sup) (xs:List Seg):yN k s xs []:=⟨by simp,by simp,by simp,by simp⟩
def NwF (w:World) (b:Nat) (fs:List (Nat × Nat)):Prop :=
 (∀ (i:Nat) f,fs[i]? = some f→jG w f.1 f.2 (List.replicate 128 0)∧b≤f.1∧b≤f.2)∧∀ (i j:Nat) f g,fs[i]? = some f→fs[j]? = some g→i≠j→f.1≠g.1∧f.2≠g.2
theorem NwF.add {w w':World} {b:Nat} {fs:List (Nat × Nat)} (h:NwF w b fs) (hk:∀ (i:Nat) f,fs[i]? = some f→jG w' f.1 f.2 (List.replicate 128 0)) {g:Nat × Nat} (hg:jG w' g.1 g.2 (List.replicate 128 0)) (hb:b≤g.1∧b≤g.2) (hne:∀ f,f∈fs→f.1≠g.1∧f.2≠g.2):NwF w' b (fs++[g]):=by
 have key:∀ (i:Nat) f,(fs++[g])[i]? = some f→(fs[i]? = some f)∨(i=fs.length∧f=g):=fun i f hi=>by
  rcases Nat.lt_or_ge i fs.length with h1 | h1
  ·rw[List.getElem?_append_left h1] at hi; exact .inl hi
  ·rw[List.getElem?_append_right h1] at hi
   rcases Nat.eq_zero_or_pos (i-fs.length) with h2 | h2
   ·rw[h2] at hi
    injection hi with hi
    exact .inr ⟨by omega,hi.symm⟩
   ·rw[List.getElem?_eq_none (by simp; omega)] at hi; cases hi
 refine ⟨fun i f hi=>?_,fun i j f f' hi hj hij=>?_⟩
 ·rcases key i f hi with h1 | ⟨_,rfl⟩
  ·exact ⟨hk i f h1,(h.1 i f h1).2⟩
  ·exact ⟨hg,hb⟩
 ·rcases key i f hi with h1 | ⟨h1,rfl⟩ <;> rcases key j f' hj with h2 | ⟨h2,rfl⟩
  ·exact h.2 i j f f' h1 h2 hij
  ·exact hne f (List.mem_of_getElem? h1)
  ·have:=hne f' (List.mem_of_getElem? h2)
   exact ⟨Ne.symm this.1,Ne.symm this.2⟩
  ·omega
section
variable {w w':World} {X Y:Nat→Prop} {l p d n pe:Nat} {slots:Nat} {s:Sup} {t:Int} {k:Dk} {xs:List Seg}
theorem MQ (h:jJ w X l p d n s t k xs pe) (hX:∀ b,X b→b<w.heap.size) (h1:1≤slots) (h2:slots≤1024) :
 Calls Tryz.prog 17 #[.pointer (some ⟨l,0,none⟩),.int .i64 slots,.slice none 0 0] w fun e w'=>∃ q x F c fs,e=.returned (.tuple #[.pointer (some ⟨q,0,none⟩),.int .i64 0]) ∧
  zT w' X ⟨l,p,d,n,q,x,F,c,t,k,pe,fs⟩ slots s xs [] (List.replicate xs.length (List.replicate 128 0)) false∧Below w.heap.size w w':=by
 have HL:=hI h
 have HX:=hI hX
 have HSL:=hI (And.intro h1 h2)
 have hxl:=h.ok.1
 unfold qj at hxl
 have wB:=hI (show 4≤xs.length∧xs.length≤16 by omega)
 clear h hX hxl
 go_enter Tryz.func17,Tryz.ntmps17
 go_wp2_with fail
 refine (Az slots HSL.out.1 HSL.out.2 w).mono ?_
 rintro e w1 ⟨x,rfl,hx1,hb1,hxw⟩
 have pJ:=hI hx1
 have HB1:=hI hb1
 have HXW:=hI hxw
 clear hx1 hb1 hxw
 obtain ⟨w2,hw2⟩:∃ w2,w2=w1.alloc (.cells #[.pointer (some ⟨l,0,none⟩),.pointer (some ⟨x,0,none⟩),.slice none 0 0,.bool false] 137):=⟨_,rfl⟩
 have hb2:Below w1.heap.size w1 w2:=by rw[hw2]; exact (Below.refl _ _).alloc (nR _) _
 have HQ2:=hI (show z8 w2 w1.heap.size 137 #[.pointer (some ⟨l,0,none⟩),.pointer (some ⟨x,0,none⟩),.slice none 0 0,.bool false] by rw[hw2]; exact z8.new w1 _ _)
 have HB2:=hI (HB1.out.trans (hb2.mono HB1.out.size))
 have dV:=hI (pJ.out.below hb2 pJ.out.lt)
 have HW2:=hI hw2
 have HQW:=hI HB1.out.size
 clear hb2 hw2
 go_upto_region 7 with fail
 rw[← HW2.out]
 obtain ⟨Ar,cr,hlr,hcr,hnr⟩:=HL.out.log
 have HRG:=hI (EW (hlr.below HB2.out) hnr hcr (by have:=wB.out; omega))
 clear hlr hcr hnr
 go_wp2_with fail
 refine HRG.out.mono ?_
 rintro e w3 ⟨⟨A3,c3,rfl,hown3⟩,hb3⟩
 clear hown3
 have HQ3:=hI (HQ2.out.below hb3 HQ2.out.lt)
 have CX:=hI (dV.out.below hb3 dV.out.lt)
 have HB3:=hI (HB2.out.trans (hb3.mono HB2.out.size))
 clear hb3 HRG
 have SA:(Instr.field 95 (xk s.b A3 xs.length c3) 1).run Tryz.prog w3=.ok (.slice A3 xs.length c3) w3:=by
  unfold Instr.field
  simp[Sem.run_bind,run_underlying (Tryz.underlying95),asAgg,part,isAgg,run_underlying (Tryz.underlying93)]
 go_wp2_with fail
 clear SA
 obtain ⟨q,hq⟩:∃ q,w1.heap.size=q:=⟨_,rfl⟩
 rw[hq] at HQ3 HQW
 rw[hq]
 obtain ⟨N,hN⟩:∃ N,xs.length=N:=⟨_,rfl⟩
 rw[hN] at wB
 rw[hN]
 have HN:=hI hN
 clear hq hN HQ2 dV HB2 HW2
 obtain ⟨i0,hi0,hz0,hz1,hz2⟩:=DJ zDG
 have HI0:=hI (And.intro hi0 (And.intro hz0 (And.intro hz1 hz2)))
 clear hi0 hz0 hz1 hz2
 go_loopw [33] (fun i wr=>∃ (j:Nat) (v:Value) (fs:List (Nat × Nat)),i=.int .i64 j∧j≤N∧fs.length=j∧wr.ownsRow w.heap.size 139 1 v j (fs.map Wz)∧z8 wr q 137 #[.pointer (some ⟨l,0,none⟩),.pointer (some ⟨x,0,none⟩),v,.bool false]∧gJ wr x slots []∧Below w.heap.size w wr∧NwF wr w.heap.size fs) (fun i _=>N-(intOf i).toNat)
 case atStart=>exact ⟨0,.slice none 0 0,[],rfl,Nat.zero_le _,rfl,⟨rfl,.inl ⟨rfl,rfl⟩⟩,HQ3.out,CX.out,HB3.out,fun i f h=>by simp at h,fun i j f g h=>by simp at h⟩
 case round =>
  obtain ⟨j,v,fs,rfl,hj,hfl,hown,hq,hx,hb,hnf⟩:=hrel
  have gP:=hI hfl
  have HOW:=hI hown
  have HQ:=hI hq
  have Cu:=hI hx
  have HB:=hI hb
  have VD:=hI hnf
  clear hfl hown hq hx hb hnf
  by_cases hlt:j<N
  ·go_wp2_with fail
   refine (E5 1024 128 _ (by decide) (by omega) (by omega)).mono ?_
   rintro e w4 ⟨rfl,hf4,hb4⟩
   obtain ⟨r,hr⟩:∃ r,wr.heap.size=r:=⟨_,rfl⟩
   rw[hr] at hf4
   rw[hr]
   have HR:=hI hr
   have HF4:=hI hf4
   have av:=hI (own_below HOW.out hb4)
   have HQ4:=hI (HQ.out.below hb4 HQ.out.lt)
   have nQ:=hI (Cu.out.below hb4 Cu.out.lt)
   have zq:=hI (HB.out.trans (hb4.mono HB.out.size))
   have zNs:=hI (fun (i:Nat) f (h:fs[i]? = some f)=>(VD.out.1 i f h).1.belowAll hb4)
   have zNt:=hI (fun f (h:f∈fs)=>show f.1<r∧f.2<r by
    obtain ⟨i,hi⟩:=List.mem_iff_getElem?.1 h
    have h9:=(VD.out.1 i f hi).1
    rw[← hr]
    exact ⟨h9.ltf,h9.lth⟩)
   clear hf4 hb4 hr
   go_upto_region 12 with fail
   have q2:w4.cell? ⟨q,2,none⟩=some v:=HQ4.out.cell 2
   obtain ⟨w5,jH⟩:∃ w5,w5=w4.alloc (.cells #[.pointer (some ⟨r+1,0,none⟩)] 139):=⟨_,rfl⟩
   have hb5:Below w4.heap.size w4 w5:=by rw[jH]; exact (Below.refl _ _).alloc (nR _) _
   have lJ:=hI (own_below av.out hb5)
   have HQ5:=hI (HQ4.out.below hb5 HQ4.out.lt)
   have sU:=hI (nQ.out.below hb5 nQ.out.lt)
   have qM:=hI (zq.out.trans (hb5.mono zq.out.size))
   have HF5:=hI (HF4.out.belowAll hb5)
   have zNr:=hI (fun (i:Nat) f (h:fs[i]? = some f)=>(zNs.out i f h).belowAll hb5)
   have zAZ:=hI (show xD Wz (0,0) w5 (·=w4.heap.size) (some ⟨w4.heap.size,0,none⟩) 1 [(r+1,r)] by rw[jH]; exact AY Wz (0,0) w4 139 (r+1,r))
   have pK:=hI jH
   have HJ:=hI (show j≤16 by have:=wB.out; omega)
   clear hb5 jH
   go_wp2_with (first | (rw[← pK.out]; refine kC (mk:=Wz) (d:=(0,0)) rfl (.tmp 46) (.tmp 48) 135 rfl w.heap.size 139 i0 _ 8 Tryz.underlying135 HI0.out.1 HI0.out.2.1 HI0.out.2.2.1 HI0.out.2.2.2 (by simp[Value.cells]) (fun _=>rfl) v j _ rfl lJ.out _ _ 1 1 [(r+1,r)] rfl zAZ.out (fun h=>by cases h) (by unfold maxLen; have:=HJ.out; omega) (by have:=HJ.out; omega) qM.out.size ?_; intro v8 W8 hown hgrow hv8; obtain ⟨A8,c8,rfl⟩:=tJ hown; have hq8:=kP HQ5.out lJ.out (by decide) hgrow; have q8:W8.cell? ⟨q,2,none⟩=some v:=hq8.cell 2; have f8:=hq8.frozen 2))
   clear q8 f8 q2
   have N9:=hI (show gJ W8 x slots [] from by
    obtain ⟨cx,L,fr,hx,hr,he⟩:=sU.out
    exact ⟨cx,L,fr,kP hx lJ.out (by decide) hgrow,hr,he⟩)
   have yj:=hI (oH qM.out lJ.out (nR _) qM.out.size hgrow)
   have sN:∀ f h,jG w5 f h (List.replicate 128 0)→jG W8 f h (List.replicate 128 0):=fun f h hh=>⟨kP hh.1 lJ.out (by decide) hgrow,kP hh.2.1 lJ.out (by decide) hgrow,hh.2.2⟩
   have HO9:=hI (ZX hown hq8 (by decide) 2 (.slice A8 (j+1) c8))
   have Ch:=hI (hq8.set_ 2 (.slice A8 (j+1) c8))
   have xI:Kept (fun b=>b≠q) W8 (W8.setCell ⟨q,2,none⟩ (.slice A8 (j+1) c8)):=(Kept.refl _ _).setCell (p:=⟨q,2,none⟩) (fun h=>h rfl) _
   have HX9:=hI (N9.out.kept xI (fun e=>by
    obtain ⟨cx,L,fr,hx,hr,he⟩:=N9.out
    have hx2:z8 W8 x 221 (jr cx):=hx
    exact hx2.ne_ hq8 (by decide) e))
   have oq:=hI (yj.out.setCell (p:=⟨q,2,none⟩) HQW.out (.slice A8 (j+1) c8))
   have PU:∀ f h,jG w5 f h (List.replicate 128 0)→jG (W8.setCell ⟨q,2,none⟩ (.slice A8 (j+1) c8)) f h (List.replicate 128 0):=fun f h hh=>(sN f h hh).kept xI (fun e=>(sN f h hh).1.ne_ hq8 (by decide) e) (fun e=>(sN f h hh).2.1.ne_ hq8 (by decide) e)
   have hrw:w.heap.size≤r:=by rw[← HR.out]; exact HB.out.size
   have zNW:=hI (VD.out.add (g:=(r+1,r)) (fun i f h=>PU _ _ (zNr.out i f h)) (PU _ _ HF5.out) ⟨by omega,by omega⟩ (fun f h=>by
    have h9:=zNt.out f h
    exact ⟨by show f.1≠r+1; omega,by show f.2≠r; omega⟩))
   clear hown hgrow hq8 sN PU xI hv8
   have hjj:=HJ.out
   go_wp2_with fail
   go_roundw
   case rel =>
    refine ⟨j+1,.slice A8 (j+1) c8,fs++[(r+1,r)],by rw[IntWalk.wrap64_in _ (by omega)]; rfl,by omega,by rw[List.length_append,gP.out]; rfl,?_,Ch.out,HX9.out,oq.out,zNW.out⟩
    have h9:=HO9.out
    rw[show (fs.map Wz)++[(r+1,r)].map Wz=(fs++[(r+1,r)]).map Wz by rw[List.map_append]] at h9
    exact h9
   case measure =>
    rw[IntWalk.wrap64_in _ (by omega)]
    simp only[intOf]
    omega
  ·obtain rfl:j=N:=by omega
   go_wp2_with fail
   refine (Nb q wr).mono ?_
   rintro e w9 ⟨rfl,rfl⟩
   go_wp2_with fail
   go_ret2
   have hN:=wB.out
   rcases HOW.out.2 with ⟨_,h0⟩ | ⟨F,cap,cur,rfl,hF,hh,hnc,_,hsz,htk⟩
   ·omega
   have hb:=HB.out
   have hget:∀ (i:Nat) f,fs[i]? = some f→cur[i]? = some (.pointer (some ⟨f.1,0,none⟩)):=fun i f hi=>by
    have hil:i<fs.length:=(List.getElem?_eq_some_iff.1 hi).1
    have h1:(cur.toList.take (j*1))[i]? = some (Wz f):=by rw[htk,List.getElem?_map,hi]; rfl
    rw[List.getElem?_take,if_pos (by rw[gP.out] at hil; omega),Array.getElem?_toList] at h1
    exact h1
   have hqn:w.heap.size≤q:=HQW.out
   have hxn:w.heap.size≤x:=HXW.out
   have hnn:xs.length=j:=HN.out
   have hfn:=gP.out
   have hown:∀ b,(⟨l,p,d,n,q,x,F,cap,t,k,pe,fs⟩:xu).own b→w.heap.size≤b∧b<w9.heap.size:=fun b ho=>by
    have hbF:z8 w9 F 139 cur:=hh
    rcases ho with h | h | h | ⟨f,hf,h | h⟩
    ·rw[h]; exact ⟨hqn,HQ.out.lt⟩
    ·rw[h]; exact ⟨hxn,Cu.out.lt⟩
    ·rw[h]; exact ⟨hF,hbF.lt⟩
    ·rw[h]
     obtain ⟨i,hi⟩:=List.mem_iff_getElem?.1 hf
     exact ⟨(VD.out.1 i f hi).2.1,(VD.out.1 i f hi).1.ltf⟩
    ·rw[h]
     obtain ⟨i,hi⟩:=List.mem_iff_getElem?.1 hf
     exact ⟨(VD.out.1 i f hi).2.2,(VD.out.1 i f hi).1.lth⟩
   have hrep:∀ i,i<xs.length→(List.replicate xs.length (List.replicate 128 (0:Int))).getD i []=List.replicate 128 0:=fun i hi=>by
    simp[List.getD,List.getElem?_replicate,hi]
   refine ⟨q,x,F,cap,fs,rfl,⟨?_,⟨⟨cur,hh,hget⟩,fun i f hi=>?_,?_,fun i hi=>?_,VD.out.2⟩,List.length_replicate,Cu.out,(HL.out.grow hb).less (fun b hb2=>?_),zDF _ _ _,fun b ho hx=>?_,fun b hx=>nL (HX.out b hx) hb.size⟩,hb⟩
   ·show z8 w9 q _ #[_,_,.slice _ fs.length _,_]
    rw[hfn]
    exact HQ.out
   ·have hi2:fs[i]? = some f:=hi
    rw[hrep i (by have:=(List.getElem?_eq_some_iff.1 hi2).1; omega)]
    exact (VD.out.1 i f hi).1
   ·rw[List.length_replicate]; show fs.length=_; omega
   ·rw[List.length_replicate] at hi
    rw[hrep i hi,List.length_replicate]
   ·rcases hb2 with h | h
    ·exact .inl h
    ·exact .inr (hown b h)
   ·have:=hown b ho
    have:=HX.out b hx
    omega
end
end
section
abbrev l8:Sup:=⟨4,24,0,0,0,0⟩
abbrev fJ:List Seg:=List.replicate 4 zK
theorem zCF:jB 24 fJ<1:=by decide +kernel
theorem Fz:jQ fJ=0:=by decide +kernel
theorem zCE:qO fJ=-1:=by decide +kernel
end
section
attribute [local go_sem] Oper.semAt_some
def mU:Dk:=(((Dk.fresh 98).wr (Dk.put 0 (wT 4 24 0 0 0 0 0))).wr (Dk.put 1 (noughts 64))).wr Dk.sync
theorem Lh:Good mU:=((((Good.fresh 98).put _ _).put _ _).sync)
theorem Lf:mU.pend.length≤0:=by rw[show mU.pend=[] from (((Good.fresh 98).put _ _).put _ _).pend_sync]; exact nR _
theorem Oj:y8 fJ≤0:=by decide +kernel
theorem zCr {w:World} {X:Nat→Prop} {l p d:Nat} {A:Option Addr} {c:Nat} (h:qX w X l p d 98 l8 0 mU 24 A 4 c fJ false) (hc:4≤c) (hn:A=none→c=0):jJ w X l p d 98 l8 0 mU fJ 0 where
 log:=⟨A,c,h,hc,hn⟩
 good:=Lh
 ok:=LV ⟨by decide,by decide,by decide,by decide⟩
 top:=Oj
 may:=by decide
 sin:=⟨by decide,by decide,by decide,by decide,by decide,by decide,by decide,by decide,by decide,by decide,by decide,by decide⟩
 dims:=rfl
 n2:=by decide
 room:=by decide
 pend:=Lf
theorem D9 (w:World):Calls Tryz.prog 16 #[] w fun e w'=>∃ l p d,e=.returned (.tuple #[.pointer (some ⟨d,0,none⟩),.pointer (some ⟨l,0,none⟩)])∧jJ w' (fun x=>x<w.heap.size) l p d 98 l8 0 mU fJ 0∧Below w.heap.size w w':=by
 have hm:wZ 4 24 0 0:=⟨by omega,by omega,by omega,by omega,by omega⟩
 have hz:qj (4:Nat) 24:=⟨by omega,by omega,by omega,by omega⟩
 have hok:=LV hz
 have hop:qO (List.replicate 4 zK)<0:=by decide +kernel
 have HM:=hI hm
 have HZ:=hI hz
 have Ci:=hI hok
 have Z6:=hI hop
 clear hm hz hok hop
 go_enter Tryz.func16,Tryz.ntmps16
 go_wp2_with fail
 refine (zJU w 98 98 rfl (by omega) (by omega)).mono ?_
 rintro e w1 ⟨d,rfl,hd,hb1⟩
 have HD1:=hI hd
 have HB1:=hI hb1
 clear hd hb1
 go_wp2_with fail
 refine (Dj HD1.out (fun c h=>nL h HB1.out.size) 4 24 HM.out (by omega)).mono ?_
 rintro e w2 ⟨p,rfl,hst,hk⟩
 have HS2:=hI (show xQ w2 (fun x=>x<w.heap.size) p d 98 l8 0 mU from hst)
 have HB2:=hI (show Below w.heap.size w w2 from HB1.out.trans (hk.to_below (fun b h=>h)))
 clear hst hk
 go_wp2_with fail
 refine (zEg 4 24 HZ.out).mono ?_
 rintro e w3 ⟨⟨A0,rfl,hr⟩,hb3⟩
 have hal:=(Below.refl w3.heap.size w3).alloc (nR _) (.cells #[.int .i64 24,.slice A0 4 4] 95)
 have yG:=hI (zk.below HS2.out (hb3.trans (hal.mono hb3.size)))
 have HB3:=hI (HB2.out.trans ((hb3.trans (hal.mono hb3.size)).mono HB2.out.size))
 have HR3:=hI (jD (hr.more (fun b h=>h.2)) hal)
 have yH:=hI (z8.new w3 95 #[.int .i64 24,.slice A0 4 4])
 have HA0:=hI (show A0=none→(4:Nat)=0 from fun e=>by
  obtain ⟨_,_,h2,_⟩:=hr.2 (by omega)
  rw[e] at h2; cases h2)
 obtain ⟨k0,k1⟩:=qG yH.out
 clear hr hb3 hal
 go_wp2_with fail
 refine (FU (s:=l8) yG.out (fun b h=>nL h HB3.out.size) HR3.out HA0.out (nR _) 24 Ci.out rfl rfl Z6.out).mono ?_
 rintro e w4 ⟨l,A,c,rfl,hl,hac,hnil,hsz,hb4⟩
 have HL:=hI (zCr hl hac hnil)
 have zq:=hI (HB3.out.trans (hb4.mono HB3.out.size))
 clear hl hb4 hac hnil k0 k1
 go_wp2_with fail
 go_ret2
 exact ⟨l,p,d,rfl,HL.out,zq.out⟩
def jf (i:Int):List Int:=[107,97+i % 8]
theorem dB (i:Int) (w:World):Calls Tryz.prog 32 #[.int .i64 i] w fun e w'=>∃ g,e=.returned (.slice (some ⟨g,0,none⟩) 2 2)∧w.heap.size≤g∧zn w' g (jf i)∧Below w.heap.size w w':=by
 have hw:IntKind.u64.wrap i=i % 18446744073709551616:=IntKind.wrap_u64 i
 go_enter Tryz.func32,Tryz.ntmps32
 go_wp2_with fail
 go_ret
 exact ⟨w.heap.size,rfl,nR _,z8.new w _ _,(Below.refl _ _).alloc (nR _) _⟩
theorem mW (i:Int):Bytes (jf i):=by
 intro j
 rcases j with _ | _ | j
 ·show (0:Int)≤107∧(107:Int)≤255; omega
 ·show 0≤97+i % 8∧97+i % 8≤255; omega
 ·simp[jf]
end
section
section
variable {st su:List zm} {us kw bs:List Int} {a:Int × Int × Int}
theorem Zn (h:kw≠us):jC (qV st us) kw=jC st kw:=by
 unfold jC qV
 rw[List.find?_filter]
 congr 1
 funext p
 by_cases e:keyOf p.2=kw
 ·have e2:¬ keyOf p.2=us:=fun e3=>h (e.symm.trans e3)
  simp[e,h]
 ·simp[e]
theorem Kc:jC (qV st us) us=none:=by
 unfold jC qV
 rw[List.find?_eq_none]
 intro p hp
 have:=(List.mem_filter.1 hp).2
 simpa using this
theorem uH (hk:keyOf bs=us):jC (qV st us++[(a,bs)]) us=some (a,bs):=by
 unfold jC
 rw[List.find?_append,show (qV st us).find? (fun p=>decide (keyOf p.2=us))=none from Kc]
 simp[hk]
theorem uG (hk:keyOf bs=us) (h:kw≠us):jC (qV st us++[(a,bs)]) kw=jC st kw:=by
 have h9:=Zn (st:=st) h
 unfold jC at *
 rw[List.find?_append,h9]
 have e:[(a,bs)].find? (fun p=>decide (keyOf p.2=kw))=none:=by
  simp[hk,fun e=>h (Eq.symm e)]
  exact fun e=>h e.symm
 rw[e]
 cases st.find? (fun p=>decide (keyOf p.2=kw)) <;> rfl
def bG (st:List zm):Prop:=(st.map fun p=>keyOf p.2).Nodup
theorem bG.out (h:bG st):bG (qV st us):=by
 unfold bG qV at *
 exact List.Nodup.sublist (List.Sublist.map _ List.filter_sublist) h
theorem bG.put (h:bG st) (hk:keyOf bs=us):bG (qV st us++[(a,bs)]):=by
 have h2:=bG.out (us:=us) h
 unfold bG at *
 rw[List.map_append,List.nodup_append]
 refine ⟨h2,by simp,fun x hx y hy=>?_⟩
 obtain ⟨p,hp,rfl⟩:=List.mem_map.1 hx
 simp only[List.map_cons,List.map_nil,List.mem_singleton] at hy
 subst hy
 rw[hk]
 exact (kJ.1 hp).2
theorem bG.one (h:bG st) (hk:∀ p,p∈st→keyOf p.2=us):st.length≤1:=by
 match st,h,hk with
 | [],_,_=>simp
 | [_],_,_=>simp
 | p::q::r,h,hk =>
  exfalso
  unfold bG at h
  simp only[List.map_cons,List.nodup_cons,List.mem_cons] at h
  exact h.1 (.inl ((hk p (by simp)).trans (hk q (by simp)).symm))
end
def XD (st su:List zm) (kw:List Int):Prop:=(jC st kw).map (·.2)=(jC su kw).map (·.2)
theorem XD.get {st su:List zm} {kw:List Int} (h:XD st su kw) (fl now:Int):kF st fl now kw=kF su fl now kw:=by
 unfold XD at h
 unfold kF
 cases h1:jC st kw with
 | none =>
  rw[h1] at h
  cases h2:jC su kw with
  | none=>rfl
  | some q=>rw[h2] at h; simp at h
 | some p =>
  rw[h1] at h
  cases h2:jC su kw with
  | none=>rw[h2] at h; simp at h
  | some q =>
   rw[h2] at h
   simp only[Option.map_some,Option.some.injEq] at h
   simp only[h]
theorem Ej (i:Int):jf (i % 18446744073709551616 % 8)=jf i:=by
 unfold jf
 rw[show i % 18446744073709551616 % 8 % 8=i % 8 by omega]
theorem El {i j:Int} (hi:0≤i∧i<8) (hj:0≤j∧j<8):jf i=jf j↔i=j:=by
 unfold jf
 simp only[List.cons.injEq,and_true,true_and]
 omega
structure YD (kw:List Int) (s:Sup) (xs:List Seg) (st:List zm) (s':Sup) (xs':List Seg) (su:List zm):Prop where
 same:XD st su kw
 flush:s'.f=s.f
 room:RS s.b xs' xs
 once:bG su
 only:∀ p,p∈su→keyOf p.2=kw
section
variable {kw us bs:List Int} {s s1 s':Sup} {xs xs1 xs':List Seg} {st su:List zm} {a:Int × Int × Int}
theorem YD.left (h:YD kw s xs st s' xs' su) {slots:Nat} (hs:2≤slots):vg su us slots=false:=by
 have h1:=h.once.one h.only
 unfold vg
 rw[decide_eq_false (show ¬ su.length=slots by omega)]
 simp
theorem YD.put1 (h:YD kw s xs st s' xs' su) (hk:keyOf bs=us) (hne:kw≠us) (hs:s1=s∨s1=jR s) (hr:RS s.b xs' xs1):YD kw s1 xs1 (qV st us++[(a,bs)]) s' xs' su:=by
 have hf:s1.f=s.f∧s1.b=s.b:=by rcases hs with rfl | rfl <;> exact ⟨rfl,rfl⟩
 refine ⟨?_,h.flush.trans hf.1.symm,by rw[hf.2]; exact hr,h.once,h.only⟩
 unfold XD
 rw[uG hk hne]
 exact h.same
theorem YD.put2 {s2:Sup} {xs2:List Seg} {a2:Int × Int × Int} (h:YD kw s xs st s' xs' su) (hk:keyOf bs=kw) (hs:s1=s∨s1=jR s) (hs2:s2=s'∨s2=jR s') (hr:RS s.b xs2 xs1) :
 YD kw s1 xs1 (qV st kw++[(a,bs)]) s2 xs2 (qV su kw++[(a2,bs)]):=by
 have hf:s1.f=s.f∧s1.b=s.b:=by rcases hs with rfl | rfl <;> exact ⟨rfl,rfl⟩
 have hf2:s2.f=s'.f:=by rcases hs2 with rfl | rfl <;> rfl
 refine ⟨?_,hf2.trans (h.flush.trans hf.1.symm),by rw[hf.2]; exact hr,h.once.put hk,fun p hp=>?_⟩
 ·unfold XD
  rw[uH hk,uH hk]
  rfl
 ·rcases List.mem_append.1 hp with h2 | h2
  ·exact h.only p (kJ.1 h2).1
  ·rw[List.mem_singleton.1 h2]; exact hk
end
end
section
def zJe (w:World) (X:Nat→Prop) (l p d n:Nat) (s:Sup) (t:Int) (k:Dk) (xs:List Seg) (pe seg:Nat) (e:Ending) (w':World):Prop :=
 ∃ k' A c ts gen used m,e=.returned (.tuple #[.agg (ji gen used (.slice A ts.length c)),.int .i64 0])∧w.heap.size≤m∧jJ w' (fun b=>X b∨(m≤b∧b<w'.heap.size)) l p d n s t k' xs pe∧k'.held=k.held∧Kept X w w' ∧
  gen=kR (xH (zi (zh k s seg) 0 s.b.toNat) 0) seg∧(gen=0→used=0∧ts=[]) ∧
  (gen≠0→used=(gZ (zi (zh k s seg) 0 s.b.toNat) gen (zi (zh k s seg) 0 s.b.toNat).length 1:Nat)∧ts.map Tl.two=vU (zi (zh k s seg) 0 s.b.toNat) gen (zi (zh k s seg) 0 s.b.toNat).length 1)∧Kw w' m seg gen A c ts
section
variable {w w':World} {X:Nat→Prop} {l p d n pe:Nat} {s:Sup} {t:Int} {k:Dk} {xs:List Seg}
theorem zCV (h:jJ w X l p d n s t k xs pe) (hX:∀ b,X b→b<w.heap.size) (seg:Nat) (hseg:(seg:Int)<s.a) :
 Calls Tryz.prog 10 #[.pointer (some ⟨p,0,none⟩),.int .i64 seg] w (zJe w X l p d n s t k xs pe seg):=by
 obtain ⟨A,c,⟨h1,h2,R,h3,h4,h5⟩,hc,hA⟩:=h.log
 refine (Tn (X:=fun b=>X b∨b=l∨R b) h3 (fun b hb=>by
  rcases hb with hb | rfl | hb
  ·exact hX b hb
  ·exact h1.lt
  ·exact (h5 b hb).1) h.may h.good h.ok_k seg hseg h.room h.n2.2).mono ?_
 rintro e w' ⟨k',A5,c5,ts,gen,used,m5,rfl,PO,hst,hg,hh,hp,hk5,hgen,hg0,hg1,htold⟩
 refine ⟨k',A5,c5,ts,gen,used,m5,rfl,PO,⟨⟨A,c,⟨h1.kept hk5 (.inr (.inl rfl)),fun e=>?_,R,?_,h4.kept hk5 (fun b hb=>.inr (.inr hb)),fun b hb=>⟨nL (h5 b hb).1 hk5.size,(h5 b hb).2.1,fun e=>?_⟩⟩,hc,hA⟩,hg,h.ok,h.top,h.may,h.sin,h.dims,h.n2,h.room,by rw[hp]; exact h.pend⟩,hh,hk5.mono (fun b hb=>.inl hb),hgen,hg0,hg1,htold⟩
 ·rcases e with e | ⟨e,_⟩
  ·exact h2 e
  ·have:=h1.lt; omega
 ·refine zk.kept (Z:=fun _=>True) hst (Kept.refl _ _) (fun _ _ _=>trivial) (fun b _ hb=>?_)
  rcases hb with (hb | hb) | hb | hb
  ·exact .inl (.inl hb)
  ·exact .inr hb
  ·exact .inl (.inr (.inl hb))
  ·exact .inl (.inr (.inr hb))
 ·rcases e with e | ⟨e,_⟩
  ·exact (h5 b hb).2.2 e
  ·have:=(h5 b hb).1; omega
end
end
section
section
variable {k:Dk} {s s1:Sup} {xs xs1:List Seg} {st:List zm} {p:zm} {a:Int × Int × Int} {us:List Int} {fl sg g sc kd q:Int}
theorem LZ (h:yN k s xs st) (hp:p∈st) (us:List Int):(jC (qV st (keyOf p.2)++[(a,p.2)]) us).map Prod.snd=(jC st us).map Prod.snd:=by
 by_cases e:us=keyOf p.2
 ·subst e
  rw[uH rfl,UC h hp]
  rfl
 ·rw[uG rfl e]
theorem LY:∀ {st:List zm},(∀ p,p∈st→∀ q,q∈st→keyOf p.2=keyOf q.2→p=q)→st.Nodup→p∈st→(qV st (keyOf p.2)).length+1=st.length
 | [],_,_,h=>by cases h
 | x :: r, hk, hn, hp => by
  rw[List.nodup_cons] at hn
  unfold qV
  rw[List.filter_cons]
  by_cases e:x=p
  ·subst e
   rw[if_neg (by simp)]
   have h1:r.filter (fun p=>!decide (keyOf p.2=keyOf x.2))=r:=List.filter_eq_self.2 fun y hy=>by
    have:keyOf y.2≠keyOf x.2:=fun e2=>hn.1 ((hk y (List.mem_cons_of_mem _ hy) x List.mem_cons_self e2)▸hy)
    simpa using this
   rw[h1,List.length_cons]
  ·rcases List.mem_cons.1 hp with h2 | h2
   ·exact absurd h2.symm e
   ·have h3:keyOf x.2≠keyOf p.2:=fun e2=>e (hk x List.mem_cons_self p (List.mem_cons_of_mem _ h2) e2)
    rw[if_pos (by simpa using h3),List.length_cons,List.length_cons]
    have:=LY (st:=r) (fun a ha b hb=>hk a (List.mem_cons_of_mem _ ha) b (List.mem_cons_of_mem _ hb)) hn.2 h2
    unfold qV at this
    omega
theorem zCi (h:yN k s xs st) (hp:p∈st) (hfr:∀ q,q∈st→q.1≠a):vO (qV st (keyOf p.2)++[(a,p.2)]) fl p.1.1 p.1.2.1 p.1.2.2 kd q us=false:=by
 unfold vO
 rw[decide_eq_false (show ¬ (p.1.1,p.1.2.1,p.1.2.2)∈(mP (qV st (keyOf p.2)++[(a,p.2)]) us).map (·.1) from fun hm=>?_),Bool.and_false,Bool.and_false]
 obtain ⟨e,he,hea⟩:=List.mem_map.1 hm
 have he2:=(Jv.1 he).1
 have IZ:e.1=p.1:=hea
 rcases List.mem_append.1 he2 with h1 | h1
 ·obtain ⟨h2,h3⟩:=kJ.1 h1
  exact h3 (by rw[h.adr e h2 p hp IZ])
 ·rw[List.mem_singleton.1 h1] at IZ
  exact hfr p hp IZ.symm
theorem D6 (h:st.Nodup):(qV st us).Nodup:=h.filter _
theorem KP {bs:List Int} (h:st.Nodup):(qV st (keyOf bs)++[(a,bs)]).Nodup:=by
 rw[List.nodup_append]
 refine ⟨D6 h,by simp,fun x hx y hy=>?_⟩
 rw[List.mem_singleton.1 hy]
 exact fun e=>(kJ.1 hx).2 (by rw[e])
theorem Tt {bs:List Int} (hb:Bytes bs):oJ (flagsOf bs) (qA bs) (zo bs):=by
 have a1:=jT _ (jW hb 1 4)
 have a2:=jT _ (jW hb 5 4)
 have a3:=jT _ (jW hb 9 8)
 have l1:((256 ^ ((bs.drop 1).take 4).length:Nat):Int)≤4294967296:=by
  have:((bs.drop 1).take 4).length≤4:=by simp; omega
  exact Int.ofNat_le.2 (Nat.pow_le_pow_right (show 0<256 by decide) this)
 have l2:((256 ^ ((bs.drop 5).take 4).length:Nat):Int)≤4294967296:=by
  have:((bs.drop 5).take 4).length≤4:=by simp; omega
  exact Int.ofNat_le.2 (Nat.pow_le_pow_right (show 0<256 by decide) this)
 have l3:((256 ^ ((bs.drop 9).take 8).length:Nat):Int)≤18446744073709551616:=by
  have:((bs.drop 9).take 8).length≤8:=by simp; omega
  exact Int.ofNat_le.2 (Nat.pow_le_pow_right (show 0<256 by decide) this)
 unfold flagsOf qA zo
 exact ⟨by omega,by omega,by omega,by omega,by omega,by omega⟩
theorem KQ (hl:vO st fl sg g sc kd q us=true):kd=1∧fl<q∧∃ e,e∈st∧e.1=(sg,g,sc):=by
 unfold vO at hl
 rw[Bool.and_eq_true,Bool.and_eq_true] at hl
 obtain ⟨h1,h2,h3⟩:=hl
 obtain ⟨e,he,hea⟩:=List.mem_map.1 (of_decide_eq_true h3)
 have h4:¬ q≤fl:=by simpa using h2
 exact ⟨of_decide_eq_true h1,by omega,e,(Jv.1 he).1,hea⟩
theorem zHh (hok:qp s.b xs) (htop:y8 xs≤s.g) {K:Nat} (hK:1≤K∧K≤17) {i:Nat} (ha:kH s xs K=some (i,s1,xs1)) (q:Nat) (h0:qE (qL xs1 (K:Int)) q=0):q≠i∧qE xs q=0:=by
 have hb:24≤s.b:=by have hz:=hok.1; unfold qj at hz; omega
 unfold kH at ha
 split at ha
 ·rename_i hfit
  injection ha with ha
  injection ha with e1 e2
  injection e2 with e2 e3
  subst e2 e3
  obtain ⟨j,hj⟩:=P8 hok (by omega) hfit
  have hE:=uW hok (n:=(K:Int)) (by omega) (by omega) hfit
  obtain ⟨i2,u1,u2,u3,u4,u5,u6,u7,u8,u9,u10,u11⟩:=fK hE
  obtain rfl:i=i2:=by omega
  rw[u10,iK u1] at h0
  by_cases e:i=q
  ·rw[if_pos e] at h0
   exact absurd (show (1:Int)=0 from h0) (by decide)
  ·rw[if_neg e] at h0
   exact ⟨fun h=>e h.symm,h0⟩
 ·split at ha
  ·cases ha
  rename_i hnx
  injection ha with ha
  injection ha with e1 e2
  injection e2 with e2 e3
  subst e2 e3
  have hz:zL s.b xs=if jP s.b xs=0 then vN xs else xs:=rfl
  obtain ⟨z1,z2,z3,z4,z5,z6,z7⟩:=wW hok hz
  have hE:=aA hok hz htop (by omega)
  obtain ⟨j2,j1,j22,j3,j4,j5,j6,j7,j8,j9,j10,j11⟩:=gy hE
  obtain rfl:i=j2:=by omega
  have hE2:=uW j3 (n:=(K:Int)) (by omega) (by omega) (by rw[j9]; omega)
  obtain ⟨i2,u1,u2,u3,u4,u5,u6,u7,u8,u9,u10,u11⟩:=fK hE2
  obtain rfl:i=i2:=by omega
  rw[u10,iK u1] at h0
  by_cases e:i=q
  ·rw[if_pos e] at h0
   exact absurd (show (1:Int)=0 from h0) (by decide)
  ·rw[if_neg e,j11,iK j1,if_neg e,(z7 q).1] at h0
   exact ⟨fun h=>e h.symm,h0⟩
end
structure qz (w0:World) (b1 q:Nat) (W:World) (X:Nat→Prop) (B:xu) (s:Sup) (xs:List Seg) (st:List zm) (bl:List (List Int)) (rs:Nat→List (Nat × List Int)):Prop where
 sto:zT W X B 8 s xs st bl false
 hist:xZ B.k s xs rs
 zer:∀ i j:Nat,i<4→qE xs i=0→(j:Int)<s.b→zh B.k s i j=noughts 64
 x0:∀ b,b<b1→X b
 b0:w0.heap.size≤b1
 bel:Below w0.heap.size w0 W
 bq:B.q=q
 sab:s.a=4∧s.b=24
 nd:st.Nodup
section
variable {w0:World} {b1 q:Nat} {W W':World} {X:Nat→Prop} {B:xu} {s:Sup} {xs:List Seg} {st:List zm} {bl:List (List Int)} {rs:Nat→List (Nat × List Int)} {A A2:Option Addr} {m c m2 c2:Nat} {us vs:List Int}
theorem qz.grow (h:qz w0 b1 q W X B s xs st bl rs) (hb:Below W.heap.size W W'):qz w0 b1 q W' (fun b=>X b∨(W.heap.size≤b∧b<W'.heap.size)) B s xs st bl rs :=
 ⟨h.sto.grow hb,h.hist,h.zer,fun b hb=>.inl (h.x0 b hb),h.b0,h.bel.trans (hb.mono h.bel.size),h.bq,h.sab,h.nd⟩
theorem qz.belK (h:qz w0 b1 q W X B s xs st bl rs) (hk:Kept X W W'):Below w0.heap.size w0 W' :=
 h.bel.trans (hk.to_below (B:=w0.heap.size) fun b hb=>h.x0 b (nL hb h.b0))
theorem qz.same {k':Dk} {t':Int} {LJ:Nat} (h:qz w0 b1 q W X B s xs st bl rs) (hk:Kept X W W') (hs:zT W' X { B with t:=t',k:=k',pe:=LJ } 8 s xs st bl false) (hh:k'.held=B.k.held):qz w0 b1 q W' X { B with t:=t',k:=k',pe:=LJ } s xs st bl rs :=
 ⟨hs,h.hist.held hh,fun i j h1 h2 h3=>by
  have e:zh k' s i j=zh B.k s i j:=kZ hh _
  exact e.trans (h.zer i j h1 h2 h3),h.x0,h.b0,h.belK hk,h.bq,h.sab,h.nd⟩
theorem qz.app {k':Dk} {t':Int} {LJ i:Nat} {s1:Sup} {xs1:List Seg} {st1:List zm} {bl1:List (List Int)} {bs:List Int} (h:qz w0 b1 q W X B s xs st bl rs) (hk:Kept X W W') (hK:1≤zD bs.length∧zD bs.length≤17) (ha:kH s xs (zD bs.length)=some (i,s1,xs1)) (hs1:s1=s∨s1=jR s) (hn:st1.Nodup)
 (hs:zT W' X { B with t:=t',k:=k',pe:=LJ } 8 s1 (qL xs1 ((zD bs.length:Nat):Int)) st1 bl1 false) (hh:QY B.k s xs k' s1 xs1 (qL xs1 ((zD bs.length:Nat):Int)) i bs) :
 ∃ rs',qz w0 b1 q W' X { B with t:=t',k:=k',pe:=LJ } s1 (qL xs1 ((zD bs.length:Nat):Int)) st1 bl1 rs':=by
 obtain ⟨rs',u,_,h2,_⟩:=hh.hist rs h.hist
 have hb:s1.b=s.b:=by rcases hs1 with rfl | rfl <;> rfl
 have ha4:s1.a=s.a:=by rcases hs1 with rfl | rfl <;> rfl
 refine ⟨rs',hs,h2,fun i' j h3 h4 h5=>?_,h.x0,h.b0,h.belK hk,h.bq,by rw[hb,ha4]; exact h.sab,hn⟩
 obtain ⟨h6,h7⟩:=zHh h.sto.log.ok h.sto.log.top hK ha i' h4
 have h8:zh k' s1 i' j=zh B.k s i' j:=hh.secs i' j h6 (by rw[← hb]; exact h5)
 exact h8.trans (h.zer i' j h3 h7 (by rw[← hb]; exact h5))
theorem ZU {k1 f x q1:Int} (hm:May k1 f x q1 us.length vs.length):1≤zD (qI k1 f x q1 us vs).length∧zD (qI k1 f x q1 us vs).length≤17:=by
 rw[dQ]
 unfold May at hm
 unfold zD
 omega
def MvT (w0:World) (b1 q:Nat) (W:World) (X:Nat→Prop) (pe:Nat) (g:Int) (e:Ending) (W':World):Prop :=
 ∃ er B' s' xs' st' yF rs',e=.returned (.int .i64 er)∧qz w0 b1 q W' X B' s' xs' st' yF rs'∧Kept X W W'∧B'.pe≤pe+17∧s'.g≤g+1
theorem qz.put (h:qz w0 b1 q W X B s xs st bl rs) {f x q1:Int} {dy:Bool} (hk:zW .u8 W X A m us) (hv:zW .u8 W X A2 m2 vs) (hb:Bytes us) (hbv:Bytes vs) (hnc:A=none→c=0) (fC:A2=none→c2=0) (hr:oJ f x q1) (hpe:B.pe≤900000) (hgm:s.g+1≤18446744073709551615) :
 Calls Tryz.prog 19 #[.pointer (some ⟨q,0,none⟩),Zi A m c A2 m2 c2 f x q1 dy] W (MvT w0 b1 q W X B.pe s.g):=by
 obtain rfl:B.q=q:=h.bq
 by_cases hm:May 1 f x q1 m m2
 ·refine (Jq (c:=c) (c2:=c2) (dy:=dy) h.sto hk hv hb hbv hnc fC hm hr hpe hgm).mono ?_
  rintro e w1 ⟨hkp,⟨_,rfl,k',hst,hh⟩ | ⟨_,_,rfl,k',hst,hh⟩ | ⟨_,i,s1,ys,t1,k1,hso,hs1,rfl,hst,gB⟩⟩
  ·exact ⟨6,_,s,xs,st,bl,rs,rfl,h.same hkp hst hh,hkp,Nat.le_add_right _ _,by omega⟩
  ·exact ⟨6,_,s,xs,st,bl,rs,rfl,h.same hkp hst hh,hkp,Nat.le_add_right _ _,by omega⟩
  ·obtain ⟨rs',h9⟩:=h.app hkp (ZU (by rw[hk.1,hv.1]; exact hm)) hso hs1 (KP h.nd) hst gB
   refine ⟨0,_,s1,_,_,_,rs',rfl,h9,hkp,nR _,?_⟩
   rcases hs1 with rfl | rfl
   ·omega
   ·exact Int.le_refl _
 ·refine (Qw B.q A m c A2 m2 c2 f x q1 dy W hm).mono ?_
  rintro e w1 ⟨rfl,hb1⟩
  have hkp:=Kept.of_below (S:=X) hb1 h.sto.lt
  exact ⟨230,B,s,xs,st,bl,rs,rfl,(show qz w0 b1 B.q w1 X B s xs st bl rs from ⟨h.sto.below hb1,h.hist,h.zer,h.x0,h.b0,h.belK hkp,h.bq,h.sab,h.nd⟩),hkp,Nat.le_add_right _ _,by omega⟩
theorem qz.kill (h:qz w0 b1 q W X B s xs st bl rs) {q1:Int} (hk:zW .u8 W X A m us) (hb:Bytes us) (hr:0≤q1∧q1≤18446744073709551615) (hpe:B.pe≤900000) (hgm:s.g+1≤18446744073709551615) :
 Calls Tryz.prog 26 #[.pointer (some ⟨q,0,none⟩),.slice A m c,.int .u64 q1] W (MvT w0 b1 q W X B.pe s.g):=by
 obtain rfl:B.q=q:=h.bq
 by_cases hm:May 2 0 0 q1 m 0
 ·refine (Zg (c:=c) h.sto hk hb hm ⟨by omega,by omega,by omega,by omega,hr.1,hr.2⟩ hpe hgm).mono ?_
  rintro e w1 ⟨hkp,⟨_,rfl,k',hst,hh⟩ | ⟨i,s1,ys,t1,k1,hso,hs1,rfl,hst,gB⟩⟩
  ·exact ⟨6,_,s,xs,st,bl,rs,rfl,h.same hkp hst hh,hkp,Nat.le_add_right _ _,by omega⟩
  ·obtain ⟨rs',h9⟩:=h.app hkp (ZU (vs:=[]) (by rw[hk.1]; exact hm)) hso hs1 (D6 h.nd) hst gB
   refine ⟨0,_,s1,_,_,_,rs',rfl,h9,hkp,nR _,?_⟩
   rcases hs1 with rfl | rfl
   ·omega
   ·exact Int.le_refl _
 ·refine (Zh B.q A m c q1 W hm).mono ?_
  rintro e w1 ⟨rfl,hb1⟩
  have hkp:=Kept.of_below (S:=X) hb1 h.sto.lt
  exact ⟨160,B,s,xs,st,bl,rs,rfl,(show qz w0 b1 B.q w1 X B s xs st bl rs from ⟨h.sto.below hb1,h.hist,h.zer,h.x0,h.b0,h.belK hkp,h.bq,h.sab,h.nd⟩),hkp,Nat.le_add_right _ _,by omega⟩
theorem qz.flush (h:qz w0 b1 q W X B s xs st bl rs) (q1:Int) (hq:q1≤18446744073709551615) (hpe:B.pe≤900000) :
 Calls Tryz.prog 34 #[.pointer (some ⟨q,0,none⟩),.int .u64 q1] W (MvT w0 b1 q W X B.pe s.g):=by
 obtain rfl:B.q=q:=h.bq
 refine (JJ h.sto hpe q1 hq).mono ?_
 rintro e w1 ⟨rfl,hkp,⟨hle,hst⟩ | ⟨hlt,hst⟩⟩
 ·exact ⟨0,B,s,xs,st,bl,rs,rfl,(show qz w0 b1 B.q w1 X B s xs st bl rs from ⟨hst,h.hist,h.zer,h.x0,h.b0,h.belK hkp,h.bq,h.sab,h.nd⟩),hkp,Nat.le_add_right _ _,by omega⟩
 ·have hg:=h.sto.log.good
  refine ⟨0,{ B with t:=qy B.t,k:=Kk B.k s B.t q1,pe:=B.pe },JN s q1,xs,st,bl,rs,rfl,⟨hst,h.hist.known (s':=JN s q1) rfl (Int.le_refl _) (fun i j _=>Dp hg i j) h.sto.log.ok,fun i j h1 h2 h3=>?_,h.x0,h.b0,h.belK hkp,h.bq,h.sab,h.nd⟩,hkp,Nat.le_add_right _ _,by show s.g≤s.g+1; omega⟩
  have h3':(j:Int)<s.b:=h3
  exact (Dp hg i j).trans (h.zer i j h1 h2 h3')
end
end
section
theorem XM (xss:List (List Int)) (gen:Int):∀ f at_,(vU xss gen f at_).length≤f
 | 0,_=>by simp[vU]
 | f+1,at_=>by
  rw[vU]
  split
  ·rw[List.length_cons]; exact Nat.succ_le_succ (XM xss gen f _)
  ·simp
theorem WB (i:Nat):kR (noughts 64) i=0:=by
 unfold kR
 rw[if_neg (fun h=>by have:=h.1; rw[XU] at this; cases this)]
section
variable {w0:World} {b1 q:Nat} {W W':World} {X:Nat→Prop} {B:xu} {s:Sup} {xs:List Seg} {st:List zm} {bl:List (List Int)} {rs:Nat→List (Nat × List Int)} {A A2:Option Addr} {m c m2 c2:Nat} {us vs:List Int}
theorem jJ.gen14 {w:World} {l p d n pe:Nat} {t:Int} {k:Dk} (h:jJ w X l p d n s t k xs pe) {i:Nat} (h2:i<xs.length) (h0:qE xs i≠0):1≤zM xs i∧zM xs i≤18446744073709551615:=by
 have h9:=h.top
 have h8:=VR h2 h0
 have h7:=(fB (mR h.ok.2.1 h2) h0).2.1
 have h6:=h.sin
 simp only[Sup.In,lG] at h6
 have:zM xs i=(xs.getD i zK).2.1:=rfl
 omega
theorem qz.len (h:qz w0 b1 q W X B s xs st bl rs):xs.length=4:=by
 have:=h.sto.log.dims
 rw[h.sab.1] at this
 omega
theorem qz.get (h:qz w0 b1 q W X B s xs st bl rs) (hk:zW .u8 W X A m us) (hb:Bytes us) (hm:m≤1000000) :
 Calls Tryz.prog 23 #[.pointer (some ⟨q,0,none⟩),.slice A m c,.int .u32 0] W fun e w'=>∃ Y k',(∀ b,X b→Y b)∧qz w0 b1 q w' Y { B with t:=B.t,k:=k',pe:=B.pe } s xs st bl rs∧k'.held=B.k.held∧Kept X W w' ∧
  ((kF st s.f 0 us=none∧e=.returned (.tuple #[.agg qN,.int .i64 4])) ∨
   ∃ bs b1 b2,kF st s.f 0 us=some bs∧e=.returned (.tuple #[.agg (bZ bs b1 b2),.int .i64 0])∧Y b1∧Y b2∧zn w' b1 (keyOf bs)∧zn w' b2 (valOf bs)):=by
 obtain rfl:B.q=q:=h.bq
 refine (Bh (c:=c) h.sto hk hb hm 0).mono ?_
 rintro e w' ⟨⟨k',hs,hh⟩,hkp,hc⟩
 rcases hc with ⟨h1,h2⟩ | ⟨bs,a1,a2,h1,h2,h3,h4,h5,h6,h7,k2,hl,PS⟩
 ·exact ⟨X,k',fun b hb=>hb,h.same hkp hs hh,hh,hkp,.inl ⟨h1,h2⟩⟩
 ·have hst:zT w' (fun b=>X b∨b=a1∨b=a2) { B with t:=B.t,k:=k2,pe:=B.pe } 8 s xs st bl false :=
   ⟨hs.blk,hs.fm,hs.num,hs.ix,hl.less (fun b hb=>by
    rcases hb with (hb | hb) | hb
    ·exact .inl (.inl hb)
    ·exact .inr hb
    ·exact .inl (.inr hb)),h.sto.inv.held PS,fun b hb hx=>by
    have h8:=h.sto.own_lt hb
    rcases hx with hx | rfl | rfl
    ·exact h.sto.off b hb hx
    ·omega
    ·omega,fun b hb=>by
    rcases hb with hb | rfl | rfl
    ·exact hs.lt b hb
    ·exact z8.lt h6
    ·exact z8.lt h7⟩
  have h9:=h.same hkp hs hh
  exact ⟨_,k2,fun b hb=>.inl hb,⟨hst,h.hist.held PS,fun i j g1 g2 g3=>(show zh k2 s i j=zh B.k s i j from kZ PS _).trans (h.zer i j g1 g2 g3),fun b hb=>.inl (h.x0 b hb),h.b0,h9.bel,h.bq,h.sab,h.nd⟩,PS,hkp,.inr ⟨bs,a1,a2,h1,h2,.inr (.inl rfl),.inr (.inr rfl),h6,h7⟩⟩
theorem qz.told (h:qz w0 b1 q W X B s xs st bl rs) {seg:Nat} (hs:seg<4) {ts:List Tl} {gen:Int} (hgen:gen=kR (xH (zi (zh B.k s seg) 0 s.b.toNat) 0) seg) (h0:gen=0→ts=[])
 (h1:gen≠0→ts.map Tl.two=vU (zi (zh B.k s seg) 0 s.b.toNat) gen (zi (zh B.k s seg) 0 s.b.toNat).length 1):(∀ t,t∈ts→AtR B.k s xs ((seg:Int),gen,(t.at_:Int)) t.bs)∧ts.length≤24:=by
 have hl:=h.len
 have hb:=h.sab.2
 by_cases e0:gen=0
 ·rw[h0 e0]
  exact ⟨fun t ht=>(by cases ht),by simp⟩
 ·have h2:=h1 e0
  refine ⟨fun t ht=>?_,?_⟩
  ·by_cases hst:qE xs seg=0
   ·exfalso
    refine e0 ?_
    rw[hgen,show xH (zi (zh B.k s seg) 0 s.b.toNat) 0=noughts 64 from ?_,WB]
    unfold xH
    rw[if_pos (by rw[xS,hb]; decide)]
    unfold zi
    have e1:(List.map (fun i=>zh B.k s seg (0+i)) (List.range s.b.toNat)).getD 0 []=zh B.k s seg 0:=by
     simp[List.getD,List.getElem?_map,List.getElem?_range (show 0<s.b.toNat by rw[hb]; decide)]
    rw[e1]
    exact h.zer seg 0 hs hst (by rw[hb]; decide)
   ·have hg:=h.sto.log.gen14 (by rw[hl]; exact hs) hst
    obtain ⟨g1,g2,g3⟩:=h.hist.scan h.sto.log.ok (by rw[hl]; exact hs) hst hg
    rw[g1] at hgen
    rw[hgen,g2] at h2
    have h3:t.two∈rs seg:=by rw[← h2]; exact List.mem_map_of_mem ht
    have h4:=h.hist.at (by rw[hl]; exact hs) hst h3
    rw[hgen]
    exact h4
  ·have h3:=congrArg List.length h2
   rw[List.length_map] at h3
   rw[h3]
   refine nT (XM _ _ _ _) ?_
   rw[xS,hb]
   decide
theorem qz.scan (h:qz w0 b1 q W X B s xs st bl rs) {seg:Nat} (hs:seg<4) :
 Calls Tryz.prog 10 #[.pointer (some ⟨B.p,0,none⟩),.int .i64 seg] W fun e w'=>∃ k' A c ts gen used m',e=.returned (.tuple #[.agg (ji gen used (.slice A ts.length c)),.int .i64 0])∧W.heap.size≤m' ∧
  qz w0 b1 q w' (fun b=>X b∨(m'≤b∧b<w'.heap.size)) { B with t:=B.t,k:=k',pe:=B.pe } s xs st bl rs∧Kept X W w'∧Kw w' m' seg gen A c ts∧(∀ t,t∈ts→AtR k' s xs ((seg:Int),gen,(t.at_:Int)) t.bs)∧ts.length≤24:=by
 refine (zCV h.sto.log h.sto.ylt seg (by rw[h.sab.1]; omega)).mono ?_
 rintro e w' ⟨k',A5,c5,ts,gen,used,m',rfl,hm',hl,hh,hk,hgen,h0,h1,htold⟩
 obtain ⟨g1,g2⟩:=h.told hs hgen (fun e0=>(h0 e0).2) (fun e0=>(h1 e0).2)
 have hkx:Kept X W w':=hk.mono (fun b hb=>.inl hb)
 have hst:zT w' (fun b=>X b∨(m'≤b∧b<w'.heap.size)) { B with t:=B.t,k:=k',pe:=B.pe } 8 s xs st bl false :=
  h.sto.logTo2 hk (fun b hb=>.inr hb) (fun b hb=>.inl hb) (fun b hb hy=>by
   rcases hy with hy | hy
   ·exact h.sto.off b hb hy
   ·have:=h.sto.own_lt hb; omega) (fun b hb=>by
   rcases hb with hb | hb
   ·exact nL (h.sto.lt b hb) hk.size
   ·exact hb.2) (hl.less (fun b hb=>by
   rcases hb with (hb | hb) | hb
   ·exact .inl (.inl hb)
   ·exact .inr hb
   ·exact .inl (.inr hb))) rfl (h.sto.inv.held hh)
 refine ⟨k',A5,c5,ts,gen,used,m',rfl,hm',⟨hst,h.hist.held hh,fun i j h2 h3 h4=>?_,fun b hb=>.inl (h.x0 b hb),h.b0,h.belK hkx,h.bq,h.sab,h.nd⟩,hkx,htold,fun t ht=>(g1 t ht).held hh,g2⟩
 have e:zh k' s i j=zh B.k s i j:=kZ hh _
 exact e.trans (h.zer i j h2 h3 h4)
def MvL (w0:World) (b1 q:Nat) (W:World) (X:Nat→Prop) (B:xu) (s:Sup) (xs:List Seg) (st:List zm) (a0:Int × Int × Int) (bs:List Int) (e:Ending) (w':World):Prop :=
 ∃ er B' s' xs' st' yF rs',e=.returned (.int .i64 er)∧qz w0 b1 q w' X B' s' xs' st' yF rs'∧Kept X W w'∧B'.pe≤B.pe+17∧s'.g≤s.g+1∧s'.f=s.f∧(∀ us,(jC st' us).map Prod.snd=(jC st us).map Prod.snd)∧st'.length=st.length ∧
  (∀ a bs',AtR B.k s xs a bs'→AtR B'.k s' xs' a bs')∧(er=6∨er=0∧vO st' s'.f a0.1 a0.2.1 a0.2.2 (kindOf bs) (zo bs) (keyOf bs)=false)
theorem qz.move (h:qz w0 b1 q W X B s xs st bl rs) {sg g sc:Int} {bs:List Int} (hat:AtR B.k s xs (sg,g,sc) bs) (hk:zW .u8 W X A m (keyOf bs)) (hv:zW .u8 W X A2 m2 (valOf bs)) (hnc:A=none→c=0) (fC:A2=none→c2=0)
 (hl:vO st s.f sg g sc (kindOf bs) (zo bs) (keyOf bs)=true) (hpe:B.pe≤900000) (hgm:s.g+1≤18446744073709551615) :
 Calls Tryz.prog 37 #[.pointer (some ⟨q,0,none⟩),.agg #[.int .i64 sg,.int .u64 g,.int .i64 sc,.int .i64 (kindOf bs),.int .u32 (flagsOf bs),.int .u32 (qA bs),.int .u64 (zo bs),.slice A m c,.slice A2 m2 c2]] W (MvL w0 b1 q W X B s xs st (sg,g,sc) bs):=by
 obtain rfl:B.q=q:=h.bq
 obtain ⟨h1,h2,p,hp,hpa⟩:=KQ hl
 have hlen:=h.len
 have hpb:p.2=bs:=AtR.same (hpa▸h.sto.inv.here p hp) hat h.sto.log.ok (fun i hi hu=>h.sto.log.gen14 hi (fun e=>hu (rz h.sto.log.ok hi e)))
 obtain ⟨pa,pb⟩:=p
 dsimp only at hpa hpb
 subst hpa hpb
 have yw:=hat.rok
 have hkl:=hk.1
 have hvl:=hv.1
 have hrec:qI 1 (flagsOf pb) (qA pb) (zo pb) (keyOf pb) (valOf pb)=pb:=by
  have h3:=GU yw.byt (Nat.le_of_eq yw.need)
  rw[yw.need,List.take_length,h1] at h3
  exact h3
 have hbk:Bytes (keyOf pb)∧Bytes (valOf pb):=⟨by unfold keyOf; exact jW yw.byt 21 _,by unfold valOf; exact jW yw.byt _ _⟩
 have hmay:May 1 (flagsOf pb) (qA pb) (zo pb) m m2:=by
  have h3:=yw.may
  unfold vK at h3
  have hl8:=yw.len
  have k8:(keyOf pb).length≤pb.length:=by unfold keyOf; simp; omega
  have v8:(valOf pb).length≤pb.length:=by unfold valOf; simp; omega
  have h4:zH pb=m:=by
   have h5:=ug (k:=1) (f:=flagsOf pb) (x:=qA pb) (s:=zo pb) (xs:=keyOf pb) (ys:=valOf pb) (zs:=[]) (by omega)
   rw[List.append_nil,hrec,hkl] at h5
   exact h5
  have h5:zO pb=m2:=by
   have h6:=ZT (k:=1) (f:=flagsOf pb) (x:=qA pb) (s:=zo pb) (xs:=keyOf pb) (ys:=valOf pb) (zs:=[]) (by omega)
   rw[List.append_nil,hrec,hvl] at h6
   exact h6
  rw[h1,h4,h5] at h3
  exact h3
 rw[h1]
 refine (D7 (p:=((sg,g,sc),pb)) (c:=c) (c2:=c2) h.sto hp hrec hk hv hbk.1 hbk.2 hnc fC hmay (Tt yw.byt) h2 hpe hgm).mono ?_
 rintro e w1 ⟨hkp,⟨_,rfl,k',hst,hh⟩ | ⟨i,s1,ys,t1,k1,hso,hs1,rfl,hst,gB,hfr⟩⟩
 ·exact ⟨6,_,s,xs,st,bl,rs,rfl,h.same hkp hst hh,hkp,Nat.le_add_right _ _,by omega,rfl,fun _=>rfl,rfl,fun a bs' ha=>ha.held hh,.inl rfl⟩
 ·obtain ⟨rs',h9⟩:=h.app (bs:=pb) hkp (by have h9:22≤pb.length∧pb.length≤783:=yw.len; unfold zD; omega) hso hs1 (KP h.nd) hst gB
  refine ⟨0,_,s1,_,_,_,rs',rfl,h9,hkp,nR _,?_,?_,LZ h.sto.inv hp,?_,gB.ats,.inr ⟨rfl,?_⟩⟩
  ·rcases hs1 with rfl | rfl
   ·omega
   ·exact Int.le_refl _
  ·rcases hs1 with rfl | rfl <;> rfl
  ·rw[List.length_append]
   exact LY h.sto.inv.key h.nd hp
  ·exact zCi h.sto.inv hp hfr
end
end
section
attribute [local go_sem] Oper.semAt_some
section
variable {w:World} {X:Nat→Prop} {B:xu} {slots:Nat} {s:Sup} {xs:List Seg} {st:List zm} {bl:List (List Int)} {u:Bool}
theorem zCU (h:zT w X B slots s xs st bl u):Calls Tryz.prog 35 #[.pointer (some ⟨B.q,0,none⟩)] w fun e w'=>e=.returned (.pointer (some ⟨B.l,0,none⟩))∧w'=w:=by
 obtain ⟨c0,c1,_,_⟩:=h.cells
 clear h
 go_enter Tryz.func35,Tryz.ntmps35
 go_wp2_with fail
 go_ret
 exact ⟨rfl,rfl⟩
end
theorem Lg (j:Nat) (hj:2≤j) (hn:j<98):mU.held.getD j []=noughts 64:=by
 unfold mU
 rw[(((Good.fresh 98).put _ _).put _ _).held_sync,((Good.fresh 98).put _ _).held_put,(Good.fresh 98).held_put]
 simp only[List.getD,List.getElem?_set]
 rw[if_neg (by omega),if_neg (by omega)]
 have:(Dk.fresh 98).held=List.replicate 98 (noughts 64):=by rfl
 rw[this,List.getElem?_replicate,if_pos hn]
 rfl
theorem EX (i j:Nat) (hi:i<4) (hj:(j:Int)<24):zh mU l8 i j=noughts 64:=by
 unfold zh
 rw[if_pos (show (j:Int)<l8.b from hj)]
 show mU.held.getD (2+(i:Int)*24+j).toNat []=noughts 64
 exact Lg _ (by omega) (by omega)
theorem qz.start {w w1 w4:World} {B:xu} {bl:List (List Int)} (hs:zT w4 (fun b=>b<w1.heap.size) B 8 l8 fJ [] bl false) (hk:B.k=mU) (hb:Below w.heap.size w w4) (h1:w.heap.size≤w1.heap.size):qz w w1.heap.size B.q w4 (fun b=>b<w1.heap.size) B l8 fJ [] bl (fun _=>[]):=by
 have hst:∀ i,qE fJ i=0:=fun i=>by
  rcases i with _ | _ | _ | _ | i <;> rfl
 have hV:∀ i j:Nat,i<4→(j:Int)<24→zh B.k l8 i j=noughts 64:=fun i j h1 h2=>by rw[hk]; exact EX i j h1 h2
 exact ⟨hs,xZ.start (fun i _=>hst i) (fun i j h1 h2=>hV i j h1 h2),fun i j h1 _ h3=>hV i j h1 h3,fun b hb=>hb,h1,hb,rfl,⟨rfl,rfl⟩,List.nodup_nil⟩
section
variable {w0:World} {b1 q:Nat} {W W':World} {X Y:Nat→Prop} {B:xu} {s:Sup} {xs:List Seg} {st st':List zm} {bl:List (List Int)} {rs:Nat→List (Nat × List Int)} {ga:Nat} {g g':List Int→Option (List Int)}
theorem qz.write (h:qz w0 b1 q W X B s xs st bl rs) (hk:Kept (fun b=>b≠ga) W W') (hx:X ga) (hga:w0.heap.size≤ga):qz w0 b1 q W' X B s xs st bl rs :=
 ⟨h.sto.offX hk (fun b hb hn e=>hn (e▸hx)),h.hist,h.zer,h.x0,h.b0,h.bel.trans (hk.to_below fun b hb e=>by omega),h.bq,h.sab,h.nd⟩
def oL (W:World) (X:Nat→Prop) (o:Option (List Int)) (it:Array Value):Prop :=
 (o=none∧it=qN)∨∃ bs a1 a2,o=some bs∧it=bZ bs a1 a2∧X a1∧X a2∧zn W a1 (keyOf bs)∧zn W a2 (valOf bs)
theorem oL.kept {o:Option (List Int)} {it:Array Value} (h:oL W X o it) (hk:Kept X W W') (hx:∀ b,X b→Y b):oL W' Y o it:=by
 rcases h with h | ⟨bs,a1,a2,h1,h2,h3,h4,h5,h6⟩
 ·exact .inl h
 ·exact .inr ⟨bs,a1,a2,h1,h2,hx _ h3,hx _ h4,z8.kept h5 hk h3,z8.kept h6 hk h4⟩
def Yi (W:World) (X:Nat→Prop) (ga:Nat) (g:List Int→Option (List Int)) (j:Nat):Prop :=
 X ga∧∃ F:List Value,z8 W ga 86 F.toArray∧F.length=48∧∀ i:Nat,i<j→∃ it:Array Value,(F.drop (i*6)).take 6=it.toList∧oL W X (g (jf i)) it
theorem Yi.kept {j:Nat} (h:Yi W X ga g j) (hk:Kept X W W') (hx:∀ b,X b→Y b):Yi W' Y ga g j:=by
 obtain ⟨h1,F,h2,h3,h4⟩:=h
 refine ⟨hx _ h1,F,h2.kept hk h1,h3,fun i hi=>?_⟩
 obtain ⟨it,h5,h6⟩:=h4 i hi
 exact ⟨it,h5,h6.kept hk hx⟩
theorem Af {F cs:List Value} {j i:Nat} (h:i<j) (hl:j*6+6≤F.length):((F.take (j*6)++cs++F.drop (j*6+6)).drop (i*6)).take 6=(F.drop (i*6)).take 6:=by
 apply List.ext_getElem?
 intro n
 by_cases hn:n<6
 ·rw[List.getElem?_take,List.getElem?_take,if_pos hn,if_pos hn,List.getElem?_drop,List.getElem?_drop,List.append_assoc,List.getElem?_append_left (by rw[List.length_take]; omega),List.getElem?_take,if_pos (by omega)]
 ·rw[List.getElem?_take,List.getElem?_take,if_neg hn,if_neg hn]
theorem zCb {F cs:List Value} {j:Nat} (hc:cs.length=6) (hl:j*6+6≤F.length):((F.take (j*6)++cs++F.drop (j*6+6)).drop (j*6)).take 6=cs:=by
 rw[List.append_assoc,List.drop_left' (by rw[List.length_take]; omega),List.take_left' hc]
theorem oL.size {o:Option (List Int)} {it:Array Value} (h:oL W X o it):it.toList.length=6∧∀ v∈it.toList,v.oneCell'=true:=by
 rcases h with ⟨_,rfl⟩ | ⟨bs,a1,a2,_,rfl,_⟩
 ·exact ⟨rfl,by simp[Value.oneCell']⟩
 ·exact ⟨rfl,by simp[Value.oneCell']⟩
theorem Dy {a:Nat} {us:List Int} {cs:Array Value} (h1:zn W a us) (h2:z8 W ga 86 cs):a≠ga:=by
 rintro rfl
 have h3:=h1.symm.trans h2
 injection h3 with h4
 cases h4
theorem oL.write {o:Option (List Int)} {it cs cs':Array Value} (h:oL W X o it) (hB:z8 W ga 86 cs):oL (W.setRow ga cs') X o it:=by
 have hk:Kept (fun b=>b≠ga) W (W.setRow ga cs'):=(Kept.refl _ W).setRow (g:=ga) (fun h=>h rfl) cs'
 rcases h with h | ⟨bs,a1,a2,h1,h2,h3,h4,h5,h6⟩
 ·exact .inl h
 ·exact .inr ⟨bs,a1,a2,h1,h2,h3,h4,z8.kept h5 hk (Dy h5 hB),z8.kept h6 hk (Dy h6 hB)⟩
theorem Yi.step {j:Nat} {it:Array Value} {F:List Value} (hx:X ga) (hB:z8 W ga 86 F.toArray) (hF:F.length=48) (hj:j<8) (ho:∀ i:Nat,i<j→∃ it:Array Value,(F.drop (i*6)).take 6=it.toList∧oL W X (g (jf i)) it) (hi:oL W X (g (jf j)) it) :
 Yi (W.setRow ga (F.take (j*6)++it.toList++F.drop (j*6+6)).toArray) X ga g (j+1):=by
 have hs:=hi.size.1
 refine ⟨hx,_,setRow_heap _ _ _ _ _ _ hB,by simp only[List.length_append,List.length_take,List.length_drop]; omega,fun i h=>?_⟩
 by_cases e:i=j
 ·subst e
  exact ⟨it,zCb hs (by omega),hi.write hB⟩
 ·obtain ⟨it2,h5,h6⟩:=ho i (by omega)
  exact ⟨it2,(Af (by omega) (by omega)).trans h5,h6.write hB⟩
def CB (W:World) (X:Nat→Prop) (seg:Nat) (gen:Int) (A:Option Addr) (ts:List Tl):Prop :=
 PlM.RowE W X A ts.length (ts.map (Gb seg gen))∧∀ t,t∈ts→X t.b1∧X t.b2∧zn W t.b1 (keyOf t.bs)∧zn W t.b2 (valOf t.bs)
theorem CB.kept {seg:Nat} {gen:Int} {A:Option Addr} {ts:List Tl} (h:CB W X seg gen A ts) (hk:Kept X W W') (hx:∀ b,X b→Y b):CB W' Y seg gen A ts :=
 ⟨⟨h.1.1,fun hn=>by
  obtain ⟨b,off,e,h1,h2⟩:=h.1.2 hn
  exact ⟨b,off,e,hx b h1,fun j hj i v hv=>(hk.cell (p:=⟨b,_,none⟩) h1).trans (h2 j hj i v hv)⟩⟩,fun t ht=>by
  obtain ⟨h1,h2,h3,h4⟩:=h.2 t ht
  exact ⟨hx _ h1,hx _ h2,z8.kept h3 hk h1,z8.kept h4 hk h2⟩⟩
theorem Kw.tl {m seg:Nat} {gen:Int} {A:Option Addr} {c:Nat} {ts:List Tl} (h:Kw W m seg gen A c ts) (hx:∀ b,m≤b→b<W.heap.size→X b):CB W X seg gen A ts :=
 ⟨⟨h.row.1,fun hn=>by
  obtain ⟨b,off,e,h1,h2⟩:=h.row.2 hn
  exact ⟨b,off,e,hx b h1.1 h1.2,h2⟩⟩,fun t ht=>by
  obtain ⟨h1,h2,h3,h4⟩:=h.ent t ht
  exact ⟨hx _ h1 (z8.lt h3),hx _ h2 (z8.lt h4),h3,h4⟩⟩
theorem YJ {bs:List Int} (h:dz bs):(keyOf bs).length=zH bs∧(valOf bs).length=zO bs∧zH bs≤783∧Bytes (keyOf bs)∧Bytes (valOf bs):=by
 have h1:=h.need
 have h2:=h.len
 unfold jU at h1
 refine ⟨?_,?_,by omega,by unfold keyOf; exact jW h.byt 21 _,by unfold valOf; exact jW h.byt _ _⟩
 ·unfold keyOf; rw[List.length_take,List.length_drop]; omega
 ·unfold valOf; rw[List.length_take,List.length_drop]; omega
def N7 (w0:World) (b1 q i ga seg:Nat) (gen:Int) (A:Option Addr) (ts:List Tl) (n0 j:Nat) (W:World):Prop :=
 ∃ X B s xs st bl rs,qz w0 b1 q W X B s xs st bl rs∧(B.pe≤17*(i+j)∧s.g≤i+j∧st.length=n0∧w0.heap.size≤ga)∧Yi W X ga (kF st s.f 0) 8∧CB W X seg gen A ts∧∀ t,t∈ts→AtR B.k s xs ((seg:Int),gen,(t.at_:Int)) t.bs
theorem N7.grow {i seg n0 j:Nat} {gen:Int} {A:Option Addr} {ts:List Tl} (h:N7 w0 b1 q i ga seg gen A ts n0 j W) (hb:Below W.heap.size W W'):N7 w0 b1 q i ga seg gen A ts n0 j W':=by
 obtain ⟨X,B,s,xs,st,bl,rs,h1,h2,h3,h4,h5⟩:=h
 have hk:Kept X W W':=Kept.of_below hb h1.sto.lt
 exact ⟨_,B,s,xs,st,bl,rs,h1.grow hb,h2,h3.kept hk (fun b h=>.inl h),h4.kept hk (fun b h=>.inl h),h5⟩
theorem N7.next {i seg n0 j:Nat} {gen:Int} {A:Option Addr} {ts:List Tl} (h:N7 w0 b1 q i ga seg gen A ts n0 j W):N7 w0 b1 q i ga seg gen A ts n0 (j+1) W:=by
 obtain ⟨X,B,s,xs,st,bl,rs,h1,h2,h3⟩:=h
 exact ⟨X,B,s,xs,st,bl,rs,h1,⟨by omega,by omega,h2.2.2⟩,h3⟩
def MvF (w0:World) (b1 q ga n0:Nat) (W:World):Prop :=
 ∃ X B s xs st bl rs,qz w0 b1 q W X B s xs st bl rs∧(st.length=n0∧w0.heap.size≤ga)∧Yi W X ga (kF st s.f 0) 8
theorem MvF.grow {n0:Nat} (h:MvF w0 b1 q ga n0 W) (hb:Below W.heap.size W W'):MvF w0 b1 q ga n0 W':=by
 obtain ⟨X,B,s,xs,st,bl,rs,h1,h2,h3⟩:=h
 exact ⟨_,B,s,xs,st,bl,rs,h1.grow hb,h2,h3.kept (Kept.of_below hb h1.sto.lt) (fun b h=>.inl h)⟩
theorem zDB (a:Int):∃ seg:Nat,seg<4∧IntKind.u64.wrap a=a % 18446744073709551616∧(a % 18446744073709551616).tmod 4=(seg:Int)∧IntKind.i64.wrap (seg:Int)=(seg:Int):=by
 refine ⟨(a % 18446744073709551616 % 4).toNat,by omega,IntKind.wrap_u64 a,?_,?_⟩
 ·rw[Int.tmod_eq_emod_of_nonneg (by omega)]; omega
 ·rw[IntKind.wrap_i64]; omega
end
end
section
attribute [local go_sem] Oper.semAt_some
def Vj (us b:List Int):Bool:=vJ (bitsOf b) (jk (yV start us) b)
def ny (bl:List (List Int)) (us:List Int):Bool:=bl.any (Vj us)
theorem YS {bl:List (List Int)} {us:List Int} {j:Nat} (hj:j<bl.length) (h:Vj us (bl.getD j [])=true):ny bl us=true:=by
 unfold ny
 rw[List.any_eq_true]
 refine ⟨bl.getD j [],?_,h⟩
 simp[List.getD,hj]
theorem zCm {bl:List (List Int)} {us:List Int} (h:∀ t,t<bl.length→Vj us (bl.getD t [])=false):ny bl us=false:=by
 unfold ny
 rw[List.any_eq_false]
 intro x hx
 obtain ⟨t,ht,rfl⟩:=List.mem_iff_getElem.1 hx
 have:=h t ht
 simp only[List.getD,List.getElem?_eq_getElem ht,Option.getD_some] at this
 rw[this]; decide
section
variable {w w':World} {X Y:Nat→Prop} {B:xu} {slots:Nat} {s:Sup} {xs:List Seg} {st:List zm} {bl:List (List Int)} {u:Bool} {A:Option Addr} {m c:Nat} {us:List Int} {F:Nat} {fs:List (Nat × Nat)}
theorem EF {f h g5:Nat} {b:List Int} {hh:Int} (H:jG w f h b) (h0:0≤hh) (h5:z8 w g5 30 #[.int .u64 hh]) :
 Calls Tryz.prog 82 #[.pointer (some ⟨f,0,none⟩),.pointer (some ⟨g5,0,none⟩)] w fun e w'=>e=.returned (.bool (vJ (bitsOf b) (jk hh b)))∧Below w.heap.size w w':=by
 have HM:=hI (Ld w f h b hh H h0)
 have c5:w.cell? ⟨g5,0,none⟩=some (.int .u64 hh):=h5.cell 0
 clear H h5
 go_enter Tryz.func82,Tryz.ntmps82
 go_wp2_with fail
 refine HM.out.mono ?_
 rintro e w2 ⟨rfl,hb⟩
 have HB:=hI hb
 clear hb
 go_wp2_with fail
 go_ret
 exact ⟨rfl,HB.out⟩
theorem Rl {g5:Nat} (hF:ow w F fs bl) (hN:fs.length≤16) (h5:z8 w g5 30 #[.int .u64 (yV start us)]) (c:Nat) :
 Calls Tryz.prog 142 #[.slice (some ⟨F,0,none⟩) fs.length c,.func (.func 82) #[] #[.pointer (some ⟨g5,0,none⟩)]] w fun e w'=>(∃ r:Int,e=.returned (.int .i64 r)∧(decide (0≤r)=ny bl us))∧Below w.heap.size w w':=by
 have HF:=hI hF
 have H5:=hI h5
 have HN:=hI hN
 have hlen:=hF.len
 have lM:=hI hlen
 obtain ⟨cs,hc1,hc2⟩:=hF.row
 have sw:=hI hc1
 have HC2:=hI hc2
 have h0:=(Zt start us (by decide)).1
 have H0:=hI h0
 obtain ⟨n,hn⟩:∃ n,fs.length=n:=⟨_,rfl⟩
 rw[hn] at HN lM ⊢
 have Xw:=hI hn
 clear hF h5 hN hlen hc1 hc2 h0 hn
 go_enter Tryz.func142,Tryz.ntmps142
 go_wp2_with fail
 go_loopw [8] (fun i wr=>∃ j:Nat,i=.int .i64 j∧j≤n∧Below w.heap.size w wr∧∀ t,t<j→Vj us (bl.getD t [])=false) (fun i _=>n-(intOf i).toNat)
 case atStart=>exact ⟨0,rfl,Nat.zero_le _,Below.refl _ _,fun t ht=>absurd ht (by omega)⟩
 case round =>
  obtain ⟨j,rfl,hj,hB,hno⟩:=hrel
  have Z7:=hI hno
  have HB:=hI hB
  clear hno hB
  by_cases hjn:j<n
  ·obtain ⟨f,hf⟩:∃ f,fs[j]? = some f:=⟨_,List.getElem?_eq_getElem (by rw[Xw.out]; exact hjn)⟩
   have c0:wr.cell? ⟨F,j,none⟩=some (.pointer (some ⟨f.1,0,none⟩)):=by
    have h9:=(sw.out.below HB.out sw.out.lt).cell j
    rw[HC2.out j f hf] at h9
    exact h9
   have TF:=hI (EF ((HF.out.fil j f hf).belowAll HB.out) H0.out (H5.out.below HB.out H5.out.lt))
   clear hf
   obtain ⟨b,hb⟩:∃ b,Vj us (bl.getD j [])=b:=⟨_,rfl⟩
   have hb2:vJ (bitsOf (bl.getD j [])) (jk (yV start us) (bl.getD j []))=b:=hb
   rw[hb2] at TF
   have HV:=hI hb
   have HJ:=hI hjn
   clear hb hb2
   have h16:=HN.out
   cases b with
   | true =>
    go_wp2_with fail
    refine TF.out.mono ?_
    rintro e w2 ⟨rfl,hb2⟩
    go_wp2_with fail
    go_ret
    refine ⟨⟨j,rfl,?_⟩,HB.out.trans (hb2.mono HB.out.size)⟩
    rw[YS (j:=j) (by have:=lM.out; omega) HV.out]
    simp
   | false =>
    go_wp2_with fail
    refine TF.out.mono ?_
    rintro e w2 ⟨rfl,hb2⟩
    go_wp2_with fail
    go_roundw
    case rel =>
     refine ⟨j+1,by simp,by omega,HB.out.trans (hb2.mono HB.out.size),fun t ht=>?_⟩
     by_cases e:t=j
     ·rw[e,HV.out]
     ·exact Z7.out t (by omega)
    case measure=>show n-(Int.toNat ((j:Int)+1))<n-(Int.toNat (j:Int)); omega
  ·obtain rfl:j=n:=by omega
   go_wp2_with fail
   go_ret
   refine ⟨⟨-1,rfl,?_⟩,HB.out⟩
   rw[zCm (fun t ht=>Z7.out t (by have:=lM.out; omega))]
   decide
theorem BU {g5:Nat} (hF:ow w F fs bl) (hN:fs.length≤16) (h5:z8 w g5 30 #[.int .u64 (yV start us)]) (c:Nat) :
 Calls Tryz.prog 81 #[.slice (some ⟨F,0,none⟩) fs.length c,.func (.func 82) #[] #[.pointer (some ⟨g5,0,none⟩)]] w fun e w'=>e=.returned (.bool (ny bl us))∧Below w.heap.size w w':=by
 have HI:=hI (Rl hF hN h5 c)
 clear hF hN h5
 go_enter Tryz.func81,Tryz.ntmps81
 go_wp2_with fail
 refine HI.out.mono ?_
 rintro e w2 ⟨⟨r,rfl,hr⟩,hb⟩
 have HB:=hI hb
 clear hb
 cases hv:ny bl us with
 | true =>
  rw[hv] at hr
  have HV:=hI hv
  clear hv
  go_wp2_with fail
  go_ret
  exact ⟨bV HV.out.symm,HB.out⟩
 | false =>
  rw[hv] at hr
  have HV:=hI hv
  clear hv
  go_wp2_with fail
  go_ret
  exact ⟨bV HV.out.symm,HB.out⟩
theorem MR (h:zT w X B slots s xs st bl u) (hN:bl.length≤16) (hk:zW .u8 w (·<w.heap.size) A m us) (hb:Bytes us) (hm:m≤1000000) :
 Calls Tryz.prog 21 #[.pointer (some ⟨B.q,0,none⟩),.slice A m c] w fun e w'=>e=.returned (.bool (ny bl us))∧Below w.heap.size w w':=by
 have HM:=hI h
 have Xw:=hI hN
 have HH:=hI (Ye A m c us w.heap.size w hk.toRow hb (by omega))
 clear h hk hb hm hN
 go_enter Tryz.func21,Tryz.ntmps21
 go_wp2_with fail
 refine HH.out.mono ?_
 rintro e w1 ⟨rfl,rfl⟩
 obtain ⟨w2,hw2⟩:∃ w2,w2=w.alloc (.cells #[.int .u64 (yV start us)] 30):=⟨_,rfl⟩
 have hb2:Below w.heap.size w w2:=by rw[hw2]; exact (Below.refl _ _).alloc (nR _) _
 have H5:=hI (show z8 w2 w.heap.size 30 #[.int .u64 (yV start us)] by rw[hw2]; exact z8.new w _ _)
 have bJ:=hI (HM.out.below hb2)
 have HB2:=hI hb2
 have HW2:=hI hw2
 clear hb2 hw2 HH
 have aP:=uT Tryz.prog
 go_upto_region 4 with fail
 rw[← HW2.out]
 have q2:=bJ.out.cells.2.2.1
 have Cu:=hI (BU (us:=us) bJ.out.fm (by rw[bJ.out.fm.len]; exact Xw.out) H5.out B.c)
 go_wp2_with fail
 refine Cu.out.mono ?_
 rintro e w3 ⟨rfl,hb3⟩
 have HB3:=hI (HB2.out.trans (hb3.mono HB2.out.size))
 clear hb3 q2 Cu
 go_wp2_with fail
 go_ret
 exact ⟨rfl,HB3.out⟩
end
end
section
def pY (st:List zm) (bl:List (List Int)):Prop:=(∀ p,p∈st→ny bl (keyOf p.2)=true)∧∀ i,i<bl.length→(bl.getD i []).length=128
theorem Uo (b:List Int) (hh:Int) (h:1≤b.length):vJ (bitsOf (setBits b (jk hh b))) (jk hh (setBits b (jk hh b)))=true:=by
 have e:jk hh (setBits b (jk hh b))=jk hh b:=by unfold jk; rw[gX]
 rw[e,iX _ _ (aG hh b h)]
 unfold vJ
 rw[List.all_eq_true]
 intro p hpm
 have:=aG hh b h p hpm
 rw[Xa _ _ _ (by rw[pG]; omega),Bool.or_eq_true]
 right
 rw[List.any_eq_true]
 exact ⟨p,hpm,by simp⟩
theorem Uq (b:List Int) (hh g:Int) (h:1≤b.length) (ha:vJ (bitsOf b) (jk g b)=true):vJ (bitsOf (setBits b (jk hh b))) (jk g (setBits b (jk hh b)))=true:=by
 have e:jk g (setBits b (jk hh b))=jk g b:=by unfold jk; rw[gX]
 rw[e,iX _ _ (aG hh b h)]
 unfold vJ at *
 rw[List.all_eq_true] at *
 intro p hpm
 have:=aG g b h p hpm
 rw[Xa _ _ _ (by rw[pG]; omega),ha p hpm]
 rfl
theorem Yh {bl:List (List Int)} {i:Nat} (hi:i<bl.length) (us:List Int) (j:Nat):(rJ bl i us).getD j []=if j=i then setBits (bl.getD i []) (jk (yV start us) (bl.getD i [])) else bl.getD j []:=by
 unfold rJ
 simp only[List.getD,List.getElem?_set]
 by_cases e:i=j
 ·subst e; simp[hi]
 ·rw[if_neg e,if_neg (fun h:j=i=>e h.symm)]
theorem oI (bl:List (List Int)) (i:Nat) (us:List Int):(rJ bl i us).length=bl.length:=by unfold rJ; rw[List.length_set]
theorem zCn {bl:List (List Int)} {us:List Int} (h:ny bl us=true):∃ j,j<bl.length∧Vj us (bl.getD j [])=true:=by
 unfold ny at h
 rw[List.any_eq_true] at h
 obtain ⟨x,hx,h2⟩:=h
 obtain ⟨j,hj,rfl⟩:=List.mem_iff_getElem.1 hx
 exact ⟨j,hj,by simpa [List.getD,hj] using h2⟩
theorem pY.put {st st':List zm} {bl:List (List Int)} (h:pY st bl) {i:Nat} (hi:i<bl.length) {us:List Int} (hs:∀ p,p∈st'→p∈st∨keyOf p.2=us):pY st' (rJ bl i us):=by
 have hl:=h.2
 refine ⟨fun p hp=>?_,fun j hj=>?_⟩
 ·rcases hs p hp with h1 | h1
  ·obtain ⟨j,hj,hm⟩:=zCn (h.1 p h1)
   refine YS (j:=j) (by rw[oI]; exact hj) ?_
   rw[Yh hi]
   split
   ·rename_i e
    subst e
    exact Uq _ _ _ (by rw[hl j hj]; omega) hm
   ·exact hm
  ·rw[h1]
   refine YS (j:=i) (by rw[oI]; exact hi) ?_
   rw[Yh hi,if_pos rfl]
   exact Uo _ _ (by rw[hl i hi]; omega)
 ·rw[Yh hi]
  rw[oI] at hj
  split
  ·rw[gX]; exact hl i hi
  ·exact hl j hj
theorem pY.less {st st':List zm} {bl:List (List Int)} (h:pY st bl) (hs:∀ p,p∈st'→p∈st):pY st' bl:=⟨fun p hp=>h.1 p (hs p hp),h.2⟩
theorem pY.has {st:List zm} {bl:List (List Int)} (h:pY st bl) {us bs:List Int} (hh:(jC st us).map Prod.snd=some bs):ny bl us=true:=by
 cases e:jC st us with
 | none=>rw[e] at hh; cases hh
 | some p =>
  have h1:=h.1 p (rE e).1
  rw[(rE e).2] at h1
  exact h1
section
variable {w0:World} {b1 q:Nat} {W W':World} {X:Nat→Prop} {B:xu} {s:Sup} {xs:List Seg} {st:List zm} {bl:List (List Int)} {rs:Nat→List (Nat × List Int)} {A A2:Option Addr} {m c m2 c2:Nat} {us vs:List Int}
def KpT (w0:World) (b1 q:Nat) (W:World) (X:Nat→Prop) (B:xu) (s:Sup) (st:List zm) (R:Int→List zm→Prop) (e:Ending) (W':World):Prop :=
 ∃ er B' s' xs' st' yF rs',e=.returned (.int .i64 er)∧qz w0 b1 q W' X B' s' xs' st' yF rs'∧pY st' yF∧Kept X W W'∧B'.pe≤B.pe+17∧s'.g≤s.g+1∧s'.f=s.f∧R er st'
theorem qz.putK (h:qz w0 b1 q W X B s xs st bl rs) (hM:pY st bl) {f x q1:Int} {dy:Bool} (hk:zW .u8 W X A m us) (hv:zW .u8 W X A2 m2 vs) (hb:Bytes us) (hbv:Bytes vs) (hnc:A=none→c=0) (fC:A2=none→c2=0) (hr:oJ f x q1) (hpe:B.pe≤900000) (hgm:s.g+1≤18446744073709551615) :
 Calls Tryz.prog 19 #[.pointer (some ⟨q,0,none⟩),Zi A m c A2 m2 c2 f x q1 dy] W (KpT w0 b1 q W X B s st fun er st'=>(er=0∧May 1 f x q1 m m2∧∃ a,st'=qV st (keyOf (qI 1 f x q1 us vs))++[(a,qI 1 f x q1 us vs)])∨((er=6∨er=230)∧st'=st)):=by
 obtain rfl:B.q=q:=h.bq
 by_cases hm:May 1 f x q1 m m2
 ·refine (Jq (c:=c) (c2:=c2) (dy:=dy) h.sto hk hv hb hbv hnc fC hm hr hpe hgm).mono ?_
  rintro e w1 ⟨hkp,⟨_,rfl,k',hst,hh⟩ | ⟨_,_,rfl,k',hst,hh⟩ | ⟨_,i,s1,ys,t1,k1,hso,hs1,rfl,hst,gB⟩⟩
  ·exact ⟨6,_,s,xs,st,bl,rs,rfl,h.same hkp hst hh,hM,hkp,Nat.le_add_right _ _,by omega,rfl,.inr ⟨.inl rfl,rfl⟩⟩
  ·exact ⟨6,_,s,xs,st,bl,rs,rfl,h.same hkp hst hh,hM,hkp,Nat.le_add_right _ _,by omega,rfl,.inr ⟨.inl rfl,rfl⟩⟩
  ·obtain ⟨rs',h9⟩:=h.app hkp (ZU (by rw[hk.1,hv.1]; exact hm)) hso hs1 (KP h.nd) hst gB
   have hi:i<bl.length:=by
    obtain ⟨j,c9,e9,hj,_⟩:=(hst.inv.here _ (List.mem_append_right _ (List.mem_singleton.2 rfl))).here
    have e8:(i:Int)=(j:Int):=congrArg Prod.fst e9
    have e7:=hst.num
    rw[oI] at e7
    omega
   refine ⟨0,_,s1,_,_,_,rs',rfl,h9,hM.put hi (fun p hp=>?_),hkp,nR _,?_,?_,.inl ⟨rfl,hm,_,rfl⟩⟩
   ·rcases List.mem_append.1 hp with h1 | h1
    ·exact .inl (kJ.1 h1).1
    ·rw[List.mem_singleton.1 h1]; exact .inr rfl
   ·rcases hs1 with rfl | rfl
    ·omega
    ·exact Int.le_refl _
   ·rcases hs1 with rfl | rfl <;> rfl
 ·refine (Qw B.q A m c A2 m2 c2 f x q1 dy W hm).mono ?_
  rintro e w1 ⟨rfl,hb1⟩
  have hkp:=Kept.of_below (S:=X) hb1 h.sto.lt
  exact ⟨230,B,s,xs,st,bl,rs,rfl,(show qz w0 b1 B.q w1 X B s xs st bl rs from ⟨h.sto.below hb1,h.hist,h.zer,h.x0,h.b0,h.belK hkp,h.bq,h.sab,h.nd⟩),hM,hkp,Nat.le_add_right _ _,by omega,rfl,.inr ⟨.inr rfl,rfl⟩⟩
theorem qz.killK (h:qz w0 b1 q W X B s xs st bl rs) (hM:pY st bl) {q1:Int} (hk:zW .u8 W X A m us) (hb:Bytes us) (hr:0≤q1∧q1≤18446744073709551615) (hpe:B.pe≤900000) (hgm:s.g+1≤18446744073709551615) :
 Calls Tryz.prog 26 #[.pointer (some ⟨q,0,none⟩),.slice A m c,.int .u64 q1] W (KpT w0 b1 q W X B s st fun er st'=>(er=0∧st'=qV st us)∨(er≠0∧st'=st)):=by
 obtain rfl:B.q=q:=h.bq
 by_cases hm:May 2 0 0 q1 m 0
 ·refine (Zg (c:=c) h.sto hk hb hm ⟨by omega,by omega,by omega,by omega,hr.1,hr.2⟩ hpe hgm).mono ?_
  rintro e w1 ⟨hkp,⟨_,rfl,k',hst,hh⟩ | ⟨i,s1,ys,t1,k1,hso,hs1,rfl,hst,gB⟩⟩
  ·exact ⟨6,_,s,xs,st,bl,rs,rfl,h.same hkp hst hh,hM,hkp,Nat.le_add_right _ _,by omega,rfl,.inr ⟨by decide,rfl⟩⟩
  ·obtain ⟨rs',h9⟩:=h.app hkp (ZU (vs:=[]) (by rw[hk.1]; exact hm)) hso hs1 (D6 h.nd) hst gB
   refine ⟨0,_,s1,_,_,_,rs',rfl,h9,hM.less (fun p hp=>(kJ.1 hp).1),hkp,nR _,?_,?_,.inl ⟨rfl,rfl⟩⟩
   ·rcases hs1 with rfl | rfl
    ·omega
    ·exact Int.le_refl _
   ·rcases hs1 with rfl | rfl <;> rfl
 ·refine (Zh B.q A m c q1 W hm).mono ?_
  rintro e w1 ⟨rfl,hb1⟩
  have hkp:=Kept.of_below (S:=X) hb1 h.sto.lt
  exact ⟨160,B,s,xs,st,bl,rs,rfl,(show qz w0 b1 B.q w1 X B s xs st bl rs from ⟨h.sto.below hb1,h.hist,h.zer,h.x0,h.b0,h.belK hkp,h.bq,h.sab,h.nd⟩),hM,hkp,Nat.le_add_right _ _,by omega,rfl,.inr ⟨by decide,rfl⟩⟩
def FlK (w0:World) (b1 q:Nat) (W:World) (X:Nat→Prop) (B:xu) (s:Sup) (xs:List Seg) (st:List zm) (bl:List (List Int)) (q1:Int) (e:Ending) (W':World):Prop :=
 ∃ B' s' rs',e=.returned (.int .i64 0)∧qz w0 b1 q W' X B' s' xs st bl rs'∧Kept X W W'∧B'.pe≤B.pe+17∧s'.g≤s.g+1∧s'.f=max s.f q1
theorem qz.flushK (h:qz w0 b1 q W X B s xs st bl rs) (q1:Int) (hq:q1≤18446744073709551615) (hpe:B.pe≤900000) :
 Calls Tryz.prog 34 #[.pointer (some ⟨q,0,none⟩),.int .u64 q1] W (FlK w0 b1 q W X B s xs st bl q1):=by
 obtain rfl:B.q=q:=h.bq
 refine (JJ h.sto hpe q1 hq).mono ?_
 rintro e w1 ⟨rfl,hkp,⟨hle,hst⟩ | ⟨hlt,hst⟩⟩
 ·exact ⟨B,s,rs,rfl,(show qz w0 b1 B.q w1 X B s xs st bl rs from ⟨hst,h.hist,h.zer,h.x0,h.b0,h.belK hkp,h.bq,h.sab,h.nd⟩),hkp,Nat.le_add_right _ _,by omega,by omega⟩
 ·have hg:=h.sto.log.good
  refine ⟨{ B with t:=qy B.t,k:=Kk B.k s B.t q1,pe:=B.pe },JN s q1,rs,rfl,⟨hst,h.hist.known (s':=JN s q1) rfl (Int.le_refl _) (fun i j _=>Dp hg i j) h.sto.log.ok,fun i j h1 h2 h3=>?_,h.x0,h.b0,h.belK hkp,h.bq,h.sab,h.nd⟩,hkp,Nat.le_add_right _ _,by show s.g≤s.g+1; omega,by show q1=_; omega⟩
  have h3':(j:Int)<s.b:=h3
  exact (Dp hg i j).trans (h.zer i j h1 h2 h3')
theorem qz.syncK (h:qz w0 b1 q W X B s xs st bl rs) :
 Calls Tryz.prog 33 #[.pointer (some ⟨q,0,none⟩)] W fun e W'=>e=.returned (.int .i64 0)∧Kept X W W'∧qz w0 b1 q W' X { B with t:=B.t,k:=B.k.wr Dk.sync,pe:=B.pe } s xs st bl rs:=by
 obtain rfl:B.q=q:=h.bq
 have HD:=hI (vB h.sto)
 obtain ⟨c0,_,_,_⟩:=h.sto.cells
 have HS:=hI (M9 h.sto.log h.sto.ylt)
 have HM:=hI h
 clear h
 go_enter Tryz.func33,Tryz.ntmps33
 go_wp2_with fail
 refine HD.out.mono ?_
 rintro e w1 ⟨rfl,rfl⟩
 go_wp2_with fail
 refine HS.out.mono ?_
 rintro e w2 ⟨rfl,hl,hk⟩
 have hkx:Kept X w1 w2:=hk.mono (fun b hb=>.inl hb)
 have hh:=HM.out.sto.log.good.held_sync
 have HE:=hI (show Kept X w1 w2∧qz w0 b1 B.q w2 X { B with t:=B.t,k:=B.k.wr Dk.sync,pe:=B.pe } s xs st bl rs from ⟨hkx,HM.out.same hkx (HM.out.sto.logTo hk hl rfl (HM.out.sto.inv.held hh)) hh⟩)
 clear hl hk hkx hh
 go_wp2_with fail
 go_ret
 exact ⟨rfl,HE.out⟩
theorem qz.getK (h:qz w0 b1 q W X B s xs st bl rs) (hk:zW .u8 W X A m us) (hb:Bytes us) (hm:m≤1000000) (now:Int) :
 Calls Tryz.prog 23 #[.pointer (some ⟨q,0,none⟩),.slice A m c,.int .u32 now] W fun e w'=>∃ Y k',(∀ b,X b→Y b)∧qz w0 b1 q w' Y { B with t:=B.t,k:=k',pe:=B.pe } s xs st bl rs∧Kept X W w' ∧
  ((kF st s.f now us=none∧e=.returned (.tuple #[.agg qN,.int .i64 4])) ∨
   ∃ bs b1 b2,kF st s.f now us=some bs∧e=.returned (.tuple #[.agg (bZ bs b1 b2),.int .i64 0])∧Y b1∧Y b2∧zn w' b1 (keyOf bs)∧zn w' b2 (valOf bs)):=by
 obtain rfl:B.q=q:=h.bq
 refine (Bh (c:=c) h.sto hk hb hm now).mono ?_
 rintro e w' ⟨⟨k',hs,hh⟩,hkp,hc⟩
 rcases hc with ⟨h1,h2⟩ | ⟨bs,a1,a2,h1,h2,h3,h4,h5,h6,h7,k2,hl,PS⟩
 ·exact ⟨X,k',fun b hb=>hb,h.same hkp hs hh,hkp,.inl ⟨h1,h2⟩⟩
 ·have hst:zT w' (fun b=>X b∨b=a1∨b=a2) { B with t:=B.t,k:=k2,pe:=B.pe } 8 s xs st bl false :=
   ⟨hs.blk,hs.fm,hs.num,hs.ix,hl.less (fun b hb=>by
    rcases hb with (hb | hb) | hb
    ·exact .inl (.inl hb)
    ·exact .inr hb
    ·exact .inl (.inr hb)),h.sto.inv.held PS,fun b hb hx=>by
    have h8:=h.sto.own_lt hb
    rcases hx with hx | rfl | rfl
    ·exact h.sto.off b hb hx
    ·omega
    ·omega,fun b hb=>by
    rcases hb with hb | rfl | rfl
    ·exact hs.lt b hb
    ·exact z8.lt h6
    ·exact z8.lt h7⟩
  have h9:=h.same hkp hs hh
  exact ⟨_,k2,fun b hb=>.inl hb,⟨hst,h.hist.held PS,fun i j g1 g2 g3=>(show zh k2 s i j=zh B.k s i j from kZ PS _).trans (h.zer i j g1 g2 g3),fun b hb=>.inl (h.x0 b hb),h.b0,h9.bel,h.bq,h.sab,h.nd⟩,hkp,.inr ⟨bs,a1,a2,h1,h2,.inr (.inl rfl),.inr (.inr rfl),h6,h7⟩⟩
def MlK (w0:World) (b1 q:Nat) (W:World) (X:Nat→Prop) (B:xu) (s:Sup) (xs:List Seg) (st:List zm) (e:Ending) (w':World):Prop :=
 ∃ er B' s' xs' st' yF rs',e=.returned (.int .i64 er)∧qz w0 b1 q w' X B' s' xs' st' yF rs'∧pY st' yF∧Kept X W w'∧B'.pe≤B.pe+17∧s'.g≤s.g+1∧s'.f=s.f∧(∀ us,(jC st' us).map Prod.snd=(jC st us).map Prod.snd) ∧
  (∀ a bs',AtR B.k s xs a bs'→AtR B'.k s' xs' a bs')
theorem qz.moveK (h:qz w0 b1 q W X B s xs st bl rs) (hM:pY st bl) {sg g sc:Int} {bs:List Int} (hat:AtR B.k s xs (sg,g,sc) bs) (hk:zW .u8 W X A m (keyOf bs)) (hv:zW .u8 W X A2 m2 (valOf bs)) (hnc:A=none→c=0) (fC:A2=none→c2=0)
 (hl:vO st s.f sg g sc (kindOf bs) (zo bs) (keyOf bs)=true) (hpe:B.pe≤900000) (hgm:s.g+1≤18446744073709551615) :
 Calls Tryz.prog 37 #[.pointer (some ⟨q,0,none⟩),.agg #[.int .i64 sg,.int .u64 g,.int .i64 sc,.int .i64 (kindOf bs),.int .u32 (flagsOf bs),.int .u32 (qA bs),.int .u64 (zo bs),.slice A m c,.slice A2 m2 c2]] W (MlK w0 b1 q W X B s xs st):=by
 obtain rfl:B.q=q:=h.bq
 obtain ⟨h1,h2,p,hp,hpa⟩:=KQ hl
 have hlen:=h.len
 have hpb:p.2=bs:=AtR.same (hpa▸h.sto.inv.here p hp) hat h.sto.log.ok (fun i hi hu=>h.sto.log.gen14 hi (fun e=>hu (rz h.sto.log.ok hi e)))
 obtain ⟨pa,pb⟩:=p
 dsimp only at hpa hpb
 subst hpa hpb
 have yw:=hat.rok
 have hkl:=hk.1
 have hvl:=hv.1
 have hrec:qI 1 (flagsOf pb) (qA pb) (zo pb) (keyOf pb) (valOf pb)=pb:=by
  have h3:=GU yw.byt (Nat.le_of_eq yw.need)
  rw[yw.need,List.take_length,h1] at h3
  exact h3
 have hbk:Bytes (keyOf pb)∧Bytes (valOf pb):=⟨by unfold keyOf; exact jW yw.byt 21 _,by unfold valOf; exact jW yw.byt _ _⟩
 have hmay:May 1 (flagsOf pb) (qA pb) (zo pb) m m2:=by
  have h3:=yw.may
  unfold vK at h3
  have hl8:=yw.len
  have h4:zH pb=m:=by rw[← (YJ yw).1]; exact hkl
  have h5:zO pb=m2:=by rw[← (YJ yw).2.1]; exact hvl
  rw[h1,h4,h5] at h3
  exact h3
 rw[h1]
 refine (D7 (p:=((sg,g,sc),pb)) (c:=c) (c2:=c2) h.sto hp hrec hk hv hbk.1 hbk.2 hnc fC hmay (Tt yw.byt) h2 hpe hgm).mono ?_
 rintro e w1 ⟨hkp,⟨_,rfl,k',hst,hh⟩ | ⟨i,s1,ys,t1,k1,hso,hs1,rfl,hst,gB,hfr⟩⟩
 ·exact ⟨6,_,s,xs,st,bl,rs,rfl,h.same hkp hst hh,hM,hkp,Nat.le_add_right _ _,by omega,rfl,fun _=>rfl,fun a bs' ha=>ha.held hh⟩
 ·obtain ⟨rs',h9⟩:=h.app (bs:=pb) hkp (by have h9:22≤pb.length∧pb.length≤783:=yw.len; unfold zD; omega) hso hs1 (KP h.nd) hst gB
  have hi:i<bl.length:=by
   obtain ⟨j,c9,e9,hj,_⟩:=(hst.inv.here _ (List.mem_append_right _ (List.mem_singleton.2 rfl))).here
   have e8:(i:Int)=(j:Int):=congrArg Prod.fst e9
   have e7:=hst.num
   rw[oI] at e7
   omega
  refine ⟨0,_,s1,_,_,_,rs',rfl,h9,hM.put hi (fun p hp=>?_),hkp,nR _,?_,?_,LZ h.sto.inv hp,gB.ats⟩
  ·rcases List.mem_append.1 hp with h1 | h1
   ·exact .inl (kJ.1 h1).1
   ·rw[List.mem_singleton.1 h1]; exact .inr rfl
  ·rcases hs1 with rfl | rfl
   ·omega
   ·exact Int.le_refl _
  ·rcases hs1 with rfl | rfl <;> rfl
end
end
section
open Go.RowKit Go.Maps Go.WideShapes Go.ChangeMaps Go.MapKept
noncomputable abbrev RH:Value→Option (DataW Value × List MemPlace):=fun v=>some (.held v,[])
section
variable {α:Type} {kf:α→Lit} {vf:α→Value}
structure mJ (kf:α→Lit) (vf:α→Value) (D:DataW Value) (es:List α):Prop where
 tidy:Go.Maps.Tidy D
 has:∀ k,has D k=true↔∃ e,e∈es∧kf e=k
 at_:∀ e,e∈es→∀ z,D.atKey (kf e) z=.held (vf e)
 nd:(es.map kf).Nodup
 size:size D=es.length
 key:∀ e,e∈es→WideAt.IsKeyLit (kf e)
theorem mJ.start (kf:α→Lit) (vf:α→Value):mJ kf vf (.map []) [] :=
 ⟨tidy_empty,fun k=>by simp[Maps.has],(fun e he=>by cases he),List.nodup_nil,rfl,(fun e he=>by cases he)⟩
theorem mJ.hasNo {D:DataW Value} {es:List α} (h:mJ kf vf D es) {k:Lit} (hk:∀ e,e∈es→kf e≠k):Maps.has D k=false:=by
 cases hh:Maps.has D k
 ·rfl
 ·obtain ⟨e,he,e2⟩:=(h.has k).1 hh
  exact absurd e2 (hk e he)
theorem mJ.hasYes {D:DataW Value} {es:List α} (h:mJ kf vf D es) {e:α} (he:e∈es):Maps.has D (kf e)=true:=(h.has _).2 ⟨e,he,rfl⟩
theorem mJ.put {D:DataW Value} {es:List α} (h:mJ kf vf D es) (e:α) (hk:WideAt.IsKeyLit (kf e)) (hno:∀ x,x∈es→kf x≠kf e):mJ kf vf (D.put (kf e) (.held (vf e))) (e::es):=by
 refine ⟨h.tidy.put hk _,fun k=>?_,fun x hx z=>?_,?_,?_,fun x hx=>?_⟩
 ·by_cases e1:k=kf e
  ·subst e1
   rw[has_put_same h.tidy.isMap hk]
   simp
  ·rw[has_put_other e1,h.has]
   constructor
   ·rintro ⟨x,h1,h2⟩
    exact ⟨x,List.mem_cons_of_mem _ h1,h2⟩
   ·rintro ⟨x,h1,h2⟩
    rcases List.mem_cons.1 h1 with rfl | h1
    ·exact absurd h2.symm e1
    ·exact ⟨x,h1,h2⟩
 ·rcases List.mem_cons.1 hx with rfl | hx
  ·exact atKey_put_same h.tidy.isMap hk _ _
  ·rw[atKey_put_other (hno x hx)]
   exact h.at_ x hx z
 ·rw[List.map_cons,List.nodup_cons]
  refine ⟨fun hm=>?_,h.nd⟩
  obtain ⟨x,hx,ex⟩:=List.mem_map.1 hm
  exact hno x hx ex
 ·rw[size_put h.tidy,h.hasNo hno,h.size]
  rfl
 ·rcases List.mem_cons.1 hx with rfl | hx
  ·exact hk
  ·exact h.key x hx
theorem Wy {β:Type} {f:α→β}:∀ {l:List α},(l.map f).Nodup→∀ {x y:α},x∈l→y∈l→f x=f y→x=y
 | [],_,_,_,h,_,_=>by cases h
 | z :: l, hn, x, y, hx, hy, he => by
  rw[List.map_cons,List.nodup_cons] at hn
  rcases List.mem_cons.1 hx with rfl | hx'
  ·rcases List.mem_cons.1 hy with rfl | hy'
   ·rfl
   ·exact absurd (List.mem_map.2 ⟨y,hy',he.symm⟩) hn.1
  ·rcases List.mem_cons.1 hy with rfl | hy'
   ·exact absurd (List.mem_map.2 ⟨x,hx',he⟩) hn.1
   ·exact Wy hn.2 hx' hy' he
theorem mJ.again {D:DataW Value} {es:List α} (h:mJ kf vf D es) {e:α} (he:e∈es) (v:Value) (g:α→α) (hg:∀ x,kf (g x)=kf x) (h1:vf (g e)=v) (h2:∀ x,x∈es→kf x≠kf e→vf (g x)=vf x):mJ kf vf (D.put (kf e) (.held v)) (es.map g):=by
 have hk:=h.key e he
 have hinj:∀ x,x∈es→kf x=kf e→x=e:=fun x hx hxe=>Wy h.nd hx he hxe
 refine ⟨h.tidy.put hk _,fun k=>?_,fun x hx z=>?_,?_,?_,fun x hx=>?_⟩
 ·by_cases e1:k=kf e
  ·subst e1
   rw[has_put_same h.tidy.isMap hk]
   exact ⟨fun _=>⟨g e,List.mem_map.2 ⟨e,he,rfl⟩,hg e⟩,fun _=>rfl⟩
  ·rw[has_put_other e1,h.has]
   constructor
   ·rintro ⟨x,h1,h2⟩
    exact ⟨g x,List.mem_map.2 ⟨x,h1,rfl⟩,(hg x).trans h2⟩
   ·rintro ⟨x,h1,h2⟩
    obtain ⟨y,hy,rfl⟩:=List.mem_map.1 h1
    exact ⟨y,hy,(hg y).symm.trans h2⟩
 ·obtain ⟨y,hy,rfl⟩:=List.mem_map.1 hx
  rw[hg]
  by_cases e1:kf y=kf e
  ·obtain rfl:=hinj y hy e1
   rw[atKey_put_same h.tidy.isMap hk,h1]
  ·rw[atKey_put_other e1,h2 y hy e1]
   exact h.at_ y hy z
 ·rw[List.map_map,show kf ∘ g=kf from funext hg]
  exact h.nd
 ·rw[size_put h.tidy,h.hasYes he,h.size,List.length_map]
  rfl
 ·obtain ⟨y,hy,rfl⟩:=List.mem_map.1 hx
  rw[hg]
  exact h.key y hy
theorem QK {β:Type} (f:α→β) (p:α→Bool) (e:α):∀ {l:List α},(l.map f).Nodup→e∈l→(∀ x,x∈l→(p x=true↔f x≠f e))→(l.filter p).length+1=l.length
 | [],_,h,_=>by cases h
 | y :: l, hn, he, hp => by
  rw[List.map_cons,List.nodup_cons] at hn
  by_cases e1:f y=f e
  ·have hy:p y=false:=by
    cases h:p y
    ·rfl
    ·exact absurd e1 ((hp y (by simp)).1 h)
   rw[List.filter_cons,hy]
   have hall:∀ x∈l,p x=true:=fun x hx=>(hp x (by simp[hx])).2 (fun h=>hn.1 (by rw[e1,← h]; exact List.mem_map.2 ⟨x,hx,rfl⟩))
   rw[List.filter_eq_self.2 hall]
   simp
  ·have hy:p y=true:=(hp y (by simp)).2 e1
   rw[List.filter_cons,if_pos hy]
   have he':e∈l:=by
    rcases List.mem_cons.1 he with rfl | h
    ·exact absurd rfl e1
    ·exact h
   have:=QK f p e hn.2 he' (fun x hx=>hp x (by simp[hx]))
   simp only[List.length_cons]
   omega
theorem mJ.del {D:DataW Value} {es:List α} (h:mJ kf vf D es) {e:α} (he:e∈es) (p:α→Bool) (hp:∀ x,x∈es→(p x=true↔kf x≠kf e)):mJ kf vf (D.del (kf e)) (es.filter p):=by
 refine ⟨h.tidy.del _,fun k=>?_,fun x hx z=>?_,h.nd.sublist (List.filter_sublist.map kf),?_,fun x hx=>h.key x ((List.mem_filter.1 hx).1)⟩
 ·by_cases e1:k=kf e
  ·subst e1
   rw[has_del_same]
   constructor
   ·intro h; cases h
   ·rintro ⟨x,h1,h2⟩
    obtain ⟨h3,h4⟩:=List.mem_filter.1 h1
    exact absurd h2 ((hp x h3).1 h4)
  ·rw[has_del_other e1,h.has]
   constructor
   ·rintro ⟨x,h1,h2⟩
    exact ⟨x,List.mem_filter.2 ⟨h1,(hp x h1).2 (fun h=>e1 (h2.symm.trans h))⟩,h2⟩
   ·rintro ⟨x,h1,h2⟩
    exact ⟨x,(List.mem_filter.1 h1).1,h2⟩
 ·obtain ⟨h3,h4⟩:=List.mem_filter.1 hx
  rw[atKey_del_other ((hp x h3).1 h4)]
  exact h.at_ x h3 z
 ·have h1:=size_del (k:=kf e) h.tidy
  have h2:=QK kf p e h.nd he hp
  rw[h.hasYes he,h.size] at h1
  simp only[if_true] at h1
  omega
def jo (P:Program) (K:TypeId) (kf:α→Lit) (vf:α→Value) (w:World) (b:Nat) (es:List α):Prop:=∃ D:DataW Value,w.ownsMap P K RH b es.length D∧mJ kf vf D es
section
variable {P:Program} {K:TypeId} {w w':World} {b:Nat} {es:List α}
theorem aD {D:DataW Value} {n:Nat} (h:w.ownsMap P K RH b n D) {m:Nat} (hm:size D=m):w.ownsMap P K RH b m D:=by
 obtain ⟨xs,clock,hb,F,hs,rfl⟩:=h
 refine ⟨xs,clock,hb,F,?_,rfl⟩
 simp only[Maps.size,length_sorted,List.length_map,Array.length_toList] at hm
 omega
theorem jo.lt (h:jo P K kf vf w b es):b<w.heap.size:=by obtain ⟨D,h1,h2⟩:=h; exact h1.lt
theorem jo.stay (h:jo P K kf vf w b es) (hb:w'.heap[b]? = w.heap[b]?):jo P K kf vf w' b es:=by
 obtain ⟨D,⟨xs,clock,h1,h2⟩,h3⟩:=h
 exact ⟨D,⟨xs,clock,hb.trans h1,h2⟩,h3⟩
theorem jo.kept {S:Nat→Prop} (h:jo P K kf vf w b es) (hk:Kept S w w') (hS:S b):jo P K kf vf w' b es:=h.stay (hk.block b hS)
theorem jo.below {B:Nat} (h:jo P K kf vf w b es) (hk:Below B w w') (hS:b<B):jo P K kf vf w' b es:=h.stay (hk.block b hS)
theorem jo.ne {g:Nat} {t:TypeId} {cs:Array Value} (h:jo P K kf vf w b es) (hb:z8 w g t cs):g≠b:=by
 rintro rfl
 obtain ⟨D,⟨xs,clock,hm,_⟩,_⟩:=h
 rw[show w.heap[g]? = _ from hb] at hm
 cases hm
theorem jo.noCell (h:jo P K kf vf w b es) {p:Addr} {v:Value} (hp:w.cell? p=some v):p.block≠b:=by
 obtain ⟨D,⟨xs,clock,hm,_⟩,_⟩:=h
 intro e
 subst e
 simp[World.cell?,hm] at hp
theorem jo.made (w:World):jo P K kf vf (w.alloc (.map #[] 0)) w.heap.size []:=⟨_,World.ownsMap_made _ _ _ _,mJ.start kf vf⟩
theorem Xc (h:w.mapTurned w' b):Kept (fun k=>k<w.heap.size∧k≠b) w w' :=
 ⟨h.grown.os,h.grown.tape,h.grown.output,h.grown.size,fun k hk=>h.grown.block k hk.1 (by simp; exact hk.2)⟩
variable {t e:TypeId} (KK:Keyed P K) (ht:P.underlying t=some (.map K e))
include KK ht
theorem jo.look {z:Value} (h:jo P K kf vf w b es) (hz:(zeroValue e).run P w=.ok z w) {x:α} (hx:x∈es) {key:Value} (hkey:Go.keyOf P K key=some (kf x)) :
 (Instr.lookup t (.map (some b)) key true).run P w=.ok (.tuple #[vf x,.bool true]) w∧(Instr.lookup t (.map (some b)) key false).run P w=.ok (vf x) w:=by
 obtain ⟨D,h1,h2⟩:=h
 obtain ⟨v,ps,hrun,hv⟩:=h1.look_ok KK ht hz (zd:=.held z) (zp:=[]) rfl hkey
 obtain ⟨v',ps',hrun',hv'⟩:=h1.lookup KK ht hz (zd:=.held z) (zp:=[]) rfl hkey
 rw[h2.at_ x hx] at hv hv'
 injection hv with hv
 injection hv with hv _
 injection hv with hv
 injection hv' with hv'
 injection hv' with hv' _
 injection hv' with hv'
 rw[h2.hasYes hx] at hrun
 subst hv hv'
 exact ⟨hrun,hrun'⟩
theorem jo.lookNo {z:Value} (h:jo P K kf vf w b es) (hz:(zeroValue e).run P w=.ok z w) {k:Lit} (hx:∀ x,x∈es→kf x≠k) {key:Value} (hkey:Go.keyOf P K key=some k) :
 (Instr.lookup t (.map (some b)) key true).run P w=.ok (.tuple #[z,.bool false]) w∧(Instr.lookup t (.map (some b)) key false).run P w=.ok z w:=by
 obtain ⟨D,h1,h2⟩:=h
 obtain ⟨v,ps,hrun,hv⟩:=h1.look_ok KK ht hz (zd:=.held z) (zp:=[]) rfl hkey
 obtain ⟨v',ps',hrun',hv'⟩:=h1.lookup KK ht hz (zd:=.held z) (zp:=[]) rfl hkey
 rw[atKey_of_not_has (h2.hasNo hx)] at hv hv'
 injection hv with hv
 injection hv with hv _
 injection hv with hv
 injection hv' with hv'
 injection hv' with hv' _
 injection hv' with hv'
 rw[h2.hasNo hx] at hrun
 subst hv hv'
 exact ⟨hrun,hrun'⟩
theorem jo.drop (h:jo P K kf vf w b es) {x:α} (hx:x∈es) {key:Value} (hkey:Go.keyOf P K key=some (kf x)) (p:α→Bool) (hp:∀ y,y∈es→(p y=true↔kf y≠kf x)) (ty:TypeId) :
 ∃ w',(Builtin.delete_ #[t,K] ty #[.map (some b),key]).run P w=.ok (.tuple #[]) w'∧jo P K kf vf w' b (es.filter p)∧w.mapTurned w' b:=by
 obtain ⟨D,h1,h2⟩:=h
 obtain ⟨w',hrun,r1,r2⟩:=h1.drop KK ht hkey ty
 have h3:=h2.del hx p hp
 exact ⟨w',hrun,⟨_,aD r1 h3.size,h3⟩,r2⟩
theorem jo.store (h:jo P K kf vf w b es) (hn:es.length<140737488351232) (x:α) (hk:WideAt.IsKeyLit (kf x)) (hno:∀ y,y∈es→kf y≠kf x) {key:Value} (hkey:Go.keyOf P K key=some (kf x)) :
 ∃ w',(Instr.mapUpdate t (.map (some b)) key (vf x)).run P w=.ok () w'∧jo P K kf vf w' b (x::es)∧w.mapTurned w' b:=by
 obtain ⟨D,h1,h2⟩:=h
 obtain ⟨w',hrun,r1,r2⟩:=h1.store KK ht (by unfold maxLen; omega) hkey (val:=vf x) (d:=.held (vf x)) (ps:=[]) rfl
 have h3:=h2.put x hk hno
 exact ⟨w',hrun,⟨_,aD r1 h3.size,h3⟩,r2⟩
theorem jo.again (h:jo P K kf vf w b es) (hn:es.length<140737488351232) {x:α} (hx:x∈es) (v:Value) (g:α→α) (hg:∀ y,kf (g y)=kf y) (h1:vf (g x)=v) (h2:∀ y,y∈es→kf y≠kf x→vf (g y)=vf y) {key:Value} (hkey:Go.keyOf P K key=some (kf x)) :
 ∃ w',(Instr.mapUpdate t (.map (some b)) key v).run P w=.ok () w'∧jo P K kf vf w' b (es.map g)∧w.mapTurned w' b:=by
 obtain ⟨D,ho,ha⟩:=h
 obtain ⟨w',hrun,r1,r2⟩:=ho.store KK ht (by unfold maxLen; omega) hkey (val:=v) (d:=.held v) (ps:=[]) rfl
 have h3:=ha.again hx v g hg h1 h2
 exact ⟨w',hrun,⟨_,aD r1 h3.size,h3⟩,r2⟩
omit KK in
theorem jo.len (h:jo P K kf vf w b es) (ty:TypeId):(Builtin.len_ #[t] ty #[.map (some b)]).run P w=.ok (.int .i64 es.length) w:=by
 obtain ⟨D,h1,h2⟩:=h
 rw[h1.len ht ty,h2.size]
end
end
end
end Go.Proofs.YtdkbpchmnhbhcaaGreat
