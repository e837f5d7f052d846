/- Texts of StoreMoves, packed. -/
import Derived.Test.YtdkbpchmnhbhcaaGreatPackStoreMoves14
import Derived.Great.BuildSlice
import Derived.Laws.CopyRow
import Derived.Laws.CopyOwn
import Derived.OwnWalk
import Derived.Lib.Hide
import Derived.Deep.MidRow
import Derived.Deep.Grids
import Derived.SizedLaws
import Derived.ChangeArms
import Derived.Lib.SlBytesConst
set_option linter.unusedVariables false
set_option linter.unusedSimpArgs false
set_option maxRecDepth 100000
set_option maxHeartbeats 16000000
namespace Go.Proofs.YtdkbpchmnhbhcaaGreat
open Go.RowKit
section
attribute [local go_sem] Oper.semAt_some
theorem put_bad14 (q:Nat) (A:Option Addr) (m c:Nat) (A2:Option Addr) (n2 c2:Nat) (f0 x0 q0:Int) (dy:Bool) (w:World) (hno:¬ May 1 f0 x0 q0 m n2):Calls Tryz.prog 19 #[.pointer (some ⟨q,0,none⟩),itmV A m c A2 n2 c2 f0 x0 q0 dy] w fun e w'=>e=.returned (.int .i64 230)∧Below w.heap.size w w':=by
 obtain ⟨w1,hw1⟩:∃ w1,w1=((w.alloc (.cells #[.pointer (some ⟨q,0,none⟩)] 56)).alloc (.cells #[.slice A m c,.slice A2 n2 c2,.int .u32 f0,.int .u32 x0,.int .u64 q0,.bool dy] 53)).alloc (.cells #[.int .i64 0] 36):=⟨_,rfl⟩
 have hb1:Below w.heap.size w w1:=by rw[hw1]; exact (((Below.refl _ w).alloc (nR _) _).alloc (by simp) _).alloc (by simp; omega) _
 have HS1:=hI (show Blk w1 w.heap.size 56 #[.pointer (some ⟨q,0,none⟩)] by rw[hw1]; exact ((Blk.new w _ _).alloc _).alloc _)
 have HI1:=hI (show Blk w1 (w.heap.size+1) 53 #[.slice A m c,.slice A2 n2 c2,.int .u32 f0,.int .u32 x0,.int .u64 q0,.bool dy] by rw[hw1]; exact (blk_new2 w _ _ _).alloc _)
 have HE1:=hI (show Blk w1 (w.heap.size+1+1) 36 #[.int .i64 0] by rw[hw1]; exact blk_new3 w _ _ _ _)
 have HB1:=hI hb1
 have HW1:=hI hw1
 clear hb1 hw1
 go_enter_defers Tryz.func19,Tryz.ntmps19
 go_upto_region 1 with fail
 rw[← HW1.out]
 have i0:w1.cell? ⟨w.heap.size+1,0,none⟩=some (.slice A m c):=HI1.out.cell 0
 have i1:w1.cell? ⟨w.heap.size+1,1,none⟩=some (.slice A2 n2 c2):=HI1.out.cell 1
 have i2:w1.cell? ⟨w.heap.size+1,2,none⟩=some (.int .u32 f0):=HI1.out.cell 2
 have i3:w1.cell? ⟨w.heap.size+1,3,none⟩=some (.int .u32 x0):=HI1.out.cell 3
 have i4:w1.cell? ⟨w.heap.size+1,4,none⟩=some (.int .u64 q0):=HI1.out.cell 4
 have i5:w1.cell? ⟨w.heap.size+1,5,none⟩=some (.bool dy):=HI1.out.cell 5
 go_wp2_with fail
 refine (recordOf_ok A m c A2 n2 c2 f0 x0 q0 dy w1).mono ?_
 rintro e w2 ⟨rfl,hb2⟩
 clear i0 i1 i2 i3 i4 i5
 obtain ⟨w3,hw3⟩:∃ w3,w3=w2.alloc (.cells #[.int .i64 1,.int .u32 f0,.int .u32 x0,.int .u64 q0,.slice A m c,.slice A2 n2 c2] 33):=⟨_,rfl⟩
 have hb3:Below w1.heap.size w1 w3:=by rw[hw3]; exact hb2.alloc hb2.size _
 have HS3:=hI (HS1.out.below hb3 HS1.out.lt)
 have HE3:=hI (HE1.out.below hb3 HE1.out.lt)
 have HB3:=hI (HB1.out.trans (hb3.mono HB1.out.size))
 have HW3:=hI hw3
 have HR3:=hI (show Blk w3 w2.heap.size 33 #[.int .i64 1,.int .u32 f0,.int .u32 x0,.int .u64 q0,.slice A m c,.slice A2 n2 c2] by rw[hw3]; exact Blk.new w2 _ _)
 clear hb2 hb3 hw3
 have s0:w3.cell? ⟨w.heap.size,0,none⟩=some (.pointer (some ⟨q,0,none⟩)):=HS3.out.cell 0
 have r0:w3.cell? ⟨w2.heap.size,0,none⟩=some (.int .i64 1):=HR3.out.cell 0
 have r1:w3.cell? ⟨w2.heap.size,1,none⟩=some (.int .u32 f0):=HR3.out.cell 1
 have r2:w3.cell? ⟨w2.heap.size,2,none⟩=some (.int .u32 x0):=HR3.out.cell 2
 have r3:w3.cell? ⟨w2.heap.size,3,none⟩=some (.int .u64 q0):=HR3.out.cell 3
 have r4:w3.cell? ⟨w2.heap.size,4,none⟩=some (.slice A m c):=HR3.out.cell 4
 have r5:w3.cell? ⟨w2.heap.size,5,none⟩=some (.slice A2 n2 c2):=HR3.out.cell 5
 have HCK:=hI (check_no 1 f0 x0 q0 A A2 m c n2 c2 w3 hno)
 clear hno
 go_upto_region 2 with fail
 rw[← HW3.out]
 go_wp2_with fail
 refine HCK.out.mono ?_
 rintro e w4 ⟨rfl,hb4⟩
 have HE4:=hI (HE3.out.below hb4 HE3.out.lt)
 have HB4:=hI (HB3.out.trans (hb4.mono HB3.out.size))
 have e0:w4.cell? ⟨w.heap.size+1+1,0,none⟩=some (.int .i64 0):=HE4.out.cell 0
 have e9:=HE4.out.frozen 0
 clear hb4
 go_wp2_with fail
 have c6:(w4.setCell ⟨w.heap.size+1+1,0,none⟩ (.int .i64 230)).cell? ⟨w.heap.size+1+1,0,none⟩=some (.int .i64 230):=(HE4.out.set_ 0 (.int .i64 230)).cell 0
 refine ⟨.int .i64 230,?_,rfl,HB4.out.setCell (p:=⟨w.heap.size+1+1,0,none⟩) (by show w.heap.size≤w.heap.size+1+1; omega) _⟩
 simp[results,Tryz.f19,go_sem,c6]
theorem kill_bad14 (g:Nat) (A:Option Addr) (n c:Nat) (q:Int) (w:World) (hno:¬ May 2 0 0 q n 0):Calls Tryz.prog 26 #[.pointer (some ⟨g,0,none⟩),.slice A n c,.int .u64 q] w fun e w'=>e=.returned (.int .i64 160)∧Below w.heap.size w w':=by
 obtain ⟨w1,hw1⟩:∃ w1,w1=((w.alloc (.cells #[.pointer (some ⟨g,0,none⟩)] 56)).alloc (.cells #[.slice A n c] 31)).alloc (.cells #[.int .i64 0] 36):=⟨_,rfl⟩
 have hb1:Below w.heap.size w w1:=by rw[hw1]; exact (((Below.refl _ w).alloc (nR _) _).alloc (by simp) _).alloc (by simp; omega) _
 have HS1:=hI (show Blk w1 w.heap.size 56 #[.pointer (some ⟨g,0,none⟩)] by rw[hw1]; exact ((Blk.new w _ _).alloc _).alloc _)
 have HE1:=hI (show Blk w1 (w.heap.size+1+1) 36 #[.int .i64 0] by rw[hw1]; exact blk_new3 w _ _ _ _)
 have HI1:=hI (show Blk w1 (w.heap.size+1) 31 #[.slice A n c] by rw[hw1]; exact (blk_new2 w _ _ _).alloc _)
 have HTB:=hI (tomb_no A n c q w1 hno)
 have HB1:=hI hb1
 have HW1:=hI hw1
 clear hb1 hw1 hno
 go_enter_defers Tryz.func26,Tryz.ntmps26
 go_upto_region 1 with fail
 rw[← HW1.out]
 have s1:w1.cell? ⟨w.heap.size,0,none⟩=some (.pointer (some ⟨g,0,none⟩)):=HS1.out.cell 0
 have i1:w1.cell? ⟨w.heap.size+1,0,none⟩=some (.slice A n c):=HI1.out.cell 0
 go_wp2_with fail
 refine HTB.out.mono ?_
 rintro e w2 ⟨rfl,hb2⟩
 have HE2:=hI (HE1.out.below hb2 HE1.out.lt)
 have HB2:=hI (HB1.out.trans (hb2.mono HB1.out.size))
 clear s1 i1 hb2 HTB
 obtain ⟨w3,hw3⟩:∃ w3,w3=w2.alloc (.cells #[.int .i64 0,.int .u32 0,.int .u32 0,.int .u64 0,.slice none 0 0,.slice none 0 0] 33):=⟨_,rfl⟩
 have hb3:Below w2.heap.size w2 w3:=by rw[hw3]; exact (Below.refl _ _).alloc (nR _) _
 have HE3:=hI (HE2.out.below hb3 HE2.out.lt)
 have HB3:=hI (HB2.out.trans (hb3.mono HB2.out.size))
 have e0:w3.cell? ⟨w.heap.size+1+1,0,none⟩=some (.int .i64 0):=HE3.out.cell 0
 have e9:=HE3.out.frozen 0
 rw[hw3] at e0 e9
 have HW3:=hI hw3
 clear hb3 hw3 HE2
 go_upto_region 4 with fail
 rw[← HW3.out]
 obtain ⟨w4,hw4⟩:∃ w4,w4=w3.setCell ⟨w.heap.size+1+1,0,none⟩ (.int .i64 160):=⟨_,rfl⟩
 have HE4:=hI (show Blk w4 (w.heap.size+1+1) 36 #[.int .i64 160] by rw[hw4]; exact HE3.out.set_ 0 (.int .i64 160))
 have HB4:=hI (show Below w.heap.size w w4 by rw[hw4]; exact HB3.out.setCell (p:=⟨w.heap.size+1+1,0,none⟩) (by show w.heap.size≤w.heap.size+1+1; omega) _)
 clear e0 e9
 have HW4:=hI hw4
 clear hw4
 rw[← HW4.out]
 have e0:w4.cell? ⟨w.heap.size+1+1,0,none⟩=some (.int .i64 160):=HE4.out.cell 0
 have e9:=HE4.out.frozen 0
 go_wp2_with fail
 have c6:(w4.setCell ⟨w.heap.size+1+1,0,none⟩ (.int .i64 160)).cell? ⟨w.heap.size+1+1,0,none⟩=some (.int .i64 160):=(HE4.out.set_ 0 (.int .i64 160)).cell 0
 refine ⟨.int .i64 160,?_,rfl,HB4.out.setCell (p:=⟨w.heap.size+1+1,0,none⟩) (by show w.heap.size≤w.heap.size+1+1; omega) _⟩
 simp[results,Tryz.f26,go_sem,c6]
end
section
def moreR (sec:Int) (xs zs:List Seg):Prop:=freesR zs<freesR xs∨(freesR xs=freesR zs∧leftR sec zs≤leftR sec xs)
end
section
attribute [local go_sem] Oper.semAt_some
def zeroIx (n:Int):List Value:=[.int .i64 n,.int .i64 0]++(List.replicate 1025 (.int .u32 0)++((List.replicate 1025 [Value.int .i64 0,Value.int .u64 0,Value.int .i64 0]).flatten++List.replicate 4100 (.int .i64 0)))
theorem zero_info:(Tryz.prog.info? 221).bind (·.zero)=some (.agg (zeroIx 0).toArray):=by kernel_rfl
theorem flat3 (a b d:Value):∀ (m j:Nat),j<m*3→((List.replicate m [a,b,d]).flatten)[j]? = [a,b,d][j % 3]?
 | 0,j,h=>by omega
 | m + 1, j, h => by
  rw[List.replicate_succ,List.flatten_cons]
  by_cases h3:j<3
  ·rw[List.getElem?_append_left (by simpa using h3),Nat.mod_eq_of_lt h3]
  ·rw[List.getElem?_append_right (by simp; omega),show j-[a,b,d].length=j-3 from rfl,flat3 a b d m (j-3) (by omega)]
   rw[show (j-3) % 3=j % 3 by omega]
theorem zero_cells (n:Int):(zeroIx n).toArray=cellsX (upd (fun _=>0) 0 n):=by
 apply Array.ext'
 apply List.ext_getElem?
 intro i
 have hflat:((List.replicate 1025 [Value.int .i64 0,Value.int .u64 0,Value.int .i64 0]).flatten).length=3075:=by
  rw[List.length_flatten,List.map_replicate,List.sum_replicate_nat]; rfl
 by_cases hi:i<8202
 ·have hr:(cellsX (upd (fun _=>0) 0 n)).toList[i]? = some (.int (kindX i) (upd (fun _=>0) 0 n i)):=by rw[Array.getElem?_toList]; exact cellsX_get _ hi
  rw[hr]
  show (zeroIx n)[i]? = _
  unfold zeroIx
  by_cases h0:i<2
  ·rw[List.getElem?_append_left (by simpa using h0),kind_lo h0]
   obtain rfl | rfl:i=0∨i=1:=by omega
   ·rw[upd_same]; rfl
   ·rw[upd_far _ _ (by omega)]; rfl
  ·rw[upd_far _ _ (by omega),List.getElem?_append_right (by simp; omega)]
   rw[show i-[Value.int .i64 n,Value.int .i64 0].length=i-2 from rfl]
   by_cases h1:i<1027
   ·rw[List.getElem?_append_left (by rw[List.length_replicate]; omega),List.getElem?_replicate,if_pos (by omega)]
    obtain ⟨j,rfl⟩:∃ j,i=2+j:=⟨i-2,by omega⟩
    rw[kind_fing (by omega)]
   ·rw[List.getElem?_append_right (by rw[List.length_replicate]; omega),List.length_replicate]
    by_cases h2:i<4102
    ·rw[List.getElem?_append_left (by rw[hflat]; omega),flat3 _ _ _ _ _ (by omega)]
     obtain ⟨j,t,ht,rfl⟩:∃ j t,t<3∧i=1027+j*3+t:=⟨(i-1027) / 3,(i-1027) % 3,by omega,by omega⟩
     rw[show (1027+j*3+t-2-1025) % 3=t by omega]
     obtain rfl | rfl | rfl:t=0∨t=1∨t=2:=by omega
     ·rw[Nat.add_zero,kind_adr0 (by omega)]; rfl
     ·rw[kind_adr1 (by omega)]; rfl
     ·rw[kind_adr2 (by omega)]; rfl
    ·rw[List.getElem?_append_right (by rw[hflat]; omega),hflat,List.getElem?_replicate,if_pos (by omega),kind_hi (by omega)]
 ·rw[List.getElem?_eq_none,List.getElem?_eq_none]
  ·rw[Array.length_toList,cellsX_size]; omega
  ·show (zeroIx n).length≤i
   unfold zeroIx
   rw[List.length_append,List.length_append,List.length_append,hflat,List.length_replicate,List.length_replicate]
   simp; omega
theorem zero_run (w:World):(zeroValue 221).run Tryz.prog w=.ok (.agg (cellsX (fun _=>0))) w:=by
 have h:=zero_info
 rw[zero_cells,show upd (fun _=>(0:Int)) 0 0=(fun _=>0) by funext j; unfold upd; split <;> rfl] at h
 cases hi:Tryz.prog.info? 221 with
 | none=>rw[hi] at h; cases h
 | some i =>
  rw[hi] at h
  have h2:i.zero=some (.agg (cellsX (fun _=>0))):=h
  simp[zeroValue,typeInfo,hi,h2]
structure NewI (c:Nat→Int) (n i:Nat):Prop where
 lk:Lk 4102 c (c 6151) (List.range' (n-i+1) i)
 rest:∀ j,(j<4102∨5127≤j)→j≠6151→c j=upd (fun _=>0) 0 n j
theorem NewI.start (n:Nat):NewI (upd (fun _=>0) 0 n) n 0:=⟨by rw[upd_far _ _ (by omega)]; exact rfl,fun _ _ _=>rfl⟩
theorem NewI.next {c:Nat→Int} {n i:Nat} (h:NewI c n i) (hn:n≤1024) (hi:i<n):NewI (upd (upd c (4102+(n-i)) (c 6151)) 6151 ((n-i:Nat):Int)) n (i+1):=by
 have hp:=Lk.push (b:=4102) (c:=c) (k:=n-i) (p:=6151) h.lk (by rw[List.mem_range']; rintro ⟨j,hj,e⟩; omega) (by omega) (by omega)
  (fun j hj=>by obtain ⟨t,ht,e⟩:=List.mem_range'.1 hj; omega) (by omega)
 refine ⟨?_,fun j h1 h2=>?_⟩
 ·rw[show n-(i+1)+1=n-i by omega,show List.range' (n-i) (i+1)=(n-i)::List.range' (n-i+1) i from rfl]
  exact hp
 ·rw[upd_far _ _ h2,upd_far _ _ (by omega)]
  exact h.rest j h1 h2
theorem NewI.done {c:Nat→Int} {n:Nat} (h:NewI c n n) (hn:n≤1024):RepX c n [] (List.range' 1 n):=by
 have hl:=h.lk
 rw[show n-n+1=1 by omega] at hl
 have hz:∀ j,(j<4102∨5127≤j)→j≠6151→j≠0→c j=0:=fun j h1 h2 h3=>by rw[h.rest j h1 h2,upd_far _ _ h3]
 constructor
 ·rw[h.rest 0 (by omega) (by omega),upd_same]
 ·rw[hz 1 (by omega) (by omega) (by omega)]; rfl
 ·exact hn
 ·rw[List.nil_append]; exact List.nodup_range'
 ·intro k hk
  rw[List.nil_append] at hk
  obtain ⟨j,hj,e⟩:=List.mem_range'.1 hk
  omega
 ·simp
 ·exact hl
 ·intro g hg
  exact hz _ (by omega) (by omega) (by omega)
 ·exact hz _ (by omega) (by omega) (by omega)
 ·exact hz _ (by omega) (by omega) (by omega)
 ·intro k hk; cases hk
 ·exact List.nodup_nil
theorem new_ok_x (n:Nat) (h1:1≤n) (h2:n≤1024) (w:World):Calls Tryz.prog 63 #[.int .i64 n] w fun e w'=>∃ x,e=.returned (.tuple #[.pointer (some ⟨x,0,none⟩),.int .i64 0])∧IxE w' x n []∧Below w.heap.size w w'∧w.heap.size≤x:=by
 have hb:=zero_run
 have hst:(cellsX (fun _=>0)).setIfInBounds 0 (.int .i64 n)=cellsX (upd (fun _=>0) 0 n):=cellsX_set (i:=0) (fun _=>0) (n:Int)
 obtain ⟨cz,hcz⟩:∃ cz,cz=cellsX (fun _=>0):=⟨_,rfl⟩
 have hne:(cz=#[])=False:=by rw[hcz]; exact eq_false (fun e=>by have:=congrArg Array.size e; rw[cellsX_size] at this; exact absurd this (by decide))
 rw[← hcz] at hb hst
 clear hcz
 have HI:=hI (NewI.start n)
 obtain ⟨c0,hc0⟩:∃ c0:Nat→Int,c0=upd (fun _=>0) 0 n:=⟨_,rfl⟩
 rw[← hc0] at hst HI
 clear hc0
 have q1:((n:Int)<1)=False:=by simp; omega
 have HX:=hI (show IxM (w.alloc (.cells (cellsX c0) 221)) w.heap.size c0 from Blk.new w _ _)
 have HB:=hI (show Below w.heap.size w (w.alloc (.cells (cellsX c0) 221)) from (Below.refl _ w).alloc (nR _) _)
 obtain ⟨cs,hcs⟩:∃ cs,cs=cellsX c0:=⟨_,rfl⟩
 rw[← hcs] at hst HX HB
 clear hcs
 go_enter Tryz.func63,Tryz.ntmps63
 go_wp2_with fail
 generalize w.alloc (.cells cs 221)=w1 at *
 have hbs:=HB.out.size
 go_loopw [16] (fun i wr=>∃ (k:Nat) (c:Nat→Int),i=.int .i64 k∧k≤n∧IxM wr w.heap.size c∧NewI c n k∧Below w.heap.size w wr)
  (fun i _=>n-(intOf i).toNat)
 case atStart=>exact ⟨0,c0,rfl,Nat.zero_le _,HX.out,HI.out,HB.out⟩
 case round =>
  obtain ⟨k,c,rfl,hk,hX,hN,hB⟩:=hrel
  have HXR:=hI hX
  have HNR:=hI hN
  have HBR:=hI hB
  clear hX hN hB
  by_cases hkn:k<n
  ·have e1:((n:Int)-k)=((n-k:Nat):Int):=by omega
   have HG:=hI (give_back HXR.out (n-k) (by omega))
   have hnk:n-k≤1024:=by omega
   obtain ⟨nk,hnk2⟩:∃ nk,nk=n-k:=⟨_,rfl⟩
   have HN2:=hI (HNR.out.next h2 hkn)
   rw[← hnk2] at e1 HG HN2 hnk
   have q2:(k:Int)<n:=by omega
   clear hnk2
   go_wp2_with fail
   refine HG.out.mono ?_
   rintro e w2 ⟨rfl,hx2,hk2⟩
   have HX2:=hI hx2
   have HB2:=hI (HBR.out.trans (hk2.to_below (fun b hb=>by show b≠w.heap.size; omega)))
   clear hx2 hk2
   go_wp2_with fail
   go_roundw
   case rel=>exact ⟨k+1,_,by simp,by omega,HX2.out,HN2.out,HB2.out⟩
   case measure=>show n-(Int.toNat ((k:Int)+1))<n-(Int.toNat (k:Int)); omega
  ·obtain rfl:n=k:=by omega
   go_wp2_with fail
   (first | go_ret | go_ret2)
   exact ⟨_,rfl,⟨c,[],_,HXR.out,HNR.out.done h2,rfl⟩,HBR.out,nR _⟩
end
section
section
variable {w:World} {X:Nat→Prop} {l p d n m c:Nat} {s:Sup} {t:Int} {k:Dk} {sec:Int} {A:Option Addr} {xs:List Seg} {br:Bool}
theorem log_ring (h:LogM w X l p d n s t k sec A m c xs br) (hnil:A=none→c=0) (hmc:m≤c) (hm:m≤1000) :
 Calls Tryz.prog 64 #[.pointer (some ⟨l,0,none⟩)] w fun e w'=>(∃ A' c',e=.returned (ringV sec A' m c')∧OwnZ w' w.heap.size A' m c' xs)∧Below w.heap.size w w':=by
 have HB:=hI ((Below.refl w.heap.size w).alloc (nR _) (.cells #[.int .i64 0,.slice none 0 0] 95))
 have HL:=hI (h.below HB.out)
 have HK:=hI (Blk.new w 95 #[.int .i64 0,.slice none 0 0])
 obtain ⟨_,c1,c2,_⟩:=log_cells HL.out
 have HC:=hI (copied_ring HL.out.now hnil hmc hm sec)
 clear h
 go_enter Tryz.func64,Tryz.ntmps64
 go_wp2_with fail
 refine HC.out.mono ?_
 rintro e w3 ⟨⟨A',c',rfl,hown⟩,hb⟩
 have HK3:=hI (HK.out.below hb HK.out.lt)
 have HB3:=hI (HB.out.trans (hb.mono HB.out.size))
 have HO:=hI (hown.base (m:=w.heap.size+1) (by simp))
 obtain ⟨f0,f1⟩:=And.intro (HK3.out.frozen 0) (HK3.out.frozen 1)
 obtain ⟨k0,k1⟩:=ring_cells HK3.out
 clear hb hown c1 c2
 go_wp2_with (with_reducible refine halt_end ?_)
 have hst:=(HK3.out.set_ 0 (.int .i64 sec)).set_ 1 (.slice A' m c')
 have hown:=(HO.out.far (p:=⟨w.heap.size,0,none⟩) (by show w.heap.size<_; omega) (.int .i64 sec)).far (p:=⟨w.heap.size,1,none⟩) (by show w.heap.size<_; omega) (.slice A' m c')
 have hbel:=(HB3.out.setCell (p:=⟨w.heap.size,0,none⟩) (nR _) (.int .i64 sec)).setCell (p:=⟨w.heap.size,1,none⟩) (nR _) (.slice A' m c')
 exact Halt.ret (results_row1 (p:=2) rfl _ _ w.heap.size 95 #[.int .i64 sec,.slice A' m c'] _ rfl hst Tryz.underlying95 rfl size_ring) rfl ⟨⟨A',c',rfl,hown.base (by omega)⟩,hbel⟩
end
end
end Go.Proofs.YtdkbpchmnhbhcaaGreat
namespace Go.Proofs.YtdkbpchmnhbhcaaGreat.EntM
open Go.RowKit
open Go.Proofs.YtdkbpchmnhbhcaaGreat
end Go.Proofs.YtdkbpchmnhbhcaaGreat.EntM

namespace Go.Proofs.YtdkbpchmnhbhcaaGreat
open Go.RowKit
section
attribute [local go_sem] Oper.semAt_some
abbrev mkP (f:Nat × Nat):Value:=.pointer (some ⟨f.1,0,none⟩)
theorem info_parts14 {P:Program} {e:TypeId} {z:Value} {n b:Nat} (h:(P.info? e).map (fun i=>(i.zero,i.size,i.bytes))=some (some z,n,b)):∃ i,P.info? e=some i∧i.zero=some z∧i.size=n∧i.bytes=b:=by
 cases hi:P.info? e with
 | none=>rw[hi] at h; cases h
 | some i =>
  rw[hi] at h
  simp only[Option.map_some,Option.some.injEq,Prod.mk.injEq] at h
  exact ⟨i,rfl,h.1,h.2.1,h.2.2⟩
theorem info_fp:(Tryz.prog.info? 139).map (fun i=>(i.zero,i.size,i.bytes))=some (some (.pointer none),1,8):=by kernel_rfl
theorem takeIn_nil (q:Nat) (w:World):Calls Tryz.prog 66 #[.pointer (some ⟨q,0,none⟩),.slice none 0 0] w fun e w'=>e=.returned (.int .i64 0)∧w'=w:=by
 go_enter Tryz.func66,Tryz.ntmps66
 go_wp2_with fail
 go_loopw [12] (fun i wr=>i=.int .i64 0∧wr=w) (fun i _=>0)
 case atStart=>exact ⟨rfl,rfl⟩
 case round =>
  obtain ⟨rfl,rfl⟩:=hrel
  go_wp2_with fail
  go_ret
  exact ⟨rfl,rfl⟩
theorem inv_nil (k:Dk) (s:Sup) (xs:List Seg):InvS k s xs []:=⟨by simp,by simp,by simp,by simp⟩
def NwF (w:World) (b:Nat) (fs:List (Nat × Nat)):Prop :=
 (∀ (i:Nat) f,fs[i]? = some f→Filt w f.1 f.2 (List.replicate 128 0)∧b≤f.1∧b≤f.2)∧∀ (i j:Nat) f g,fs[i]? = some f→fs[j]? = some g→i≠j→f.1≠g.1∧f.2≠g.2
theorem NwF.add {w w':World} {b:Nat} {fs:List (Nat × Nat)} (h:NwF w b fs) (hk:∀ (i:Nat) f,fs[i]? = some f→Filt w' f.1 f.2 (List.replicate 128 0)) {g:Nat × Nat} (hg:Filt w' g.1 g.2 (List.replicate 128 0)) (hb:b≤g.1∧b≤g.2) (hne:∀ f,f∈fs→f.1≠g.1∧f.2≠g.2):NwF w' b (fs++[g]):=by
 have key:∀ (i:Nat) f,(fs++[g])[i]? = some f→(fs[i]? = some f)∨(i=fs.length∧f=g):=fun i f hi=>by
  rcases Nat.lt_or_ge i fs.length with h1 | h1
  ·rw[List.getElem?_append_left h1] at hi; exact .inl hi
  ·rw[List.getElem?_append_right h1] at hi
   rcases Nat.eq_zero_or_pos (i-fs.length) with h2 | h2
   ·rw[h2] at hi
    injection hi with hi
    exact .inr ⟨by omega,hi.symm⟩
   ·rw[List.getElem?_eq_none (by simp; omega)] at hi; cases hi
 refine ⟨fun i f hi=>?_,fun i j f f' hi hj hij=>?_⟩
 ·rcases key i f hi with h1 | ⟨_,rfl⟩
  ·exact ⟨hk i f h1,(h.1 i f h1).2⟩
  ·exact ⟨hg,hb⟩
 ·rcases key i f hi with h1 | ⟨h1,rfl⟩ <;> rcases key j f' hj with h2 | ⟨h2,rfl⟩
  ·exact h.2 i j f f' h1 h2 hij
  ·exact hne f (List.mem_of_getElem? h1)
  ·have:=hne f' (List.mem_of_getElem? h2)
   exact ⟨Ne.symm this.1,Ne.symm this.2⟩
  ·omega
section
variable {w w':World} {X Y:Nat→Prop} {l p d n pe:Nat} {slots:Nat} {s:Sup} {t:Int} {k:Dk} {xs:List Seg}
theorem new_s14 (h:LgM w X l p d n s t k xs pe) (hX:∀ b,X b→b<w.heap.size) (h1:1≤slots) (h2:slots≤1024) :
 Calls Tryz.prog 17 #[.pointer (some ⟨l,0,none⟩),.int .i64 slots,.slice none 0 0] w fun e w'=>∃ q x F c fs,e=.returned (.tuple #[.pointer (some ⟨q,0,none⟩),.int .i64 0]) ∧
  StoM2 w' X ⟨l,p,d,n,q,x,F,c,t,k,pe,fs⟩ slots s xs [] (List.replicate xs.length (List.replicate 128 0)) false∧Below w.heap.size w w':=by
 have HL:=hI h
 have HX:=hI hX
 have HSL:=hI (And.intro h1 h2)
 have hxl:=h.ok.1
 unfold SizedR at hxl
 have HXL:=hI (show 4≤xs.length∧xs.length≤16 by omega)
 clear h hX hxl
 go_enter Tryz.func17,Tryz.ntmps17
 go_wp2_with fail
 refine (new_ok_x slots HSL.out.1 HSL.out.2 w).mono ?_
 rintro e w1 ⟨x,rfl,hx1,hb1,hxw⟩
 have HX1:=hI hx1
 have HB1:=hI hb1
 have HXW:=hI hxw
 clear hx1 hb1 hxw
 obtain ⟨w2,hw2⟩:∃ w2,w2=w1.alloc (.cells #[.pointer (some ⟨l,0,none⟩),.pointer (some ⟨x,0,none⟩),.slice none 0 0,.bool false] 137):=⟨_,rfl⟩
 have hb2:Below w1.heap.size w1 w2:=by rw[hw2]; exact (Below.refl _ _).alloc (nR _) _
 have HQ2:=hI (show Blk w2 w1.heap.size 137 #[.pointer (some ⟨l,0,none⟩),.pointer (some ⟨x,0,none⟩),.slice none 0 0,.bool false] by rw[hw2]; exact Blk.new w1 _ _)
 have HB2:=hI (HB1.out.trans (hb2.mono HB1.out.size))
 have HX2:=hI (HX1.out.below hb2 HX1.out.lt)
 have HW2:=hI hw2
 have HQW:=hI HB1.out.size
 clear hb2 hw2
 go_upto_region 7 with fail
 rw[← HW2.out]
 obtain ⟨Ar,cr,hlr,hcr,hnr⟩:=HL.out.log
 have HRG:=hI (log_ring (hlr.below HB2.out) hnr hcr (by have:=HXL.out; omega))
 clear hlr hcr hnr
 go_wp2_with fail
 refine HRG.out.mono ?_
 rintro e w3 ⟨⟨A3,c3,rfl,hown3⟩,hb3⟩
 clear hown3
 have HQ3:=hI (HQ2.out.below hb3 HQ2.out.lt)
 have HX3:=hI (HX2.out.below hb3 HX2.out.lt)
 have HB3:=hI (HB2.out.trans (hb3.mono HB2.out.size))
 clear hb3 HRG
 have hfld:(Instr.field 95 (ringV s.b A3 xs.length c3) 1).run Tryz.prog w3=.ok (.slice A3 xs.length c3) w3:=by
  unfold Instr.field
  simp[Sem.run_bind,run_underlying (Tryz.underlying95),asAgg,part,isAgg,run_underlying (Tryz.underlying93)]
 go_wp2_with fail
 clear hfld
 obtain ⟨q,hq⟩:∃ q,w1.heap.size=q:=⟨_,rfl⟩
 rw[hq] at HQ3 HQW
 rw[hq]
 obtain ⟨N,hN⟩:∃ N,xs.length=N:=⟨_,rfl⟩
 rw[hN] at HXL
 rw[hN]
 have HN:=hI hN
 clear hq hN HQ2 HX2 HB2 HW2
 obtain ⟨i0,hi0,hz0,hz1,hz2⟩:=info_parts14 info_fp
 have HI0:=hI (And.intro hi0 (And.intro hz0 (And.intro hz1 hz2)))
 clear hi0 hz0 hz1 hz2
 go_loopw [33] (fun i wr=>∃ (j:Nat) (v:Value) (fs:List (Nat × Nat)),i=.int .i64 j∧j≤N∧fs.length=j∧wr.ownsRow w.heap.size 139 1 v j (fs.map mkP)∧Blk wr q 137 #[.pointer (some ⟨l,0,none⟩),.pointer (some ⟨x,0,none⟩),v,.bool false]∧IxE wr x slots []∧Below w.heap.size w wr∧NwF wr w.heap.size fs) (fun i _=>N-(intOf i).toNat)
 case atStart=>exact ⟨0,.slice none 0 0,[],rfl,Nat.zero_le _,rfl,⟨rfl,.inl ⟨rfl,rfl⟩⟩,HQ3.out,HX3.out,HB3.out,fun i f h=>by simp at h,fun i j f g h=>by simp at h⟩
 case round =>
  obtain ⟨j,v,fs,rfl,hj,hfl,hown,hq,hx,hb,hnf⟩:=hrel
  have HFL:=hI hfl
  have HOW:=hI hown
  have HQ:=hI hq
  have HIX:=hI hx
  have HB:=hI hb
  have HNF:=hI hnf
  clear hfl hown hq hx hb hnf
  by_cases hlt:j<N
  ·go_wp2_with fail
   refine (new_ok_b 1024 128 _ (by decide) (by omega) (by omega)).mono ?_
   rintro e w4 ⟨rfl,hf4,hb4⟩
   obtain ⟨r,hr⟩:∃ r,wr.heap.size=r:=⟨_,rfl⟩
   rw[hr] at hf4
   rw[hr]
   have HR:=hI hr
   have HF4:=hI hf4
   have HO4:=hI (own_below HOW.out hb4)
   have HQ4:=hI (HQ.out.below hb4 HQ.out.lt)
   have HX4:=hI (HIX.out.below hb4 HIX.out.lt)
   have HB4:=hI (HB.out.trans (hb4.mono HB.out.size))
   have HFS4:=hI (fun (i:Nat) f (h:fs[i]? = some f)=>(HNF.out.1 i f h).1.belowAll hb4)
   have HFL4:=hI (fun f (h:f∈fs)=>show f.1<r∧f.2<r by
    obtain ⟨i,hi⟩:=List.mem_iff_getElem?.1 h
    have h9:=(HNF.out.1 i f hi).1
    rw[← hr]
    exact ⟨h9.ltf,h9.lth⟩)
   clear hf4 hb4 hr
   go_upto_region 12 with fail
   have q2:w4.cell? ⟨q,2,none⟩=some v:=HQ4.out.cell 2
   obtain ⟨w5,hw5⟩:∃ w5,w5=w4.alloc (.cells #[.pointer (some ⟨r+1,0,none⟩)] 139):=⟨_,rfl⟩
   have hb5:Below w4.heap.size w4 w5:=by rw[hw5]; exact (Below.refl _ _).alloc (nR _) _
   have HO5:=hI (own_below HO4.out hb5)
   have HQ5:=hI (HQ4.out.below hb5 HQ4.out.lt)
   have HX5:=hI (HX4.out.below hb5 HX4.out.lt)
   have HB5:=hI (HB4.out.trans (hb5.mono HB4.out.size))
   have HF5:=hI (HF4.out.belowAll hb5)
   have HFS5:=hI (fun (i:Nat) f (h:fs[i]? = some f)=>(HFS4.out i f h).belowAll hb5)
   have HLIT:=hI (show RowG mkP (0,0) w5 (·=w4.heap.size) (some ⟨w4.heap.size,0,none⟩) 1 [(r+1,r)] by rw[hw5]; exact row_new1 mkP (0,0) w4 139 (r+1,r))
   have HW5:=hI hw5
   have HJ:=hI (show j≤16 by have:=HXL.out; omega)
   clear hb5 hw5
   go_wp2_with (first | (rw[← HW5.out]; refine wpList_append_rowG (mk:=mkP) (d:=(0,0)) rfl (.tmp 46) (.tmp 48) 135 rfl w.heap.size 139 i0 _ 8 Tryz.underlying135 HI0.out.1 HI0.out.2.1 HI0.out.2.2.1 HI0.out.2.2.2 (by simp[Value.cells]) (fun _=>rfl) v j _ rfl HO5.out _ _ 1 1 [(r+1,r)] rfl HLIT.out (fun h=>by cases h) (by unfold maxLen; have:=HJ.out; omega) (by have:=HJ.out; omega) HB5.out.size ?_; intro v8 W8 hown hgrow hv8; obtain ⟨A8,c8,rfl⟩:=ownsRow_slice hown; have hq8:=blk_past HQ5.out HO5.out (by decide) hgrow; have q8:W8.cell? ⟨q,2,none⟩=some v:=hq8.cell 2; have f8:=hq8.frozen 2))
   clear q8 f8 q2
   have HX8:=hI (show IxE W8 x slots [] from by
    obtain ⟨cx,L,fr,hx,hr,he⟩:=HX5.out
    exact ⟨cx,L,fr,blk_past hx HO5.out (by decide) hgrow,hr,he⟩)
   have HB8:=hI (below_append HB5.out HO5.out (nR _) HB5.out.size hgrow)
   have hf8:∀ f h,Filt w5 f h (List.replicate 128 0)→Filt W8 f h (List.replicate 128 0):=fun f h hh=>⟨blk_past hh.1 HO5.out (by decide) hgrow,blk_past hh.2.1 HO5.out (by decide) hgrow,hh.2.2⟩
   have HO9:=hI (own_past hown hq8 (by decide) 2 (.slice A8 (j+1) c8))
   have HQ9:=hI (hq8.set_ 2 (.slice A8 (j+1) c8))
   have hk9:Kept (fun b=>b≠q) W8 (W8.setCell ⟨q,2,none⟩ (.slice A8 (j+1) c8)):=(Kept.refl _ _).setCell (p:=⟨q,2,none⟩) (fun h=>h rfl) _
   have HX9:=hI (HX8.out.kept hk9 (fun e=>by
    obtain ⟨cx,L,fr,hx,hr,he⟩:=HX8.out
    have hx2:Blk W8 x 221 (cellsX cx):=hx
    exact hx2.ne_ hq8 (by decide) e))
   have HB9:=hI (HB8.out.setCell (p:=⟨q,2,none⟩) HQW.out (.slice A8 (j+1) c8))
   have hf9:∀ f h,Filt w5 f h (List.replicate 128 0)→Filt (W8.setCell ⟨q,2,none⟩ (.slice A8 (j+1) c8)) f h (List.replicate 128 0):=fun f h hh=>(hf8 f h hh).kept hk9 (fun e=>(hf8 f h hh).1.ne_ hq8 (by decide) e) (fun e=>(hf8 f h hh).2.1.ne_ hq8 (by decide) e)
   have hrw:w.heap.size≤r:=by rw[← HR.out]; exact HB.out.size
   have HNF9:=hI (HNF.out.add (g:=(r+1,r)) (fun i f h=>hf9 _ _ (HFS5.out i f h)) (hf9 _ _ HF5.out) ⟨by omega,by omega⟩ (fun f h=>by
    have h9:=HFL4.out f h
    exact ⟨by show f.1≠r+1; omega,by show f.2≠r; omega⟩))
   clear hown hgrow hq8 hf8 hf9 hk9 hv8
   have hjj:=HJ.out
   go_wp2_with fail
   go_roundw
   case rel =>
    refine ⟨j+1,.slice A8 (j+1) c8,fs++[(r+1,r)],by rw[IntWalk.wrap64_in _ (by omega)]; rfl,by omega,by rw[List.length_append,HFL.out]; rfl,?_,HQ9.out,HX9.out,HB9.out,HNF9.out⟩
    have h9:=HO9.out
    rw[show (fs.map mkP)++[(r+1,r)].map mkP=(fs++[(r+1,r)]).map mkP by rw[List.map_append]] at h9
    exact h9
   case measure =>
    rw[IntWalk.wrap64_in _ (by omega)]
    simp only[intOf]
    omega
  ·obtain rfl:j=N:=by omega
   go_wp2_with fail
   refine (takeIn_nil q wr).mono ?_
   rintro e w9 ⟨rfl,rfl⟩
   go_wp2_with fail
   go_ret2
   have hN:=HXL.out
   rcases HOW.out.2 with ⟨_,h0⟩ | ⟨F,cap,cur,rfl,hF,hh,hnc,_,hsz,htk⟩
   ·omega
   have hb:=HB.out
   have hget:∀ (i:Nat) f,fs[i]? = some f→cur[i]? = some (.pointer (some ⟨f.1,0,none⟩)):=fun i f hi=>by
    have hil:i<fs.length:=(List.getElem?_eq_some_iff.1 hi).1
    have h1:(cur.toList.take (j*1))[i]? = some (mkP f):=by rw[htk,List.getElem?_map,hi]; rfl
    rw[List.getElem?_take,if_pos (by rw[HFL.out] at hil; omega),Array.getElem?_toList] at h1
    exact h1
   have hqn:w.heap.size≤q:=HQW.out
   have hxn:w.heap.size≤x:=HXW.out
   have hnn:xs.length=j:=HN.out
   have hfn:=HFL.out
   have hown:∀ b,(⟨l,p,d,n,q,x,F,cap,t,k,pe,fs⟩:StB).own b→w.heap.size≤b∧b<w9.heap.size:=fun b ho=>by
    have hbF:Blk w9 F 139 cur:=hh
    rcases ho with h | h | h | ⟨f,hf,h | h⟩
    ·rw[h]; exact ⟨hqn,HQ.out.lt⟩
    ·rw[h]; exact ⟨hxn,HIX.out.lt⟩
    ·rw[h]; exact ⟨hF,hbF.lt⟩
    ·rw[h]
     obtain ⟨i,hi⟩:=List.mem_iff_getElem?.1 hf
     exact ⟨(HNF.out.1 i f hi).2.1,(HNF.out.1 i f hi).1.ltf⟩
    ·rw[h]
     obtain ⟨i,hi⟩:=List.mem_iff_getElem?.1 hf
     exact ⟨(HNF.out.1 i f hi).2.2,(HNF.out.1 i f hi).1.lth⟩
   have hrep:∀ i,i<xs.length→(List.replicate xs.length (List.replicate 128 (0:Int))).getD i []=List.replicate 128 0:=fun i hi=>by
    simp[List.getD,List.getElem?_replicate,hi]
   refine ⟨q,x,F,cap,fs,rfl,⟨?_,⟨⟨cur,hh,hget⟩,fun i f hi=>?_,?_,fun i hi=>?_,HNF.out.2⟩,List.length_replicate,HIX.out,(HL.out.grow hb).less (fun b hb2=>?_),inv_nil _ _ _,fun b ho hx=>?_,fun b hx=>nL (HX.out b hx) hb.size⟩,hb⟩
   ·show Blk w9 q _ #[_,_,.slice _ fs.length _,_]
    rw[hfn]
    exact HQ.out
   ·have hi2:fs[i]? = some f:=hi
    rw[hrep i (by have:=(List.getElem?_eq_some_iff.1 hi2).1; omega)]
    exact (HNF.out.1 i f hi).1
   ·rw[List.length_replicate]; show fs.length=_; omega
   ·rw[List.length_replicate] at hi
    rw[hrep i hi,List.length_replicate]
   ·rcases hb2 with h | h
    ·exact .inl h
    ·exact .inr (hown b h)
   ·have:=hown b ho
    have:=HX.out b hx
    omega
end
end
section
abbrev wkS:Sup:=⟨4,24,0,0,0,0⟩
abbrev wkX:List Seg:=List.replicate 4 seg0
theorem wk_left:leftR 24 wkX<1:=by decide +kernel
theorem wk_next:nxtR wkX=0:=by decide +kernel
theorem wk_open:opnR wkX=-1:=by decide +kernel
end
section
attribute [local go_sem] Oper.semAt_some
def logK:Dk:=(((Dk.fresh 98).wr (Dk.put 0 (supL 4 24 0 0 0 0 0))).wr (Dk.put 1 (noughts 64))).wr Dk.sync
theorem logK_good:Good logK:=((((Good.fresh 98).put _ _).put _ _).sync)
theorem logK_pend:logK.pend.length≤0:=by rw[show logK.pend=[] from (((Good.fresh 98).put _ _).put _ _).pend_sync]; exact nR _
theorem wk_top14:topG wkX≤0:=by decide +kernel
theorem logs_lg {w:World} {X:Nat→Prop} {l p d:Nat} {A:Option Addr} {c:Nat} (h:LogM w X l p d 98 wkS 0 logK 24 A 4 c wkX false) (hc:4≤c) (hn:A=none→c=0):LgM w X l p d 98 wkS 0 logK wkX 0 where
 log:=⟨A,c,h,hc,hn⟩
 good:=logK_good
 ok:=ok_new ⟨by decide,by decide,by decide,by decide⟩
 top:=wk_top14
 may:=by decide
 sin:=⟨by decide,by decide,by decide,by decide,by decide,by decide,by decide,by decide,by decide,by decide,by decide,by decide⟩
 dims:=rfl
 n2:=by decide
 room:=by decide
 pend:=logK_pend
theorem logs_any (w:World):Calls Tryz.prog 16 #[] w fun e w'=>∃ l p d,e=.returned (.tuple #[.pointer (some ⟨d,0,none⟩),.pointer (some ⟨l,0,none⟩)])∧LgM w' (fun x=>x<w.heap.size) l p d 98 wkS 0 logK wkX 0∧Below w.heap.size w w':=by
 have hm:MayS 4 24 0 0:=⟨by omega,by omega,by omega,by omega,by omega⟩
 have hz:SizedR (4:Nat) 24:=⟨by omega,by omega,by omega,by omega⟩
 have hok:=ok_new hz
 have hop:opnR (List.replicate 4 seg0)<0:=by decide +kernel
 have HM:=hI hm
 have HZ:=hI hz
 have HOK:=hI hok
 have HOP:=hI hop
 clear hm hz hok hop
 go_enter Tryz.func16,Tryz.ntmps16
 go_wp2_with fail
 refine (new_i w 98 98 rfl (by omega) (by omega)).mono ?_
 rintro e w1 ⟨d,rfl,hd,hb1⟩
 have HD1:=hI hd
 have HB1:=hI hb1
 clear hd hb1
 go_wp2_with fail
 refine (format_fresh HD1.out (fun c h=>nL h HB1.out.size) 4 24 HM.out (by omega)).mono ?_
 rintro e w2 ⟨p,rfl,hst,hk⟩
 have HS2:=hI (show StoS w2 (fun x=>x<w.heap.size) p d 98 wkS 0 logK from hst)
 have HB2:=hI (show Below w.heap.size w w2 from HB1.out.trans (hk.to_below (fun b h=>h)))
 clear hst hk
 go_wp2_with fail
 refine (new_ok 4 24 HZ.out).mono ?_
 rintro e w3 ⟨⟨A0,rfl,hr⟩,hb3⟩
 have hal:=(Below.refl w3.heap.size w3).alloc (nR _) (.cells #[.int .i64 24,.slice A0 4 4] 95)
 have HS3:=hI (StoreM.below HS2.out (hb3.trans (hal.mono hb3.size)))
 have HB3:=hI (HB2.out.trans ((hb3.trans (hal.mono hb3.size)).mono HB2.out.size))
 have HR3:=hI (row_now (hr.more (fun b h=>h.2)) hal)
 have HK3:=hI (Blk.new w3 95 #[.int .i64 24,.slice A0 4 4])
 have HA0:=hI (show A0=none→(4:Nat)=0 from fun e=>by
  obtain ⟨_,_,h2,_⟩:=hr.2 (by omega)
  rw[e] at h2; cases h2)
 obtain ⟨k0,k1⟩:=ring_cells HK3.out
 clear hr hb3 hal
 go_wp2_with fail
 refine (open_log_ok (s:=wkS) HS3.out (fun b h=>nL h HB3.out.size) HR3.out HA0.out (nR _) 24 HOK.out rfl rfl HOP.out).mono ?_
 rintro e w4 ⟨l,A,c,rfl,hl,hac,hnil,hsz,hb4⟩
 have HL:=hI (logs_lg hl hac hnil)
 have HB4:=hI (HB3.out.trans (hb4.mono HB3.out.size))
 clear hl hb4 hac hnil k0 k1
 go_wp2_with fail
 go_ret2
 exact ⟨l,p,d,rfl,HL.out,HB4.out⟩
def keyL (i:Int):List Int:=[107,97+i % 8]
theorem key_any (i:Int) (w:World):Calls Tryz.prog 32 #[.int .i64 i] w fun e w'=>∃ g,e=.returned (.slice (some ⟨g,0,none⟩) 2 2)∧w.heap.size≤g∧ArrU w' g (keyL i)∧Below w.heap.size w w':=by
 have hw:IntKind.u64.wrap i=i % 18446744073709551616:=IntKind.wrap_u64 i
 go_enter Tryz.func32,Tryz.ntmps32
 go_wp2_with fail
 go_ret
 exact ⟨w.heap.size,rfl,nR _,Blk.new w _ _,(Below.refl _ _).alloc (nR _) _⟩
theorem keyL_bytes (i:Int):Bytes (keyL i):=by
 intro j
 rcases j with _ | _ | j
 ·show (0:Int)≤107∧(107:Int)≤255; omega
 ·show 0≤97+i % 8∧97+i % 8≤255; omega
 ·simp[keyL]
end
section
section
variable {st su:List EntS} {us kw bs:List Int} {a:Int × Int × Int}
theorem has_out_ne (h:kw≠us):hasS (outS st us) kw=hasS st kw:=by
 unfold hasS outS
 rw[List.find?_filter]
 congr 1
 funext p
 by_cases e:keyOf p.2=kw
 ·have e2:¬ keyOf p.2=us:=fun e3=>h (e.symm.trans e3)
  simp[e,h]
 ·simp[e]
theorem has_out_eq:hasS (outS st us) us=none:=by
 unfold hasS outS
 rw[List.find?_eq_none]
 intro p hp
 have:=(List.mem_filter.1 hp).2
 simpa using this
theorem has_put_eq (hk:keyOf bs=us):hasS (outS st us++[(a,bs)]) us=some (a,bs):=by
 unfold hasS
 rw[List.find?_append,show (outS st us).find? (fun p=>decide (keyOf p.2=us))=none from has_out_eq]
 simp[hk]
theorem has_put_ne (hk:keyOf bs=us) (h:kw≠us):hasS (outS st us++[(a,bs)]) kw=hasS st kw:=by
 have h9:=has_out_ne (st:=st) h
 unfold hasS at *
 rw[List.find?_append,h9]
 have e:[(a,bs)].find? (fun p=>decide (keyOf p.2=kw))=none:=by
  simp[hk,fun e=>h (Eq.symm e)]
  exact fun e=>h e.symm
 rw[e]
 cases st.find? (fun p=>decide (keyOf p.2=kw)) <;> rfl
def OnceS (st:List EntS):Prop:=(st.map fun p=>keyOf p.2).Nodup
theorem OnceS.out (h:OnceS st):OnceS (outS st us):=by
 unfold OnceS outS at *
 exact List.Nodup.sublist (List.Sublist.map _ List.filter_sublist) h
theorem OnceS.put (h:OnceS st) (hk:keyOf bs=us):OnceS (outS st us++[(a,bs)]):=by
 have h2:=OnceS.out (us:=us) h
 unfold OnceS at *
 rw[List.map_append,List.nodup_append]
 refine ⟨h2,by simp,fun x hx y hy=>?_⟩
 obtain ⟨p,hp,rfl⟩:=List.mem_map.1 hx
 simp only[List.map_cons,List.map_nil,List.mem_singleton] at hy
 subst hy
 rw[hk]
 exact (mem_out.1 hp).2
theorem OnceS.one (h:OnceS st) (hk:∀ p,p∈st→keyOf p.2=us):st.length≤1:=by
 match st,h,hk with
 | [],_,_=>simp
 | [_],_,_=>simp
 | p::q::r,h,hk =>
  exfalso
  unfold OnceS at h
  simp only[List.map_cons,List.nodup_cons,List.mem_cons] at h
  exact h.1 (.inl ((hk p (by simp)).trans (hk q (by simp)).symm))
end
def SameK (st su:List EntS) (kw:List Int):Prop:=(hasS st kw).map (·.2)=(hasS su kw).map (·.2)
theorem SameK.get {st su:List EntS} {kw:List Int} (h:SameK st su kw) (fl now:Int):getS st fl now kw=getS su fl now kw:=by
 unfold SameK at h
 unfold getS
 cases h1:hasS st kw with
 | none =>
  rw[h1] at h
  cases h2:hasS su kw with
  | none=>rfl
  | some q=>rw[h2] at h; simp at h
 | some p =>
  rw[h1] at h
  cases h2:hasS su kw with
  | none=>rw[h2] at h; simp at h
  | some q =>
   rw[h2] at h
   simp only[Option.map_some,Option.some.injEq] at h
   simp only[h]
structure ApR (kw:List Int) (s:Sup) (xs:List Seg) (st:List EntS) (s':Sup) (xs':List Seg) (su:List EntS):Prop where
 same:SameK st su kw
 flush:s'.f=s.f
 room:moreR s.b xs' xs
 once:OnceS su
 only:∀ p,p∈su→keyOf p.2=kw
section
variable {kw us bs:List Int} {s s1 s':Sup} {xs xs1 xs':List Seg} {st su:List EntS} {a:Int × Int × Int}
theorem ApR.left (h:ApR kw s xs st s' xs' su) {slots:Nat} (hs:2≤slots):fullS su us slots=false:=by
 have h1:=h.once.one h.only
 unfold fullS
 rw[decide_eq_false (show ¬ su.length=slots by omega)]
 simp
theorem ApR.put2 {s2:Sup} {xs2:List Seg} {a2:Int × Int × Int} (h:ApR kw s xs st s' xs' su) (hk:keyOf bs=kw) (hs:s1=s∨s1=genS s) (hs2:s2=s'∨s2=genS s') (hr:moreR s.b xs2 xs1) :
 ApR kw s1 xs1 (outS st kw++[(a,bs)]) s2 xs2 (outS su kw++[(a2,bs)]):=by
 have hf:s1.f=s.f∧s1.b=s.b:=by rcases hs with rfl | rfl <;> exact ⟨rfl,rfl⟩
 have hf2:s2.f=s'.f:=by rcases hs2 with rfl | rfl <;> rfl
 refine ⟨?_,hf2.trans (h.flush.trans hf.1.symm),by rw[hf.2]; exact hr,h.once.put hk,fun p hp=>?_⟩
 ·unfold SameK
  rw[has_put_eq hk,has_put_eq hk]
  rfl
 ·rcases List.mem_append.1 hp with h2 | h2
  ·exact h.only p (mem_out.1 h2).1
  ·rw[List.mem_singleton.1 h2]; exact hk
end
end
section
def ScanG (w:World) (X:Nat→Prop) (l p d n:Nat) (s:Sup) (t:Int) (k:Dk) (xs:List Seg) (pe seg:Nat) (e:Ending) (w':World):Prop :=
 ∃ k' A c ts gen used m,e=.returned (.tuple #[.agg (scanC gen used (.slice A ts.length c)),.int .i64 0])∧w.heap.size≤m∧LgM w' (fun b=>X b∨(m≤b∧b<w'.heap.size)) l p d n s t k' xs pe∧k'.held=k.held∧Kept X w w' ∧
  gen=begunG (ldV (secsAt (strV k s seg) 0 s.b.toNat) 0) seg∧(gen=0→used=0∧ts=[]) ∧
  (gen≠0→used=(scanU (secsAt (strV k s seg) 0 s.b.toNat) gen (secsAt (strV k s seg) 0 s.b.toNat).length 1:Nat)∧ts.map Tl.two=scanL (secsAt (strV k s seg) 0 s.b.toNat) gen (secsAt (strV k s seg) 0 s.b.toNat).length 1)∧ToldS w' m seg gen A c ts
section
variable {w w':World} {X:Nat→Prop} {l p d n pe:Nat} {s:Sup} {t:Int} {k:Dk} {xs:List Seg}
theorem scan_lg (h:LgM w X l p d n s t k xs pe) (hX:∀ b,X b→b<w.heap.size) (seg:Nat) (hseg:(seg:Int)<s.a) :
 Calls Tryz.prog 10 #[.pointer (some ⟨p,0,none⟩),.int .i64 seg] w (ScanG w X l p d n s t k xs pe seg):=by
 obtain ⟨A,c,⟨h1,h2,R,h3,h4,h5⟩,hc,hA⟩:=h.log
 refine (scan_good (X:=fun b=>X b∨b=l∨R b) h3 (fun b hb=>by
  rcases hb with hb | rfl | hb
  ·exact hX b hb
  ·exact h1.lt
  ·exact (h5 b hb).1) h.may h.good h.ok_k seg hseg h.room h.n2.2).mono ?_
 rintro e w' ⟨k',A5,c5,ts,gen,used,m5,rfl,hm5,hst,hg,hh,hp,hk5,hgen,hg0,hg1,htold⟩
 refine ⟨k',A5,c5,ts,gen,used,m5,rfl,hm5,⟨⟨A,c,⟨h1.kept hk5 (.inr (.inl rfl)),fun e=>?_,R,?_,h4.kept hk5 (fun b hb=>.inr (.inr hb)),fun b hb=>⟨nL (h5 b hb).1 hk5.size,(h5 b hb).2.1,fun e=>?_⟩⟩,hc,hA⟩,hg,h.ok,h.top,h.may,h.sin,h.dims,h.n2,h.room,by rw[hp]; exact h.pend⟩,hh,hk5.mono (fun b hb=>.inl hb),hgen,hg0,hg1,htold⟩
 ·rcases e with e | ⟨e,_⟩
  ·exact h2 e
  ·have:=h1.lt; omega
 ·refine StoreM.kept (Z:=fun _=>True) hst (Kept.refl _ _) (fun _ _ _=>trivial) (fun b _ hb=>?_)
  rcases hb with (hb | hb) | hb | hb
  ·exact .inl (.inl hb)
  ·exact .inr hb
  ·exact .inl (.inr (.inl hb))
  ·exact .inl (.inr (.inr hb))
 ·rcases e with e | ⟨e,_⟩
  ·exact (h5 b hb).2.2 e
  ·have:=(h5 b hb).1; omega
end
end
section
section
variable {k:Dk} {s s1:Sup} {xs xs1:List Seg} {st:List EntS} {p:EntS} {a:Int × Int × Int} {us:List Int} {fl sg g sc kd q:Int}
theorem mv_has (h:InvS k s xs st) (hp:p∈st) (us:List Int):(hasS (outS st (keyOf p.2)++[(a,p.2)]) us).map Prod.snd=(hasS st us).map Prod.snd:=by
 by_cases e:us=keyOf p.2
 ·subst e
  rw[has_put_eq rfl,has_of h hp]
  rfl
 ·rw[has_put_ne rfl e]
theorem mv_len:∀ {st:List EntS},(∀ p,p∈st→∀ q,q∈st→keyOf p.2=keyOf q.2→p=q)→st.Nodup→p∈st→(outS st (keyOf p.2)).length+1=st.length
 | [],_,_,h=>by cases h
 | x :: r, hk, hn, hp => by
  rw[List.nodup_cons] at hn
  unfold outS
  rw[List.filter_cons]
  by_cases e:x=p
  ·subst e
   rw[if_neg (by simp)]
   have h1:r.filter (fun p=>!decide (keyOf p.2=keyOf x.2))=r:=List.filter_eq_self.2 fun y hy=>by
    have:keyOf y.2≠keyOf x.2:=fun e2=>hn.1 ((hk y (List.mem_cons_of_mem _ hy) x List.mem_cons_self e2)▸hy)
    simpa using this
   rw[h1,List.length_cons]
  ·rcases List.mem_cons.1 hp with h2 | h2
   ·exact absurd h2.symm e
   ·have h3:keyOf x.2≠keyOf p.2:=fun e2=>e (hk x List.mem_cons_self p (List.mem_cons_of_mem _ h2) e2)
    rw[if_pos (by simpa using h3),List.length_cons,List.length_cons]
    have:=mv_len (st:=r) (fun a ha b hb=>hk a (List.mem_cons_of_mem _ ha) b (List.mem_cons_of_mem _ hb)) hn.2 h2
    unfold outS at this
    omega
theorem mv_live (h:InvS k s xs st) (hp:p∈st) (hfr:∀ q,q∈st→q.1≠a):liveS (outS st (keyOf p.2)++[(a,p.2)]) fl p.1.1 p.1.2.1 p.1.2.2 kd q us=false:=by
 unfold liveS
 rw[decide_eq_false (show ¬ (p.1.1,p.1.2.1,p.1.2.2)∈(ofF (outS st (keyOf p.2)++[(a,p.2)]) us).map (·.1) from fun hm=>?_),Bool.and_false,Bool.and_false]
 obtain ⟨e,he,hea⟩:=List.mem_map.1 hm
 have he2:=(mem_ofF.1 he).1
 have hea2:e.1=p.1:=hea
 rcases List.mem_append.1 he2 with h1 | h1
 ·obtain ⟨h2,h3⟩:=mem_out.1 h1
  exact h3 (by rw[h.adr e h2 p hp hea2])
 ·rw[List.mem_singleton.1 h1] at hea2
  exact hfr p hp hea2.symm
theorem nd_out (h:st.Nodup):(outS st us).Nodup:=h.filter _
theorem nd_put {bs:List Int} (h:st.Nodup):(outS st (keyOf bs)++[(a,bs)]).Nodup:=by
 rw[List.nodup_append]
 refine ⟨nd_out h,by simp,fun x hx y hy=>?_⟩
 rw[List.mem_singleton.1 hy]
 exact fun e=>(mem_out.1 hx).2 (by rw[e])
theorem rng_of {bs:List Int} (hb:Bytes bs):Rng (flagsOf bs) (expOf bs) (seqOf bs):=by
 have a1:=numOf_bounds _ (bytes_part hb 1 4)
 have a2:=numOf_bounds _ (bytes_part hb 5 4)
 have a3:=numOf_bounds _ (bytes_part hb 9 8)
 have l1:((256 ^ ((bs.drop 1).take 4).length:Nat):Int)≤4294967296:=by
  have:((bs.drop 1).take 4).length≤4:=by simp; omega
  exact Int.ofNat_le.2 (Nat.pow_le_pow_right (show 0<256 by decide) this)
 have l2:((256 ^ ((bs.drop 5).take 4).length:Nat):Int)≤4294967296:=by
  have:((bs.drop 5).take 4).length≤4:=by simp; omega
  exact Int.ofNat_le.2 (Nat.pow_le_pow_right (show 0<256 by decide) this)
 have l3:((256 ^ ((bs.drop 9).take 8).length:Nat):Int)≤18446744073709551616:=by
  have:((bs.drop 9).take 8).length≤8:=by simp; omega
  exact Int.ofNat_le.2 (Nat.pow_le_pow_right (show 0<256 by decide) this)
 unfold flagsOf expOf seqOf
 exact ⟨by omega,by omega,by omega,by omega,by omega,by omega⟩
theorem live_entry (hl:liveS st fl sg g sc kd q us=true):kd=1∧fl<q∧∃ e,e∈st∧e.1=(sg,g,sc):=by
 unfold liveS at hl
 rw[Bool.and_eq_true,Bool.and_eq_true] at hl
 obtain ⟨h1,h2,h3⟩:=hl
 obtain ⟨e,he,hea⟩:=List.mem_map.1 (of_decide_eq_true h3)
 have h4:¬ q≤fl:=by simpa using h2
 exact ⟨of_decide_eq_true h1,by omega,e,(mem_ofF.1 he).1,hea⟩
theorem app_st (hok:OkR s.b xs) (htop:topG xs≤s.g) {K:Nat} (hK:1≤K∧K≤17) {i:Nat} (ha:appR s xs K=some (i,s1,xs1)) (q:Nat) (h0:stG (useX xs1 (K:Int)) q=0):q≠i∧stG xs q=0:=by
 have hb:24≤s.b:=by have hz:=hok.1; unfold SizedR at hz; omega
 unfold appR at ha
 split at ha
 ·rename_i hfit
  injection ha with ha
  injection ha with e1 e2
  injection e2 with e2 e3
  subst e2 e3
  obtain ⟨j,hj⟩:=left_open hok (by omega) hfit
  have hE:=use_zero hok (n:=(K:Int)) (by omega) (by omega) hfit
  obtain ⟨i2,u1,u2,u3,u4,u5,u6,u7,u8,u9,u10,u11⟩:=use_facts hE
  obtain rfl:i=i2:=by omega
  rw[u10,st_set9 u1] at h0
  by_cases e:i=q
  ·rw[if_pos e] at h0
   exact absurd (show (1:Int)=0 from h0) (by decide)
  ·rw[if_neg e] at h0
   exact ⟨fun h=>e h.symm,h0⟩
 ·split at ha
  ·cases ha
  rename_i hnx
  injection ha with ha
  injection ha with e1 e2
  injection e2 with e2 e3
  subst e2 e3
  have hz:sealedX s.b xs=if sealE s.b xs=0 then sealX xs else xs:=rfl
  obtain ⟨z1,z2,z3,z4,z5,z6,z7⟩:=seal_facts hok hz
  have hE:=turn_open hok hz htop (by omega)
  obtain ⟨j2,j1,j22,j3,j4,j5,j6,j7,j8,j9,j10,j11⟩:=open_facts hE
  obtain rfl:i=j2:=by omega
  have hE2:=use_zero j3 (n:=(K:Int)) (by omega) (by omega) (by rw[j9]; omega)
  obtain ⟨i2,u1,u2,u3,u4,u5,u6,u7,u8,u9,u10,u11⟩:=use_facts hE2
  obtain rfl:i=i2:=by omega
  rw[u10,st_set9 u1] at h0
  by_cases e:i=q
  ·rw[if_pos e] at h0
   exact absurd (show (1:Int)=0 from h0) (by decide)
  ·rw[if_neg e,j11,st_set9 j1,if_neg e,(z7 q).1] at h0
   exact ⟨fun h=>e h.symm,h0⟩
end
structure MvM (w0:World) (b1 q:Nat) (W:World) (X:Nat→Prop) (B:StB) (s:Sup) (xs:List Seg) (st:List EntS) (bl:List (List Int)) (rs:Nat→List (Nat × List Int)):Prop where
 sto:StoM2 W X B 8 s xs st bl false
 hist:HistR B.k s xs rs
 zer:∀ i j:Nat,i<4→stG xs i=0→(j:Int)<s.b→strV B.k s i j=noughts 64
 x0:∀ b,b<b1→X b
 b0:w0.heap.size≤b1
 bel:Below w0.heap.size w0 W
 bq:B.q=q
 sab:s.a=4∧s.b=24
 nd:st.Nodup
section
variable {w0:World} {b1 q:Nat} {W W':World} {X:Nat→Prop} {B:StB} {s:Sup} {xs:List Seg} {st:List EntS} {bl:List (List Int)} {rs:Nat→List (Nat × List Int)} {A A2:Option Addr} {m c m2 c2:Nat} {us vs:List Int}
theorem MvM.grow (h:MvM w0 b1 q W X B s xs st bl rs) (hb:Below W.heap.size W W'):MvM w0 b1 q W' (fun b=>X b∨(W.heap.size≤b∧b<W'.heap.size)) B s xs st bl rs :=
 ⟨h.sto.grow hb,h.hist,h.zer,fun b hb=>.inl (h.x0 b hb),h.b0,h.bel.trans (hb.mono h.bel.size),h.bq,h.sab,h.nd⟩
theorem MvM.belK (h:MvM w0 b1 q W X B s xs st bl rs) (hk:Kept X W W'):Below w0.heap.size w0 W' :=
 h.bel.trans (hk.to_below (B:=w0.heap.size) fun b hb=>h.x0 b (nL hb h.b0))
theorem MvM.same {k':Dk} {t':Int} {pe':Nat} (h:MvM w0 b1 q W X B s xs st bl rs) (hk:Kept X W W') (hs:StoM2 W' X { B with t:=t',k:=k',pe:=pe' } 8 s xs st bl false) (hh:k'.held=B.k.held):MvM w0 b1 q W' X { B with t:=t',k:=k',pe:=pe' } s xs st bl rs :=
 ⟨hs,h.hist.held hh,fun i j h1 h2 h3=>by
  have e:strV k' s i j=strV B.k s i j:=strV_held hh _
  exact e.trans (h.zer i j h1 h2 h3),h.x0,h.b0,h.belK hk,h.bq,h.sab,h.nd⟩
theorem MvM.app {k':Dk} {t':Int} {pe' i:Nat} {s1:Sup} {xs1:List Seg} {st1:List EntS} {bl1:List (List Int)} {bs:List Int} (h:MvM w0 b1 q W X B s xs st bl rs) (hk:Kept X W W') (hK:1≤cntOf bs.length∧cntOf bs.length≤17) (ha:appR s xs (cntOf bs.length)=some (i,s1,xs1)) (hs1:s1=s∨s1=genS s) (hn:st1.Nodup)
 (hs:StoM2 W' X { B with t:=t',k:=k',pe:=pe' } 8 s1 (useX xs1 ((cntOf bs.length:Nat):Int)) st1 bl1 false) (hh:HsT B.k s xs k' s1 xs1 (useX xs1 ((cntOf bs.length:Nat):Int)) i bs) :
 ∃ rs',MvM w0 b1 q W' X { B with t:=t',k:=k',pe:=pe' } s1 (useX xs1 ((cntOf bs.length:Nat):Int)) st1 bl1 rs':=by
 obtain ⟨rs',u,_,h2,_⟩:=hh.hist rs h.hist
 have hb:s1.b=s.b:=by rcases hs1 with rfl | rfl <;> rfl
 have ha4:s1.a=s.a:=by rcases hs1 with rfl | rfl <;> rfl
 refine ⟨rs',hs,h2,fun i' j h3 h4 h5=>?_,h.x0,h.b0,h.belK hk,h.bq,by rw[hb,ha4]; exact h.sab,hn⟩
 obtain ⟨h6,h7⟩:=app_st h.sto.log.ok h.sto.log.top hK ha i' h4
 have h8:strV k' s1 i' j=strV B.k s i' j:=hh.secs i' j h6 (by rw[← hb]; exact h5)
 exact h8.trans (h.zer i' j h3 h7 (by rw[← hb]; exact h5))
theorem rec_cntM {k1 f x q1:Int} (hm:May k1 f x q1 us.length vs.length):1≤cntOf (recB k1 f x q1 us vs).length∧cntOf (recB k1 f x q1 us vs).length≤17:=by
 rw[recB_length]
 unfold May at hm
 unfold cntOf
 omega
def MvT (w0:World) (b1 q:Nat) (W:World) (X:Nat→Prop) (pe:Nat) (g:Int) (e:Ending) (W':World):Prop :=
 ∃ er B' s' xs' st' bl' rs',e=.returned (.int .i64 er)∧MvM w0 b1 q W' X B' s' xs' st' bl' rs'∧Kept X W W'∧B'.pe≤pe+17∧s'.g≤g+1
theorem MvM.put (h:MvM w0 b1 q W X B s xs st bl rs) {f x q1:Int} {dy:Bool} (hk:RowI .u8 W X A m us) (hv:RowI .u8 W X A2 m2 vs) (hb:Bytes us) (hbv:Bytes vs) (hnc:A=none→c=0) (hnc2:A2=none→c2=0) (hr:Rng f x q1) (hpe:B.pe≤900000) (hgm:s.g+1≤18446744073709551615) :
 Calls Tryz.prog 19 #[.pointer (some ⟨q,0,none⟩),itmV A m c A2 m2 c2 f x q1 dy] W (MvT w0 b1 q W X B.pe s.g):=by
 obtain rfl:B.q=q:=h.bq
 by_cases hm:May 1 f x q1 m m2
 ·refine (put_s14 (c:=c) (c2:=c2) (dy:=dy) h.sto hk hv hb hbv hnc hnc2 hm hr hpe hgm).mono ?_
  rintro e w1 ⟨hkp,⟨_,rfl,k',hst,hh⟩ | ⟨_,_,rfl,k',hst,hh⟩ | ⟨_,i,s1,ys,t1,k1,hso,hs1,rfl,hst,hhs⟩⟩
  ·exact ⟨6,_,s,xs,st,bl,rs,rfl,h.same hkp hst hh,hkp,Nat.le_add_right _ _,by omega⟩
  ·exact ⟨6,_,s,xs,st,bl,rs,rfl,h.same hkp hst hh,hkp,Nat.le_add_right _ _,by omega⟩
  ·obtain ⟨rs',h9⟩:=h.app hkp (rec_cntM (by rw[hk.1,hv.1]; exact hm)) hso hs1 (nd_put h.nd) hst hhs
   refine ⟨0,_,s1,_,_,_,rs',rfl,h9,hkp,nR _,?_⟩
   rcases hs1 with rfl | rfl
   ·omega
   ·exact Int.le_refl _
 ·refine (put_bad14 B.q A m c A2 m2 c2 f x q1 dy W hm).mono ?_
  rintro e w1 ⟨rfl,hb1⟩
  have hkp:=Kept.of_below (S:=X) hb1 h.sto.lt
  exact ⟨230,B,s,xs,st,bl,rs,rfl,(show MvM w0 b1 B.q w1 X B s xs st bl rs from ⟨h.sto.below hb1,h.hist,h.zer,h.x0,h.b0,h.belK hkp,h.bq,h.sab,h.nd⟩),hkp,Nat.le_add_right _ _,by omega⟩
theorem MvM.kill (h:MvM w0 b1 q W X B s xs st bl rs) {q1:Int} (hk:RowI .u8 W X A m us) (hb:Bytes us) (hr:0≤q1∧q1≤18446744073709551615) (hpe:B.pe≤900000) (hgm:s.g+1≤18446744073709551615) :
 Calls Tryz.prog 26 #[.pointer (some ⟨q,0,none⟩),.slice A m c,.int .u64 q1] W (MvT w0 b1 q W X B.pe s.g):=by
 obtain rfl:B.q=q:=h.bq
 by_cases hm:May 2 0 0 q1 m 0
 ·refine (kill_s14 (c:=c) h.sto hk hb hm ⟨by omega,by omega,by omega,by omega,hr.1,hr.2⟩ hpe hgm).mono ?_
  rintro e w1 ⟨hkp,⟨_,rfl,k',hst,hh⟩ | ⟨i,s1,ys,t1,k1,hso,hs1,rfl,hst,hhs⟩⟩
  ·exact ⟨6,_,s,xs,st,bl,rs,rfl,h.same hkp hst hh,hkp,Nat.le_add_right _ _,by omega⟩
  ·obtain ⟨rs',h9⟩:=h.app hkp (rec_cntM (vs:=[]) (by rw[hk.1]; exact hm)) hso hs1 (nd_out h.nd) hst hhs
   refine ⟨0,_,s1,_,_,_,rs',rfl,h9,hkp,nR _,?_⟩
   rcases hs1 with rfl | rfl
   ·omega
   ·exact Int.le_refl _
 ·refine (kill_bad14 B.q A m c q1 W hm).mono ?_
  rintro e w1 ⟨rfl,hb1⟩
  have hkp:=Kept.of_below (S:=X) hb1 h.sto.lt
  exact ⟨160,B,s,xs,st,bl,rs,rfl,(show MvM w0 b1 B.q w1 X B s xs st bl rs from ⟨h.sto.below hb1,h.hist,h.zer,h.x0,h.b0,h.belK hkp,h.bq,h.sab,h.nd⟩),hkp,Nat.le_add_right _ _,by omega⟩
theorem MvM.flush (h:MvM w0 b1 q W X B s xs st bl rs) (q1:Int) (hq:q1≤18446744073709551615) (hpe:B.pe≤900000) :
 Calls Tryz.prog 34 #[.pointer (some ⟨q,0,none⟩),.int .u64 q1] W (MvT w0 b1 q W X B.pe s.g):=by
 obtain rfl:B.q=q:=h.bq
 refine (flush_s14 h.sto hpe q1 hq).mono ?_
 rintro e w1 ⟨rfl,hkp,⟨hle,hst⟩ | ⟨hlt,hst⟩⟩
 ·exact ⟨0,B,s,xs,st,bl,rs,rfl,(show MvM w0 b1 B.q w1 X B s xs st bl rs from ⟨hst,h.hist,h.zer,h.x0,h.b0,h.belK hkp,h.bq,h.sab,h.nd⟩),hkp,Nat.le_add_right _ _,by omega⟩
 ·have hg:=h.sto.log.good
  refine ⟨0,{ B with t:=nxt B.t,k:=flK B.k s B.t q1,pe:=B.pe },flS s q1,xs,st,bl,rs,rfl,⟨hst,h.hist.known (s':=flS s q1) rfl (Int.le_refl _) (fun i j _=>fl_V hg i j) h.sto.log.ok,fun i j h1 h2 h3=>?_,h.x0,h.b0,h.belK hkp,h.bq,h.sab,h.nd⟩,hkp,Nat.le_add_right _ _,by show s.g≤s.g+1; omega⟩
  have h3':(j:Int)<s.b:=h3
  exact (fl_V hg i j).trans (h.zer i j h1 h2 h3')
end
end
section
theorem scanL_len14 (xss:List (List Int)) (gen:Int):∀ f at_,(scanL xss gen f at_).length≤f
 | 0,_=>by simp[scanL]
 | f+1,at_=>by
  rw[scanL]
  split
  ·rw[List.length_cons]; exact Nat.succ_le_succ (scanL_len14 xss gen f _)
  ·simp
theorem begun_nought14 (i:Nat):begunG (noughts 64) i=0:=by
 unfold begunG
 rw[if_neg (fun h=>by have:=h.1; rw[noughts_not] at this; cases this)]
section
variable {w0:World} {b1 q:Nat} {W W':World} {X:Nat→Prop} {B:StB} {s:Sup} {xs:List Seg} {st:List EntS} {bl:List (List Int)} {rs:Nat→List (Nat × List Int)} {A A2:Option Addr} {m c m2 c2:Nat} {us vs:List Int}
theorem LgM.gen14 {w:World} {l p d n pe:Nat} {t:Int} {k:Dk} (h:LgM w X l p d n s t k xs pe) {i:Nat} (h2:i<xs.length) (h0:stG xs i≠0):1≤genG xs i∧genG xs i≤18446744073709551615:=by
 have h9:=h.top
 have h8:=top_max h2 h0
 have h7:=(may_live (may_at h.ok.2.1 h2) h0).2.1
 have h6:=h.sin
 simp only[Sup.In,InS] at h6
 have:genG xs i=(xs.getD i seg0).2.1:=rfl
 omega
theorem MvM.len (h:MvM w0 b1 q W X B s xs st bl rs):xs.length=4:=by
 have:=h.sto.log.dims
 rw[h.sab.1] at this
 omega
theorem MvM.get (h:MvM w0 b1 q W X B s xs st bl rs) (hk:RowI .u8 W X A m us) (hb:Bytes us) (hm:m≤1000000) :
 Calls Tryz.prog 23 #[.pointer (some ⟨q,0,none⟩),.slice A m c,.int .u32 0] W fun e w'=>∃ Y k',(∀ b,X b→Y b)∧MvM w0 b1 q w' Y { B with t:=B.t,k:=k',pe:=B.pe } s xs st bl rs∧k'.held=B.k.held∧Kept X W w' ∧
  ((getS st s.f 0 us=none∧e=.returned (.tuple #[.agg itm0C,.int .i64 4])) ∨
   ∃ bs b1 b2,getS st s.f 0 us=some bs∧e=.returned (.tuple #[.agg (itmC bs b1 b2),.int .i64 0])∧Y b1∧Y b2∧ArrU w' b1 (keyOf bs)∧ArrU w' b2 (valOf bs)):=by
 obtain rfl:B.q=q:=h.bq
 refine (get_s (c:=c) h.sto hk hb hm 0).mono ?_
 rintro e w' ⟨⟨k',hs,hh⟩,hkp,hc⟩
 rcases hc with ⟨h1,h2⟩ | ⟨bs,a1,a2,h1,h2,h3,h4,h5,h6,h7,k2,hl,hh2⟩
 ·exact ⟨X,k',fun b hb=>hb,h.same hkp hs hh,hh,hkp,.inl ⟨h1,h2⟩⟩
 ·have hst:StoM2 w' (fun b=>X b∨b=a1∨b=a2) { B with t:=B.t,k:=k2,pe:=B.pe } 8 s xs st bl false :=
   ⟨hs.blk,hs.fm,hs.num,hs.ix,hl.less (fun b hb=>by
    rcases hb with (hb | hb) | hb
    ·exact .inl (.inl hb)
    ·exact .inr hb
    ·exact .inl (.inr hb)),h.sto.inv.held hh2,fun b hb hx=>by
    have h8:=h.sto.own_lt hb
    rcases hx with hx | rfl | rfl
    ·exact h.sto.off b hb hx
    ·omega
    ·omega,fun b hb=>by
    rcases hb with hb | rfl | rfl
    ·exact hs.lt b hb
    ·exact Blk.lt h6
    ·exact Blk.lt h7⟩
  have h9:=h.same hkp hs hh
  exact ⟨_,k2,fun b hb=>.inl hb,⟨hst,h.hist.held hh2,fun i j g1 g2 g3=>(show strV k2 s i j=strV B.k s i j from strV_held hh2 _).trans (h.zer i j g1 g2 g3),fun b hb=>.inl (h.x0 b hb),h.b0,h9.bel,h.bq,h.sab,h.nd⟩,hh2,hkp,.inr ⟨bs,a1,a2,h1,h2,.inr (.inl rfl),.inr (.inr rfl),h6,h7⟩⟩
theorem MvM.told (h:MvM w0 b1 q W X B s xs st bl rs) {seg:Nat} (hs:seg<4) {ts:List Tl} {gen:Int} (hgen:gen=begunG (ldV (secsAt (strV B.k s seg) 0 s.b.toNat) 0) seg) (h0:gen=0→ts=[])
 (h1:gen≠0→ts.map Tl.two=scanL (secsAt (strV B.k s seg) 0 s.b.toNat) gen (secsAt (strV B.k s seg) 0 s.b.toNat).length 1):(∀ t,t∈ts→AtR B.k s xs ((seg:Int),gen,(t.at_:Int)) t.bs)∧ts.length≤24:=by
 have hl:=h.len
 have hb:=h.sab.2
 by_cases e0:gen=0
 ·rw[h0 e0]
  exact ⟨fun t ht=>(by cases ht),by simp⟩
 ·have h2:=h1 e0
  refine ⟨fun t ht=>?_,?_⟩
  ·by_cases hst:stG xs seg=0
   ·exfalso
    refine e0 ?_
    rw[hgen,show ldV (secsAt (strV B.k s seg) 0 s.b.toNat) 0=noughts 64 from ?_,begun_nought14]
    unfold ldV
    rw[if_pos (by rw[secsAt_length,hb]; decide)]
    unfold secsAt
    have e1:(List.map (fun i=>strV B.k s seg (0+i)) (List.range s.b.toNat)).getD 0 []=strV B.k s seg 0:=by
     simp[List.getD,List.getElem?_map,List.getElem?_range (show 0<s.b.toNat by rw[hb]; decide)]
    rw[e1]
    exact h.zer seg 0 hs hst (by rw[hb]; decide)
   ·have hg:=h.sto.log.gen14 (by rw[hl]; exact hs) hst
    obtain ⟨g1,g2,g3⟩:=h.hist.scan h.sto.log.ok (by rw[hl]; exact hs) hst hg
    rw[g1] at hgen
    rw[hgen,g2] at h2
    have h3:t.two∈rs seg:=by rw[← h2]; exact List.mem_map_of_mem ht
    have h4:=h.hist.at (by rw[hl]; exact hs) hst h3
    rw[hgen]
    exact h4
  ·have h3:=congrArg List.length h2
   rw[List.length_map] at h3
   rw[h3]
   refine nT (scanL_len14 _ _ _ _) ?_
   rw[secsAt_length,hb]
   decide
theorem MvM.scan (h:MvM w0 b1 q W X B s xs st bl rs) {seg:Nat} (hs:seg<4) :
 Calls Tryz.prog 10 #[.pointer (some ⟨B.p,0,none⟩),.int .i64 seg] W fun e w'=>∃ k' A c ts gen used m',e=.returned (.tuple #[.agg (scanC gen used (.slice A ts.length c)),.int .i64 0])∧W.heap.size≤m' ∧
  MvM w0 b1 q w' (fun b=>X b∨(m'≤b∧b<w'.heap.size)) { B with t:=B.t,k:=k',pe:=B.pe } s xs st bl rs∧Kept X W w'∧ToldS w' m' seg gen A c ts∧(∀ t,t∈ts→AtR k' s xs ((seg:Int),gen,(t.at_:Int)) t.bs)∧ts.length≤24:=by
 refine (scan_lg h.sto.log h.sto.ylt seg (by rw[h.sab.1]; omega)).mono ?_
 rintro e w' ⟨k',A5,c5,ts,gen,used,m',rfl,hm',hl,hh,hk,hgen,h0,h1,htold⟩
 obtain ⟨g1,g2⟩:=h.told hs hgen (fun e0=>(h0 e0).2) (fun e0=>(h1 e0).2)
 have hkx:Kept X W w':=hk.mono (fun b hb=>.inl hb)
 have hst:StoM2 w' (fun b=>X b∨(m'≤b∧b<w'.heap.size)) { B with t:=B.t,k:=k',pe:=B.pe } 8 s xs st bl false :=
  h.sto.logTo2 hk (fun b hb=>.inr hb) (fun b hb=>.inl hb) (fun b hb hy=>by
   rcases hy with hy | hy
   ·exact h.sto.off b hb hy
   ·have:=h.sto.own_lt hb; omega) (fun b hb=>by
   rcases hb with hb | hb
   ·exact nL (h.sto.lt b hb) hk.size
   ·exact hb.2) (hl.less (fun b hb=>by
   rcases hb with (hb | hb) | hb
   ·exact .inl (.inl hb)
   ·exact .inr hb
   ·exact .inl (.inr hb))) rfl (h.sto.inv.held hh)
 refine ⟨k',A5,c5,ts,gen,used,m',rfl,hm',⟨hst,h.hist.held hh,fun i j h2 h3 h4=>?_,fun b hb=>.inl (h.x0 b hb),h.b0,h.belK hkx,h.bq,h.sab,h.nd⟩,hkx,htold,fun t ht=>(g1 t ht).held hh,g2⟩
 have e:strV k' s i j=strV B.k s i j:=strV_held hh _
 exact e.trans (h.zer i j h2 h3 h4)
def MvL (w0:World) (b1 q:Nat) (W:World) (X:Nat→Prop) (B:StB) (s:Sup) (xs:List Seg) (st:List EntS) (a0:Int × Int × Int) (bs:List Int) (e:Ending) (w':World):Prop :=
 ∃ er B' s' xs' st' bl' rs',e=.returned (.int .i64 er)∧MvM w0 b1 q w' X B' s' xs' st' bl' rs'∧Kept X W w'∧B'.pe≤B.pe+17∧s'.g≤s.g+1∧s'.f=s.f∧(∀ us,(hasS st' us).map Prod.snd=(hasS st us).map Prod.snd)∧st'.length=st.length ∧
  (∀ a bs',AtR B.k s xs a bs'→AtR B'.k s' xs' a bs')∧(er=6∨er=0∧liveS st' s'.f a0.1 a0.2.1 a0.2.2 (kindOf bs) (seqOf bs) (keyOf bs)=false)
theorem MvM.move (h:MvM w0 b1 q W X B s xs st bl rs) {sg g sc:Int} {bs:List Int} (hat:AtR B.k s xs (sg,g,sc) bs) (hk:RowI .u8 W X A m (keyOf bs)) (hv:RowI .u8 W X A2 m2 (valOf bs)) (hnc:A=none→c=0) (hnc2:A2=none→c2=0)
 (hl:liveS st s.f sg g sc (kindOf bs) (seqOf bs) (keyOf bs)=true) (hpe:B.pe≤900000) (hgm:s.g+1≤18446744073709551615) :
 Calls Tryz.prog 37 #[.pointer (some ⟨q,0,none⟩),.agg #[.int .i64 sg,.int .u64 g,.int .i64 sc,.int .i64 (kindOf bs),.int .u32 (flagsOf bs),.int .u32 (expOf bs),.int .u64 (seqOf bs),.slice A m c,.slice A2 m2 c2]] W (MvL w0 b1 q W X B s xs st (sg,g,sc) bs):=by
 obtain rfl:B.q=q:=h.bq
 obtain ⟨h1,h2,p,hp,hpa⟩:=live_entry hl
 have hlen:=h.len
 have hpb:p.2=bs:=AtR.same (hpa▸h.sto.inv.here p hp) hat h.sto.log.ok (fun i hi hu=>h.sto.log.gen14 hi (fun e=>hu (used_free h.sto.log.ok hi e)))
 obtain ⟨pa,pb⟩:=p
 dsimp only at hpa hpb
 subst hpa hpb
 have hrok:=hat.rok
 have hkl:=hk.1
 have hvl:=hv.1
 have hrec:recB 1 (flagsOf pb) (expOf pb) (seqOf pb) (keyOf pb) (valOf pb)=pb:=by
  have h3:=rec_back hrok.byt (Nat.le_of_eq hrok.need)
  rw[hrok.need,List.take_length,h1] at h3
  exact h3
 have hbk:Bytes (keyOf pb)∧Bytes (valOf pb):=⟨by unfold keyOf; exact bytes_part hrok.byt 21 _,by unfold valOf; exact bytes_part hrok.byt _ _⟩
 have hmay:May 1 (flagsOf pb) (expOf pb) (seqOf pb) m m2:=by
  have h3:=hrok.may
  unfold MayB at h3
  have hl8:=hrok.len
  have k8:(keyOf pb).length≤pb.length:=by unfold keyOf; simp; omega
  have v8:(valOf pb).length≤pb.length:=by unfold valOf; simp; omega
  have h4:klenOf pb=m:=by
   have h5:=rec_klen (k:=1) (f:=flagsOf pb) (x:=expOf pb) (s:=seqOf pb) (xs:=keyOf pb) (ys:=valOf pb) (zs:=[]) (by omega)
   rw[List.append_nil,hrec,hkl] at h5
   exact h5
  have h5:vlenOf pb=m2:=by
   have h6:=rec_vlen (k:=1) (f:=flagsOf pb) (x:=expOf pb) (s:=seqOf pb) (xs:=keyOf pb) (ys:=valOf pb) (zs:=[]) (by omega)
   rw[List.append_nil,hrec,hvl] at h6
   exact h6
  rw[h1,h4,h5] at h3
  exact h3
 rw[h1]
 refine (move_s14 (p:=((sg,g,sc),pb)) (c:=c) (c2:=c2) h.sto hp hrec hk hv hbk.1 hbk.2 hnc hnc2 hmay (rng_of hrok.byt) h2 hpe hgm).mono ?_
 rintro e w1 ⟨hkp,⟨_,rfl,k',hst,hh⟩ | ⟨i,s1,ys,t1,k1,hso,hs1,rfl,hst,hhs,hfr⟩⟩
 ·exact ⟨6,_,s,xs,st,bl,rs,rfl,h.same hkp hst hh,hkp,Nat.le_add_right _ _,by omega,rfl,fun _=>rfl,rfl,fun a bs' ha=>ha.held hh,.inl rfl⟩
 ·obtain ⟨rs',h9⟩:=h.app (bs:=pb) hkp (by have h9:22≤pb.length∧pb.length≤783:=hrok.len; unfold cntOf; omega) hso hs1 (nd_put h.nd) hst hhs
  refine ⟨0,_,s1,_,_,_,rs',rfl,h9,hkp,nR _,?_,?_,mv_has h.sto.inv hp,?_,hhs.ats,.inr ⟨rfl,?_⟩⟩
  ·rcases hs1 with rfl | rfl
   ·omega
   ·exact Int.le_refl _
  ·rcases hs1 with rfl | rfl <;> rfl
  ·rw[List.length_append]
   exact mv_len h.sto.inv.key h.nd hp
  ·exact mv_live h.sto.inv hp hfr
end
end
section
attribute [local go_sem] Oper.semAt_some
section
variable {w:World} {X:Nat→Prop} {B:StB} {slots:Nat} {s:Sup} {xs:List Seg} {st:List EntS} {bl:List (List Int)} {u:Bool}
theorem slog_ok (h:StoM2 w X B slots s xs st bl u):Calls Tryz.prog 35 #[.pointer (some ⟨B.q,0,none⟩)] w fun e w'=>e=.returned (.pointer (some ⟨B.l,0,none⟩))∧w'=w:=by
 obtain ⟨c0,c1,_,_⟩:=h.cells
 clear h
 go_enter Tryz.func35,Tryz.ntmps35
 go_wp2_with fail
 go_ret
 exact ⟨rfl,rfl⟩
end
theorem logK_held (j:Nat) (hj:2≤j) (hn:j<98):logK.held.getD j []=noughts 64:=by
 unfold logK
 rw[(((Good.fresh 98).put _ _).put _ _).held_sync,((Good.fresh 98).put _ _).held_put,(Good.fresh 98).held_put]
 simp only[List.getD,List.getElem?_set]
 rw[if_neg (by omega),if_neg (by omega)]
 have:(Dk.fresh 98).held=List.replicate 98 (noughts 64):=by rfl
 rw[this,List.getElem?_replicate,if_pos hn]
 rfl
theorem logK_sec (i j:Nat) (hi:i<4) (hj:(j:Int)<24):strV logK wkS i j=noughts 64:=by
 unfold strV
 rw[if_pos (show (j:Int)<wkS.b from hj)]
 show logK.held.getD (2+(i:Int)*24+j).toNat []=noughts 64
 exact logK_held _ (by omega) (by omega)
theorem MvM.start {w w1 w4:World} {B:StB} {bl:List (List Int)} (hs:StoM2 w4 (fun b=>b<w1.heap.size) B 8 wkS wkX [] bl false) (hk:B.k=logK) (hb:Below w.heap.size w w4) (h1:w.heap.size≤w1.heap.size):MvM w w1.heap.size B.q w4 (fun b=>b<w1.heap.size) B wkS wkX [] bl (fun _=>[]):=by
 have hst:∀ i,stG wkX i=0:=fun i=>by
  rcases i with _ | _ | _ | _ | i <;> rfl
 have hV:∀ i j:Nat,i<4→(j:Int)<24→strV B.k wkS i j=noughts 64:=fun i j h1 h2=>by rw[hk]; exact logK_sec i j h1 h2
 exact ⟨hs,HistR.start (fun i _=>hst i) (fun i j h1 h2=>hV i j h1 h2),fun i j h1 _ h3=>hV i j h1 h3,fun b hb=>hb,h1,hb,rfl,⟨rfl,rfl⟩,List.nodup_nil⟩
section
variable {w0:World} {b1 q:Nat} {W W':World} {X Y:Nat→Prop} {B:StB} {s:Sup} {xs:List Seg} {st st':List EntS} {bl:List (List Int)} {rs:Nat→List (Nat × List Int)} {ga:Nat} {g g':List Int→Option (List Int)}
theorem MvM.write (h:MvM w0 b1 q W X B s xs st bl rs) (hk:Kept (fun b=>b≠ga) W W') (hx:X ga) (hga:w0.heap.size≤ga):MvM w0 b1 q W' X B s xs st bl rs :=
 ⟨h.sto.offX hk (fun b hb hn e=>hn (e▸hx)),h.hist,h.zer,h.x0,h.b0,h.bel.trans (hk.to_below fun b hb e=>by omega),h.bq,h.sab,h.nd⟩
theorem get_has {f:Int} {us:List Int} (h:(hasS st' us).map Prod.snd=(hasS st us).map Prod.snd):getS st' f 0 us=getS st f 0 us:=by
 unfold getS
 cases h1:hasS st' us <;> cases h2:hasS st us <;> rw[h1,h2] at h <;> simp at h ⊢
 rw[h]
def ItmX (W:World) (X:Nat→Prop) (o:Option (List Int)) (it:Array Value):Prop :=
 (o=none∧it=itm0C)∨∃ bs a1 a2,o=some bs∧it=itmC bs a1 a2∧X a1∧X a2∧ArrU W a1 (keyOf bs)∧ArrU W a2 (valOf bs)
theorem ItmX.kept {o:Option (List Int)} {it:Array Value} (h:ItmX W X o it) (hk:Kept X W W') (hx:∀ b,X b→Y b):ItmX W' Y o it:=by
 rcases h with h | ⟨bs,a1,a2,h1,h2,h3,h4,h5,h6⟩
 ·exact .inl h
 ·exact .inr ⟨bs,a1,a2,h1,h2,hx _ h3,hx _ h4,Blk.kept h5 hk h3,Blk.kept h6 hk h4⟩
def WasM (W:World) (X:Nat→Prop) (ga:Nat) (g:List Int→Option (List Int)) (j:Nat):Prop :=
 X ga∧∃ F:List Value,Blk W ga 86 F.toArray∧F.length=48∧∀ i:Nat,i<j→∃ it:Array Value,(F.drop (i*6)).take 6=it.toList∧ItmX W X (g (keyL i)) it
theorem WasM.kept {j:Nat} (h:WasM W X ga g j) (hk:Kept X W W') (hx:∀ b,X b→Y b):WasM W' Y ga g j:=by
 obtain ⟨h1,F,h2,h3,h4⟩:=h
 refine ⟨hx _ h1,F,h2.kept hk h1,h3,fun i hi=>?_⟩
 obtain ⟨it,h5,h6⟩:=h4 i hi
 exact ⟨it,h5,h6.kept hk hx⟩
theorem part_low {F cs:List Value} {j i:Nat} (h:i<j) (hl:j*6+6≤F.length):((F.take (j*6)++cs++F.drop (j*6+6)).drop (i*6)).take 6=(F.drop (i*6)).take 6:=by
 apply List.ext_getElem?
 intro n
 by_cases hn:n<6
 ·rw[List.getElem?_take,List.getElem?_take,if_pos hn,if_pos hn,List.getElem?_drop,List.getElem?_drop,List.append_assoc,List.getElem?_append_left (by rw[List.length_take]; omega),List.getElem?_take,if_pos (by omega)]
 ·rw[List.getElem?_take,List.getElem?_take,if_neg hn,if_neg hn]
theorem part_at {F cs:List Value} {j:Nat} (hc:cs.length=6) (hl:j*6+6≤F.length):((F.take (j*6)++cs++F.drop (j*6+6)).drop (j*6)).take 6=cs:=by
 rw[List.append_assoc,List.drop_left' (by rw[List.length_take]; omega),List.take_left' hc]
theorem ItmX.size {o:Option (List Int)} {it:Array Value} (h:ItmX W X o it):it.toList.length=6∧∀ v∈it.toList,v.oneCell'=true:=by
 rcases h with ⟨_,rfl⟩ | ⟨bs,a1,a2,_,rfl,_⟩
 ·exact ⟨rfl,by simp[Value.oneCell']⟩
 ·exact ⟨rfl,by simp[Value.oneCell']⟩
theorem arr_ne14 {a:Nat} {us:List Int} {cs:Array Value} (h1:ArrU W a us) (h2:Blk W ga 86 cs):a≠ga:=by
 rintro rfl
 have h3:=h1.symm.trans h2
 injection h3 with h4
 cases h4
theorem ItmX.write {o:Option (List Int)} {it cs cs':Array Value} (h:ItmX W X o it) (hB:Blk W ga 86 cs):ItmX (W.setRow ga cs') X o it:=by
 have hk:Kept (fun b=>b≠ga) W (W.setRow ga cs'):=(Kept.refl _ W).setRow (g:=ga) (fun h=>h rfl) cs'
 rcases h with h | ⟨bs,a1,a2,h1,h2,h3,h4,h5,h6⟩
 ·exact .inl h
 ·exact .inr ⟨bs,a1,a2,h1,h2,h3,h4,Blk.kept h5 hk (arr_ne14 h5 hB),Blk.kept h6 hk (arr_ne14 h6 hB)⟩
theorem WasM.step {j:Nat} {it:Array Value} {F:List Value} (hx:X ga) (hB:Blk W ga 86 F.toArray) (hF:F.length=48) (hj:j<8) (ho:∀ i:Nat,i<j→∃ it:Array Value,(F.drop (i*6)).take 6=it.toList∧ItmX W X (g (keyL i)) it) (hi:ItmX W X (g (keyL j)) it) :
 WasM (W.setRow ga (F.take (j*6)++it.toList++F.drop (j*6+6)).toArray) X ga g (j+1):=by
 have hs:=hi.size.1
 refine ⟨hx,_,setRow_heap _ _ _ _ _ _ hB,by simp only[List.length_append,List.length_take,List.length_drop]; omega,fun i h=>?_⟩
 by_cases e:i=j
 ·subst e
  exact ⟨it,part_at hs (by omega),hi.write hB⟩
 ·obtain ⟨it2,h5,h6⟩:=ho i (by omega)
  exact ⟨it2,(part_low (by omega) (by omega)).trans h5,h6.write hB⟩
def TlM (W:World) (X:Nat→Prop) (seg:Nat) (gen:Int) (A:Option Addr) (ts:List Tl):Prop :=
 PlM.RowE W X A ts.length (ts.map (plV seg gen))∧∀ t,t∈ts→X t.b1∧X t.b2∧ArrU W t.b1 (keyOf t.bs)∧ArrU W t.b2 (valOf t.bs)
theorem TlM.kept {seg:Nat} {gen:Int} {A:Option Addr} {ts:List Tl} (h:TlM W X seg gen A ts) (hk:Kept X W W') (hx:∀ b,X b→Y b):TlM W' Y seg gen A ts :=
 ⟨⟨h.1.1,fun hn=>by
  obtain ⟨b,off,e,h1,h2⟩:=h.1.2 hn
  exact ⟨b,off,e,hx b h1,fun j hj i v hv=>(hk.cell (p:=⟨b,_,none⟩) h1).trans (h2 j hj i v hv)⟩⟩,fun t ht=>by
  obtain ⟨h1,h2,h3,h4⟩:=h.2 t ht
  exact ⟨hx _ h1,hx _ h2,Blk.kept h3 hk h1,Blk.kept h4 hk h2⟩⟩
theorem ToldS.tl {m seg:Nat} {gen:Int} {A:Option Addr} {c:Nat} {ts:List Tl} (h:ToldS W m seg gen A c ts) (hx:∀ b,m≤b→b<W.heap.size→X b):TlM W X seg gen A ts :=
 ⟨⟨h.row.1,fun hn=>by
  obtain ⟨b,off,e,h1,h2⟩:=h.row.2 hn
  exact ⟨b,off,e,hx b h1.1 h1.2,h2⟩⟩,fun t ht=>by
  obtain ⟨h1,h2,h3,h4⟩:=h.ent t ht
  exact ⟨hx _ h1 (Blk.lt h3),hx _ h2 (Blk.lt h4),h3,h4⟩⟩
theorem rok_klen {bs:List Int} (h:RecOk bs):(keyOf bs).length=klenOf bs∧(valOf bs).length=vlenOf bs∧klenOf bs≤783∧Bytes (keyOf bs)∧Bytes (valOf bs):=by
 have h1:=h.need
 have h2:=h.len
 unfold needOf at h1
 refine ⟨?_,?_,by omega,by unfold keyOf; exact bytes_part h.byt 21 _,by unfold valOf; exact bytes_part h.byt _ _⟩
 ·unfold keyOf; rw[List.length_take,List.length_drop]; omega
 ·unfold valOf; rw[List.length_take,List.length_drop]; omega
theorem MvM.get_rok (h:MvM w0 b1 q W X B s xs st bl rs) {us bs:List Int} (hg:getS st s.f 0 us=some bs):RecOk bs∧keyOf bs=us:=by
 unfold getS at hg
 cases e:hasS st us with
 | none=>rw[e] at hg; cases hg
 | some p =>
  rw[e] at hg
  dsimp only at hg
  split at hg
  ·cases hg
  ·have h9:=Option.some.inj hg
   rw[← h9]
   unfold hasS at e
   exact ⟨(h.sto.inv.here p (List.mem_of_find?_eq_some e)).rok,by simpa using List.find?_some e⟩
def MvH (w0:World) (b1 q i ga seg:Nat) (gen:Int) (A:Option Addr) (ts:List Tl) (n0 j:Nat) (W:World):Prop :=
 ∃ X B s xs st bl rs,MvM w0 b1 q W X B s xs st bl rs∧(B.pe≤17*(i+j)∧s.g≤i+j∧st.length=n0∧w0.heap.size≤ga)∧WasM W X ga (getS st s.f 0) 8∧TlM W X seg gen A ts∧∀ t,t∈ts→AtR B.k s xs ((seg:Int),gen,(t.at_:Int)) t.bs
theorem MvH.grow {i seg n0 j:Nat} {gen:Int} {A:Option Addr} {ts:List Tl} (h:MvH w0 b1 q i ga seg gen A ts n0 j W) (hb:Below W.heap.size W W'):MvH w0 b1 q i ga seg gen A ts n0 j W':=by
 obtain ⟨X,B,s,xs,st,bl,rs,h1,h2,h3,h4,h5⟩:=h
 have hk:Kept X W W':=Kept.of_below hb h1.sto.lt
 exact ⟨_,B,s,xs,st,bl,rs,h1.grow hb,h2,h3.kept hk (fun b h=>.inl h),h4.kept hk (fun b h=>.inl h),h5⟩
theorem MvH.next {i seg n0 j:Nat} {gen:Int} {A:Option Addr} {ts:List Tl} (h:MvH w0 b1 q i ga seg gen A ts n0 j W):MvH w0 b1 q i ga seg gen A ts n0 (j+1) W:=by
 obtain ⟨X,B,s,xs,st,bl,rs,h1,h2,h3⟩:=h
 exact ⟨X,B,s,xs,st,bl,rs,h1,⟨by omega,by omega,h2.2.2⟩,h3⟩
def MvF (w0:World) (b1 q ga n0:Nat) (W:World):Prop :=
 ∃ X B s xs st bl rs,MvM w0 b1 q W X B s xs st bl rs∧(st.length=n0∧w0.heap.size≤ga)∧WasM W X ga (getS st s.f 0) 8
theorem MvF.grow {n0:Nat} (h:MvF w0 b1 q ga n0 W) (hb:Below W.heap.size W W'):MvF w0 b1 q ga n0 W':=by
 obtain ⟨X,B,s,xs,st,bl,rs,h1,h2,h3⟩:=h
 exact ⟨_,B,s,xs,st,bl,rs,h1.grow hb,h2,h3.kept (Kept.of_below hb h1.sto.lt) (fun b h=>.inl h)⟩
theorem was_range {F:List Value} {it:Array Value} {j:Nat} (hB:Blk W ga 86 F.toArray) (h:(F.drop (j*6)).take 6=it.toList):W.rangeAt ga (j*6) it.toList:=fun i v hv=>by
 rw[← h,List.getElem?_take] at hv
 split at hv
 ·rw[List.getElem?_drop] at hv
  exact (hB.cell (j*6+i)).trans (by simpa using hv)
 ·cases hv
theorem mid_runs {P:Program} {o:Oper} {a:Act} (x:Operand) (ty:TypeId) (ho:o.op=.load ty x) (b off:Nat) (hx:a.eval x=.pointer (some ⟨b,off,none⟩))
 (cs:List Value) (d:TypeDesc) (hu:P.underlying ty=some d) (hd:d.isRow=true) (hi:(P.info? ty).map (·.size)=some cs.length) (hc:W.rangeAt b off cs) :
 (execOp a.eval o).run P W=.ok (.value (.agg cs.toArray)) W:=by
 have hr:=run_loadAt_mid (P:=P) W b off ty cs d hc hu hd hi
 unfold execOp
 simp only[ho,hx,Sem.run_bind,hr,Result.andThen_ok,Sem.run_pure]
theorem kS_ways (a:Int):∃ seg:Nat,seg<4∧IntKind.u64.wrap a=a % 18446744073709551616∧(a % 18446744073709551616).tmod 4=(seg:Int)∧IntKind.i64.wrap (seg:Int)=(seg:Int):=by
 refine ⟨(a % 18446744073709551616 % 4).toNat,by omega,IntKind.wrap_u64 a,?_,?_⟩
 ·rw[Int.tmod_eq_emod_of_nonneg (by omega)]; omega
 ·rw[IntKind.wrap_i64]; omega
end
end
end Go.Proofs.YtdkbpchmnhbhcaaGreat
namespace Go.Proofs.YtdkbpchmnhbhcaaGreat.OpM
open Go.RowKit
open Go.Proofs.YtdkbpchmnhbhcaaGreat
structure Op6 where
 kd:Int
 ky:Int
 sz:Int
 pl:Int
 q:Int
 x:Int
abbrev ent0:Op6:=⟨0,0,0,0,0,0⟩
abbrev entV (e:Op6):List Value:=[.int .i64 e.kd,.int .i64 e.ky,.int .i64 e.sz,.int .i64 e.pl,.int .u64 e.q,.int .u32 e.x]
abbrev RowE:=RowQ entV 6 ent0
def flatG (L:List Op6):List Value:=L.flatMap entV
theorem flatG_length (L:List Op6):(flatG L).length=L.length*6:=by
 induction L with
 | nil=>rfl
 | cons x r ih =>
  simp only[flatG,List.flatMap_cons,List.length_append,List.length_cons] at *
  rw[ih]
  simp only[entV,List.length_cons,List.length_nil]
  omega
theorem flatG_get:∀ (L:List Op6) (t:Nat),t<L.length*6→(flatG L)[t]? = (entV (L.getD (t / 6) ent0))[t % 6]?
 | [],t,h=>by simp at h
 | y :: L, t, h => by
  unfold flatG
  rw[List.flatMap_cons]
  by_cases h4:t<6
  ·rw[List.getElem?_append_left (by simpa using h4)]
   rw[show t / 6=0 by omega,show t % 6=t by omega]
   rfl
  ·have e:t-(entV y).length=t-6:=by simp
   rw[List.getElem?_append_right (by simp; omega),e]
   have ih:=flatG_get L (t-6) (by simp at h; omega)
   unfold flatG at ih
   rw[ih,show t / 6=(t-6) / 6+1 by omega,show t % 6=(t-6) % 6 by omega]
   rfl
def ArrS (w:World) (g:Nat) (L:List Op6):Prop:=Blk w g 74 (flatG L).toArray
theorem row_of_flat {w:World} {g:Nat} {t:TypeId} {L:List Op6} {X:List Value} (h:Blk w g t (flatG L++X).toArray) {S:Nat→Prop} (hS:S g) {n:Nat} (hn:L.length=n):RowE w S (some ⟨g,0,none⟩) n L :=
 ⟨hn,fun _=>⟨g,0,rfl,hS,fun i hi j v hv=>by
  have hj:j<6:=by have:=(List.getElem?_eq_some_iff.1 hv).1; simpa using this
  show w.cell? ⟨g,0+i*6+j,none⟩=some v
  rw[h.cell,Nat.zero_add]
  have hlt:i*6+j<(flatG L).length:=by rw[flatG_length]; omega
  rw[List.getElem?_toArray,List.getElem?_append_left hlt,flatG_get L _ (by rw[flatG_length] at hlt; exact hlt),show (i*6+j) / 6=i by omega,show (i*6+j) % 6=j by omega]
  exact hv⟩⟩
theorem ArrS.row {w:World} {g:Nat} {L:List Op6} (h:ArrS w g L) {S:Nat→Prop} (hS:S g) {n:Nat} (hn:L.length=n):RowE w S (some ⟨g,0,none⟩) n L :=
 row_of_flat (X:=[]) (by simpa [ArrS] using h) hS hn
theorem ArrS.setRow {w:World} {g:Nat} {L:List Op6} (h:ArrS w g L) (M:List Op6):ArrS (w.setRow g (flatG M).toArray) g M:=setRow_heap w g _ _ _ _ h
theorem ArrS.alloc {w:World} {g:Nat} {L:List Op6} (h:ArrS w g L) (o:Obj):ArrS (w.alloc o) g L:=Blk.alloc h o
theorem ArrS.below {w w':World} {g B:Nat} {L:List Op6} (h:ArrS w g L) (hb:Below B w w') (hg:g<B):ArrS w' g L:=Blk.below h hb hg
end Go.Proofs.YtdkbpchmnhbhcaaGreat.OpM

namespace Go.Proofs.YtdkbpchmnhbhcaaGreat
open Go.RowKit
section
open Go.RowKit Go.ChangeShapes Go.WideShapes Go.Deep Go.Joins
def Op14In (o:OpM.Op6):Prop:=(0≤o.q∧o.q≤18446744073709551615)∧0≤o.x∧o.x≤4294967295
structure IsOps14 (w:World) (A:Option Addr) (n c:Nat) (z:List OpM.Op6):Prop where
 row:OpM.RowE w (·<w.heap.size) A n z
 nc:n≤c
 n63:n≤9223372036854775807
 nA:A=none→c=0
 fin:∀ i,i<n→Op14In (z.getD i OpM.ent0)
section
variable {H:Type} {enc:TypeId × Value→H} {w:World} {held:Bool}
theorem open_op_row14 {fuel:Nat} {l:List Value} {y:DataW H × List MemPlace} (hl6:l.length=6) (h:DataW.trod enc Tryz.prog w 0 (fun _=>true) held fuel 74 l=some y) :
 ∃ s:OpM.Op6,Op14In s∧l=OpM.entV s:=by
 obtain ⟨ys,fu,_,_,_,hyl,hg⟩:=DataW.trod_struct Tryz.underlying74 h
 have hone:∀ t,t=3∨t=29∨t=30→Tryz.prog.cellsOf t=1:=by
  rintro t (rfl | rfl | rfl) <;> kernel_rfl
 have hy6:ys.length=6:=hyl
 match l,hl6 with
 | [v0,v1,v2,v3,v4,v5],_ =>
  have g0:DataW.trod enc Tryz.prog w 0 (fun _=>true) held fu 3 (([v0,v1,v2,v3,v4,v5].drop 0).take (Tryz.prog.cellsOf 3))=ys[0]? := hg 0 _ rfl
  have g1:DataW.trod enc Tryz.prog w 0 (fun _=>true) held fu 3 (([v0,v1,v2,v3,v4,v5].drop 1).take (Tryz.prog.cellsOf 3))=ys[1]? := hg 1 _ rfl
  have g2:DataW.trod enc Tryz.prog w 0 (fun _=>true) held fu 3 (([v0,v1,v2,v3,v4,v5].drop 2).take (Tryz.prog.cellsOf 3))=ys[2]? := hg 2 _ rfl
  have g3:DataW.trod enc Tryz.prog w 0 (fun _=>true) held fu 3 (([v0,v1,v2,v3,v4,v5].drop 3).take (Tryz.prog.cellsOf 3))=ys[3]? := hg 3 _ rfl
  have g4:DataW.trod enc Tryz.prog w 0 (fun _=>true) held fu 30 (([v0,v1,v2,v3,v4,v5].drop 4).take (Tryz.prog.cellsOf 30))=ys[4]? := hg 4 _ rfl
  have g5:DataW.trod enc Tryz.prog w 0 (fun _=>true) held fu 29 (([v0,v1,v2,v3,v4,v5].drop 5).take (Tryz.prog.cellsOf 29))=ys[5]? := hg 5 _ rfl
  simp only[hone _ (.inl rfl),hone _ (.inr (.inl rfl)),hone _ (.inr (.inr rfl)),List.drop_zero,List.drop_succ_cons,List.take_succ_cons,List.take_zero] at g0 g1 g2 g3 g4 g5
  rw[List.getElem?_eq_getElem (by omega)] at g0 g1 g2 g3 g4 g5
  obtain ⟨a0,e0,_,f0⟩:=DataW.trod_int Tryz.underlying3 g0
  injection e0 with e0 _
  obtain ⟨a1,e1,_,f1⟩:=DataW.trod_int Tryz.underlying3 g1
  injection e1 with e1 _
  obtain ⟨a2,e2,_,f2⟩:=DataW.trod_int Tryz.underlying3 g2
  injection e2 with e2 _
  obtain ⟨a3,e3,_,f3⟩:=DataW.trod_int Tryz.underlying3 g3
  injection e3 with e3 _
  obtain ⟨a4,e4,_,f4⟩:=DataW.trod_int Tryz.underlying30 g4
  injection e4 with e4 _
  obtain ⟨a5,e5,_,f5⟩:=DataW.trod_int Tryz.underlying29 g5
  injection e5 with e5 _
  subst e0 e1 e2 e3 e4 e5
  have i4:0≤a4∧a4≤18446744073709551615:=by simpa [Lit.wf,IntKind.min,IntKind.max,IntKind.signed,IntKind.bits] using f4
  have i5:0≤a5∧a5≤4294967295:=by simpa [Lit.wf,IntKind.min,IntKind.max,IntKind.signed,IntKind.bits] using f5
  exact ⟨⟨a0,a1,a2,a3,a4,a5⟩,⟨i4,i5⟩,rfl⟩
theorem open_ops14 {t:TypeId} {fuel:Nat} {cs:List Value} {x:DataW H × List MemPlace} (ht:Tryz.prog.underlying t=some (.slice 74))
 (h:DataW.trod enc Tryz.prog w 0 (fun _=>true) held fuel t cs=some x) :
 ∃ a len cap zs,cs=[.slice a len cap]∧OpM.RowE w (·<w.heap.size) a len zs∧len≤cap∧len≤9223372036854775807∧(a=none→cap=0)∧∀ i,i<len→Op14In (zs.getD i OpM.ent0):=by
 have hc5:Tryz.prog.cellsOf 74=6:=by kernel_rfl
 rcases open_slice ht h with ⟨rfl,_⟩ | ⟨a,len,cap,m,n,D,Pl,rfl,hb,hl,hm,hmm,rfl,hi⟩
 ·exact ⟨none,0,0,[],rfl,RowQ.nil _ _ _ _ _ _,nR _,by omega,fun _=>rfl,fun i hi=>absurd hi (by omega)⟩
 ·simp only[if_true] at hmm
  subst hmm
  have key:∀ i,i<m→∃ z:OpM.Op6,Op14In z∧∀ j,j<6→w.cell? (a.add (i*6+j))=(OpM.entV z)[j]? := by
   intro i him
   obtain ⟨cs',hc,ht'⟩:=hi i him
   rw[hc5] at hc
   obtain ⟨_,hcl,hat⟩:=World.cells?_some hc
   obtain ⟨z,hzp,rfl⟩:=open_op_row14 hcl ht'
   refine ⟨z,hzp,fun j hj=>?_⟩
   have h1:=hat j hj
   rw[Go.Deep.add_add] at h1
   exact h1
  have:∀ k,k≤m→∃ zs:List OpM.Op6,zs.length=k∧∀ i,i<k→Op14In (zs.getD i OpM.ent0)∧∀ j,j<6→w.cell? (a.add (i*6+j))=(OpM.entV (zs.getD i OpM.ent0))[j]? := by
   intro k
   induction k with
   | zero=>intro _; exact ⟨[],rfl,fun i hi=>by omega⟩
   | succ k ih =>
    intro hk
    obtain ⟨zs,hzl,hz⟩:=ih (by omega)
    obtain ⟨z,h1,h2⟩:=key k (by omega)
    refine ⟨zs++[z],by simp[hzl],fun i hi=>?_⟩
    by_cases e:i<k
    ·have e2:(zs++[z]).getD i OpM.ent0=zs.getD i OpM.ent0:=by simp[List.getD,List.getElem?_append_left (show i<zs.length by omega)]
     rw[e2]
     exact hz i e
    ·obtain rfl:i=k:=by omega
     have e2:(zs++[z]).getD i OpM.ent0=z:=by simp[List.getD,List.getElem?_append_right (show zs.length≤i by omega),hzl]
     rw[e2]
     exact ⟨h1,h2⟩
  obtain ⟨zs,hzl,hz⟩:=this m (nR _)
  have hget:∀ i,i<len→(zs.take len).getD i OpM.ent0=zs.getD i OpM.ent0:=fun i hi=>by simp[List.getD,List.getElem?_take,hi]
  refine ⟨some a,len,m,zs.take len,rfl,⟨by simp; omega,fun hn=>?_⟩,hl,by have:=hm; unfold maxLen at this; omega,(by intro h; cases h),fun i hi=>by rw[hget i hi]; exact (hz i (by omega)).1⟩
  obtain ⟨b,off,spot⟩:=a
  have h0:=(hz 0 (by omega)).2 0 (by omega)
  have h0':w.cell? ⟨b,off,spot⟩=some (.int .i64 (zs.getD 0 OpM.ent0).1):=by simpa [Addr.add] using h0
  have hspot:spot=none:=World.cell?_spot h0'
  subst hspot
  refine ⟨b,off,rfl,block_lt_of_cell h0',fun i hi j v hv=>?_⟩
  rw[hget i hi] at hv
  have hj:j<6:=by have:=(List.getElem?_eq_some_iff.1 hv).1; simpa using this
  have h2:=(hz i (by omega)).2 j hj
  rw[add_plain] at h2
  rw[Nat.add_assoc,h2,hv]
end
end
section
attribute [local go_sem] Oper.semAt_some
def mayF (us b:List Int):Bool:=allSet (bitsOf b) (nums4 (fnv start us) b)
def mayS (bl:List (List Int)) (us:List Int):Bool:=bl.any (mayF us)
theorem mayS_yes {bl:List (List Int)} {us:List Int} {j:Nat} (hj:j<bl.length) (h:mayF us (bl.getD j [])=true):mayS bl us=true:=by
 unfold mayS
 rw[List.any_eq_true]
 refine ⟨bl.getD j [],?_,h⟩
 simp[List.getD,hj]
theorem mayS_no {bl:List (List Int)} {us:List Int} (h:∀ t,t<bl.length→mayF us (bl.getD t [])=false):mayS bl us=false:=by
 unfold mayS
 rw[List.any_eq_false]
 intro x hx
 obtain ⟨t,ht,rfl⟩:=List.mem_iff_getElem.1 hx
 have:=h t ht
 simp only[List.getD,List.getElem?_eq_getElem ht,Option.getD_some] at this
 rw[this]; decide
section
variable {w w':World} {X Y:Nat→Prop} {B:StB} {slots:Nat} {s:Sup} {xs:List Seg} {st:List EntS} {bl:List (List Int)} {u:Bool} {A:Option Addr} {m c:Nat} {us:List Int} {F:Nat} {fs:List (Nat × Nat)}
theorem may1_any {f h g5:Nat} {b:List Int} {hh:Int} (H:Filt w f h b) (h0:0≤hh) (h5:Blk w g5 30 #[.int .u64 hh]) :
 Calls Tryz.prog 82 #[.pointer (some ⟨f,0,none⟩),.pointer (some ⟨g5,0,none⟩)] w fun e w'=>e=.returned (.bool (allSet (bitsOf b) (nums4 hh b)))∧Below w.heap.size w w':=by
 have HM:=hI (may_any_b w f h b hh H h0)
 have c5:w.cell? ⟨g5,0,none⟩=some (.int .u64 hh):=h5.cell 0
 clear H h5
 go_enter Tryz.func82,Tryz.ntmps82
 go_wp2_with fail
 refine HM.out.mono ?_
 rintro e w2 ⟨rfl,hb⟩
 have HB:=hI hb
 clear hb
 go_wp2_with fail
 go_ret
 exact ⟨rfl,HB.out⟩
theorem indexF_any {g5:Nat} (hF:FilM w F fs bl) (hN:fs.length≤16) (h5:Blk w g5 30 #[.int .u64 (fnv start us)]) (c:Nat) :
 Calls Tryz.prog 142 #[.slice (some ⟨F,0,none⟩) fs.length c,.func (.func 82) #[] #[.pointer (some ⟨g5,0,none⟩)]] w fun e w'=>(∃ r:Int,e=.returned (.int .i64 r)∧(decide (0≤r)=mayS bl us))∧Below w.heap.size w w':=by
 have HF:=hI hF
 have H5:=hI h5
 have HN:=hI hN
 have hlen:=hF.len
 have HLN:=hI hlen
 obtain ⟨cs,hc1,hc2⟩:=hF.row
 have HC1:=hI hc1
 have HC2:=hI hc2
 have h0:=(fnv_bounds start us (by decide)).1
 have H0:=hI h0
 obtain ⟨n,hn⟩:∃ n,fs.length=n:=⟨_,rfl⟩
 rw[hn] at HN HLN ⊢
 have HNN:=hI hn
 clear hF h5 hN hlen hc1 hc2 h0 hn
 go_enter Tryz.func142,Tryz.ntmps142
 go_wp2_with fail
 go_loopw [8] (fun i wr=>∃ j:Nat,i=.int .i64 j∧j≤n∧Below w.heap.size w wr∧∀ t,t<j→mayF us (bl.getD t [])=false) (fun i _=>n-(intOf i).toNat)
 case atStart=>exact ⟨0,rfl,Nat.zero_le _,Below.refl _ _,fun t ht=>absurd ht (by omega)⟩
 case round =>
  obtain ⟨j,rfl,hj,hB,hno⟩:=hrel
  have HNO:=hI hno
  have HB:=hI hB
  clear hno hB
  by_cases hjn:j<n
  ·obtain ⟨f,hf⟩:∃ f,fs[j]? = some f:=⟨_,List.getElem?_eq_getElem (by rw[HNN.out]; exact hjn)⟩
   have c0:wr.cell? ⟨F,j,none⟩=some (.pointer (some ⟨f.1,0,none⟩)):=by
    have h9:=(HC1.out.below HB.out HC1.out.lt).cell j
    rw[HC2.out j f hf] at h9
    exact h9
   have HCALL:=hI (may1_any ((HF.out.fil j f hf).belowAll HB.out) H0.out (H5.out.below HB.out H5.out.lt))
   clear hf
   obtain ⟨b,hb⟩:∃ b,mayF us (bl.getD j [])=b:=⟨_,rfl⟩
   have hb2:allSet (bitsOf (bl.getD j [])) (nums4 (fnv start us) (bl.getD j []))=b:=hb
   rw[hb2] at HCALL
   have HV:=hI hb
   have HJ:=hI hjn
   clear hb hb2
   have h16:=HN.out
   cases b with
   | true =>
    go_wp2_with fail
    refine HCALL.out.mono ?_
    rintro e w2 ⟨rfl,hb2⟩
    go_wp2_with fail
    go_ret
    refine ⟨⟨j,rfl,?_⟩,HB.out.trans (hb2.mono HB.out.size)⟩
    rw[mayS_yes (j:=j) (by have:=HLN.out; omega) HV.out]
    simp
   | false =>
    go_wp2_with fail
    refine HCALL.out.mono ?_
    rintro e w2 ⟨rfl,hb2⟩
    go_wp2_with fail
    go_roundw
    case rel =>
     refine ⟨j+1,by simp,by omega,HB.out.trans (hb2.mono HB.out.size),fun t ht=>?_⟩
     by_cases e:t=j
     ·rw[e,HV.out]
     ·exact HNO.out t (by omega)
    case measure=>show n-(Int.toNat ((j:Int)+1))<n-(Int.toNat (j:Int)); omega
  ·obtain rfl:j=n:=by omega
   go_wp2_with fail
   go_ret
   refine ⟨⟨-1,rfl,?_⟩,HB.out⟩
   rw[mayS_no (fun t ht=>HNO.out t (by have:=HLN.out; omega))]
   decide
theorem containsF_any {g5:Nat} (hF:FilM w F fs bl) (hN:fs.length≤16) (h5:Blk w g5 30 #[.int .u64 (fnv start us)]) (c:Nat) :
 Calls Tryz.prog 81 #[.slice (some ⟨F,0,none⟩) fs.length c,.func (.func 82) #[] #[.pointer (some ⟨g5,0,none⟩)]] w fun e w'=>e=.returned (.bool (mayS bl us))∧Below w.heap.size w w':=by
 have HI:=hI (indexF_any hF hN h5 c)
 clear hF hN h5
 go_enter Tryz.func81,Tryz.ntmps81
 go_wp2_with fail
 refine HI.out.mono ?_
 rintro e w2 ⟨⟨r,rfl,hr⟩,hb⟩
 have HB:=hI hb
 clear hb
 cases hv:mayS bl us with
 | true =>
  rw[hv] at hr
  have HV:=hI hv
  clear hv
  go_wp2_with fail
  go_ret
  exact ⟨ret_bool HV.out.symm,HB.out⟩
 | false =>
  rw[hv] at hr
  have HV:=hI hv
  clear hv
  go_wp2_with fail
  go_ret
  exact ⟨ret_bool HV.out.symm,HB.out⟩
theorem may_s14 (h:StoM2 w X B slots s xs st bl u) (hN:bl.length≤16) (hk:RowI .u8 w (·<w.heap.size) A m us) (hb:Bytes us) (hm:m≤1000000) :
 Calls Tryz.prog 21 #[.pointer (some ⟨B.q,0,none⟩),.slice A m c] w fun e w'=>e=.returned (.bool (mayS bl us))∧Below w.heap.size w w':=by
 have HM:=hI h
 have HNN:=hI hN
 have HH:=hI (hash_any A m c us w.heap.size w hk.toRow hb (by omega))
 clear h hk hb hm hN
 go_enter Tryz.func21,Tryz.ntmps21
 go_wp2_with fail
 refine HH.out.mono ?_
 rintro e w1 ⟨rfl,rfl⟩
 obtain ⟨w2,hw2⟩:∃ w2,w2=w.alloc (.cells #[.int .u64 (fnv start us)] 30):=⟨_,rfl⟩
 have hb2:Below w.heap.size w w2:=by rw[hw2]; exact (Below.refl _ _).alloc (nR _) _
 have H5:=hI (show Blk w2 w.heap.size 30 #[.int .u64 (fnv start us)] by rw[hw2]; exact Blk.new w _ _)
 have HM2:=hI (HM.out.below hb2)
 have HB2:=hI hb2
 have HW2:=hI hw2
 clear hb2 hw2 HH
 have hmf:∀ (fn:Fn) (first cap:Array Value) (w:World),(Instr.makeFunc fn first cap).run Tryz.prog w=.ok (.func fn first cap) w:=fun _ _ _ _=>rfl
 go_upto_region 4 with fail
 rw[← HW2.out]
 have q2:=HM2.out.cells.2.2.1
 have HIX:=hI (containsF_any (us:=us) HM2.out.fm (by rw[HM2.out.fm.len]; exact HNN.out) H5.out B.c)
 go_wp2_with fail
 refine HIX.out.mono ?_
 rintro e w3 ⟨rfl,hb3⟩
 have HB3:=hI (HB2.out.trans (hb3.mono HB2.out.size))
 clear hb3 q2 HIX
 go_wp2_with fail
 go_ret
 exact ⟨rfl,HB3.out⟩
end
end
section
def wb1:List Int:=recB 1 0 0 1 [107,97] [120]
def wb2:List Int:=recB 2 0 0 2 [107,97] []
theorem wb1_key:keyOf wb1=[107,97]:=by decide +kernel
theorem wb1_val:valOf wb1=[120]:=by decide +kernel
theorem wb1_seq:seqOf wb1=1:=by decide +kernel
theorem wb1_exp:expOf wb1=0:=by decide +kernel
theorem wb1_vlen:vlenOf wb1=1:=by decide +kernel
theorem wb1_cnt:cntOf wb1.length=1:=by decide +kernel
theorem wb2_cnt:cntOf wb2.length=1:=by decide +kernel
theorem wk_sealed14:sealedX 24 wkX=wkX:=by
 unfold sealedX
 rw[if_neg]
 unfold sealE
 split
 ·decide
 ·rw[if_pos (by rw[wk_open]; decide)]; decide
theorem wk_app1:appR wkS wkX 1=some (0,genS wkS,openX wkX 1):=by
 unfold appR
 have h1:=wk_left
 rw[if_neg (by show ¬ ((1:Nat):Int)≤leftR 24 wkX; omega),if_neg (by rw[wk_next]; decide),wk_next,show sealedX wkS.b wkX=wkX from wk_sealed14]
 rfl
theorem wk_left2:leftR 24 (useX (openX wkX 1) (1:Nat))=22:=by decide +kernel
theorem wk_app2:∃ r,appR (genS wkS) (useX (openX wkX 1) (1:Nat)) 1=some r:=by
 unfold appR
 rw[if_pos (by show ((1:Nat):Int)≤leftR 24 _; rw[wk_left2]; decide)]
 exact ⟨_,rfl⟩
theorem wk_may:mayS (addB (List.replicate 4 (List.replicate 128 0)) 0 [107,97]) [107,97]=true:=by decide +kernel
theorem key0:keyL 0=[107,97]:=by decide
theorem one_st {a:Int × Int × Int}:hasS [(a,wb1)] [107,97]=some (a,wb1):=by
 unfold hasS
 rw[List.find?_cons_of_pos (by rw[wb1_key]; decide)]
theorem one_get {a:Int × Int × Int}:getS [(a,wb1)] 0 0 [107,97]=some wb1:=by
 unfold getS
 rw[one_st]
 exact if_neg (by rw[wb1_seq,wb1_exp]; decide)
theorem one_out {a:Int × Int × Int}:outS [(a,wb1)] [107,97]=[]:=by
 unfold outS
 rw[List.filter_cons_of_neg (by rw[wb1_key]; decide)]
 rfl
theorem none_out:outS [] [107,97]=[]:=rfl
theorem none_full:fullS [] [107,97] 2=false:=by decide
end
section
attribute [local go_sem] Oper.semAt_some
theorem wakes14 (w:World):Calls Tryz.prog 15 #[] w fun e w'=>e=.returned (.bool true)∧Below w.heap.size w w':=by
 go_enter Tryz.func15,Tryz.ntmps15
 go_wp2_with fail
 refine (logs_any w).mono ?_
 rintro e w1 ⟨l,p,d,rfl,hl,hb1⟩
 have HL1:=hI hl
 have HB1:=hI hb1
 clear hl hb1
 go_wp2_with fail
 refine (new_s14 (slots:=2) HL1.out (fun b h=>nL h HB1.out.size) (by omega) (by omega)).mono ?_
 rintro e w2 ⟨q,x,F,c,fs,rfl,hm,hb2⟩
 obtain ⟨B,hB⟩:∃ B:StB,(⟨l,p,d,98,q,x,F,c,0,logK,0,fs⟩:StB)=B:=⟨_,rfl⟩
 rw[hB] at hm
 have HBQ:=hI (show B.q=q∧B.pe=0∧B.k=logK by rw[← hB]; exact ⟨rfl,rfl,rfl⟩)
 have HM2:=hI hm
 have HB2:=hI (HB1.out.trans (hb2.mono HB1.out.size))
 clear hm hb2 hB
 go_wp2_with fail
 refine (key_any 0 w2).mono ?_
 rintro e w3 ⟨g3,rfl,hg3,hr3,hb3⟩
 rw[key0] at hr3
 have HR3:=hI hr3
 have HG3:=hI (show w2.heap.size≤g3∧g3<w3.heap.size from ⟨hg3,Blk.lt hr3⟩)
 have HB3:=hI hb3
 clear hr3 hb3 hg3
 have hc1:=Go.Lib.run_convert_bytes_const (P:=Tryz.prog) w3 31 5 #[.int .u8 120] 1 1 Tryz.underlying31 Tryz.underlying5
 go_wp2_with fail
 clear hc1
 obtain ⟨w4,hw4⟩:∃ w4,w4=w3.alloc (.cells #[.int .u8 120] 5 (1,2)):=⟨_,rfl⟩
 have hb4:Below w3.heap.size w3 w4:=by rw[hw4]; exact (Below.refl _ _).alloc (nR _) _
 have hz4:w4.heap.size=w3.heap.size+1:=by rw[hw4]; simp
 have hV:RowI .u8 w4 (fun b=>b=w3.heap.size) (some ⟨w3.heap.size,0,none⟩) 1 [120]:=by rw[hw4]; exact row_marked w3 [120] (1,2) 1 rfl (S:=fun b=>b=w3.heap.size) rfl
 have hKr:RowI .u8 w4 (fun b=>b=g3) (some ⟨g3,0,none⟩) 2 [107,97]:=Arr.rowN (S:=fun b=>b=g3) (Blk.below HR3.out hb4 HG3.out.2) 0 rfl rfl
 have HM4:=hI (HM2.out.grow (HB3.out.trans (hb4.mono HB3.out.size)))
 have hg3:=HG3.out
 have hs3:=HB3.out.size
 have HPUT:=hI (put_s14 (dy:=false) (f0:=0) (x0:=0) (q0:=1) HM4.out (hKr.more (fun b h=>.inr ⟨by omega,by omega⟩)) (hV.more (fun b h=>.inr ⟨by omega,by omega⟩)) (by intro j; match j with | 0=>simp | 1=>simp | (j+2)=>simp) (by intro j; match j with | 0=>simp | (j+1)=>simp) (fun h=>by cases h) (fun h=>by cases h) (c:=2) (c2:=1) (by unfold May; omega) ⟨by omega,by omega,by omega,by omega,by omega,by omega⟩ (by rw[HBQ.out.2.1]; omega) (by decide))
 rw[HBQ.out.1,show recB 1 0 0 1 [107,97] [120]=wb1 by unfold wb1; rfl] at HPUT
 have HB4:=hI (HB2.out.trans ((HB3.out.trans (hb4.mono HB3.out.size)).mono HB2.out.size))
 rw[← hw4]
 clear hw4 hb4 hz4 hV hKr hg3 hs3
 refine HPUT.out.mono ?_
 rintro e w5 ⟨hk5,h5⟩
 rw[wb1_cnt,wb1_key] at h5
 rcases h5 with ⟨hf,_⟩ | ⟨_,hno,_⟩ | ⟨_,i,s1,xs1,t1,k1,hsome,hs1,rfl,hm5,_⟩
 ·rw[none_full] at hf; cases hf
 ·rw[wk_app1] at hno; cases hno
 rw[wk_app1] at hsome
 have hs9:=Option.some.inj hsome
 obtain ⟨ei,e2⟩:=Prod.mk.inj hs9
 obtain ⟨es,ex⟩:=Prod.mk.inj e2
 subst ei es ex
 clear hs9 e2
 rw[none_out,List.nil_append] at hm5
 have HM5:=hI hm5
 have HB5:=hI (HB4.out.trans (hk5.to_below (B:=w.heap.size) (fun b hb=>.inl hb)))
 clear hk5 hm5 HPUT hs1 hsome
 go_wp2_with fail
 refine (key_any 0 w5).mono ?_
 rintro e w6 ⟨g6,rfl,hg6,hr6,hb6⟩
 rw[key0] at hr6
 have HM6:=hI (HM5.out.grow hb6)
 have HGT:=hI (get_s (c:=2) HM6.out ((Arr.rowN (S:=fun b=>b=g6) hr6 0 (n:=2) rfl rfl).more (fun b h=>.inr ⟨by omega,by have:=Blk.lt hr6; omega⟩)) (by intro j; match j with | 0=>simp | 1=>simp | (j+2)=>simp) (by omega) 0)
 have HB6:=hI (HB5.out.trans (hb6.mono HB5.out.size))
 clear hg6 hr6 hb6
 have hq6:({ B with t:=t1,k:=k1,pe:=B.pe+17 }:StB).q=q:=HBQ.out.1
 rw[hq6] at HGT
 clear hq6
 go_wp2_with fail
 refine HGT.out.mono ?_
 rintro e w7 ⟨⟨k7,hm7,hk7⟩,hkp7,h7⟩
 rcases h7 with ⟨hno,_⟩ | ⟨bs,b1,b2,hyes,rfl,_,_,_,_,hv7,_⟩
 ·rw[show (genS wkS).f=0 from rfl,one_get] at hno; cases hno
 rw[show (genS wkS).f=0 from rfl,one_get] at hyes
 injection hyes with hyes
 subst hyes
 rw[wb1_val] at hv7
 have HV7:=hI hv7
 have HM7:=hI (hm7.less (X:=fun x=>x<w.heap.size) (fun b h=>.inl (.inl h)))
 have HB7:=hI (HB6.out.trans (hkp7.to_below (B:=w.heap.size) (fun b hb=>.inl (.inl hb))))
 clear hm7 hk7 hkp7 hv7 HGT
 obtain ⟨w8,hw8⟩:∃ w8,w8=w7.alloc (.cells (itmC wb1 b1 b2) 53):=⟨_,rfl⟩
 have hb8:Below w7.heap.size w7 w8:=by rw[hw8]; exact (Below.refl _ _).alloc (nR _) _
 have HI8:=hI (show Blk w8 w7.heap.size 53 (itmC wb1 b1 b2) by rw[hw8]; exact Blk.new w7 _ _)
 have HM8:=hI (HM7.out.below hb8)
 have HB8:=hI (HB7.out.trans (hb8.mono HB7.out.size))
 have HV8:=hI (Blk.below HV7.out hb8 (Blk.lt HV7.out))
 have HW8:=hI hw8
 clear hb8 hw8
 go_upto_region 6 with fail
 rw[← HW8.out]
 obtain ⟨tt,ht,hnt⟩:=conv_string (P:=Tryz.prog) w8 31 9 5 Tryz.underlying31 Tryz.underlying5 Tryz.underlying9 1 (Arr.rowN (S:=fun b=>b<w8.heap.size) (show ArrU w8 b2 [120] from HV8.out) 0 (n:=1) rfl (Blk.lt HV8.out)).toRow (by intro j; match j with | 0=>simp | (j+1)=>simp)
 obtain rfl:tt=⟨#[120]⟩:=nums_inj (hnt.trans rfl)
 have i1:w8.cell? ⟨w7.heap.size,1,none⟩=some (.slice (some ⟨b2,0,none⟩) 1 1):=by
  have h9:=HI8.out.cell 1
  rw[show (itmC wb1 b1 b2)[1]? = some (.slice (some ⟨b2,0,none⟩) (vlenOf wb1) (vlenOf wb1)) from rfl,wb1_vlen] at h9
  exact h9
 clear hnt
 go_wp2_with fail
 clear ht i1
 refine (key_any 0 w8).mono ?_
 rintro e w9 ⟨g9,rfl,hg9,hr9,hb9⟩
 rw[key0] at hr9
 have HM9:=hI (HM8.out.below hb9)
 have HB9:=hI (HB8.out.trans (hb9.mono HB8.out.size))
 have HMY:=hI (may_s14 (c:=2) HM9.out (by unfold addB; rw[List.length_set,List.length_replicate]; decide) (Arr.rowN (S:=fun b=>b<w9.heap.size) hr9 0 (n:=2) rfl (Blk.lt hr9)) (by intro j; match j with | 0=>simp | 1=>simp | (j+2)=>simp) (by omega))
 rw[show (List.replicate wkX.length (List.replicate 128 (0:Int)))=List.replicate 4 (List.replicate 128 0) from rfl,wk_may] at HMY
 replace HMY:=hI (show Calls Tryz.prog 21 #[.pointer (some ⟨q,0,none⟩),.slice (some ⟨g9,0,none⟩) 2 2] w9 (fun e w'=>e=.returned (.bool true)∧Below w9.heap.size w9 w') from HMY.out)
 clear hr9 hb9 hg9
 go_wp2_with fail
 refine HMY.out.mono ?_
 rintro e w10 ⟨rfl,hb10⟩
 have HM10:=hI (HM9.out.below hb10)
 have HB10:=hI (HB9.out.trans (hb10.mono HB9.out.size))
 have HLN:=hI (show Calls Tryz.prog 39 #[.pointer (some ⟨q,0,none⟩)] w10 (fun e w'=>e=.returned (.int .i64 1)∧w'=w10) from len_s HM10.out)
 clear hb10 HMY
 go_wp2_with fail
 refine HLN.out.mono ?_
 rintro e w11 ⟨rfl,rfl⟩
 clear HLN
 go_wp2_with fail
 refine (key_any 0 w11).mono ?_
 rintro e w12 ⟨g12,rfl,hg12,hr12,hb12⟩
 rw[key0] at hr12
 have HM12:=hI (HM10.out.grow hb12)
 have HB12:=hI (HB10.out.trans (hb12.mono HB10.out.size))
 have HKL:=hI (kill_s14 (c:=2) (q0:=2) HM12.out ((Arr.rowN (S:=fun b=>b=g12) hr12 0 (n:=2) rfl rfl).more (fun b h=>.inr ⟨by omega,by have:=Blk.lt hr12; omega⟩)) (by intro j; match j with | 0=>simp | 1=>simp | (j+2)=>simp) (by unfold May; omega) ⟨by omega,by omega,by omega,by omega,by omega,by omega⟩ (show B.pe+17≤900000 by rw[HBQ.out.2.1]; omega) (by decide))
 rw[show recB 2 0 0 2 [107,97] []=wb2 by unfold wb2; rfl] at HKL
 replace HKL:=hI (show Calls Tryz.prog 26 #[.pointer (some ⟨q,0,none⟩),.slice (some ⟨g12,0,none⟩) 2 2,.int .u64 2] w12 _ from HKL.out)
 clear hg12 hr12 hb12
 go_wp2_with fail
 refine HKL.out.mono ?_
 rintro e w13 ⟨hk13,h13⟩
 rw[wb2_cnt,one_out] at h13
 rcases h13 with ⟨hno,_⟩ | ⟨i2,s2,xs2,t2,k2,_,_,rfl,hm13,_⟩
 ·obtain ⟨r,hr⟩:=wk_app2
  rw[hr] at hno; cases hno
 have HB13:=hI (HB12.out.trans (hk13.to_below (B:=w.heap.size) (fun b hb=>.inl hb)))
 have HLN:=hI (show Calls Tryz.prog 39 #[.pointer (some ⟨q,0,none⟩)] w13 (fun e w'=>e=.returned (.int .i64 0)∧w'=w13) from len_s hm13)
 clear hk13 hm13 HKL
 go_wp2_with fail
 refine HLN.out.mono ?_
 rintro e w14 ⟨rfl,rfl⟩
 clear HLN
 go_wp2_with fail
 go_ret
 exact ⟨rfl,HB13.out⟩
end
end Go.Proofs.YtdkbpchmnhbhcaaGreat
