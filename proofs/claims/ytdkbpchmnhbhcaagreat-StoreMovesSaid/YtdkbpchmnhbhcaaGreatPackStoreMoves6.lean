/- Texts of StoreMoves, packed. -/
import Derived.Test.YtdkbpchmnhbhcaaGreatPackStoreMoves5
import Derived.Great.BuildSlice
import Derived.RangeFuncBox
import Derived.OneCell
import Derived.Deep.DeepCutAuto
import Derived.RangeFuncNested
import Derived.RangeFuncBound
import Derived.RangeFuncCalls
import Derived.RangeFuncLeaves
import Derived.RangeFuncFrom
import Derived.Shelf.Abstract
import Derived.Shelf.RegionOpen
import Derived.WalkKit
import Derived.OwnWalkIn
import Derived.TacticsInMore
import Derived.LoopNIn
import Derived.LoopIn
import Derived.Lib.Hide
import Derived.Deep.RegionHeld3
import Derived.BigQuiet
import Derived.Laws.CopyRow
import Derived.Laws.CopyOwn
import Derived.OwnWalk
set_option linter.unusedVariables false
set_option linter.unusedSimpArgs false
set_option maxRecDepth 100000
set_option maxHeartbeats 16000000
namespace Go.Proofs.YtdkbpchmnhbhcaaGreat
open Go.RowKit
section
open Go.RowKit Go.Shelf Go.Lib Go.Sort
theorem info_num:(Tryz.prog.info? 270).map (fun i=>(i.zero,i.size,i.bytes))=some (some (.agg (numC num0).toArray),4,32):=by kernel_rfl
section
variable {w:World} {ops:Array Oper} {rest:List Oper} {o:Oper} {a:Act} {Q:Exit→Act→World→Prop}
theorem wpList_lit_num (x:Operand) (ho:o.op=.buildSlice 268 1 #[(0,x)]) (hgd:o.guard=none) (y:Num) (hx:a.eval x=.agg (numC y).toArray)
 (h:wpList Tryz.prog ops Q rest (a.put o.dst (.slice (some ⟨w.heap.size,0,none⟩) 1 1)) (w.alloc (.cells (numC y).toArray 270))):wpList Tryz.prog ops Q (o::rest) a w:=by
 obtain ⟨i0,hi,hz0,hz1,hz2⟩:=info_parts info_num
 refine wpList_buildSlice hgd 268 270 1 #[(0,x)] ho (numC y).toArray i0 _ Tryz.underlying268 hi hz0 (by rw[hz1]; decide) (by rw[hz1]; decide) ?_ h
 rw[hz1]
 have e:(Array.map (fun (p:Nat × Operand)=>(p.1,a.eval p.2)) #[(0,x)]).toList=[(0,.agg (numC y).toArray)]:=by simp[hx]
 refine (congrArg _ e).trans ?_
 obtain ⟨i,st,g,u⟩:=y
 kernel_rfl
theorem wpList_append_num (s x:Operand) (ho:o.op=.call { callee:=.builtin .append,args:=#[s,x],argTypes:=#[268,268] }) (hgd:o.guard=none)
 (base:Nat) (v:Value) (m:Nat) (P:List Value) (hs:a.eval s=v) (hown:w.ownsRow base 270 4 v m P) (g:Nat) (y:Num) (hx:a.eval x=.slice (some ⟨g,0,none⟩) 1 1) (hg:Blk w g 270 (numC y).toArray)
 (hm:m≤1000000) (hbase:base≤w.heap.size)
 (h:∀ v' w',w'.ownsRow base 270 4 v' (m+1) (P++numC y)→w.grownBy w' v.ownBlock→(v'.ownBlock=v.ownBlock∨v'.ownBlock=some w.heap.size)→wpList Tryz.prog ops Q rest (a.put o.dst v') w') :
 wpList Tryz.prog ops Q (o::rest) a w:=by
 obtain ⟨i0,hi,hz0,hz1,hz2⟩:=info_parts info_num
 obtain ⟨v',w',hrun,h2,h3,_,h4⟩:=run_append_own_at (P:=Tryz.prog) w base 268 o.type 270 i0 _ 4 32 Tryz.underlying268 hi hz0 hz1 hz2 (by simp[Value.cells]) (by omega) v m P hown ⟨g,0,none⟩ 1 1 (numC y) (by simp)
  (fun j u hu=>by rw[add_plain,Nat.zero_add,hg.cell j]; simpa using hu) (ones_num y) (by unfold maxLen; omega) (by omega) hbase
 refine wpList_plain hgd fun K hK=>?_
 unfold Oper.wp execOp
 simp only[ho,resolve,invoke,builtin,Sem.run_bind,Sem.run_pure,Result.andThen_ok,List.map_toArray,List.map_cons,List.map_nil,hs,hx,hrun]
 exact hK _ _ (h v' w' h2 h3 h4)
end
theorem own_least {w:World} {base size n k:Nat} {e:TypeId} {v:Value} {xs:List Value} (h:w.ownsRow base e size v n xs) (hk:v.ownBlock=some k):base≤k:=by
 rcases h.2 with ⟨rfl,_⟩ | ⟨g,cap,cur,rfl,hb,_⟩
 ·simp[Value.ownBlock] at hk
 ·have:g=k:=by simpa [Value.ownBlock] using hk
  omega
theorem flat_num:∀ (L:List Num) (t:Nat),t<L.length*4→(L.flatMap numC)[t]? = (numC (L.getD (t / 4) num0))[t % 4]?
 | [],t,h=>by simp at h
 | y :: L, t, h => by
  rw[List.flatMap_cons]
  by_cases h4:t<4
  ·rw[List.getElem?_append_left (by simpa using h4)]
   rw[show t / 4=0 by omega,show t % 4=t by omega]
   rfl
  ·have e:t-(numC y).length=t-4:=by simp
   rw[List.getElem?_append_right (by simp; omega),e,flat_num L (t-4) (by simp at h; omega)]
   rw[show t / 4=(t-4) / 4+1 by omega,show t % 4=(t-4) % 4 by omega]
   rfl
theorem holds_own {w:World} {base m:Nat} {v:Value} {L:List Num} (h:w.ownsRow base 270 4 v m (L.flatMap numC)) (hm:m=L.length) :
 (v=.slice none 0 0∧L=[])∨∃ g cap,v=.slice (some ⟨g,0,none⟩) L.length cap∧base≤g∧g<w.heap.size∧HoldsK numC 4 w g 0 L.toArray:=by
 subst hm
 rcases h.2 with ⟨rfl,hn⟩ | ⟨g,cap,cur,rfl,hb,hh,h1,h2,h3,h4⟩
 ·exact .inl ⟨rfl,List.length_eq_zero_iff.1 hn⟩
 ·refine .inr ⟨g,cap,rfl,hb,(Array.getElem?_eq_some_iff.1 hh).1,?_⟩
  intro t ht
  have ht':t<L.length*4:=by simpa using ht
  refine ⟨?_,by simp[World.frozen?,hh]⟩
  rw[get_flatK numC 4 L.toArray t (by simpa using ht')]
  have e1:cur.toList[t]? = (L.flatMap numC)[t]? := by
   rw[← h4,List.getElem?_take_of_lt ht']
  rw[flat_num L t ht'] at e1
  simp only[World.cell?,hh,Nat.zero_add]
  simp only[Option.isSome_none,Bool.false_eq_true,if_false]
  rw[← Array.getElem?_toList,e1]
  have hlt:t / 4<L.length:=by omega
  have e2:L.toArray[t / 4]! = L.getD (t / 4) num0:=by simp[List.getD,hlt]
  rw[e2]
  have h5:t % 4<(numC (L.getD (t / 4) num0)).length:=by simp; omega
  rw[List.getElem?_eq_getElem h5,getElem!_pos (numC (L.getD (t / 4) num0)) (t % 4) h5]
  rfl
theorem row_holds {w:World} {g:Nat} {d:Array Num} (h:HoldsK numC 4 w g 0 d) {S:Nat→Prop} (hS:S g):RowN w S (some ⟨g,0,none⟩) d.size d.toList:=by
 refine ⟨by simp,fun _=>⟨g,0,rfl,hS,fun i hi j v hv=>?_⟩⟩
 have hj:j<4:=by
  have:=(List.getElem?_eq_some_iff.1 hv).1
  simpa using this
 have hc:=(HoldsK.cell h hi hj).1
 have e:d.toList.getD i num0=d[i]! := by simp[List.getD,hi]
 rw[e] at hv
 have h5:j<(numC d[i]!).length:=by simpa using hj
 rw[List.getElem?_eq_getElem h5] at hv
 rw[hc,← hv,getElem!_pos (numC d[i]!) j h5]
def SeqM (w:World) (n₀ B:Nat) (L:List Num):Prop :=
 n₀≤B∧B<w.heap.size∧∃ A cap,w.cell? ⟨B,0,none⟩=some (.slice A L.length cap)∧RowN w (fun b=>n₀≤b∧b<w.heap.size) A L.length L
def Rises (L:List Num):Prop:=∀ i j,i<j→j<L.length→(L.getD i num0).2.2.1≤(L.getD j num0).2.2.1
def RisI (w:World) (xs:List Seg) (n:Nat) (wr:World) (i:Value):Prop :=
 ∃ (j:Nat) (v:Value),j≤n∧i=.int .i64 j∧Blk wr w.heap.size 268 #[v]∧wr.ownsRow w.heap.size 270 4 v (liveTo xs j).length ((liveTo xs j).flatMap numC)∧Below w.heap.size w wr
theorem rising_any {w:World} {A:Option Addr} {n cap:Nat} {xs:List Seg} (h:RowZ w (·<w.heap.size) A n xs) (hn:n≤16) :
 Calls Tryz.prog 130 #[.slice A n cap] w fun e w'=>∃ B L,e=.returned (.func (.func 184) #[] #[.pointer (some ⟨B,0,none⟩)])∧SeqM w' w.heap.size B L∧L.Perm (live xs)∧Rises L∧Below w.heap.size w w':=by
 have HX:=hI h
 have HN:=hI hn
 clear h hn
 go_enter Tryz.func130,Tryz.ntmps130
 go_wp2_with fail
 go_loopw [8] (fun i wr=>RisI w xs n wr i) (fun i _=>n-(intOf i).toNat)
 case atStart=>exact ⟨0,.slice none 0 0,Nat.zero_le _,rfl,Blk.new w _ _,⟨rfl,.inl ⟨rfl,rfl⟩⟩,(Below.refl _ _).alloc (nR _) _⟩
 case round =>
  obtain ⟨j,v,hj,rfl,hb,ho,hbel⟩:=hrel
  have HB:=hI hb
  have HO:=hI ho
  have HBEL:=hI hbel
  have hn16:=HN.out
  clear hb ho hbel
  by_cases hlt:j<n
  ·obtain ⟨b,off,rfl,hbb,hcc⟩:=(HX.out.below HBEL.out (fun b h=>h)).2 (by omega)
   have HR:=hI (hcc j hlt)
   obtain ⟨w6,hw6⟩:∃ w6,w6=wr.alloc (.cells (segC (xs.getD j seg0)).toArray 126):=⟨_,rfl⟩
   have HW6:=hI hw6
   have HX6:=hI (show Blk w6 wr.heap.size 126 (segC (xs.getD j seg0)).toArray by rw[hw6]; exact Blk.new wr _ _)
   have HB6:=hI (show Blk w6 w.heap.size 268 #[v] by rw[hw6]; exact HB.out.alloc _)
   have HO6:=hI (show w6.ownsRow w.heap.size 270 4 v (liveTo xs j).length ((liveTo xs j).flatMap numC) by rw[hw6]; exact HO.out.alloc _)
   have HBE6:=hI (show Below w.heap.size w w6 by rw[hw6]; exact HBEL.out.alloc HBEL.out.size _)
   clear hcc hbb hw6
   obtain ⟨st,g,u,hx⟩:∃ st g u,xs.getD j seg0=(st,g,u):=⟨_,_,_,rfl⟩
   have HXJ:=hI hx
   rw[hx] at HR HW6 HX6
   clear hx
   obtain ⟨c0,c1,c2⟩:_∧_∧_:=⟨HX6.out.cell 0,HX6.out.cell 1,HX6.out.cell 2⟩
   have cB:=HB6.out.cell 0
   simp only[segC,List.getElem?_toArray,List.getElem?_cons_zero,List.getElem?_cons_succ] at c0 c1 c2 cB
   by_cases h0:st=0
   ·subst h0
    go_wp2_with (first
     | (refine wpList_load_part_s8 (.tmp 11) 126 rfl rfl b (off+j*3) rfl (segC (0,g,u)) _ Tryz.underlying126 rfl size_seg HR.out ?_)
     | (refine wpList_alloc_row_s8 126 rfl rfl (segC seg0).toArray zero_seg ?_)
     | (refine wpList_store_fresh_s8 (.tmp 5) (.tmp 12) 126 rfl rfl wr (segC seg0).toArray (segC (0,g,u)).toArray rfl rfl 126 rfl size_seg rfl (one_seg _) ?_; rw[← HW6.out]))
    go_roundw
    case rel =>
     have e:liveTo xs (j+1)=liveTo xs j:=by
      conv=>lhs; unfold liveTo
      rw[HXJ.out,if_pos rfl,List.append_nil]
     refine ⟨j+1,v,by omega,by simp,HB6.out,?_,HBE6.out⟩
     rw[e]
     exact HO6.out
    case measure=>simp[intOf]; omega
   ·have hne:(st != 0)=true:=by simpa using h0
    have hlive:=liveTo_length xs j
    have HO7:=hI (HO6.out.alloc (.cells (numC (j,st,g,u)).toArray 270))
    have HB7:=hI (HB6.out.alloc (.cells (numC (j,st,g,u)).toArray 270))
    have HBE7:=hI (HBE6.out.alloc HBE6.out.size (.cells (numC (j,st,g,u)).toArray 270))
    have hmil:(liveTo xs j).length≤1000000:=by omega
    have HNE:=hI (own_blk_ne HO7.out HB7.out (by decide))
    have HBS:=hI HBE7.out.size
    go_wp2_with (first
     | (refine wpList_load_part_s8 (.tmp 11) 126 rfl rfl b (off+j*3) rfl (segC (st,g,u)) _ Tryz.underlying126 rfl size_seg HR.out ?_)
     | (refine wpList_load_rowB (.tmp 5) 126 rfl rfl wr.heap.size rfl 126 (segC (st,g,u)) _ Tryz.underlying126 rfl size_seg HX6.out ?_)
     | (refine wpList_alloc_row_s8 126 rfl rfl (segC seg0).toArray zero_seg ?_)
     | (refine wpList_store_fresh_s8 (.tmp 5) (.tmp 12) 126 rfl rfl wr (segC seg0).toArray (segC (st,g,u)).toArray rfl rfl 126 rfl size_seg rfl (one_seg _) ?_; rw[← HW6.out])
     | (refine wpList_lit_num (.tmp 19) rfl rfl (j,st,g,u) rfl ?_)
     | (refine wpList_append_num (.tmp 16) (.tmp 20) rfl rfl w.heap.size v (liveTo xs j).length ((liveTo xs j).flatMap numC) rfl HO7.out w6.heap.size (j,st,g,u) rfl (Blk.new w6 _ _) hmil HBS.out ?_; rintro v' w8 ho8 hg8 _; obtain ⟨g',cap',rfl⟩:=ownsRow_succ ho8; have HO8:=hI ho8; have HB8:=hI (HB7.out.grown hg8 (fun e=>HNE.out e.symm)); have HBE8:=hI (HBE7.out.grown hg8 HBS.out (fun k e=>own_least HO7.out e)); have c8:=HB8.out.cell 0; have f8:=HB8.out.frozen 0; simp only[List.getElem?_toArray,List.getElem?_cons_zero] at c8; clear ho8 hg8))
    go_roundw
    case rel =>
     have e:liveTo xs (j+1)=liveTo xs j++[(j,st,g,u)]:=by
      conv=>lhs; unfold liveTo
      rw[HXJ.out,if_neg h0]
     refine ⟨j+1,_,by omega,by simp,HB8.out.set_ 0 _,?_,HBE8.out.setCell (p:=⟨w.heap.size,0,none⟩) (nR _) _⟩
     rw[e,List.length_append,List.flatMap_append,List.flatMap_singleton]
     exact ownsRow_setCell_other HO8.out (a:=⟨w.heap.size,0,none⟩) (fun e=>own_blk_ne HO8.out HB8.out (by decide) e) _
    case measure=>simp[intOf]; omega
  ·obtain rfl:j=n:=by omega
   have hl:live xs=liveTo xs j:=by unfold live; rw[HX.out.1]
   have HLV:=hI hl
   have hlen:=liveTo_length xs j
   clear hl
   rcases holds_own HO.out rfl with ⟨rfl,hnil⟩ | ⟨g,cap',rfl,hg1,hg2,hH⟩
   ·have HNIL:=hI hnil
    clear hnil
    have cB:=HB.out.cell 0
    simp only[List.getElem?_toArray,List.getElem?_cons_zero] at cB
    go_wp2_with (go_at_call 181; refine (sort_none _ _ _ _).mono ?_; rintro e w' ⟨rfl,rfl⟩)
    go_ret
    exact ⟨w.heap.size,[],rfl,⟨nR _,HB.out.lt,none,0,cB,RowQ.nil _ _ _ _ _ _⟩,(by rw[HLV.out,HNIL.out]),fun i j _ h=>absurd h (by simp),HBEL.out⟩
   ·have hsort:=sort_num g 0 cap' (liveTo xs j).toArray wr hH hg2 (by simp; omega)
    simp only[List.size_toArray] at hsort
    have HSORT:=hI hsort
    have hne:g≠w.heap.size:=fun e=>own_blk_ne HO.out HB.out (by decide) (by rw[e]; rfl)
    have cB:=HB.out.cell 0
    simp only[List.getElem?_toArray,List.getElem?_cons_zero] at cB
    clear hsort hH
    go_wp2_with (go_at_call 181; refine HSORT.out.mono ?_; rintro e w9 ⟨rfl,d',hs9,hp9,hr9,hh9,hg9⟩; have HS9:=hI hs9; have HP9:=hI hp9; have HR9:=hI hr9; have HH9:=hI hh9; have HG9:=hI hg9; clear hs9 hp9 hr9 hh9 hg9)
    go_ret
    have hB9:=HB.out.grown HG9.out (fun e=>by injection e with e; exact hne e.symm)
    have cB9:=hB9.cell 0
    simp only[List.getElem?_toArray,List.getElem?_cons_zero] at cB9
    refine ⟨w.heap.size,d'.toList,rfl,⟨nR _,hB9.lt,some ⟨g,0,none⟩,cap',?_,?_⟩,(by rw[HLV.out]; exact HP9.out),?_,HBEL.out.grown HG9.out HBEL.out.size (fun k e=>by injection e with e; omega)⟩
    ·rw[cB9]
     have e:d'.toList.length=(liveTo xs j).length:=HS9.out
     rw[e]
    ·rw[Array.length_toList]
     exact row_holds HH9.out ⟨hg1,nL hg2 HG9.out.size⟩
    ·intro i k hik hk
     have hk':k<d'.size:=by simpa using hk
     have h1:=HR9.out i k hik (by rw[← HS9.out]; exact hk')
     have e:∀ q,q<d'.size→d'.toList.getD q num0=d'[q]! := fun q hq=>by simp[List.getD,hq]
     rw[e i (by omega),e k hk']
     exact h1
end
section
open Go.RowKit Go.Shelf
attribute [local go_sem] Oper.semAt_some
abbrev numA (x:Num):Array Value:=#[.int .i64 x.1,.agg (segC x.2).toArray]
theorem take_one (L:List Num) (k:Nat) (h:k<L.length):L.take (k+1)=L.take k++[L.getD k num0]:=by
 rw[List.take_add_one]
 simp[List.getD,List.getElem?_eq_getElem h]
theorem rise1_in (F:Fence) (n:Nat) (h7:F.fn 184) (hro:F.round=none) (hn:1≤n) (l Bs b off cap:Nat) (S:Nat→Prop) (L:List Num) (hL:L.length≤16) (hb:S b) (J Jx:List Num→World→Prop) (W:World) (hS:∀ b,S b→b<W.heap.size) (hJ:AbidesFrom W.heap.size J)
 (hY:∀ pre x W,J pre W→pre.length<L.length→YieldAt F (n-1) Tryz.prog l (numA x) W fun e W' =>
   (e=.returned (.bool true)∧J (pre++[x]) W'∧Kept S W W')∨(e=.returned (.bool false)∧Jx (pre++[x]) W'))
 (hBs:W.cell? ⟨Bs,0,none⟩=some (.slice (some ⟨b,off,none⟩) L.length cap)) (hc:∀ j,j<L.length→W.rangeAt b (off+j*4) (numC (L.getD j num0))) (h0:J [] W) :
 CallsIn F n Tryz.prog 184 #[.func (.yield l) #[] #[],.pointer (some ⟨Bs,0,none⟩)] W fun e W'=>(∃ v,e=.returned v) ∧
  ((∃ ys,ys=L∧J ys W')∨(∃ pre,(∃ k,k≤L.length∧pre=L.take k)∧Jx pre W')):=by
 refine callsIn_of_wp Tryz.func184 rfl h7 ?_ hro
 simp only[Tryz.ntmps184,List.size_toArray,List.length_cons,List.length_nil,Nat.reduceAdd,Nat.reduceSub,Array.replicate_succ,Array.replicate_zero,List.push_toArray,List.append_toArray,List.nil_append,List.cons_append]
 gi_wp2
 gi_loopw [7] (fun i wr=>∃ k:Nat,k≤L.length∧i=.int .i64 k∧J (L.take k) wr∧Kept S W wr)
  (fun i _=>L.length-(intOf i).toNat)
 case atStart=>exact ⟨0,Nat.zero_le _,rfl,h0,Kept.refl _ _⟩
 case round =>
  obtain ⟨k,hk,rfl,hJs,hnx⟩:=hrel
  by_cases hlt:k<L.length
  ·have hr:=hc k hlt
   obtain ⟨i,st,g,u,hx⟩:∃ i st g u,L.getD k num0=(i,st,g,u):=⟨_,_,_,_,rfl⟩
   rw[hx] at hr
   have hJ2:=hJ _ _ (wr.alloc (.cells (numC (i,st,g,u)).toArray 270)) none hJs (World.grownBy_alloc _ _ none) (fun r e=>by cases e)
   obtain ⟨fn,tmps,assign,body,hy,hR⟩:=hY _ (i,st,g,u) _ hJ2 (by rw[List.length_take]; omega)
   obtain ⟨c0,c1,c2,c3⟩:wr.cell? ⟨b,off+k*4,none⟩=some (.int .i64 i)∧wr.cell? ⟨b,off+k*4+1,none⟩=some (.int .i64 st)∧wr.cell? ⟨b,off+k*4+2,none⟩=some (.int .u64 g)∧wr.cell? ⟨b,off+k*4+3,none⟩=some (.int .i64 u) :=
    ⟨(hnx.cell (p:=⟨b,_,none⟩) hb).trans (hr 0 _ rfl),(hnx.cell (p:=⟨b,_,none⟩) hb).trans (hr 1 _ rfl),(hnx.cell (p:=⟨b,_,none⟩) hb).trans (hr 2 _ rfl),(hnx.cell (p:=⟨b,_,none⟩) hb).trans (hr 3 _ rfl)⟩
   have hX:=hI hx
   have HJ:=hI hJ
   clear hx hr hJ2 hJ
   gi_wp2
   refine hR.mono ?_
   rintro e W3 (⟨rfl,hJ3,hk3⟩ | ⟨rfl,hJx3⟩)
   ·gi_wp2
    go_roundw
    case rel=>exact ⟨k+1,by omega,by simp,by rw[take_one L k hlt,hX.out]; exact hJ3,(hnx.alloc (fun b h=>nL (hS b h) hnx.size) _).trans hk3 (fun b h=>h)⟩
    case measure=>simp[intOf]; omega
   ·gi_wp2
    refine bodyPost_ret (results_none rfl _ _ _) rfl ?_
    exact ⟨⟨_,rfl⟩,.inr ⟨_,⟨k+1,by omega,rfl⟩,by rw[take_one L k hlt,hX.out]; exact hJx3⟩⟩
  ·obtain rfl:k=L.length:=by omega
   rw[List.take_length] at hJs
   gi_wp2
   go_end0
   exact ⟨⟨_,rfl⟩,.inl ⟨_,rfl,hJs⟩⟩
theorem rise1_nil (F:Fence) (n:Nat) (h7:F.fn 184) (hro:F.round=none) (l Bs cap:Nat) (A:Option Addr) (J:List Num→World→Prop) (W:World) (hBs:W.cell? ⟨Bs,0,none⟩=some (.slice A 0 cap)) (h0:J [] W) :
 CallsIn F n Tryz.prog 184 #[.func (.yield l) #[] #[],.pointer (some ⟨Bs,0,none⟩)] W fun e W'=>(∃ v,e=.returned v)∧J [] W':=by
 refine callsIn_of_wp Tryz.func184 rfl h7 ?_ hro
 simp only[Tryz.ntmps184,List.size_toArray,List.length_cons,List.length_nil,Nat.reduceAdd,Nat.reduceSub,Array.replicate_succ,Array.replicate_zero,List.push_toArray,List.append_toArray,List.nil_append,List.cons_append]
 gi_wp2
 gi_loopw [7] (fun i wr=>i=.int .i64 0∧J [] wr) (fun _ _=>0)
 case atStart=>exact ⟨rfl,h0⟩
 case round =>
  obtain ⟨rfl,hJs⟩:=hrel
  gi_wp2
  go_end0
  exact ⟨⟨_,rfl⟩,hJs⟩
theorem rise_stops (F:Fence) (n:Nat) (h7:F.fn 184) (hro:F.round=none) (hn:1≤n) (B n₁ n₂:Nat) (L:List Num) (hL:L.length≤16) (w:World) (hs:SeqM w n₁ B L) (hn₂:n₂=w.heap.size) :
 SeqStopsK F n Tryz.prog 184 #[.pointer (some ⟨B,0,none⟩)] numA (Kept (fun b=>n₁≤b∧b<n₂)) (fun ys=>ys=L) (fun pre=>∃ k,k≤L.length∧pre=L.take k) L.length w:=fun l J Jx W hW hJ hJx hY h0=>by
 subst hn₂
 obtain ⟨_,hB,A,cap,hc,hrow⟩:=hs
 have hc':=(hW.cell (p:=⟨B,0,none⟩) hB).trans hc
 rcases Nat.eq_zero_or_pos L.length with hz | hp
 ·obtain rfl:L=[]:=List.length_eq_zero_iff.1 hz
  exact (rise1_nil F n h7 hro l B cap A J W hc' h0).mono fun e W' ⟨he,hj⟩=>⟨he,.inl ⟨_,rfl,hj⟩⟩
 ·obtain ⟨b,off,rfl,hb,hcs⟩:=(hrow.below hW (fun b h=>h.2)).2 hp
  exact rise1_in F n h7 hro hn l B b off cap _ L hL hb J Jx W (fun b h=>nL h.2 hW.size) hJ hY hc' hcs h0
theorem keptK_t {S:Nat→Prop} {A B C:World} (h:Kept S A B) (k:Kept S B C):Kept S A C:=h.trans k (fun _ h=>h)
theorem keptK_b {n₁ n₂:Nat} {w:World} (hn:n₂≤w.heap.size) (W:World) (l:Nat) (o o':Obj) (hl:w.heap.size≤l) (h:W.heap[l]? = some o) (_:o.isCells=false) (_:o.isWalk=false):Kept (fun b=>n₁≤b∧b<n₂) W (W.putObj l o') :=
 (Kept.refl _ W).grown (grownBy_putObj' W l o') (fun b hb=>nL hb.2 (nT hn (nT hl (Nat.le_of_lt (Array.getElem?_eq_some_iff.1 h).1)))) (fun g e hg=>by cases e; omega)
end
section
theorem eql_seg (a b c a' b' c':Int) (w:World):(binOp .eql 126 (.agg #[.int .i64 a,.int .u64 b,.int .i64 c]) (.agg #[.int .i64 a',.int .u64 b',.int .i64 c'])).run Tryz.prog w=.ok (.bool (decide ((a,b,c)=(a',b',c')))) w:=by
 by_cases h0:a=a'
 case neg =>
  have e0:(a==a')=false:=by simpa using h0
  rw[show decide ((a,b,c)=(a',b',c'))=false from decide_eq_false (fun h=>h0 (by simp only[Prod.mk.injEq] at h; first | exact h.1 | exact h.2.1 | exact h.2.2))]
  go_simp
 subst h0
 by_cases h1:b=b'
 case neg =>
  have e1:(b==b')=false:=by simpa using h1
  rw[show decide ((a,b,c)=(a,b',c'))=false from decide_eq_false (fun h=>h1 (by simp only[Prod.mk.injEq] at h; first | exact h.1 | exact h.2.1 | exact h.2.2))]
  go_simp
 subst h1
 by_cases h2:c=c'
 case neg =>
  have e2:(c==c')=false:=by simpa using h2
  rw[show decide ((a,b,c)=(a,b,c'))=false from decide_eq_false (fun h=>h2 (by simp only[Prod.mk.injEq] at h; first | exact h.1 | exact h.2.1 | exact h.2.2))]
  go_simp
 subst h2
 rw[show decide ((a,b,c)=(a,b,c))=true from decide_eq_true rfl]
 go_simp
def SizedR (n sec:Int):Prop:=4≤n∧n≤16∧24≤sec∧sec≤64
instance aI8Small0 (n sec:Int):Decidable (SizedR n sec):=by unfold SizedR; infer_instance
theorem sized_any (n sec:Int) (w:World):Calls Tryz.prog 109 #[.int .i64 n,.int .i64 sec] w fun e w'=>e=.returned (.bool (decide (SizedR n sec)))∧w'=w:=by
 by_cases h0:(4:Int)≤n
 case neg =>
  have e:decide (SizedR n sec)=false:=decide_eq_false (fun h=>h0 h.1)
  have d0:decide ((4:Int)≤n)=false:=decide_eq_false h0
  rw[e]
  go_enter Tryz.func109,Tryz.ntmps109
  go_wp2
  go_ret
  exact ⟨rfl,rfl⟩
 have d0:decide ((4:Int)≤n)=true:=decide_eq_true h0
 by_cases h1:n≤16
 case neg =>
  have e:decide (SizedR n sec)=false:=decide_eq_false (fun h=>h1 h.2.1)
  have d1:decide (n≤16)=false:=decide_eq_false h1
  rw[e]
  go_enter Tryz.func109,Tryz.ntmps109
  go_wp2
  go_ret
  exact ⟨rfl,rfl⟩
 have d1:decide (n≤16)=true:=decide_eq_true h1
 by_cases h2:(24:Int)≤sec
 case neg =>
  have e:decide (SizedR n sec)=false:=decide_eq_false (fun h=>h2 h.2.2.1)
  have d2:decide ((24:Int)≤sec)=false:=decide_eq_false h2
  rw[e]
  go_enter Tryz.func109,Tryz.ntmps109
  go_wp2
  go_ret
  exact ⟨rfl,rfl⟩
 have d2:decide ((24:Int)≤sec)=true:=decide_eq_true h2
 have e:decide (SizedR n sec)=decide (sec≤64):=by
  by_cases h3:sec≤64
  ·rw[decide_eq_true h3]; exact decide_eq_true ⟨h0,h1,h2,h3⟩
  ·rw[decide_eq_false h3]; exact decide_eq_false (fun h=>h3 h.2.2.2)
 rw[e]
 go_enter Tryz.func109,Tryz.ntmps109
 go_wp2
 go_ret
 exact ⟨rfl,rfl⟩
def MayG (s:Seg) (sec:Int):Prop:=if s.1=0 then s.2.1=0∧s.2.2=0 else (s.1=1∨s.1=2)∧0<s.2.1∧1≤s.2.2∧s.2.2≤sec
instance aI8Small1 (s:Seg) (sec:Int):Decidable (MayG s sec):=by unfold MayG; infer_instance
theorem segmay_any (s:Seg) (sec:Int) (w:World):Calls Tryz.prog 163 #[.agg (segC s).toArray,.int .i64 sec] w fun e w'=>e=.returned (.bool (decide (MayG s sec)))∧Below w.heap.size w w':=by
 obtain ⟨st,g,u⟩:=s
 have hb:=(Below.refl w.heap.size w).alloc (nR _) (.cells (segC (st,g,u)).toArray 126)
 have HB:=hI hb
 clear hb
 by_cases h0:st=0
 ·subst h0
  have e:decide (MayG (0,g,u) sec)=decide (((0:Int),g,u)=(0,0,0)):=by
   unfold MayG
   simp[Prod.mk.injEq]
  rw[e]
  have heq:=eql_seg 0 g u 0 0 0
  generalize decide (((0:Int),g,u)=(0,0,0))=r at *
  go_enter Tryz.func163,Tryz.ntmps163
  go_wp2
  go_ret
  exact ⟨rfl,HB.out⟩
 have d0:(st==0)=false:=by simpa using h0
 by_cases hs:st=1∨st=2
 case neg =>
  have e:decide (MayG (st,g,u) sec)=false:=decide_eq_false (fun h=>by unfold MayG at h; rw[if_neg h0] at h; exact hs h.1)
  rw[e]
  have d1:(st==1)=false:=by simp; exact fun h=>hs (.inl h)
  have d2:(st==2)=false:=by simp; exact fun h=>hs (.inr h)
  go_enter Tryz.func163,Tryz.ntmps163
  go_wp2
  go_ret
  exact ⟨rfl,HB.out⟩
 have e0:MayG (st,g,u) sec↔0<g∧1≤u∧u≤sec:=by
  unfold MayG
  rw[if_neg h0]
  exact ⟨fun h=>h.2,fun h=>⟨hs,h⟩⟩
 have E0:=hI e0
 clear e0
 have go1:∀ st:Int,st=1∨st=2→Calls Tryz.prog 163 #[.agg #[.int .i64 st,.int .u64 g,.int .i64 u],.int .i64 sec] w fun e w'=>e=.returned (.bool (decide (0<g)&&decide (1≤u)&&decide (u≤sec)))∧Below w.heap.size w w':=by
  intro st hs
  have HB:=hI ((Below.refl w.heap.size w).alloc (nR _) (.cells (segC (st,g,u)).toArray 126))
  cases d1:decide (0<g)
  ·rcases hs with rfl | rfl
   ·go_enter Tryz.func163,Tryz.ntmps163
    go_wp2
    go_ret
    exact ⟨rfl,HB.out⟩
   ·go_enter Tryz.func163,Tryz.ntmps163
    go_wp2
    go_ret
    exact ⟨rfl,HB.out⟩
  ·cases d2:decide (1≤u)
   ·rcases hs with rfl | rfl
    ·go_enter Tryz.func163,Tryz.ntmps163
     go_wp2
     go_ret
     exact ⟨rfl,HB.out⟩
    ·go_enter Tryz.func163,Tryz.ntmps163
     go_wp2
     go_ret
     exact ⟨rfl,HB.out⟩
   ·rcases hs with rfl | rfl
    ·go_enter Tryz.func163,Tryz.ntmps163
     go_wp2
     go_ret
     exact ⟨rfl,HB.out⟩
    ·go_enter Tryz.func163,Tryz.ntmps163
     go_wp2
     go_ret
     exact ⟨rfl,HB.out⟩
 have e:decide (MayG (st,g,u) sec)=(decide (0<g)&&decide (1≤u)&&decide (u≤sec)):=by
  rw[show decide (MayG (st,g,u) sec)=decide (0<g∧1≤u∧u≤sec) from decide_eq_decide.2 E0.out]
  simp[Bool.decide_and,Bool.and_assoc]
 rw[e]
 exact go1 st hs
end
section
open Go.RowKit Go.Shelf
attribute [local go_sem] Oper.semAt_some
def flow (a:Seg):List Num→Bool
 | []=>true
 | x::r=>(!(a.1==1||a.2.1==x.2.2.1))&&flow x.2 r
def lastOf (a:Seg):List Num→Seg
 | []=>a
 | x::r=>lastOf x.2 r
theorem lastOf_snoc (x:Num):∀ (pre:List Num) (a:Seg),lastOf a (pre++[x])=x.2
 | [],_=>rfl
 | y::pre,_=>lastOf_snoc x pre y.2
theorem flow_snoc (x:Num):∀ (pre:List Num) (a:Seg),flow a (pre++[x])=(flow a pre&&!((lastOf a pre).1==1||(lastOf a pre).2.1==x.2.2.1))
 | [],a=>by simp[flow,lastOf]
 | y::pre,a=>by
  show (_&&flow y.2 (pre++[x]))=_
  rw[flow_snoc x pre y.2]
  simp only[flow,lastOf,Bool.and_assoc]
theorem flow_prefix (pre r:List Num):∀ (a:Seg),flow a pre=false→flow a (pre++r)=false:=by
 induction pre with
 | nil=>intro a h; cases h
 | cons y pre ih =>
  intro a h
  simp only[flow,List.cons_append,Bool.and_eq_false_iff] at h ⊢
  exact h.imp id (ih y.2)
theorem blk_own {β:Type} (g:Nat) (t:TypeId) (f:β→Array Value):Own (fun s W=>Blk W g t (f s)):=fun s X Y row hs hg hrow =>
 hs.grown hg (fun e=>by obtain ⟨o,ho,hc⟩:=hrow g e.symm; rw[show X.heap[g]? = _ from hs] at ho; cases ho; cases hc)
theorem own_size {β:Type} {B:Nat} (m:Nat):OwnFrom B (fun (_:β) W=>m≤W.heap.size):=fun _ _ _ _ hs hg _=>nT hs hg.size
theorem may_next {xs:List Seg} {sec:Int} {j:Nat} (h:∀ k,k<j→MayG (xs.getD k seg0) sec) (hm:MayG (xs.getD j seg0) sec) (k:Nat) (hk:k<j+1):MayG (xs.getD k seg0) sec:=by
 by_cases e:k<j
 ·exact h k e
 ·obtain rfl:k=j:=by omega
  exact hm
theorem may_all {xs:List Seg} {sec:Int} (h:∀ k,k<xs.length→MayG (xs.getD k seg0) sec):∀ s∈xs,MayG s sec:=by
 intro s hs
 obtain ⟨i,hi,rfl⟩:=List.getElem_of_mem hs
 have:=h i hi
 simpa [List.getD,hi] using this
theorem check_walk {w:World} {A:Option Addr} {n cap:Nat} {xs:List Seg} (h:RowZ w (·<w.heap.size) A n xs) (sec:Int) (hsz:SizedR n sec) :
 Calls Tryz.prog 110 #[.agg #[.int .i64 sec,.slice A n cap]] w fun e w'=>((∃ s∈xs,¬ MayG s sec)∧e=.returned (.int .i64 180)∨(∀ s∈xs,MayG s sec)∧∃ L,L.Perm (live xs)∧Rises L∧e=.returned (.int .i64 (if flow seg0 L then 0 else 180)))∧Below w.heap.size w w':=by
 have HX:=hI h
 have HSZ:=hI hsz
 have hd:decide (SizedR (n:Int) sec)=true:=decide_eq_true hsz
 have HSI:=hI (fun (W:World)=>by have h:=sized_any n sec W; rw[hd] at h; exact h)
 clear h hsz hd
 refine (callsIn_wide (n:=5)).1 ?_
 refine callsIn_of_wp_marks Tryz.func110 rfl trivial ?_ rfl
 simp only[Tryz.ntmps110,List.size_toArray,List.length_cons,List.length_nil,Nat.reduceAdd,Nat.reduceSub,Array.replicate_succ,Array.replicate_zero,List.push_toArray,List.append_toArray,List.nil_append,List.cons_append]
 gi_wp2_with (refine ⟨trivial,?_⟩; gi_at_call 109; refine (callsIn_wide.2 (HSI.out _)).mono ?_; rintro e w' ⟨rfl,rfl⟩)
 have HK0:=hI (Blk.new w 95 #[.int .i64 sec,.slice A n cap])
 gi_loopw [18] (fun i wr=>∃ j:Nat,i=.int .i64 j∧j≤n∧(∀ k,k<j→MayG (xs.getD k seg0) sec)∧Blk wr w.heap.size 95 #[.int .i64 sec,.slice A n cap]∧Blk wr (w.heap.size+1) 36 #[.int .i64 0]∧Below w.heap.size w wr)
  (fun i _=>n-(intOf i).toNat)
 case atStart=>exact ⟨0,rfl,Nat.zero_le _,fun k h=>absurd h (by omega),HK0.out.alloc _,blk_new2 w _ _ _,((Below.refl _ w).alloc (nR _) _).alloc (by simp) _⟩
 case round =>
  obtain ⟨j,rfl,hj,hmay,hb0,hb1,hbel⟩:=hrel
  have HB0:=hI hb0
  have HB1:=hI hb1
  have HBEL:=hI hbel
  have HMAY:=hI hmay
  have hn16:n≤16:=by have:=HSZ.out.2.1; omega
  clear hb0 hb1 hbel hmay
  by_cases hlt:j<n
  ·obtain ⟨b,off,rfl,hbb,hcc⟩:=(HX.out.below HBEL.out (fun b h=>h)).2 (by omega)
   have hr:=hcc j hlt
   have hmem:xs.getD j seg0∈xs:=by
    have hl:j<xs.length:=by rw[HX.out.1]; exact hlt
    simp[List.getD,hl]
   have HMEM:=hI hmem
   obtain ⟨st,g,u,hx⟩:∃ st g u,xs.getD j seg0=(st,g,u):=⟨_,_,_,rfl⟩
   rw[hx] at hr
   have HXJ:=hI hx
   obtain ⟨c0,c1,c2⟩:wr.cell? ⟨b,off+j*3,none⟩=some (.int .i64 st)∧wr.cell? ⟨b,off+j*3+1,none⟩=some (.int .u64 g)∧wr.cell? ⟨b,off+j*3+2,none⟩=some (.int .i64 u):=⟨hr 0 _ rfl,hr 1 _ rfl,hr 2 _ rfl⟩
   obtain ⟨k0,k1⟩:_∧_:=⟨HB0.out.cell 0,HB0.out.cell 1⟩
   have k2:=HB1.out.cell 0
   have f2:=HB1.out.frozen 0
   simp only[List.getElem?_toArray,List.getElem?_cons_zero,List.getElem?_cons_succ] at k0 k1 k2
   have HMM:=hI (fun W=>segmay_any (st,g,u) sec W)
   have HB0a:=hI (HB0.out.alloc (.cells (segC (st,g,u)).toArray 126))
   have HB1a:=hI (HB1.out.alloc (.cells (segC (st,g,u)).toArray 126))
   have HBELa:=hI (HBEL.out.alloc HBEL.out.size (.cells (segC (st,g,u)).toArray 126))
   have k0a:(wr.alloc (.cells #[.int .i64 st,.int .u64 g,.int .i64 u] 126)).cell? ⟨w.heap.size,0,none⟩=some (.int .i64 sec):=HB0a.out.cell 0
   clear hx hr hcc hmem
   by_cases hm:MayG (st,g,u) sec
   case neg =>
    rw[decide_eq_false hm] at HMM
    gi_wp2_with (refine ⟨trivial,?_⟩; gi_at_call 163; refine (callsIn_wide.2 (HMM.out _)).mono ?_; rintro e w5 ⟨rfl,hb5⟩; have HB0b:=hI (HB0a.out.below hb5 HB0a.out.lt); have HB1b:=hI (HB1a.out.below hb5 HB1a.out.lt); have HBELb:=hI (HBELa.out.trans (hb5.mono HBELa.out.size)); have k2b:=HB1b.out.cell 0; have f2b:=HB1b.out.frozen 0; simp only[List.getElem?_toArray,List.getElem?_cons_zero,List.getElem?_cons_succ] at k2b; clear hb5)
    refine ⟨.int .i64 180,?_,.inl ⟨⟨_,HMEM.out,by rw[HXJ.out]; exact hm⟩,rfl⟩,HBELb.out.setCell (p:=⟨w.heap.size+1,0,none⟩) (by simp) _⟩
    have hc:=World.cell?_setCell_same' w5 ⟨w.heap.size+1,0,none⟩ (.int .i64 180) (by rw[k2b]; rfl)
    simp[results,Tryz.f110,go_sem,hc]
   rw[decide_eq_true hm] at HMM
   gi_wp2_with (refine ⟨trivial,?_⟩; gi_at_call 163; refine (callsIn_wide.2 (HMM.out _)).mono ?_; rintro e w5 ⟨rfl,hb5⟩; have HB0b:=hI (HB0a.out.below hb5 HB0a.out.lt); have HB1b:=hI (HB1a.out.below hb5 HB1a.out.lt); have HBELb:=hI (HBELa.out.trans (hb5.mono HBELa.out.size)); have k2b:=HB1b.out.cell 0; have f2b:=HB1b.out.frozen 0; simp only[List.getElem?_toArray,List.getElem?_cons_zero,List.getElem?_cons_succ] at k2b; clear hb5)
   exact ⟨⟨j+1,by simp,by omega,may_next HMAY.out (by rw[HXJ.out]; exact hm),HB0b.out,HB1b.out,HBELb.out⟩,by simp[intOf]; omega⟩
  ·obtain rfl:j=n:=by omega
   obtain ⟨k0,k1⟩:_∧_:=⟨HB0.out.cell 0,HB0.out.cell 1⟩
   simp only[List.getElem?_toArray,List.getElem?_cons_zero,List.getElem?_cons_succ] at k0 k1
   have HB0a:=hI (HB0.out.alloc (.cells (segC seg0).toArray 126))
   have HB1a:=hI (HB1.out.alloc (.cells (segC seg0).toArray 126))
   have HBELa:=hI (HBEL.out.alloc HBEL.out.size (.cells (segC seg0).toArray 126))
   have hRI:=fun (hh:RowZ (wr.alloc (.cells (segC seg0).toArray 126)) (·<(wr.alloc (.cells (segC seg0).toArray 126)).heap.size) A j xs)=>rising_any (cap:=cap) hh hn16
   have HRI:=hI (hRI ((HX.out.below HBELa.out (fun b h=>h)).more (fun b h=>nL h HBELa.out.size)))
   have k1a:(wr.alloc (.cells #[.int .i64 0,.int .u64 0,.int .i64 0] 126)).cell? ⟨w.heap.size,1,none⟩=some (.slice A j cap):=HB0a.out.cell 1
   clear hRI
   gi_wp2_with (refine ⟨trivial,?_⟩; gi_at_call 130; refine (callsIn_wide.2 HRI.out).mono ?_; rintro e w5 ⟨B,L,rfl,hsq,hperm,hri,hb5⟩)
   have hall:=may_all (fun k hk=>HMAY.out k (by rw[← HX.out.1]; exact hk))
   have HALL:=hI hall
   have hL16:L.length≤16:=by rw[hperm.length_eq]; have:=liveTo_length xs xs.length; rw[HX.out.1] at this; unfold live; rw[HX.out.1]; omega
   have hb1:=HB1a.out.below hb5 HB1a.out.lt
   have hb2:=(Blk.new wr 126 (segC seg0).toArray).below hb5 (by simp)
   have hB5:=HBELa.out.trans (hb5.mono HBELa.out.size)
   have hH5:w.heap.size+1<wr.heap.size:=HB1.out.lt
   have hs5:wr.heap.size<w5.heap.size:=hb2.lt
   have hn1:(wr.alloc (.cells (segC seg0).toArray 126)).heap.size=wr.heap.size+1:=by simp
   rw[hn1] at hsq
   refine wpIn_rangeFunc_ownH rfl (by omega) (gf:=184) (lb:=#[.pointer (some ⟨B,0,none⟩)]) rfl trivial (enters_of Tryz.func184 (by kernel_rfl) rfl)
    (rise_stops Fence.wide 4 trivial rfl (by omega) B (wr.heap.size+1) w5.heap.size L hL16 w5 hsq rfl) keptK_t (keptK_b (nR _)) (Below.refl _ _) (fun _=>rfl)
    (fun pre W=>((Blk W (w.heap.size+1) 36 #[.int .i64 0]∧Blk W wr.heap.size 126 (segC (lastOf seg0 pre)).toArray)∧flow seg0 pre=true)∧Below w.heap.size w W∧w5.heap.size≤W.heap.size)
    (fun c pre W=>(Blk W (w.heap.size+1) 36 #[.int .i64 180]∧c=.ret∧flow seg0 pre=false)∧Below w.heap.size w W)
    (OwnFrom.and (OwnFrom.and (OwnFrom.and (Own.from (blk_own _ _ _) _) (Own.from (blk_own _ _ _) _)) (ownFrom_pure _ _)) (OwnFrom.and (ownFrom_below (nR _) hB5.size) (own_size _)))
    (fun c=>OwnFrom.and (OwnFrom.and (Own.from (blk_own _ _ _) _) (ownFrom_pure _ _)) (ownFrom_below (nR _) hB5.size))
    ⟨⟨⟨hb1,hb2⟩,rfl⟩,hB5,nR _⟩
    (fun x a' W=>∃ Bx,wr.heap.size<Bx∧Blk W Bx 126 (segC x.2).toArray∧a'={ tmps:=#[.agg #[.int .i64 sec,.slice A j cap],.pointer (some ⟨w.heap.size,0,none⟩),.pointer (some ⟨w.heap.size+1,0,none⟩),undef,u4,.pointer (some ⟨wr.heap.size,0,none⟩),undef,.pointer (some ⟨Bx,0,none⟩),.pointer (some ⟨w.heap.size,1,none⟩),.slice A j cap,.int .i64 j,.pointer (some ⟨w.heap.size,0,none⟩),.int .i64 sec,.bool true,.bool false,.pointer (some ⟨w.heap.size,1,none⟩),.slice A j cap,.int .i64 j,.int .i64 j,.bool false,u20,u21,u22,u23,u24,u25,u26,u27,.pointer (some ⟨w.heap.size,1,none⟩),.slice A j cap,.func (.func 184) #[] #[.pointer (some ⟨B,0,none⟩)],.int .i64 x.1,.agg (segC x.2).toArray,undef,undef,undef,undef,undef,undef,undef,undef,undef,undef,undef],defers:=[] })
    (fun x a' _ X Y row hs hg hr=>by obtain ⟨Bx,h1,h2,h3⟩:=hs; exact ⟨Bx,h1,blk_own Bx _ (fun (_:Unit)=>_) () X Y row h2 hg (fun r e=>(hr r e).2),h3⟩)
    ?assign ?body ?done ?stop
   case assign =>
    rintro l pre x W K ⟨⟨⟨h1,h2⟩,h3⟩,hB,hsz⟩ hK
    gi_wp2
    exact hK _ _ ((KeepsOthers.alloc _ _).from _) ((Kept.refl _ W).alloc (fun b hb=>nL hb.2 hsz) _) ⟨⟨⟨h1.alloc _,h2.alloc _⟩,h3⟩,hB.alloc hB.size _,nT hsz (by simp)⟩ ⟨W.heap.size,h2.lt,Blk.new W _ _,rfl⟩
   case body =>
    rintro l pre ⟨i,st,g,u⟩ a' W hl ⟨r,hr⟩ ⟨⟨⟨h1,h2⟩,h3⟩,hB,hsz⟩ ⟨Bx,hBx,bX,rfl⟩ hlt
    have hfs:=flow_snoc (i,st,g,u) pre seg0
    have hls:=lastOf_snoc (i,st,g,u) pre seg0
    rw[h3] at hfs
    obtain ⟨ast,ag,au,ha⟩:∃ ast ag au,lastOf seg0 pre=(ast,ag,au):=⟨_,_,_,rfl⟩
    rw[ha] at hfs h2
    have HFS:=hI hfs
    have HLS:=hI hls
    have H1:=hI h1
    have H2:=hI h2
    have HBB:=hI hB
    have f1:=H1.out.frozen 0
    have c1:W.cell? ⟨w.heap.size+1,0,none⟩=some (.int .i64 0):=H1.out.cell 0
    obtain ⟨a0,a1,a2⟩:W.cell? ⟨wr.heap.size,0,none⟩=some (.int .i64 ast)∧W.cell? ⟨wr.heap.size,1,none⟩=some (.int .u64 ag)∧W.cell? ⟨wr.heap.size,2,none⟩=some (.int .i64 au):=⟨H2.out.cell 0,H2.out.cell 1,H2.out.cell 2⟩
    obtain ⟨g0,g1,g2⟩:=And.intro (H2.out.frozen 0) (And.intro (H2.out.frozen 1) (H2.out.frozen 2))
    obtain ⟨b0,b1,b2⟩:W.cell? ⟨Bx,0,none⟩=some (.int .i64 st)∧W.cell? ⟨Bx,1,none⟩=some (.int .u64 g)∧W.cell? ⟨Bx,2,none⟩=some (.int .i64 u):=⟨bX.cell 0,bX.cell 1,bX.cell 2⟩
    clear hfs hls h1 h2 hB ha h3 bX
    have hneH:∀ b,wr.heap.size+1≤b∧b<w5.heap.size→b≠wr.heap.size:=fun b h=>by omega
    have hneE:∀ b,wr.heap.size+1≤b∧b<w5.heap.size→b≠w.heap.size+1:=fun b h=>by omega
    by_cases d1:ast=1
    ·subst d1
     gi_wp2
     exact ⟨(KeepsOthers.setCell _ _ _).from _,⟨H1.out.set_ 0 _,rfl,by rw[HFS.out]; rfl⟩,HBB.out.setCell (p:=⟨w.heap.size+1,0,none⟩) (by simp) _⟩
    ·have e1:(ast==1)=false:=by simpa using d1
     by_cases d2:ag=g
     ·subst d2
      gi_wp2
      exact ⟨(KeepsOthers.setCell _ _ _).from _,⟨H1.out.set_ 0 _,rfl,by rw[HFS.out]; simp⟩,HBB.out.setCell (p:=⟨w.heap.size+1,0,none⟩) (by simp) _⟩
     ·have e2:(ag==g)=false:=by simpa using d2
      gi_wp2
      have hle:w.heap.size≤wr.heap.size:=by omega
      have hno:∀ k,¬ ((wr.heap.size+1≤(Addr.mk wr.heap.size k none).block)∧(Addr.mk wr.heap.size k none).block<w5.heap.size):=fun k h=>hneH _ h rfl
      have hne:w.heap.size+1≠wr.heap.size:=by omega
      refine ⟨(((KeepsOthers.setCell W _ _).trans (KeepsOthers.setCell _ _ _)).trans (KeepsOthers.setCell _ _ _)).from _,(((Kept.refl _ W).setCell (hno 0) _).setCell (hno 1) _).setCell (hno 2) _,
       ⟨⟨((H1.out.far (p:=⟨wr.heap.size,0,none⟩) hne _).far (p:=⟨wr.heap.size,1,none⟩) hne _).far (p:=⟨wr.heap.size,2,none⟩) hne _,?_⟩,by rw[HFS.out,e1,e2]; rfl⟩,((HBB.out.setCell (p:=⟨wr.heap.size,0,none⟩) hle _).setCell (p:=⟨wr.heap.size,1,none⟩) hle _).setCell (p:=⟨wr.heap.size,2,none⟩) hle _,by simpa [World.setCell] using hsz⟩
      rw[HLS.out]
      exact ((H2.out.set_ 0 _).set_ 1 _).set_ 2 _
   case done =>
    rintro D ys W hD rfl ⟨⟨⟨h1,h2⟩,h3⟩,hB,hsz⟩ hK
    have f1:=h1.frozen 0
    have c1:W.cell? ⟨w.heap.size+1,0,none⟩=some (.int .i64 0):=h1.cell 0
    gi_wp2
    have hK':=(KeepsOthers.setCell W ⟨w.heap.size+1,0,none⟩ (.int .i64 0)).same D _ hK rfl
    refine ⟨by simp,.inl ⟨_,_,rfl,run_takeDeferred hK',?_⟩⟩
    have hc5:=cell_kept (World.cell?_setCell_same' W ⟨w.heap.size+1,0,none⟩ (.int .i64 0) (by rw[c1]; rfl)) (grownBy_putObj' _ D (.deferred none)) (fun r e=>by cases e; exact ⟨_,hK',rfl⟩)
    refine ⟨.int .i64 0,?_,.inr ⟨HALL.out,_,hperm,hri,by rw[h3]; rfl⟩,(hB.setCell (p:=⟨w.heap.size+1,0,none⟩) (by simp) _).trans (belowK_b (w:=w) (nR _) _ D _ _ (nT hB5.size hD) hK' rfl rfl)⟩
    simp[results,Tryz.f110,go_sem,hc5]
   case stop =>
    rintro D c pre W hD ⟨k,hk,rfl⟩ ⟨⟨h1,rfl,h3⟩,hB⟩ hK
    have c1:W.cell? ⟨w.heap.size+1,0,none⟩=some (.int .i64 180):=h1.cell 0
    gi_wp2
    refine ⟨by simp,.inl ⟨_,_,rfl,run_takeDeferred hK,?_⟩⟩
    have hc5:=cell_kept c1 (grownBy_putObj' _ D (.deferred none)) (fun r e=>by cases e; exact ⟨_,hK,rfl⟩)
    have hfl:flow seg0 L=false:=by
     have:=flow_prefix (L.take k) (L.drop k) seg0 h3
     rwa [List.take_append_drop] at this
    refine ⟨.int .i64 180,?_,.inr ⟨HALL.out,L,hperm,hri,by rw[hfl]; rfl⟩,hB.trans (belowK_b (w:=w) (nR _) W D _ _ (nT hB5.size hD) hK rfl rfl)⟩
    simp[results,Tryz.f110,go_sem,hc5]
end
section
abbrev stG (xs:List Seg) (i:Nat):Int:=(xs.getD i seg0).1
abbrev genG (xs:List Seg) (i:Nat):Int:=(xs.getD i seg0).2.1
abbrev usedG (xs:List Seg) (i:Nat):Int:=(xs.getD i seg0).2.2
def Apart (xs:List Seg):Prop:=∀ i,i<xs.length→∀ j,j<xs.length→i≠j→(xs.getD i seg0).1≠0→(xs.getD j seg0).1≠0 →
 (xs.getD i seg0).2.1≠(xs.getD j seg0).2.1∧((xs.getD i seg0).1=1→(xs.getD j seg0).2.1<(xs.getD i seg0).2.1)
def OkR (sec:Int) (xs:List Seg):Prop:=SizedR xs.length sec∧(∀ s∈xs,MayG s sec)∧Apart xs
noncomputable instance (sec:Int) (xs:List Seg):Decidable (OkR sec xs):=Classical.propDecidable _
def latTo (xs:List Seg):Nat→Int
 | 0=>-1
 | j+1=>if stG xs j≠0∧(latTo xs j<0∨genG xs (latTo xs j).toNat<genG xs j) then j else latTo xs j
def opnTo (xs:List Seg):Nat→Int
 | 0=>-1
 | j+1=>if 0≤opnTo xs j then opnTo xs j else if stG xs j=1 then j else -1
def oldTo (xs:List Seg):Nat→Int
 | 0=>-1
 | j+1=>if stG xs j=2∧(oldTo xs j<0∨genG xs j<genG xs (oldTo xs j).toNat) then j else oldTo xs j
def nxtTo (xs:List Seg) (a:Int):Nat→Int
 | 0=>-1
 | k+1=>if 0≤nxtTo xs a k then nxtTo xs a k else if stG xs ((a+1+k).toNat % xs.length)=0 then (((a+1+k).toNat % xs.length:Nat):Int) else -1
def latR (xs:List Seg):Int:=latTo xs xs.length
def opnR (xs:List Seg):Int:=opnTo xs xs.length
def oldR (xs:List Seg):Int:=oldTo xs xs.length
def nxtR (xs:List Seg):Int:=nxtTo xs (latR xs) xs.length
theorem lat_spec (xs:List Seg):∀ j,(latTo xs j=-1∧∀ i,i<j→stG xs i=0)∨∃ i,i<j∧latTo xs j=(i:Nat)∧stG xs i≠0∧∀ k,k<j→stG xs k≠0→genG xs k≤genG xs i
 | 0=>.inl ⟨rfl,fun i h=>absurd h (by omega)⟩
 | j + 1 => by
  have ih:=lat_spec xs j
  unfold latTo
  split
  case isTrue h =>
   obtain ⟨h1,h2⟩:=h
   refine .inr ⟨j,by omega,rfl,h1,fun k hk hs=>?_⟩
   rcases Nat.lt_or_ge k j with hlt | hge
   ·rcases ih with ⟨e,hz⟩ | ⟨i,hi,e,hs',hm⟩
    ·exact absurd (hz k hlt) hs
    ·rw[e] at h2
     have:=hm k hlt hs
     simp only[Int.toNat_natCast] at h2
     rcases h2 with h2 | h2 <;> omega
   ·obtain rfl:k=j:=by omega
    exact Int.le_refl _
  case isFalse h =>
   rcases ih with ⟨e,hz⟩ | ⟨i,hi,e,hs',hm⟩
   ·refine .inl ⟨e,fun i hi=>?_⟩
    rcases Nat.lt_or_ge i j with hlt | hge
    ·exact hz i hlt
    ·obtain rfl:i=j:=by omega
     rw[e] at h
     by_cases h0:stG xs i=0
     ·exact h0
     ·exact absurd ⟨h0,.inl (by omega)⟩ h
   ·refine .inr ⟨i,by omega,e,hs',fun k hk hs=>?_⟩
    rcases Nat.lt_or_ge k j with hlt | hge
    ·exact hm k hlt hs
    ·obtain rfl:k=j:=by omega
     rw[e] at h
     simp only[Int.toNat_natCast,not_and,not_or] at h
     have:=(h hs).2
     omega
theorem opn_spec (xs:List Seg):∀ j,(opnTo xs j=-1∧∀ i,i<j→stG xs i≠1)∨∃ i,i<j∧opnTo xs j=(i:Nat)∧stG xs i=1
 | 0=>.inl ⟨rfl,fun i h=>absurd h (by omega)⟩
 | j + 1 => by
  have ih:=opn_spec xs j
  unfold opnTo
  rcases ih with ⟨e,hz⟩ | ⟨i,hi,e,hs⟩
  ·rw[e,if_neg (by omega)]
   by_cases h1:stG xs j=1
   ·rw[if_pos h1]
    exact .inr ⟨j,by omega,rfl,h1⟩
   ·rw[if_neg h1]
    refine .inl ⟨rfl,fun i hi=>?_⟩
    rcases Nat.lt_or_ge i j with hlt | hge
    ·exact hz i hlt
    ·obtain rfl:i=j:=by omega
     exact h1
  ·rw[e,if_pos (by omega)]
   exact .inr ⟨i,by omega,rfl,hs⟩
theorem old_spec (xs:List Seg):∀ j,(oldTo xs j=-1∧∀ i,i<j→stG xs i≠2)∨∃ i,i<j∧oldTo xs j=(i:Nat)∧stG xs i=2∧∀ k,k<j→stG xs k=2→genG xs i≤genG xs k
 | 0=>.inl ⟨rfl,fun i h=>absurd h (by omega)⟩
 | j + 1 => by
  have ih:=old_spec xs j
  unfold oldTo
  split
  case isTrue h =>
   obtain ⟨h1,h2⟩:=h
   refine .inr ⟨j,by omega,rfl,h1,fun k hk hs=>?_⟩
   rcases Nat.lt_or_ge k j with hlt | hge
   ·rcases ih with ⟨e,hz⟩ | ⟨i,hi,e,hs',hm⟩
    ·exact absurd hs (hz k hlt)
    ·rw[e] at h2
     have:=hm k hlt hs
     simp only[Int.toNat_natCast] at h2
     rcases h2 with h2 | h2 <;> omega
   ·obtain rfl:k=j:=by omega
    exact Int.le_refl _
  case isFalse h =>
   rcases ih with ⟨e,hz⟩ | ⟨i,hi,e,hs',hm⟩
   ·refine .inl ⟨e,fun i hi=>?_⟩
    rcases Nat.lt_or_ge i j with hlt | hge
    ·exact hz i hlt
    ·obtain rfl:i=j:=by omega
     rw[e] at h
     exact fun h0=>h ⟨h0,.inl (by omega)⟩
   ·refine .inr ⟨i,by omega,e,hs',fun k hk hs=>?_⟩
    rcases Nat.lt_or_ge k j with hlt | hge
    ·exact hm k hlt hs
    ·obtain rfl:k=j:=by omega
     rw[e] at h
     simp only[Int.toNat_natCast,not_and,not_or] at h
     have:=(h hs).2
     omega
theorem nxt_spec (xs:List Seg) (a:Int):∀ k,(nxtTo xs a k=-1∧∀ i,i<k→stG xs ((a+1+i).toNat % xs.length)≠0) ∨
 ∃ i,i<k∧nxtTo xs a k=(((a+1+(i:Nat)).toNat % xs.length:Nat):Int)∧stG xs ((a+1+i).toNat % xs.length)=0∧∀ q,q<i→stG xs ((a+1+(q:Nat)).toNat % xs.length)≠0
 | 0=>.inl ⟨rfl,fun i h=>absurd h (by omega)⟩
 | k + 1 => by
  have ih:=nxt_spec xs a k
  unfold nxtTo
  rcases ih with ⟨e,hz⟩ | ⟨i,hi,e,hs,hq⟩
  ·rw[e,if_neg (by omega)]
   by_cases h1:stG xs ((a+1+(k:Nat)).toNat % xs.length)=0
   ·rw[if_pos h1]
    exact .inr ⟨k,by omega,rfl,h1,hz⟩
   ·rw[if_neg h1]
    refine .inl ⟨rfl,fun i hi=>?_⟩
    rcases Nat.lt_or_ge i k with hlt | hge
    ·exact hz i hlt
    ·obtain rfl:i=k:=by omega
     exact h1
  ·rw[e,if_pos (by omega)]
   exact .inr ⟨i,by omega,rfl,hs,hq⟩
theorem nxt_stay (xs:List Seg) (a:Int) {k:Nat} (h:0≤nxtTo xs a k):∀ d,nxtTo xs a (k+d)=nxtTo xs a k
 | 0=>rfl
 | d+1=>by
  have ih:=nxt_stay xs a h d
  show nxtTo xs a ((k+d)+1)=_
  conv=>lhs; unfold nxtTo
  rw[ih,if_pos h]
theorem may_at {sec:Int} {xs:List Seg} (h:∀ s∈xs,MayG s sec) {i:Nat} (hi:i<xs.length):MayG (xs.getD i seg0) sec:=h _ (by simp[List.getD,hi])
theorem may_live {s:Seg} {sec:Int} (h:MayG s sec) (h0:s.1≠0):(s.1=1∨s.1=2)∧0<s.2.1∧1≤s.2.2∧s.2.2≤sec:=by
 unfold MayG at h
 rwa [if_neg h0] at h
theorem opn_lat {sec:Int} {xs:List Seg} (h:OkR sec xs) {i:Nat} (hi:i<xs.length) (h1:stG xs i=1):latR xs=i:=by
 rcases lat_spec xs xs.length with ⟨e,hz⟩ | ⟨m,hm,e,hs,hmax⟩
 ·have:=hz i hi
  omega
 ·unfold latR
  rw[e]
  by_cases hne:i=m
  ·rw[hne]
  ·have h2:=(h.2.2 i hi m hm hne (by rw[show (xs.getD i seg0).1=1 from h1]; decide) hs).2 h1
   have h3:=hmax i hi (by omega)
   simp only[genG] at h3
   omega
theorem opn_or {sec:Int} {xs:List Seg} (h:OkR sec xs):(opnR xs=-1∧(∀ i,i<xs.length→stG xs i≠1))∨∃ i,i<xs.length∧opnR xs=(i:Nat)∧latR xs=(i:Nat)∧stG xs i=1:=by
 rcases opn_spec xs xs.length with h1 | ⟨i,hi,e,hs⟩
 ·exact .inl h1
 ·exact .inr ⟨i,hi,e,opn_lat h hi hs,hs⟩
theorem lat_or (xs:List Seg):(latR xs=-1∧∀ i,i<xs.length→stG xs i=0)∨∃ i,i<xs.length∧latR xs=(i:Nat)∧stG xs i≠0∧∀ k,k<xs.length→stG xs k≠0→genG xs k≤genG xs i:=lat_spec xs xs.length
theorem old_or (xs:List Seg):(oldR xs=-1∧∀ i,i<xs.length→stG xs i≠2)∨∃ i,i<xs.length∧oldR xs=(i:Nat)∧stG xs i=2∧∀ k,k<xs.length→stG xs k=2→genG xs i≤genG xs k:=old_spec xs xs.length
theorem nxt_or (xs:List Seg):(nxtR xs=-1∧∀ i,i<xs.length→stG xs ((latR xs+1+i).toNat % xs.length)≠0) ∨
 ∃ i,i<xs.length∧nxtR xs=(((latR xs+1+(i:Nat)).toNat % xs.length:Nat):Int)∧stG xs ((latR xs+1+i).toNat % xs.length)=0∧∀ q,q<i→stG xs ((latR xs+1+(q:Nat)).toNat % xs.length)≠0:=nxt_spec xs _ xs.length
def topG (xs:List Seg):Int:=if latR xs<0 then 0 else genG xs (latR xs).toNat
def leftR (sec:Int) (xs:List Seg):Int:=if 0≤opnR xs then sec-usedG xs (opnR xs).toNat else 0
def freesTo (xs:List Seg):Nat→Nat
 | 0=>0
 | j+1=>freesTo xs j+(if stG xs j=0 then 1 else 0)
def freesR (xs:List Seg):Nat:=freesTo xs xs.length
noncomputable def openE (sec:Int) (xs:List Seg) (g:Int):Int:=if ¬ OkR sec xs then 180 else if 0≤opnR xs then 181 else if g≤topG xs then 2 else if nxtR xs<0 then 6 else 0
noncomputable def useE (sec:Int) (xs:List Seg) (n:Int):Int:=if ¬ OkR sec xs then 180 else if opnR xs<0 then 181 else if n<0 then 2 else if leftR sec xs<n then 6 else 0
noncomputable def sealE (sec:Int) (xs:List Seg):Int:=if ¬ OkR sec xs then 180 else if opnR xs<0 then 181 else 0
def openX (xs:List Seg) (g:Int):List Seg:=xs.set (nxtR xs).toNat (1,g,1)
def useX (xs:List Seg) (n:Int):List Seg:=xs.set (opnR xs).toNat (stG xs (opnR xs).toNat,genG xs (opnR xs).toNat,usedG xs (opnR xs).toNat+n)
def sealX (xs:List Seg):List Seg:=xs.set (opnR xs).toNat (2,genG xs (opnR xs).toNat,usedG xs (opnR xs).toNat)
end
section
open Go.RowKit Go.Shelf
attribute [local go_sem] Oper.semAt_some
theorem flow_at:∀ (L:List Num) (a:Seg),flow a L=true↔∀ k,k<L.length→(if k=0 then a else (L.getD (k-1) num0).2).1≠1∧(if k=0 then a else (L.getD (k-1) num0).2).2.1≠(L.getD k num0).2.2.1
 | [],a=>⟨fun _ k h=>absurd h (by simp),fun _=>rfl⟩
 | x :: r, a => by
  have ih:=flow_at r x.2
  simp only[flow,Bool.and_eq_true,ih,Bool.not_eq_true',Bool.or_eq_false_iff,beq_eq_false_iff_ne]
  constructor
  ·rintro ⟨h1,h2⟩ k hk
   match k with
   | 0=>exact h1
   | 1=>exact h2 0 (by simpa using hk)
   | k+2=>exact h2 (k+1) (by simp at hk; omega)
  ·intro h
   refine ⟨h 0 (by simp),fun k hk=>?_⟩
   match k with
   | 0=>exact h 1 (by simpa using hk)
   | k+1=>exact h (k+2) (by simp; omega)
theorem liveTo_fst (xs:List Seg):∀ j,((liveTo xs j).map (·.1)).Nodup
 | 0=>List.nodup_nil
 | j + 1 => by
  unfold liveTo
  split
  ·simpa using liveTo_fst xs j
  ·rw[List.map_append,List.nodup_append]
   refine ⟨liveTo_fst xs j,by simp,?_⟩
   intro a ha b hb
   simp only[List.map_cons,List.map_nil,List.mem_singleton] at hb
   obtain ⟨x,hx,rfl⟩:=List.mem_map.1 ha
   have:=((mem_liveTo xs x j).1 hx).1
   omega
theorem seg_mem {xs:List Seg} {i:Nat} (h:i<xs.length):xs.getD i seg0∈xs:=by
 simp[List.getD,h]
theorem getD_mem {L:List Num} {k:Nat} (h:k<L.length):L.getD k num0∈L:=by
 simp[List.getD,h]
theorem mem_getD {L:List Num} {x:Num} (h:x∈L):∃ k,k<L.length∧L.getD k num0=x:=by
 obtain ⟨k,hk,rfl⟩:=List.getElem_of_mem h
 exact ⟨k,hk,by simp[List.getD,hk]⟩
section
variable {xs:List Seg} {L:List Num} (hp:L.Perm (live xs)) (hr:Rises L)
include hp
theorem live_at {k:Nat} (hk:k<L.length):(L.getD k num0).1<xs.length∧(L.getD k num0).2=xs.getD (L.getD k num0).1 seg0∧(L.getD k num0).2.1≠0:=mem_live.1 (hp.mem_iff.1 (getD_mem hk))
theorem at_live {i:Nat} (hi:i<xs.length) (h0:(xs.getD i seg0).1≠0):∃ k,k<L.length∧L.getD k num0=(i,xs.getD i seg0):=mem_getD (hp.mem_iff.2 (mem_live.2 ⟨hi,rfl,h0⟩))
theorem fst_apart {p q:Nat} (hlt:p<q) (hq:q<L.length):(L.getD p num0).1≠(L.getD q num0).1:=by
 have hn:(L.map (·.1)).Nodup:=(hp.map (·.1)).nodup_iff.2 (liveTo_fst xs xs.length)
 rw[List.nodup_iff_pairwise_ne,List.pairwise_iff_getElem] at hn
 have h:=hn p q (by simp; omega) (by simpa using hq) hlt
 simpa [List.getD,hq,show p<L.length by omega] using h
theorem flow_apart (hr:Rises L) {sec:Int} (hall:∀ s∈xs,MayG s sec):flow seg0 L=true↔Apart xs:=by
 have gpos:∀ k,k<L.length→0<(L.getD k num0).2.2.1:=fun k hk=>by
  obtain ⟨h1,h2,h3⟩:=live_at hp hk
  have hm:=hall (xs.getD (L.getD k num0).1 seg0) (seg_mem h1)
  rw[← h2] at hm
  unfold MayG at hm
  rw[if_neg h3] at hm
  exact hm.2.1
 rw[flow_at]
 constructor
 ·intro h
  have strict:∀ d p,p+d+1<L.length→(L.getD p num0).2.2.1<(L.getD (p+d+1) num0).2.2.1:=fun d p hq=>by
   have h1:=h (p+d+1) hq
   simp only[Nat.add_sub_cancel,show ¬ (p+d+1=0) by omega,if_false] at h1
   have h2:=hr (p+d) (p+d+1) (by omega) hq
   have h3:(L.getD p num0).2.2.1≤(L.getD (p+d) num0).2.2.1:=by
    rcases Nat.eq_zero_or_pos d with rfl | hd
    ·exact Int.le_refl _
    ·exact hr p (p+d) (by omega) (by omega)
   have:=h1.2
   omega
  have noopen:∀ p,p+1<L.length→(L.getD p num0).2.1≠1:=fun p hp1=>by
   have h1:=h (p+1) hp1
   simp only[Nat.add_sub_cancel,show ¬ (p+1=0) by omega,if_false] at h1
   exact h1.1
  intro i hi j hj hij li lj
  obtain ⟨p,hp1,ep⟩:=at_live hp hi li
  obtain ⟨q,hq1,eq⟩:=at_live hp hj lj
  have hpq:p≠q:=by
   rintro rfl
   rw[ep] at eq
   exact hij (by injection eq)
  rcases Nat.lt_or_gt_of_ne hpq with hlt | hgt
  ·obtain ⟨d,rfl⟩:∃ d,q=p+d+1:=⟨q-p-1,by omega⟩
   have h1:=strict d p hq1
   have h2:=noopen p (by omega)
   rw[ep] at h1 h2
   rw[eq] at h1
   exact ⟨by simp only[] at h1; omega,fun ho=>absurd ho h2⟩
  ·obtain ⟨d,rfl⟩:∃ d,p=q+d+1:=⟨p-q-1,by omega⟩
   have h1:=strict d q hp1
   rw[ep,eq] at h1
   exact ⟨by simp only[] at h1; omega,fun _=>h1⟩
 ·intro h k hk
  by_cases h0:k=0
  ·subst h0
   have:=gpos 0 hk
   simp only[if_true]
   exact ⟨by simp,by show (0:Int)≠_; omega⟩
  ·simp only[h0,if_false]
   have hk1:k-1<L.length:=by omega
   obtain ⟨a1,a2,a3⟩:=live_at hp hk1
   obtain ⟨b1,b2,b3⟩:=live_at hp hk
   have hne:=fst_apart hp (show k-1<k by omega) hk
   have h1:=h _ a1 _ b1 hne (by rw[← a2]; exact a3) (by rw[← b2]; exact b3)
   rw[← a2,← b2] at h1
   have h2:=hr (k-1) k (by omega) hk
   exact ⟨fun ho=>by have:=h1.2 ho; omega,h1.1⟩
end
theorem check_bad {w:World} {A:Option Addr} {n cap:Nat} (sec:Int) (hsz:¬ SizedR n sec) :
 Calls Tryz.prog 110 #[.agg #[.int .i64 sec,.slice A n cap]] w fun e w'=>e=.returned (.int .i64 180)∧Below w.heap.size w w':=by
 have hd:decide (SizedR (n:Int) sec)=false:=decide_eq_false hsz
 have HSI:=hI (fun (W:World)=>by have h:=sized_any n sec W; rw[hd] at h; exact h)
 have HB:=hI (((Below.refl w.heap.size w).alloc (nR _) (.cells #[.int .i64 sec,.slice A n cap] 95)).alloc (by simp) (.cells #[.int .i64 0] 36))
 have HE:=hI (blk_new2 w (.cells #[.int .i64 sec,.slice A n cap] 95) 36 #[.int .i64 0])
 clear hsz hd
 refine (callsIn_wide (n:=5)).1 ?_
 refine callsIn_of_wp_marks Tryz.func110 rfl trivial ?_ rfl
 simp only[Tryz.ntmps110,List.size_toArray,List.length_cons,List.length_nil,Nat.reduceAdd,Nat.reduceSub,Array.replicate_succ,Array.replicate_zero,List.push_toArray,List.append_toArray,List.nil_append,List.cons_append]
 gi_wp2_with (refine ⟨trivial,?_⟩; gi_at_call 109; refine (callsIn_wide.2 (HSI.out _)).mono ?_; rintro e w' ⟨rfl,rfl⟩)
 refine ⟨.int .i64 180,?_,rfl,((Below.refl w.heap.size w).alloc (nR _) _).alloc (by simp) _⟩
 have hc:((w.alloc (.cells #[.int .i64 sec,.slice A n cap] 95)).alloc (.cells #[.int .i64 180] 36)).cell? ⟨w.heap.size+1,0,none⟩=some (.int .i64 180):=(blk_new2 w (.cells #[.int .i64 sec,.slice A n cap] 95) 36 #[.int .i64 180]).cell 0
 simp[results,Tryz.f110,go_sem,hc]
theorem check_any {w:World} {A:Option Addr} {n cap:Nat} {xs:List Seg} (h:RowZ w (·<w.heap.size) A n xs) (sec:Int) :
 Calls Tryz.prog 110 #[.agg #[.int .i64 sec,.slice A n cap]] w fun e w'=>e=.returned (.int .i64 (if OkR sec xs then 0 else 180))∧Below w.heap.size w w':=by
 by_cases hs:SizedR n sec
 ·refine (check_walk h sec hs).mono ?_
  rintro e w' ⟨⟨⟨s,hs1,hs2⟩,rfl⟩ | ⟨hall,L,hp,hr,rfl⟩,hb⟩
  ·rw[if_neg (fun hk=>hs2 (hk.2.1 s hs1))]
   exact ⟨rfl,hb⟩
  ·refine ⟨?_,hb⟩
   have e:flow seg0 L=true↔OkR sec xs:=by
    rw[flow_apart hp hr hall]
    exact ⟨fun ha=>⟨by rw[h.1]; exact hs,hall,ha⟩,fun h=>h.2.2⟩
   by_cases ho:OkR sec xs
   ·rw[if_pos ho,if_pos (e.2 ho)]
   ·rw[if_neg ho,if_neg (fun h=>ho (e.1 h))]
 ·refine (check_bad sec hs).mono ?_
  rintro e w' ⟨rfl,hb⟩
  rw[if_neg (fun hk=>hs (by have:=hk.1; rw[h.1] at this; exact this))]
  exact ⟨rfl,hb⟩
end
section
open Go.RowKit Go.Shelf
attribute [local go_sem] Oper.semAt_some
def atOf (a:Int):List Num→Int
 | []=>a
 | x::r=>atOf x.1 r
theorem atOf_snoc (x:Num):∀ (pre:List Num) (a:Int),atOf a (pre++[x])=x.1
 | [],_=>rfl
 | y::pre,_=>atOf_snoc x pre y.1
theorem results_rowU {P:Program} {fn:Func} {p u:Tmp} {ty:TypeId} (h:fn.results=#[.tmp u,.cell p ty]) (tmps:Array Value) (w:World) (g:Nat) (t:TypeId) (cs:Array Value) (d:TypeDesc) (hp:tmps.getD p undef=.pointer (some ⟨g,0,none⟩))
 (hg:Blk w g t cs) (hu:P.underlying ty=some d) (hd:(match d with | .struct _ | .array _ _=>true | _=>false)=true) (hi:(P.info? ty).map (·.size)=some cs.size) :
 (results fn tmps).run P w=.ok (.tuple #[tmps.getD u undef,.agg cs]) w:=by
 have hp':tmps[p]?.getD undef=.pointer (some ⟨g,0,none⟩):=by simpa using hp
 have:=run_loadVar_row (P:=P) w g t ty cs (0,0) d hg hu hd hi
 simp[results,h,hp',asAddr,this]
theorem latest_any {w:World} {A:Option Addr} {n cap:Nat} {xs:List Seg} (h:RowZ w (·<w.heap.size) A n xs) (sec:Int) (hn:n≤16) :
 Calls Tryz.prog 164 #[.agg #[.int .i64 sec,.slice A n cap]] w fun e w'=>(∃ L,L.Perm (live xs)∧Rises L∧e=.returned (.tuple #[.int .i64 (atOf (-1) L),.agg (segC (lastOf seg0 L)).toArray]))∧Below w.heap.size w w':=by
 have HX:=hI h
 have HN:=hI hn
 clear h hn
 obtain ⟨w4,hw4⟩:∃ w4,w4=((((w.alloc (.cells #[.int .i64 sec,.slice A n cap] 95)).alloc (.cells #[.int .i64 0,.int .u64 0,.int .i64 0] 126)).alloc (.cells #[.int .i64 (-1)] 3)).alloc (.cells #[.int .i64 0,.int .u64 0,.int .i64 0] 126)):=⟨_,rfl⟩
 have HW4:=hI hw4
 have hB4:Below w.heap.size w w4:=by rw[hw4]; exact ((((Below.refl _ w).alloc (nR _) _).alloc (by simp) _).alloc (by simp; omega) _).alloc (by simp; omega) _
 have HB4:=hI hB4
 have hs4:w4.heap.size=w.heap.size+4:=by rw[hw4]; simp
 have HS4:=hI hs4
 have HK1:=hI (show Blk w4 (w.heap.size+1) 126 (segC seg0).toArray by rw[hw4]; exact ((blk_new2 w _ _ _).alloc _).alloc _)
 have HK2:=hI (show Blk w4 (w.heap.size+1+1) 3 #[.int .i64 (-1)] by rw[hw4]; have h:=(Blk.new ((w.alloc (.cells #[.int .i64 sec,.slice A n cap] 95)).alloc (.cells #[.int .i64 0,.int .u64 0,.int .i64 0] 126)) 3 #[.int .i64 (-1)]).alloc (.cells #[.int .i64 0,.int .u64 0,.int .i64 0] 126); simpa using h)
 have HK3:=hI (show Blk w4 (w.heap.size+1+1+1) 126 (segC seg0).toArray by rw[hw4]; have h:=Blk.new (((w.alloc (.cells #[.int .i64 sec,.slice A n cap] 95)).alloc (.cells #[.int .i64 0,.int .u64 0,.int .i64 0] 126)).alloc (.cells #[.int .i64 (-1)] 3)) 126 (segC seg0).toArray; simpa using h)
 have HRI:=hI (rising_any (w:=w4) (cap:=cap) ((HX.out.below hB4 (fun b h=>h)).more (fun b h=>nL h hB4.size)) HN.out)
 rw[hw4] at HRI
 clear hw4 hB4 hs4
 refine (callsIn_wide (n:=5)).1 ?_
 refine callsIn_of_wp_marks Tryz.func164 rfl trivial ?_ rfl
 simp only[Tryz.ntmps164,List.size_toArray,List.length_cons,List.length_nil,Nat.reduceAdd,Nat.reduceSub,Array.replicate_succ,Array.replicate_zero,List.push_toArray,List.append_toArray,List.nil_append,List.cons_append]
 gi_wp2_with (refine ⟨trivial,?_⟩; gi_at_call 130; refine (callsIn_wide.2 HRI.out).mono ?_; rintro e w5 ⟨B,L,rfl,hsq,hperm,hri,hb5⟩)
 rw[← HW4.out] at hsq hb5
 have hL16:L.length≤16:=by have hn:=HN.out; rw[hperm.length_eq]; have:=liveTo_length xs xs.length; rw[HX.out.1] at this; unfold live; rw[HX.out.1]; omega
 have hb1:=HK1.out.below hb5 HK1.out.lt
 have hb2:=HK2.out.below hb5 HK2.out.lt
 have hb3:=HK3.out.below hb5 HK3.out.lt
 have hB5:=HB4.out.trans (hb5.mono HB4.out.size)
 have hs4:=HS4.out
 have hs5:=hb5.size
 refine wpIn_rangeFunc_ownH rfl (by omega) (gf:=184) (lb:=#[.pointer (some ⟨B,0,none⟩)]) rfl trivial (enters_of Tryz.func184 (by kernel_rfl) rfl)
  (rise_stops Fence.wide 4 trivial rfl (by omega) B w4.heap.size w5.heap.size L hL16 w5 hsq rfl) keptK_t (keptK_b (nR _)) (Below.refl _ _) (fun _=>rfl)
  (fun pre W=>((Blk W (w.heap.size+1) 126 (segC seg0).toArray∧Blk W (w.heap.size+1+1) 3 #[.int .i64 (atOf (-1) pre)])∧Blk W (w.heap.size+1+1+1) 126 (segC (lastOf seg0 pre)).toArray)∧Below w.heap.size w W∧w5.heap.size≤W.heap.size)
  (fun _ _ _=>False)
  (OwnFrom.and (OwnFrom.and (OwnFrom.and (Own.from (blk_own _ _ _) _) (Own.from (blk_own _ _ _) _)) (Own.from (blk_own _ _ _) _)) (OwnFrom.and (ownFrom_below (nR _) hB5.size) (own_size _)))
  (fun _ _ _ _ _ hs _ _=>hs)
  ⟨⟨⟨hb1,hb2⟩,hb3⟩,hB5,nR _⟩
  (fun x a' W=>∃ Bx,w4.heap.size≤Bx∧Blk W Bx 126 (segC x.2).toArray∧a'={ tmps:=#[.agg #[.int .i64 sec,.slice A n cap],.pointer (some ⟨w.heap.size,0,none⟩),.int .i64 0,.pointer (some ⟨w.heap.size+1,0,none⟩),.pointer (some ⟨w.heap.size+1+1,0,none⟩),.pointer (some ⟨w.heap.size+1+1+1,0,none⟩),.int .i64 x.1,.pointer (some ⟨Bx,0,none⟩),.agg #[.int .i64 0,.int .u64 0,.int .i64 0],.pointer (some ⟨w.heap.size,1,none⟩),.slice A n cap,.func (.func 184) #[] #[.pointer (some ⟨B,0,none⟩)],.int .i64 x.1,.agg (segC x.2).toArray,undef,undef,undef,undef],defers:=[] })
  (fun x a' _ X Y row hs hg hr=>by obtain ⟨Bx,h1,h2,h3⟩:=hs; exact ⟨Bx,h1,blk_own Bx _ (fun (_:Unit)=>_) () X Y row h2 hg (fun r e=>(hr r e).2),h3⟩)
  ?assign ?body ?done ?stop
 case assign =>
  rintro l pre x W K ⟨⟨⟨h1,h2⟩,h3⟩,hB,hsz⟩ hK
  gi_wp2
  exact hK _ _ ((KeepsOthers.alloc _ _).from _) ((Kept.refl _ W).alloc (fun b hb=>nL hb.2 hsz) _) ⟨⟨⟨h1.alloc _,h2.alloc _⟩,h3.alloc _⟩,hB.alloc hB.size _,nT hsz (by simp)⟩ ⟨W.heap.size,nT hs5 hsz,Blk.new W _ _,rfl⟩
 case body =>
  rintro l pre ⟨i,st,g,u⟩ a' W hl ⟨r,hr⟩ ⟨⟨⟨h1,h2⟩,h3⟩,hB,hsz⟩ ⟨Bx,hBx,bX,rfl⟩ hlt
  have hls:=lastOf_snoc (i,st,g,u) pre seg0
  have has:=atOf_snoc (i,st,g,u) pre (-1)
  obtain ⟨ast,ag,au,ha⟩:∃ ast ag au,lastOf seg0 pre=(ast,ag,au):=⟨_,_,_,rfl⟩
  rw[ha] at h3
  generalize atOf (-1) pre=aat at h2
  have HLS:=hI hls
  have HAS:=hI has
  have H1:=hI h1
  have H2:=hI h2
  have H3:=hI h3
  have HBB:=hI hB
  have c2:W.cell? ⟨w.heap.size+1+1,0,none⟩=some (.int .i64 aat):=H2.out.cell 0
  have f2:=H2.out.frozen 0
  obtain ⟨a0,a1,a2⟩:W.cell? ⟨w.heap.size+1+1+1,0,none⟩=some (.int .i64 ast)∧W.cell? ⟨w.heap.size+1+1+1,1,none⟩=some (.int .u64 ag)∧W.cell? ⟨w.heap.size+1+1+1,2,none⟩=some (.int .i64 au):=⟨H3.out.cell 0,H3.out.cell 1,H3.out.cell 2⟩
  obtain ⟨g0,g1,g2⟩:=And.intro (H3.out.frozen 0) (And.intro (H3.out.frozen 1) (H3.out.frozen 2))
  obtain ⟨b0,b1,b2⟩:W.cell? ⟨Bx,0,none⟩=some (.int .i64 st)∧W.cell? ⟨Bx,1,none⟩=some (.int .u64 g)∧W.cell? ⟨Bx,2,none⟩=some (.int .i64 u):=⟨bX.cell 0,bX.cell 1,bX.cell 2⟩
  have n1:Bx≠w.heap.size+1+1:=by omega
  have n2:Bx≠w.heap.size+1+1+1:=by omega
  clear hls has h1 h2 h3 hB ha bX
  gi_wp2
  have mixed:Tryz.prog.follows Departure.mixedOrders=true:=by kernel_rfl
  gi_region_with_o (fail)
  all_goals gi_wp2
  all_goals (try go_bits)
  all_goals
   have e3:w.heap.size+1≠w.heap.size+1+1:=by omega
   have e4:w.heap.size+1≠w.heap.size+1+1+1:=by omega
   have e5:w.heap.size+1+1≠w.heap.size+1+1+1:=by omega
   have hA:=HAS.out
   have hL:=HLS.out
   refine ⟨(((((KeepsOthers.setCell W _ _).trans (KeepsOthers.setCell _ _ _)).trans (KeepsOthers.setCell _ _ _)).trans (KeepsOthers.setCell _ _ _)).trans (KeepsOthers.drew _)).from _,
    (((((Kept.refl _ W).setCell (p:=⟨w.heap.size+1+1,0,none⟩) (fun h=>by have:=h.1; simp only[] at this; omega) _).setCell (p:=⟨w.heap.size+1+1+1,0,none⟩) (fun h=>by have:=h.1; simp only[] at this; omega) _).setCell (p:=⟨w.heap.size+1+1+1,1,none⟩) (fun h=>by have:=h.1; simp only[] at this; omega) _).setCell (p:=⟨w.heap.size+1+1+1,2,none⟩) (fun h=>by have:=h.1; simp only[] at this; omega) _).drew,
    ⟨⟨((((H1.out.far (p:=⟨w.heap.size+1+1,0,none⟩) e3 _).far (p:=⟨w.heap.size+1+1+1,0,none⟩) e4 _).far (p:=⟨w.heap.size+1+1+1,1,none⟩) e4 _).far (p:=⟨w.heap.size+1+1+1,2,none⟩) e4 _).drew,?_⟩,?_⟩,
    ((((HBB.out.setCell (p:=⟨w.heap.size+1+1,0,none⟩) (by simp only[]; omega) _).setCell (p:=⟨w.heap.size+1+1+1,0,none⟩) (by simp only[]; omega) _).setCell (p:=⟨w.heap.size+1+1+1,1,none⟩) (by simp only[]; omega) _).setCell (p:=⟨w.heap.size+1+1+1,2,none⟩) (by simp only[]; omega) _).drew,by simpa [World.setCell] using hsz⟩
   ·rw[hA]
    exact ((((H2.out.set_ 0 _).far (p:=⟨w.heap.size+1+1+1,0,none⟩) e5 _).far (p:=⟨w.heap.size+1+1+1,1,none⟩) e5 _).far (p:=⟨w.heap.size+1+1+1,2,none⟩) e5 _).drew
   ·rw[hL]
    exact ((((H3.out.far (p:=⟨w.heap.size+1+1,0,none⟩) e5.symm _).set_ 0 _).set_ 1 _).set_ 2 _).drew
 case done =>
  rintro D ys W hD rfl ⟨⟨⟨h1,h2⟩,h3⟩,hB,hsz⟩ hK
  obtain ⟨ast,ag,au,ha⟩:∃ ast ag au,lastOf seg0 ys=(ast,ag,au):=⟨_,_,_,rfl⟩
  rw[ha] at h3
  have HA:=hI ha
  obtain ⟨aat,hat⟩:∃ aat,atOf (-1) ys=aat:=⟨_,rfl⟩
  rw[hat] at h2
  have HAT:=hI hat
  have H1:=hI h1
  have HBB:=hI hB
  have c2:W.cell? ⟨w.heap.size+1+1,0,none⟩=some (.int .i64 aat):=h2.cell 0
  obtain ⟨a0,a1,a2⟩:W.cell? ⟨w.heap.size+1+1+1,0,none⟩=some (.int .i64 ast)∧W.cell? ⟨w.heap.size+1+1+1,1,none⟩=some (.int .u64 ag)∧W.cell? ⟨w.heap.size+1+1+1,2,none⟩=some (.int .i64 au):=⟨h3.cell 0,h3.cell 1,h3.cell 2⟩
  obtain ⟨d0,d1,d2⟩:W.cell? ⟨w.heap.size+1,0,none⟩=some (.int .i64 0)∧W.cell? ⟨w.heap.size+1,1,none⟩=some (.int .u64 0)∧W.cell? ⟨w.heap.size+1,2,none⟩=some (.int .i64 0):=⟨h1.cell 0,h1.cell 1,h1.cell 2⟩
  obtain ⟨g0,g1,g2⟩:=And.intro (H1.out.frozen 0) (And.intro (H1.out.frozen 1) (H1.out.frozen 2))
  have mixed:Tryz.prog.follows Departure.mixedOrders=true:=by kernel_rfl
  clear h1 h2 h3 hB ha hat
  gi_wp2
  refine wpIn_mono (Q:=NoPanic _) ?_ NoPanic.imp
  gi_region_with_o (fail)
  all_goals refine NoPanic.normal ?_
  all_goals gi_wp2
  all_goals (try go_bits)
  all_goals
   have hW:(((W.setCell ⟨w.heap.size+1,0,none⟩ (.int .i64 ast)).setCell ⟨w.heap.size+1,1,none⟩ (.int .u64 ag)).setCell ⟨w.heap.size+1,2,none⟩ (.int .i64 au)).drew.heap[D]? = some (.deferred (some [])):=((((KeepsOthers.setCell W _ _).trans (KeepsOthers.setCell _ _ _)).trans (KeepsOthers.setCell _ _ _)).trans (KeepsOthers.drew _)).same D _ hK rfl
   have hF:=(((HBB.out.setCell (p:=⟨w.heap.size+1,0,none⟩) (by simp) (.int .i64 ast)).setCell (p:=⟨w.heap.size+1,1,none⟩) (by simp) (.int .u64 ag)).setCell (p:=⟨w.heap.size+1,2,none⟩) (by simp) (.int .i64 au)).drew
   have hG:=(((H1.out.set_ 0 (.int .i64 ast)).set_ 1 (.int .u64 ag)).set_ 2 (.int .i64 au)).drew
   refine ⟨by simp,.inl ⟨_,_,rfl,run_takeDeferred hW,?_⟩⟩
   refine ⟨_,results_rowU (p:=3) (u:=2) rfl _ _ (w.heap.size+1) 126 (segC (ast,ag,au)).toArray _ rfl ?_ Tryz.underlying126 rfl size_seg,⟨_,hperm,hri,by rw[HA.out,HAT.out]; rfl⟩,hF.trans (belowK_b (w:=w) (nR _) _ D _ _ (nT hB5.size hD) hW rfl rfl)⟩
   exact hG.grown (grownBy_putObj' _ D (.deferred none)) (fun e=>by cases e; rw[show _=_ from hG] at hW; cases hW)
 case stop =>
  rintro D c pre W _ _ h _
  exact h.elim
end
section
set_option linter.unusedSectionVars false
def lastR (xs:List Seg):Seg:=if latR xs<0 then seg0 else xs.getD (latR xs).toNat seg0
theorem last_top (xs:List Seg):(lastR xs).2.1=topG xs:=by
 unfold lastR topG
 split <;> rfl
theorem last_open {sec:Int} {xs:List Seg} (h:OkR sec xs):(lastR xs).1=1↔0≤opnR xs:=by
 rcases opn_or h with ⟨e,hz⟩ | ⟨i,hi,e,el,hs⟩
 ·rw[e]
  refine ⟨fun h1=>?_,fun h=>by omega⟩
  exfalso
  rcases lat_or xs with ⟨e2,_⟩ | ⟨m,hm,e2,_⟩
  ·unfold lastR at h1; rw[e2,if_pos (by omega)] at h1; exact absurd h1 (by decide)
  ·unfold lastR at h1; rw[e2,if_neg (by omega),Int.toNat_natCast] at h1; exact hz m hm h1
 ·rw[e]
  refine ⟨fun _=>by omega,fun _=>?_⟩
  unfold lastR
  rw[el,if_neg (by omega),Int.toNat_natCast]
  exact hs
section
variable {sec:Int} {xs:List Seg} {L:List Num} (hk:OkR sec xs) (hp:L.Perm (live xs)) (hr:Rises L)
include hk hp hr
theorem ord_last:atOf (-1) L=latR xs∧lastOf seg0 L=lastR xs:=by
 rcases List.eq_nil_or_concat L with rfl | ⟨pre,x,rfl⟩
 ·rcases lat_or xs with ⟨e,hz⟩ | ⟨i,hi,e,hs,hm⟩
  ·unfold lastR
   rw[e,if_pos (by omega)]
   exact ⟨rfl,rfl⟩
  ·obtain ⟨k,hk',_⟩:=at_live hp hi hs
   simp at hk'
 ·rw [List.concat_eq_append] at *
  rw[atOf_snoc,lastOf_snoc]
  have hl:pre.length<(pre++[x]).length:=by simp
  have hx:(pre++[x]).getD pre.length num0=x:=by simp[List.getD]
  obtain ⟨h1,h2,h3⟩:=live_at hp hl
  rw[hx] at h1 h2 h3
  rcases lat_or xs with ⟨e,hz⟩ | ⟨i,hi,e,hs,hm⟩
  ·exact absurd (by have:=hz x.1 h1; simp only[stG] at this; rw[← h2] at this; exact this) h3
  ·have hxi:x.1=i:=by
    by_cases hne:x.1=i
    ·exact hne
    ·obtain ⟨k,hk',ek⟩:=at_live hp hi hs
     have hle:((pre++[x]).getD k num0).2.2.1≤((pre++[x]).getD pre.length num0).2.2.1:=by
      rcases Nat.lt_or_ge k pre.length with hlt | hge
      ·exact hr k pre.length hlt hl
      ·obtain rfl:k=pre.length:=by simp at hk'; omega
       exact Int.le_refl _
     rw[ek,hx,h2] at hle
     have hge:=hm x.1 h1 (by simp only[stG]; rw[← h2]; exact h3)
     have:=(hk.2.2 x.1 h1 i hi hne (by rw[← h2]; exact h3) hs).1
     simp only[genG] at hge hle
     omega
   unfold lastR
   rw[e,if_neg (by omega),Int.toNat_natCast]
   exact ⟨by rw[hxi],by rw[h2,hxi]⟩
end
theorem row_now {w W:World} {A:Option Addr} {n:Nat} {xs:List Seg} (h:RowZ w (·<w.heap.size) A n xs) (hb:Below w.heap.size w W):RowZ W (·<W.heap.size) A n xs :=
 (h.below hb (fun _ h=>h)).more (fun b h=>nL h hb.size)
theorem ok_n {sec:Int} {xs:List Seg} {n:Nat} (h:OkR sec xs) (hn:xs.length=n):4≤n∧n≤16:=by
 have:=h.1
 unfold SizedR at this
 omega
theorem latest_ok {w:World} {A:Option Addr} {n cap:Nat} {xs:List Seg} (h:RowZ w (·<w.heap.size) A n xs) {sec:Int} (hk:OkR sec xs) :
 Calls Tryz.prog 164 #[.agg #[.int .i64 sec,.slice A n cap]] w fun e w'=>e=.returned (.tuple #[.int .i64 (latR xs),.agg (segC (lastR xs)).toArray])∧Below w.heap.size w w':=by
 refine (latest_any h sec (ok_n hk h.1).2).mono ?_
 rintro e w' ⟨⟨L,hp,hr,rfl⟩,hb⟩
 obtain ⟨e1,e2⟩:=ord_last hk hp hr
 rw[e1,e2]
 exact ⟨rfl,hb⟩
end
section
abbrev ringV (sec:Int) (A:Option Addr) (n cap:Nat):Value:=.agg #[.int .i64 sec,.slice A n cap]
def RI (w:World) (sec:Int) (A:Option Addr) (n cap:Nat) (wr:World) (j:Nat) (i:Value):Prop :=
 j≤n∧i=.int .i64 j∧Blk wr w.heap.size 95 #[.int .i64 sec,.slice A n cap]∧Below w.heap.size w wr
theorem seg_get {w:World} {S:Nat→Prop} {A:Option Addr} {n:Nat} {xs:List Seg} (h:RowZ w S A n xs) {j:Nat} (hj:j<n):∃ b off,A=some ⟨b,off,none⟩∧S b ∧
 (∀ i,i<n→w.cell? ⟨b,off+i*3,none⟩=some (.int .i64 (stG xs i))∧w.cell? ⟨b,off+i*3+1,none⟩=some (.int .u64 (genG xs i))∧w.cell? ⟨b,off+i*3+2,none⟩=some (.int .i64 (usedG xs i))):=by
 obtain ⟨b,off,e,hb,hc⟩:=h.2 (by omega)
 refine ⟨b,off,e,hb,fun i hi=>?_⟩
 have:=hc i hi
 exact ⟨this 0 _ rfl,this 1 _ rfl,this 2 _ rfl⟩
theorem ref_latest_sp (xs:List Seg) (j:Nat):latTo xs j=-1∨∃ i:Nat,i<j∧latTo xs j=(i:Int):=by
 rcases lat_spec xs j with ⟨e,_⟩ | ⟨i,hi,e,_⟩
 ·exact .inl e
 ·exact .inr ⟨i,hi,e⟩
end
section
noncomputable def openedE (sec:Int) (xs:List Seg):Int:=if ¬ OkR sec xs then 180 else if opnR xs<0 then 4 else 0
noncomputable def openedV (sec:Int) (xs:List Seg):Int:=if openedE sec xs=0 then opnR xs else 0
theorem opened_bad {sec:Int} {xs:List Seg} (h:¬ OkR sec xs):openedE sec xs=180∧openedV sec xs=0:=by
 have e:openedE sec xs=180:=by unfold openedE; rw[if_pos h]
 exact ⟨e,by unfold openedV; rw[e]; rfl⟩
theorem opened_no {sec:Int} {xs:List Seg} (h:OkR sec xs) (h2:opnR xs<0):openedE sec xs=4∧openedV sec xs=0:=by
 have e:openedE sec xs=4:=by unfold openedE; rw[if_neg (fun k=>k h),if_pos h2]
 exact ⟨e,by unfold openedV; rw[e]; rfl⟩
theorem opened_yes {sec:Int} {xs:List Seg} (h:OkR sec xs) (h2:¬ opnR xs<0):openedE sec xs=0∧openedV sec xs=opnR xs:=by
 have e:openedE sec xs=0:=by unfold openedE; rw[if_neg (fun k=>k h),if_neg h2]
 exact ⟨e,by unfold openedV; rw[e]; rfl⟩
theorem ring_cells {w:World} {g:Nat} {sec:Int} {A:Option Addr} {n cap:Nat} (h:Blk w g 95 #[.int .i64 sec,.slice A n cap]):w.cell? ⟨g,0,none⟩=some (.int .i64 sec)∧w.cell? ⟨g,1,none⟩=some (.slice A n cap):=⟨h.cell 0,h.cell 1⟩
theorem ring_first {w w1:World} {sec:Int} {A:Option Addr} {n cap:Nat} (h:Below (w.alloc (.cells #[.int .i64 sec,.slice A n cap] 95)).heap.size (w.alloc (.cells #[.int .i64 sec,.slice A n cap] 95)) w1) :
 Below w.heap.size w w1∧Blk w1 w.heap.size 95 #[.int .i64 sec,.slice A n cap] :=
 ⟨((Below.refl w.heap.size w).alloc (nR _) _).trans (h.mono (by simp)),(Blk.new w _ _).below h (by simp)⟩
theorem opened_any {w:World} {A:Option Addr} {n cap:Nat} {xs:List Seg} (h:RowZ w (·<w.heap.size) A n xs) (sec:Int) :
 Calls Tryz.prog 111 #[ringV sec A n cap] w fun e w'=>e=.returned (.tuple #[.int .i64 (openedV sec xs),.int .i64 (openedE sec xs)])∧Below w.heap.size w w':=by
 have HX:=hI h
 have HB1:=hI ((Below.refl w.heap.size w).alloc (nR _) (.cells #[.int .i64 sec,.slice A n cap] 95))
 have HC:=hI (check_any (cap:=cap) (row_now h HB1.out) sec)
 clear h
 by_cases hk:OkR sec xs
 case neg =>
  obtain ⟨e1,e2⟩:=opened_bad hk
  rw[if_neg hk] at HC
  rw[e1,e2]
  clear e1 e2
  go_enter Tryz.func111,Tryz.ntmps111
  go_wp2_with (go_at_call 110; refine HC.out.mono ?_; rintro e w1 ⟨rfl,hb1⟩; have HB2:=hI (ring_first hb1); clear hb1)
  go_ret2
  exact ⟨rfl,HB2.out.1⟩
 rw[if_pos hk] at HC
 have HK:=hI hk
 have HLO:=hI (last_open hk)
 have HOY:=hI (fun h2=>opened_yes hk h2)
 have HON:=hI (fun h2=>opened_no hk h2)
 have HLT:=hI (opn_or hk)
 clear hk
 obtain ⟨st,g,u,hl⟩:∃ st g u,lastR xs=(st,g,u):=⟨_,_,_,rfl⟩
 rw[hl] at HLO
 have HL:=hI (fun (W:World) (hh:RowZ W (·<W.heap.size) A n xs)=>by have:=latest_ok (cap:=cap) hh HK.out; rw[hl] at this; exact this)
 clear hl
 by_cases h1:st=1
 ·subst h1
  have ho:¬ opnR xs<0:=by have:=HLO.out.1 rfl; omega
  obtain ⟨e1,e2⟩:=HOY.out ho
  have e3:latR xs=opnR xs:=by rcases HLT.out with ⟨e,_⟩ | ⟨i,_,e,e',_⟩ <;> omega
  rw[e1,e2,← e3]
  clear e1 e2 e3 ho
  generalize latR xs=a at *
  go_enter Tryz.func111,Tryz.ntmps111
  go_wp2_with (first
   | (go_at_call 110; refine HC.out.mono ?_; rintro e w1 ⟨rfl,hb1⟩; have HB2:=hI (ring_first hb1); obtain ⟨k0,k1⟩:=ring_cells HB2.out.2; clear hb1)
   | (go_at_call 164; refine (HL.out _ (row_now HX.out HB2.out.1)).mono ?_; rintro e w2 ⟨rfl,hb2⟩; have HB3:=hI (HB2.out.1.trans (hb2.mono HB2.out.1.size)); clear hb2))
  go_ret2
  exact ⟨rfl,HB3.out.alloc HB3.out.size _⟩
 ·have d1:(st != 1)=true:=by simpa using h1
  have ho:opnR xs<0:=by
   rcases Int.lt_or_le (opnR xs) 0 with h | h
   ·exact h
   ·exact absurd (HLO.out.2 h) h1
  obtain ⟨e1,e2⟩:=HON.out ho
  rw[e1,e2]
  clear e1 e2 ho
  generalize latR xs=a at *
  go_enter Tryz.func111,Tryz.ntmps111
  go_wp2_with (first
   | (go_at_call 110; refine HC.out.mono ?_; rintro e w1 ⟨rfl,hb1⟩; have HB2:=hI (ring_first hb1); obtain ⟨k0,k1⟩:=ring_cells HB2.out.2; clear hb1)
   | (go_at_call 164; refine (HL.out _ (row_now HX.out HB2.out.1)).mono ?_; rintro e w2 ⟨rfl,hb2⟩; have HB3:=hI (HB2.out.1.trans (hb2.mono HB2.out.1.size)); clear hb2))
  go_ret2
  exact ⟨rfl,HB3.out.alloc HB3.out.size _⟩
noncomputable def workE (sec:Int) (xs:List Seg):Int:=if openedE sec xs=4 then 181 else openedE sec xs
theorem work_is (sec:Int) (xs:List Seg):workE sec xs=sealE sec xs:=by
 unfold workE sealE openedE
 by_cases hk:OkR sec xs
 ·by_cases h2:opnR xs<0 <;> simp[hk,h2]
 ·simp[hk]
theorem working_any {w:World} {A:Option Addr} {n cap:Nat} {xs:List Seg} (h:RowZ w (·<w.heap.size) A n xs) (sec:Int) :
 Calls Tryz.prog 172 #[ringV sec A n cap] w fun e w'=>e=.returned (.tuple #[.int .i64 (openedV sec xs),.int .i64 (sealE sec xs)])∧Below w.heap.size w w':=by
 have HB1:=hI ((Below.refl w.heap.size w).alloc (nR _) (.cells #[.int .i64 sec,.slice A n cap] 95))
 have HC:=hI (opened_any (cap:=cap) (row_now h HB1.out) sec)
 have HV:=hI (show openedE sec xs=4→openedV sec xs=0 from fun h=>by unfold openedV; rw[if_neg (by omega)])
 rw[← work_is]
 unfold workE
 clear h
 generalize openedE sec xs=er at *
 generalize openedV sec xs=vr at *
 by_cases h4:er=4
 ·subst h4
  obtain rfl:vr=0:=HV.out rfl
  go_enter Tryz.func172,Tryz.ntmps172
  go_wp2_with (go_at_call 111; refine HC.out.mono ?_; rintro e w1 ⟨rfl,hb1⟩; have HB2:=hI (ring_first hb1); clear hb1)
  go_ret2
  exact ⟨rfl,HB2.out.1⟩
 ·have d4:(er==4)=false:=by simpa using h4
  rw[if_neg h4]
  go_enter Tryz.func172,Tryz.ntmps172
  go_wp2_with (go_at_call 111; refine HC.out.mono ?_; rintro e w1 ⟨rfl,hb1⟩; have HB2:=hI (ring_first hb1); clear hb1)
  go_ret2
  exact ⟨rfl,HB2.out.1⟩
noncomputable def leftW (sec:Int) (xs:List Seg):Int:=if OkR sec xs then leftR sec xs else 0
theorem left_ring {w:World} {A:Option Addr} {n cap:Nat} {xs:List Seg} (h:RowZ w (·<w.heap.size) A n xs) (sec:Int) :
 Calls Tryz.prog 46 #[ringV sec A n cap] w fun e w'=>e=.returned (.int .i64 (leftW sec xs))∧Below w.heap.size w w':=by
 have HX:=hI h
 have HB1:=hI ((Below.refl w.heap.size w).alloc (nR _) (.cells #[.int .i64 sec,.slice A n cap] 95))
 have HC:=hI (opened_any (cap:=cap) (row_now h HB1.out) sec)
 clear h
 by_cases hk:openedE sec xs=0
 case neg =>
  have e0:leftW sec xs=0:=by
   unfold leftW
   split
   case isFalse=>rfl
   case isTrue ho =>
    unfold leftR
    by_cases h2:opnR xs<0
    ·rw[if_neg (by omega)]
    ·exact absurd (opened_yes ho h2).1 hk
  rw[e0]
  have d1:(openedE sec xs != 0)=true:=by simpa using hk
  clear hk e0
  generalize openedE sec xs=er at *
  generalize openedV sec xs=vr at *
  go_enter Tryz.func46,Tryz.ntmps46
  go_wp2_with (go_at_call 111; refine HC.out.mono ?_; rintro e w1 ⟨rfl,hb1⟩; have HB2:=hI (ring_first hb1); clear hb1)
  go_ret
  exact ⟨rfl,HB2.out.1⟩
 have hok:OkR sec xs:=by
  by_cases h:OkR sec xs
  ·exact h
  ·have:=(opened_bad h).1; omega
 have hno:¬ opnR xs<0:=fun h=>by have:=(opened_no hok h).1; omega
 obtain ⟨e1,e2⟩:=opened_yes hok hno
 obtain ⟨i,hi,hopn⟩:∃ i:Nat,i<n∧opnR xs=i:=by
  rcases opn_or hok with ⟨e,_⟩ | ⟨i,hi,e,_⟩
  ·omega
  ·exact ⟨i,by rw[← HX.out.1]; exact hi,e⟩
 have e3:leftW sec xs=sec-usedG xs i:=by unfold leftW leftR; rw[if_pos hok,if_pos (by omega),hopn,Int.toNat_natCast]
 have hu:0≤usedG xs i∧24≤sec∧sec≤64∧usedG xs i≤64:=by
  have h1:=hok.1
  unfold SizedR at h1
  have h2:=hok.2.1 (xs.getD i seg0) (seg_mem (by rw[HX.out.1]; exact hi))
  unfold MayG at h2
  split at h2
  ·simp only[usedG]; omega
  ·simp only[usedG]; omega
 rw[e1,e2,hopn] at HC
 rw[e3]
 clear hok hno e1 e2 hopn e3 hk
 obtain ⟨b,off,rfl,hbb,hcc⟩:=seg_get HX.out hi
 have c2:=(hcc i hi).2.2
 have HCC:=hI c2
 generalize usedG xs i=u at *
 clear hcc c2
 have hw:wrap64 (sec-u)=sec-u:=by unfold wrap64; omega
 go_enter Tryz.func46,Tryz.ntmps46
 go_wp2_with (go_at_call 111; refine HC.out.mono ?_; rintro e w1 ⟨rfl,hb1⟩; have HB2:=hI (ring_first hb1); obtain ⟨k0,k1⟩:=ring_cells HB2.out.2; have kG:w1.cell? ⟨b,off+i*3+2,none⟩=some (.int .i64 u):=(Below.cell HB2.out.1 (p:=⟨b,_,none⟩) hbb).trans HCC.out; clear hb1)
 go_quiet (fail)
 go_wp2
 go_ret
 exact ⟨rfl,below_drewN HB2.out.1 _⟩
end
section
def flatG (L:List Seg):List Value:=L.flatMap segC
theorem flatG_append (L M:List Seg):flatG (L++M)=flatG L++flatG M:=by simp[flatG]
theorem flatG_one (s:Seg):flatG [s]=segC s:=by simp[flatG]
theorem flatG_length (L:List Seg):(flatG L).length=L.length*3:=by
 induction L with
 | nil=>rfl
 | cons x r ih =>
  simp only[flatG,List.flatMap_cons,List.length_append,List.length_cons] at *
  rw[ih]
  simp only[segC,List.length_cons,List.length_nil]
  omega
theorem flatG_get:∀ (L:List Seg) (t:Nat),t<L.length*3→(flatG L)[t]? = (segC (L.getD (t / 3) seg0))[t % 3]?
 | [],t,h=>by simp at h
 | y :: L, t, h => by
  unfold flatG
  rw[List.flatMap_cons]
  by_cases h4:t<3
  ·rw[List.getElem?_append_left (by simpa using h4)]
   rw[show t / 3=0 by omega,show t % 3=t by omega]
   rfl
  ·have e:t-(segC y).length=t-3:=by simp
   rw[List.getElem?_append_right (by simp; omega),e]
   have ih:=flatG_get L (t-3) (by simp at h; omega)
   unfold flatG at ih
   rw[ih,show t / 3=(t-3) / 3+1 by omega,show t % 3=(t-3) % 3 by omega]
   rfl
theorem flatG_ones (L:List Seg):∀ v∈flatG L,v.oneCell'=true:=by
 intro v hv
 obtain ⟨s,_,h⟩:=List.mem_flatMap.1 hv
 exact ones_seg s v h
theorem flatG_set (L:List Seg) (i:Nat) (s:Seg) (h:i<L.length):flatG (L.set i s)=(flatG L).take (i*3)++segC s++(flatG L).drop (i*3+3):=by
 have e:L.set i s=L.take i++[s]++L.drop (i+1):=by
  rw[List.set_eq_take_append_cons_drop,if_pos h]; simp
 have e2:L=L.take i++[L.getD i seg0]++L.drop (i+1):=by
  simp only[List.getD,List.getElem?_eq_getElem h,Option.getD_some]
  rw[List.append_assoc,List.singleton_append,← List.drop_eq_getElem_cons h,List.take_append_drop]
 have hl:(flatG (L.take i)).length=i*3:=by rw[flatG_length,List.length_take]; omega
 have h1:(flatG L).take (i*3)=flatG (L.take i):=by
  conv=>lhs; rw[e2]
  rw[flatG_append,flatG_append,List.append_assoc,List.take_append_of_le_length (by omega),← hl,List.take_length]
 have h2:(flatG L).drop (i*3+3)=flatG (L.drop (i+1)):=by
  conv=>lhs; rw[e2]
  rw[flatG_append,List.drop_append_of_le_length (by rw[flatG_append,List.length_append,hl,flatG_one]; simp)]
  rw[List.drop_eq_nil_of_le (by rw[flatG_append,List.length_append,hl,flatG_one]; simp)]
  simp
 rw[h1,h2,e,flatG_append,flatG_append,flatG_one]
def ArrS (w:World) (g:Nat) (L:List Seg):Prop:=Blk w g 126 (flatG L).toArray
theorem row_of_flat {w:World} {g:Nat} {t:TypeId} {L:List Seg} {X:List Value} (h:Blk w g t (flatG L++X).toArray) {S:Nat→Prop} (hS:S g) {n:Nat} (hn:L.length=n):RowZ w S (some ⟨g,0,none⟩) n L :=
 ⟨hn,fun _=>⟨g,0,rfl,hS,fun i hi j v hv=>by
  have hj:j<3:=by have:=(List.getElem?_eq_some_iff.1 hv).1; simpa using this
  show w.cell? ⟨g,0+i*3+j,none⟩=some v
  rw[h.cell,Nat.zero_add]
  have hlt:i*3+j<(flatG L).length:=by rw[flatG_length]; omega
  rw[List.getElem?_toArray,List.getElem?_append_left hlt,flatG_get L _ (by rw[flatG_length] at hlt; exact hlt),show (i*3+j) / 3=i by omega,show (i*3+j) % 3=j by omega]
  exact hv⟩⟩
theorem ArrS.row {w:World} {g:Nat} {L:List Seg} (h:ArrS w g L) {S:Nat→Prop} (hS:S g) {n:Nat} (hn:L.length=n):RowZ w S (some ⟨g,0,none⟩) n L :=
 row_of_flat (X:=[]) (by simpa [ArrS] using h) hS hn
theorem RowZ_src {w:World} {S:Nat→Prop} {A:Option Addr} {n:Nat} {xs:List Seg} (h:RowZ w S A n xs) (hn:0<n) :
 ∃ ad,A=some ad∧∀ j v,(flatG xs)[j]? = some v→w.cell? (ad.add j)=some v:=by
 obtain ⟨b,off,e,_,hc⟩:=h.2 hn
 refine ⟨_,e,fun j v hv=>?_⟩
 have hj:j<xs.length*3:=by have:=(List.getElem?_eq_some_iff.1 hv).1; rwa [flatG_length] at this
 rw[flatG_get xs j hj] at hv
 have h1:=hc (j / 3) (by have:=h.1; omega) (j % 3) v hv
 rw[add_plain,show off+j=off+j / 3*3+j % 3 by omega]
 exact h1
theorem info_seg:(Tryz.prog.info? 126).map (fun i=>(i.zero,i.size,i.bytes))=some (some (.agg (segC seg0).toArray),3,24):=by kernel_rfl
theorem made_segs (k:Nat):madeCells (segC seg0).toArray (k*3)=(flatG (List.replicate k seg0)).toArray:=by
 apply Array.ext
 ·simp[size_madeCells,flatG_length]
 ·intro i h1 h2
  have hi:i<k*3:=by simpa [size_madeCells] using h1
  have hq:i / 3<k:=by omega
  have e2:=flatG_get (List.replicate k seg0) i (by simpa using hi)
  have e3:(List.replicate k seg0).getD (i / 3) seg0=seg0:=by simp[List.getD,List.getElem?_replicate,hq]
  rw[e3,← List.getElem?_toArray,Array.getElem?_eq_getElem h2] at e2
  have hm:i % 3<3:=Nat.mod_lt _ (by omega)
  have e4:(segC seg0).toArray[i % 3]! = (segC seg0)[i % 3]'(by simpa using hm):=by
   rw[getElem!_def,List.getElem?_toArray,List.getElem?_eq_getElem (by simpa using hm)]
  rw[List.getElem?_eq_getElem (by simpa using hm)] at e2
  injection e2 with e2
  rw[e2]
  simp only[madeCells,Array.getElem_map,Array.getElem_range]
  exact e4
theorem run_make_segs (l c:Nat) (hlc:l≤c) (hc:c≤1000000) (w:World):(Instr.makeSlice 93 (.int .i64 l) (.int .i64 c)).run Tryz.prog w=.ok (.slice (some ⟨w.heap.size,0,none⟩) l c) (w.alloc (.cells (flatG (List.replicate c seg0)).toArray 126)):=by
 obtain ⟨i0,hi,hz0,hz1,hz2⟩:=info_parts info_seg
 have hr:=run_make (P:=Tryz.prog) w 93 126 i0 (.agg (segC seg0).toArray) Tryz.underlying93 hi hz0 .i64 .i64 l c (by omega) (by omega) (by rw[hz2]; omega) (by omega)
 simp only[Int.toNat_natCast,hz1,Value.cells] at hr
 rw[made_segs] at hr
 exact hr
theorem run_copy_segs (w:World) (ty:TypeId) (g dCap:Nat) (a:Addr) (n sCap:Nat) (cur:List Value) (cs:List Value)
 (hg:Blk w g 126 cur.toArray) (hn:cs.length=n*3) (hsrc:∀ j v,cs[j]? = some v→w.cell? (a.add j)=some v) (hfit:cs.length=cur.length) (h1:∀ v∈cs,v.oneCell'=true) :
 (Builtin.copy_ #[93,93] ty #[.slice (some ⟨g,0,none⟩) n dCap,.slice (some a) n sCap]).run Tryz.prog w=.ok (goInt n) (w.setRow g cs.toArray):=by
 have hl:=run_loadCells_list (P:=Tryz.prog) w a cs hsrc
 have hst:=run_storeCells_at Tryz.prog g 0 126 cs 0 cur.toArray w hg (by simp[hfit]) h1
 have e:(List.take (0+0) cur.toArray.toList++cs++List.drop (0+0+cs.length) cur.toArray.toList).toArray=cs.toArray:=by simp[hfit]
 rw[e] at hst
 obtain ⟨i0,hi,hz0,hz1,hz2⟩:=info_parts info_seg
 simp[Builtin.copy_,run_underlying (Tryz.underlying93),Builtin.lenOf,Builtin.firstCells,sizeOf,typeInfo,hi,hz1,← hn,hl,hst]
section
variable {w:World} {ops:Array Oper} {rest:List Oper} {o:Oper} {a:Act} {Q:Exit→Act→World→Prop}
theorem wpList_make_segs (l c:Operand) (ho:o.op=.makeSlice 93 l c) (hgd:o.guard=none) (L C:Int) (l0 k:Nat) (hl:a.eval l=.int .i64 L) (hc:a.eval c=.int .i64 C) (hL:L=l0) (hC:C=k) (hlk:l0≤k) (hk:k≤1000000)
 (h:wpList Tryz.prog ops Q rest (a.put o.dst (.slice (some ⟨w.heap.size,0,none⟩) l0 k)) (w.alloc (.cells (flatG (List.replicate k seg0)).toArray 126))):wpList Tryz.prog ops Q (o::rest) a w:=by
 refine wpList_plain hgd fun K hK=>?_
 subst hL hC
 have hr:=run_make_segs l0 k hlk hk w
 unfold Oper.wp
 simp[execOp,ho,hl,hc,hr,Result.andThen]
 exact hK _ _ h
theorem wpList_copy_segs (d s:Operand) (ho:o.op=.call { callee:=.builtin .copy,args:=#[d,s],argTypes:=#[93,93] }) (hgd:o.guard=none) (g dCap n sCap:Nat) (A:Option Addr) (hd:a.eval d=.slice (some ⟨g,0,none⟩) n dCap) (hs:a.eval s=.slice A n sCap)
 (S:Nat→Prop) (xs ys:List Seg) (hr:RowZ w S A n xs) (hg:ArrS w g ys) (hl:ys.length=n) (hpos:0<n)
 (h:wpList Tryz.prog ops Q rest (a.put o.dst (goInt n)) (w.setRow g (flatG xs).toArray)):wpList Tryz.prog ops Q (o::rest) a w:=by
 refine wpList_plain hgd fun K hK=>?_
 obtain ⟨ad,rfl,hsrc⟩:=RowZ_src hr hpos
 have hrun:=run_copy_segs w o.type g dCap ad n sCap (flatG ys) (flatG xs) hg (by rw[flatG_length,hr.1]) hsrc (by rw[flatG_length,flatG_length,hl,hr.1]) (flatG_ones xs)
 unfold Oper.wp
 simp[execOp,ho,resolve,invoke,builtin,hd,hs,hrun,Result.andThen]
 exact hK _ _ h
theorem wpList_store_seg (x y:Operand) (ho:o.op=.store 126 x y) (hgd:o.guard=none) (g i:Nat) (s:Seg) (hx:a.eval x=.pointer (some ⟨g,i*3,none⟩)) (hy:a.eval y=.agg (segC s).toArray)
 (L:List Seg) (hg:ArrS w g L) (hi:i<L.length) (h:wpList Tryz.prog ops Q rest (a.put o.dst undef) (w.setRow g (flatG (L.set i s)).toArray)):wpList Tryz.prog ops Q (o::rest) a w:=by
 refine wpList_plain hgd fun K hK=>?_
 have hs:=run_storeCells_at Tryz.prog g (i*3) 126 (segC s) 0 (flatG L).toArray w hg (by simp[flatG_length]; omega) (ones_seg s)
 have he:(List.take (i*3+0) (flatG L).toArray.toList++segC s++List.drop (i*3+0+(segC s).length) (flatG L).toArray.toList).toArray=(flatG (L.set i s)).toArray:=by
  rw[flatG_set L i s hi]; rfl
 rw[he] at hs
 have hsz:∀ w,(sizeOf 126).run Tryz.prog w=.ok 3 w:=Tryz.sizeOf126
 have hrun:(Instr.storeAt 126 (.pointer (some ⟨g,i*3,none⟩)) (.agg (segC s).toArray)).run Tryz.prog w=.ok () (w.setRow g (flatG (L.set i s)).toArray):=by
  simp only[Instr.storeAt,Instr.sureAddr,Sem.run_bind,Sem.run_pure,Result.andThen_ok,storeVar,hsz,Value.cells]
  simpa using hs
 unfold Oper.wp execOp
 simp only[ho,hx,hy,hrun,Sem.run_bind,Result.andThen_ok]
 exact hK _ _ h
end
theorem ArrS.setRow {w:World} {g:Nat} {L:List Seg} (h:ArrS w g L) (M:List Seg):ArrS (w.setRow g (flatG M).toArray) g M:=setRow_heap w g _ _ _ _ h
theorem ArrS.alloc {w:World} {g:Nat} {L:List Seg} (h:ArrS w g L) (o:Obj):ArrS (w.alloc o) g L:=Blk.alloc h o
theorem ArrS.below {w w':World} {g B:Nat} {L:List Seg} (h:ArrS w g L) (hb:Below B w w') (hg:g<B):ArrS w' g L:=Blk.below h hb hg
theorem run_append_rowZ (w:World) (ty:TypeId) (base:Nat) (v:Value) (n:Nat) (P:List Value) (hown:w.ownsRow base 126 3 v n P)
 (S:Nat→Prop) (A:Option Addr) (m c:Nat) (ys:List Seg) (hr:RowZ w S A m ys) (hnil:A=none→c=0) (h63:n+m≤1000000) (hbase:base≤w.heap.size) :
 ∃ v' w',(Builtin.append_ #[93,93] ty #[v,.slice A m c]).run Tryz.prog w=.ok v' w'∧w'.ownsRow base 126 3 v' (n+m) (P++flatG ys)∧w.grownBy w' v.ownBlock∧(v'.ownBlock=v.ownBlock∨v'.ownBlock=some w.heap.size):=by
 obtain ⟨i0,hi,hz0,hz1,hz2⟩:=info_parts info_seg
 have hl:=hr.1
 rcases A with _ | ad
 ·have hm:m=0:=by
   rcases Nat.eq_zero_or_pos m with h0 | h0
   ·exact h0
   ·obtain ⟨_,_,h1,_⟩:=hr.2 h0
    cases h1
  subst hm
  have hn:ys=[]:=List.eq_nil_of_length_eq_zero hl
  subst hn
  rw[hnil rfl]
  exact ⟨v,w,run_append_owned_none (P:=Tryz.prog) (w:=w) base 93 ty 126 i0 3 Tryz.underlying93 hi v n P hown,by simpa [flatG] using hown,World.grownBy.refl w _,.inl rfl⟩
 ·obtain ⟨v',w',h1,h2,h3,_,h4⟩:=run_append_own_at (P:=Tryz.prog) w base 93 ty 126 i0 (.agg (segC seg0).toArray) 3 24 Tryz.underlying93 hi hz0 hz1 hz2 (by simp[Value.cells]) (by omega) v n P hown ad m c (flatG ys) (by rw[flatG_length,hl])
   (fun j u hu=>by
     have hm:0<m:=by
      rcases Nat.eq_zero_or_pos m with h0 | h0
      ·have:ys=[]:=List.eq_nil_of_length_eq_zero (by omega)
       subst this
       simp[flatG] at hu
      ·exact h0
     obtain ⟨ad',e,hc⟩:=RowZ_src hr hm
     injection e with e
     subst e
     exact hc j u hu)
   (flatG_ones ys) (by unfold maxLen; omega) (by omega) hbase
  exact ⟨v',w',h1,h2,h3,h4⟩
theorem rowZ_own {w:World} {base:Nat} {v:Value} {n:Nat} {xs:List Seg} {P:List Value} (ho:w.ownsRow base 126 3 v n P) (hP:P=flatG xs) (hn:xs.length=n) :
 ∃ A cap,v=.slice A n cap∧n≤cap∧(A=none→cap=0)∧RowZ w (fun b=>base≤b∧b<w.heap.size) A n xs:=by
 subst hP
 have hlt:=ho.lt
 rcases ho.2 with ⟨rfl,rfl⟩ | ⟨g,cap,cur,rfl,hg,hh,hnc,hc⟩
 ·exact ⟨none,0,rfl,by omega,fun _=>rfl,hn,fun h=>absurd h (by omega)⟩
 ·refine ⟨_,cap,rfl,hnc,(fun h=>by cases h),hn,fun _=>⟨g,0,rfl,⟨hg,(hlt g rfl).2⟩,fun i hi j v hv=>?_⟩⟩
  have hj:j<3:=by have:=(List.getElem?_eq_some_iff.1 hv).1; simpa using this
  have h1:=ho.cells (g:=g) rfl (i*3+j) v (by rw[flatG_get xs _ (by omega),show (i*3+j) / 3=i by omega,show (i*3+j) % 3=j by omega]; exact hv)
  rw[add_plain] at h1
  rw[Nat.add_assoc]
  exact h1
section
variable {w:World} {ops:Array Oper} {rest:List Oper} {o:Oper} {a:Act} {Q:Exit→Act→World→Prop}
theorem wpList_append_rowZ (s x:Operand) (ho:o.op=.call { callee:=.builtin .append,args:=#[s,x],argTypes:=#[93,93] }) (hgd:o.guard=none)
 (base:Nat) (v:Value) (n:Nat) (P:List Value) (hs:a.eval s=v) (hown:w.ownsRow base 126 3 v n P)
 (S:Nat→Prop) (A:Option Addr) (m c:Nat) (ys:List Seg) (hx:a.eval x=.slice A m c) (hr:RowZ w S A m ys) (hnil:A=none→c=0) (h63:n+m≤1000000) (hbase:base≤w.heap.size)
 (h:∀ v' w',w'.ownsRow base 126 3 v' (n+m) (P++flatG ys)→w.grownBy w' v.ownBlock→(v'.ownBlock=v.ownBlock∨v'.ownBlock=some w.heap.size)→wpList Tryz.prog ops Q rest (a.put o.dst v') w') :
 wpList Tryz.prog ops Q (o::rest) a w:=by
 obtain ⟨v',w',hrun,h2,h3,h4⟩:=run_append_rowZ w o.type base v n P hown S A m c ys hr hnil h63 hbase
 refine wpList_plain hgd fun K hK=>?_
 unfold Oper.wp execOp
 simp only[ho,resolve,invoke,builtin,Sem.run_bind,Sem.run_pure,Result.andThen_ok,List.map_toArray,List.map_cons,List.map_nil,hs,hx,hrun]
 exact hK _ _ (h v' w' h2 h3 h4)
theorem step_append_rowZ {K:Act→World→Prop} {E:Prop} (s x:Operand) (ho:o.op=.call { callee:=.builtin .append,args:=#[s,x],argTypes:=#[93,93] }) (hgd:o.guard=none)
 (base:Nat) (v:Value) (n:Nat) (P:List Value) (hs:a.eval s=v) (hown:w.ownsRow base 126 3 v n P)
 (S:Nat→Prop) (A:Option Addr) (m c:Nat) (ys:List Seg) (hx:a.eval x=.slice A m c) (hr:RowZ w S A m ys) (hnil:A=none→c=0) (h63:n+m≤1000000) (hbase:base≤w.heap.size)
 (h:∀ v' w',w'.ownsRow base 126 3 v' (n+m) (P++flatG ys)→w.grownBy w' v.ownBlock→(v'.ownBlock=v.ownBlock∨v'.ownBlock=some w.heap.size)→K (a.put o.dst v') w') :
 if Region.wanted o (yielded ops a.tmps)=true then Oper.wp Tryz.prog o a w K Q else E:=by
 obtain ⟨v',w',hrun,h2,h3,h4⟩:=run_append_rowZ w o.type base v n P hown S A m c ys hr hnil h63 hbase
 have hw:Region.wanted o (yielded ops a.tmps)=true:=by simp[Region.wanted,hgd]
 rw[if_pos hw]
 unfold Oper.wp execOp
 simp only[ho,resolve,invoke,builtin,Sem.run_bind,Sem.run_pure,Result.andThen_ok,List.map_toArray,List.map_cons,List.map_nil,hs,hx,hrun]
 exact h v' w' h2 h3 h4
end
end
section
def From (n₀:Nat) (w:World) (b:Nat):Prop:=n₀≤b∧b<w.heap.size
theorem RowZ.from {n₀ m₀:Nat} {w:World} {A:Option Addr} {n:Nat} {xs:List Seg} (h:RowZ w (From n₀ w) A n xs) (hm:m₀≤n₀):RowZ w (From m₀ w) A n xs:=h.more fun b hb=>⟨nT hm hb.1,hb.2⟩
theorem RowZ.now {n₀:Nat} {w:World} {A:Option Addr} {n:Nat} {xs:List Seg} (h:RowZ w (From n₀ w) A n xs):RowZ w (·<w.heap.size) A n xs:=h.more fun b hb=>hb.2
theorem RowZ.behind {n₀:Nat} {w W:World} {A:Option Addr} {n:Nat} {xs:List Seg} (h:RowZ w (From n₀ w) A n xs) (hb:Below w.heap.size w W):RowZ W (From n₀ W) A n xs :=
 (h.below hb (fun _ h=>h.2)).more fun b hb'=>⟨hb'.1,nL hb'.2 hb.size⟩
theorem size_ring:(Tryz.prog.info? 95).map (·.size)=some 2:=by kernel_rfl
theorem new_ok {w:World} (n:Nat) (sec:Int) (hs:SizedR n sec) :
 Calls Tryz.prog 43 #[.int .i64 n,.int .i64 sec] w fun e w'=>(∃ A,e=.returned (.tuple #[ringV sec A n n,.int .i64 0])∧RowZ w' (From w.heap.size w') A n (List.replicate n seg0))∧Below w.heap.size w w':=by
 have hd:decide (SizedR n sec)=true:=decide_eq_true hs
 have HSI:=hI (fun (W:World)=>by have h:=sized_any n sec W; rw[hd] at h; exact h)
 have hn:n≤1000000:=by unfold SizedR at hs; omega
 clear hs hd
 go_enter Tryz.func43,Tryz.ntmps43
 go_wp2_with (first
  | (go_at_call 109; refine (HSI.out _).mono ?_; rintro e w1 ⟨rfl,rfl⟩)
  | (refine wpList_make_segs _ _ rfl rfl _ _ n n rfl rfl rfl rfl (nR _) hn ?_)
  | (with_reducible refine halt_end ?_))
 have h2:=ArrS.row (w:=(w.alloc (.cells #[.int .i64 sec,.slice (some ⟨w.heap.size+1,0,none⟩) n n] 95)).alloc (.cells (flatG (List.replicate n seg0)).toArray 126)) (g:=w.heap.size+1) (L:=List.replicate n seg0) (blk_new2 _ _ _ _) (S:=From w.heap.size ((w.alloc (.cells #[.int .i64 sec,.slice (some ⟨w.heap.size+1,0,none⟩) n n] 95)).alloc (.cells (flatG (List.replicate n seg0)).toArray 126))) (n:=n) ⟨by simp,by simp⟩ (by simp)
 exact Halt.ret (results_row2 (p:=4) (u:=5) rfl _ _ w.heap.size 95 #[.int .i64 sec,.slice (some ⟨w.heap.size+1,0,none⟩) n n] _ rfl ((Blk.new w _ _).alloc _) Tryz.underlying95 rfl size_ring) rfl ⟨⟨_,rfl,h2⟩,((Below.refl _ w).alloc (nR _) _).alloc (by simp) _⟩
end
section
theorem own_empty3 (w:World):(w.alloc (.cells #[] 126)).ownsRow w.heap.size 126 3 (.slice (some ⟨w.heap.size,0,none⟩) 0 0) 0 [] :=
 ⟨rfl,.inr ⟨w.heap.size,0,#[],rfl,nR _,heap_alloc_new w _,nR _,by simp,by simp,rfl⟩⟩
end
end Go.Proofs.YtdkbpchmnhbhcaaGreat
