/- Texts of StoreKeeps, packed. -/
import Derived.Test.YtdkbpchmnhbhcaaGreatPackStoreKeeps5
import Derived.Lib.Hide
import Derived.Deep.RegionHeld3
import Derived.BigQuiet
import Derived.Great.BuildSlice
import Derived.Laws.CopyRow
import Derived.Laws.CopyOwn
import Derived.OwnWalk
set_option linter.unusedVariables false
set_option linter.unusedSimpArgs false
set_option maxRecDepth 100000
set_option maxHeartbeats 16000000
namespace Go.Proofs.YtdkbpchmnhbhcaaGreat
open Go.RowKit
section
theorem zDH (a b c a' b' c':Int) (w:World):(binOp .eql 126 (.agg #[.int .i64 a,.int .u64 b,.int .i64 c]) (.agg #[.int .i64 a',.int .u64 b',.int .i64 c'])).run Tryz.prog w=.ok (.bool (decide ((a,b,c)=(a',b',c')))) w:=by
 by_cases h0:a=a'
 case neg =>
  have e0:(a==a')=false:=by simpa using h0
  rw[show decide ((a,b,c)=(a',b',c'))=false from decide_eq_false (fun h=>h0 (by simp only[Prod.mk.injEq] at h; first | exact h.1 | exact h.2.1 | exact h.2.2))]
  go_simp
 subst h0
 by_cases h1:b=b'
 case neg =>
  have e1:(b==b')=false:=by simpa using h1
  rw[show decide ((a,b,c)=(a,b',c'))=false from decide_eq_false (fun h=>h1 (by simp only[Prod.mk.injEq] at h; first | exact h.1 | exact h.2.1 | exact h.2.2))]
  go_simp
 subst h1
 by_cases h2:c=c'
 case neg =>
  have e2:(c==c')=false:=by simpa using h2
  rw[show decide ((a,b,c)=(a,b,c'))=false from decide_eq_false (fun h=>h2 (by simp only[Prod.mk.injEq] at h; first | exact h.1 | exact h.2.1 | exact h.2.2))]
  go_simp
 subst h2
 rw[show decide ((a,b,c)=(a,b,c))=true from decide_eq_true rfl]
 go_simp
def qj (n sec:Int):Prop:=4≤n∧n≤16∧24≤sec∧sec≤64
instance zLb (n sec:Int):Decidable (qj n sec):=by unfold qj; infer_instance
theorem Qs (n sec:Int) (w:World):Calls Tryz.prog 109 #[.int .i64 n,.int .i64 sec] w fun e w'=>e=.returned (.bool (decide (qj n sec)))∧w'=w:=by
 by_cases h0:(4:Int)≤n
 case neg =>
  have e:decide (qj n sec)=false:=decide_eq_false (fun h=>h0 h.1)
  have d0:decide ((4:Int)≤n)=false:=decide_eq_false h0
  rw[e]
  go_enter Tryz.func109,Tryz.ntmps109
  go_wp2
  go_ret
  exact ⟨rfl,rfl⟩
 have d0:decide ((4:Int)≤n)=true:=decide_eq_true h0
 by_cases h1:n≤16
 case neg =>
  have e:decide (qj n sec)=false:=decide_eq_false (fun h=>h1 h.2.1)
  have d1:decide (n≤16)=false:=decide_eq_false h1
  rw[e]
  go_enter Tryz.func109,Tryz.ntmps109
  go_wp2
  go_ret
  exact ⟨rfl,rfl⟩
 have d1:decide (n≤16)=true:=decide_eq_true h1
 by_cases h2:(24:Int)≤sec
 case neg =>
  have e:decide (qj n sec)=false:=decide_eq_false (fun h=>h2 h.2.2.1)
  have d2:decide ((24:Int)≤sec)=false:=decide_eq_false h2
  rw[e]
  go_enter Tryz.func109,Tryz.ntmps109
  go_wp2
  go_ret
  exact ⟨rfl,rfl⟩
 have d2:decide ((24:Int)≤sec)=true:=decide_eq_true h2
 have e:decide (qj n sec)=decide (sec≤64):=by
  by_cases h3:sec≤64
  ·rw[decide_eq_true h3]; exact decide_eq_true ⟨h0,h1,h2,h3⟩
  ·rw[decide_eq_false h3]; exact decide_eq_false (fun h=>h3 h.2.2.2)
 rw[e]
 go_enter Tryz.func109,Tryz.ntmps109
 go_wp2
 go_ret
 exact ⟨rfl,rfl⟩
def xY (s:Seg) (sec:Int):Prop:=if s.1=0 then s.2.1=0∧s.2.2=0 else (s.1=1∨s.1=2)∧0<s.2.1∧1≤s.2.2∧s.2.2≤sec
instance zLa (s:Seg) (sec:Int):Decidable (xY s sec):=by unfold xY; infer_instance
theorem Nk (s:Seg) (sec:Int) (w:World):Calls Tryz.prog 163 #[.agg (zu s).toArray,.int .i64 sec] w fun e w'=>e=.returned (.bool (decide (xY s sec)))∧Below w.heap.size w w':=by
 obtain ⟨st,g,u⟩:=s
 have hb:=(Below.refl w.heap.size w).alloc (nR _) (.cells (zu (st,g,u)).toArray 126)
 have HB:=hI hb
 clear hb
 by_cases h0:st=0
 ·subst h0
  have e:decide (xY (0,g,u) sec)=decide (((0:Int),g,u)=(0,0,0)):=by
   unfold xY
   simp[Prod.mk.injEq]
  rw[e]
  have heq:=zDH 0 g u 0 0 0
  generalize decide (((0:Int),g,u)=(0,0,0))=r at *
  go_enter Tryz.func163,Tryz.ntmps163
  go_wp2
  go_ret
  exact ⟨rfl,HB.out⟩
 have d0:(st==0)=false:=by simpa using h0
 by_cases hs:st=1∨st=2
 case neg =>
  have e:decide (xY (st,g,u) sec)=false:=decide_eq_false (fun h=>by unfold xY at h; rw[if_neg h0] at h; exact hs h.1)
  rw[e]
  have d1:(st==1)=false:=by simp; exact fun h=>hs (.inl h)
  have d2:(st==2)=false:=by simp; exact fun h=>hs (.inr h)
  go_enter Tryz.func163,Tryz.ntmps163
  go_wp2
  go_ret
  exact ⟨rfl,HB.out⟩
 have e0:xY (st,g,u) sec↔0<g∧1≤u∧u≤sec:=by
  unfold xY
  rw[if_neg h0]
  exact ⟨fun h=>h.2,fun h=>⟨hs,h⟩⟩
 have E0:=hI e0
 clear e0
 have go1:∀ st:Int,st=1∨st=2→Calls Tryz.prog 163 #[.agg #[.int .i64 st,.int .u64 g,.int .i64 u],.int .i64 sec] w fun e w'=>e=.returned (.bool (decide (0<g)&&decide (1≤u)&&decide (u≤sec)))∧Below w.heap.size w w':=by
  intro st hs
  have HB:=hI ((Below.refl w.heap.size w).alloc (nR _) (.cells (zu (st,g,u)).toArray 126))
  cases d1:decide (0<g)
  ·rcases hs with rfl | rfl
   ·go_enter Tryz.func163,Tryz.ntmps163
    go_wp2
    go_ret
    exact ⟨rfl,HB.out⟩
   ·go_enter Tryz.func163,Tryz.ntmps163
    go_wp2
    go_ret
    exact ⟨rfl,HB.out⟩
  ·cases d2:decide (1≤u)
   ·rcases hs with rfl | rfl
    ·go_enter Tryz.func163,Tryz.ntmps163
     go_wp2
     go_ret
     exact ⟨rfl,HB.out⟩
    ·go_enter Tryz.func163,Tryz.ntmps163
     go_wp2
     go_ret
     exact ⟨rfl,HB.out⟩
   ·rcases hs with rfl | rfl
    ·go_enter Tryz.func163,Tryz.ntmps163
     go_wp2
     go_ret
     exact ⟨rfl,HB.out⟩
    ·go_enter Tryz.func163,Tryz.ntmps163
     go_wp2
     go_ret
     exact ⟨rfl,HB.out⟩
 have e:decide (xY (st,g,u) sec)=(decide (0<g)&&decide (1≤u)&&decide (u≤sec)):=by
  rw[show decide (xY (st,g,u) sec)=decide (0<g∧1≤u∧u≤sec) from decide_eq_decide.2 E0.out]
  simp[Bool.decide_and,Bool.and_assoc]
 rw[e]
 exact go1 st hs
end
section
open Go.RowKit Go.Shelf
attribute [local go_sem] Oper.semAt_some
def flow (a:Seg):List Num→Bool
 | []=>true
 | x::r=>(!(a.1==1||a.2.1==x.2.2.1))&&flow x.2 r
def lastOf (a:Seg):List Num→Seg
 | []=>a
 | x::r=>lastOf x.2 r
theorem rU (x:Num):∀ (pre:List Num) (a:Seg),lastOf a (pre++[x])=x.2
 | [],_=>rfl
 | y::pre,_=>rU x pre y.2
theorem PY (x:Num):∀ (pre:List Num) (a:Seg),flow a (pre++[x])=(flow a pre&&!((lastOf a pre).1==1||(lastOf a pre).2.1==x.2.2.1))
 | [],a=>by simp[flow,lastOf]
 | y::pre,a=>by
  show (_&&flow y.2 (pre++[x]))=_
  rw[PY x pre y.2]
  simp only[flow,lastOf,Bool.and_assoc]
theorem Fb (pre r:List Num):∀ (a:Seg),flow a pre=false→flow a (pre++r)=false:=by
 induction pre with
 | nil=>intro a h; cases h
 | cons y pre ih =>
  intro a h
  simp only[flow,List.cons_append,Bool.and_eq_false_iff] at h ⊢
  exact h.imp id (ih y.2)
theorem fV {β:Type} (g:Nat) (t:TypeId) (f:β→Array Value):Own (fun s W=>z8 W g t (f s)):=fun s X Y row hs hg hrow =>
 hs.grown hg (fun e=>by obtain ⟨o,ho,hc⟩:=hrow g e.symm; rw[show X.heap[g]? = _ from hs] at ho; cases ho; cases hc)
theorem Gc {β:Type} {B:Nat} (m:Nat):OwnFrom B (fun (_:β) W=>m≤W.heap.size):=fun _ _ _ _ hs hg _=>nT hs hg.size
theorem ED {xs:List Seg} {sec:Int} {j:Nat} (h:∀ k,k<j→xY (xs.getD k zK) sec) (hm:xY (xs.getD j zK) sec) (k:Nat) (hk:k<j+1):xY (xs.getD k zK) sec:=by
 by_cases e:k<j
 ·exact h k e
 ·obtain rfl:k=j:=by omega
  exact hm
theorem zCl {xs:List Seg} {sec:Int} (h:∀ k,k<xs.length→xY (xs.getD k zK) sec):∀ s∈xs,xY s sec:=by
 intro s hs
 obtain ⟨i,hi,rfl⟩:=List.getElem_of_mem hs
 have:=h i hi
 simpa [List.getD,hi] using this
theorem Sb {w:World} {A:Option Addr} {n cap:Nat} {xs:List Seg} (h:qH w (·<w.heap.size) A n xs) (sec:Int) (hsz:qj n sec) :
 Calls Tryz.prog 110 #[.agg #[.int .i64 sec,.slice A n cap]] w fun e w'=>((∃ s∈xs,¬ xY s sec)∧e=.returned (.int .i64 180)∨(∀ s∈xs,xY s sec)∧∃ L,L.Perm (live xs)∧XE L∧e=.returned (.int .i64 (if flow zK L then 0 else 180)))∧Below w.heap.size w w':=by
 have HX:=hI h
 have fZ:=hI hsz
 have hd:decide (qj (n:Int) sec)=true:=decide_eq_true hsz
 have Pp:=hI (fun (W:World)=>by have h:=Qs n sec W; rw[hd] at h; exact h)
 clear h hsz hd
 refine (callsIn_wide (n:=5)).1 ?_
 refine callsIn_of_wp_marks Tryz.func110 rfl trivial ?_ rfl
 simp only[Tryz.ntmps110,List.size_toArray,List.length_cons,List.length_nil,Nat.reduceAdd,Nat.reduceSub,Array.replicate_succ,Array.replicate_zero,List.push_toArray,List.append_toArray,List.nil_append,List.cons_append]
 gi_wp2_with (refine ⟨trivial,?_⟩; gi_at_call 109; refine (callsIn_wide.2 (Pp.out _)).mono ?_; rintro e w' ⟨rfl,rfl⟩)
 have pQ:=hI (z8.new w 95 #[.int .i64 sec,.slice A n cap])
 gi_loopw [18] (fun i wr=>∃ j:Nat,i=.int .i64 j∧j≤n∧(∀ k,k<j→xY (xs.getD k zK) sec)∧z8 wr w.heap.size 95 #[.int .i64 sec,.slice A n cap]∧z8 wr (w.heap.size+1) 36 #[.int .i64 0]∧Below w.heap.size w wr)
  (fun i _=>n-(intOf i).toNat)
 case atStart=>exact ⟨0,rfl,Nat.zero_le _,fun k h=>absurd h (by omega),pQ.out.alloc _,zY w _ _ _,((Below.refl _ w).alloc (nR _) _).alloc (by simp) _⟩
 case round =>
  obtain ⟨j,rfl,hj,hmay,hb0,hb1,hbel⟩:=hrel
  have HB0:=hI hb0
  have HB1:=hI hb1
  have yO:=hI hbel
  have gN:=hI hmay
  have hn16:n≤16:=by have:=fZ.out.2.1; omega
  clear hb0 hb1 hbel hmay
  by_cases hlt:j<n
  ·obtain ⟨b,off,rfl,hbb,hcc⟩:=(HX.out.below yO.out (fun b h=>h)).2 (by omega)
   have hr:=hcc j hlt
   have hmem:xs.getD j zK∈xs:=by
    have hl:j<xs.length:=by rw[HX.out.1]; exact hlt
    simp[List.getD,hl]
   have zNY:=hI hmem
   obtain ⟨st,g,u,hx⟩:∃ st g u,xs.getD j zK=(st,g,u):=⟨_,_,_,rfl⟩
   rw[hx] at hr
   have O7:=hI hx
   obtain ⟨c0,c1,c2⟩:wr.cell? ⟨b,off+j*3,none⟩=some (.int .i64 st)∧wr.cell? ⟨b,off+j*3+1,none⟩=some (.int .u64 g)∧wr.cell? ⟨b,off+j*3+2,none⟩=some (.int .i64 u):=⟨hr 0 _ rfl,hr 1 _ rfl,hr 2 _ rfl⟩
   obtain ⟨k0,k1⟩:_∧_:=⟨HB0.out.cell 0,HB0.out.cell 1⟩
   have k2:=HB1.out.cell 0
   have f2:=HB1.out.frozen 0
   simp only[List.getElem?_toArray,List.getElem?_cons_zero,List.getElem?_cons_succ] at k0 k1 k2
   have HMM:=hI (fun W=>Nk (st,g,u) sec W)
   have Yq:=hI (HB0.out.alloc (.cells (zu (st,g,u)).toArray 126))
   have Yp:=hI (HB1.out.alloc (.cells (zu (st,g,u)).toArray 126))
   have uO:=hI (yO.out.alloc yO.out.size (.cells (zu (st,g,u)).toArray 126))
   have k0a:(wr.alloc (.cells #[.int .i64 st,.int .u64 g,.int .i64 u] 126)).cell? ⟨w.heap.size,0,none⟩=some (.int .i64 sec):=Yq.out.cell 0
   clear hx hr hcc hmem
   by_cases hm:xY (st,g,u) sec
   case neg =>
    rw[decide_eq_false hm] at HMM
    gi_wp2_with (refine ⟨trivial,?_⟩; gi_at_call 163; refine (callsIn_wide.2 (HMM.out _)).mono ?_; rintro e w5 ⟨rfl,hb5⟩; have zJK:=hI (Yq.out.below hb5 Yq.out.lt); have WL:=hI (Yp.out.below hb5 Yp.out.lt); have TG:=hI (uO.out.trans (hb5.mono uO.out.size)); have k2b:=WL.out.cell 0; have f2b:=WL.out.frozen 0; simp only[List.getElem?_toArray,List.getElem?_cons_zero,List.getElem?_cons_succ] at k2b; clear hb5)
    refine ⟨.int .i64 180,?_,.inl ⟨⟨_,zNY.out,by rw[O7.out]; exact hm⟩,rfl⟩,TG.out.setCell (p:=⟨w.heap.size+1,0,none⟩) (by simp) _⟩
    have hc:=World.cell?_setCell_same' w5 ⟨w.heap.size+1,0,none⟩ (.int .i64 180) (by rw[k2b]; rfl)
    simp[results,Tryz.f110,go_sem,hc]
   rw[decide_eq_true hm] at HMM
   gi_wp2_with (refine ⟨trivial,?_⟩; gi_at_call 163; refine (callsIn_wide.2 (HMM.out _)).mono ?_; rintro e w5 ⟨rfl,hb5⟩; have zJK:=hI (Yq.out.below hb5 Yq.out.lt); have WL:=hI (Yp.out.below hb5 Yp.out.lt); have TG:=hI (uO.out.trans (hb5.mono uO.out.size)); have k2b:=WL.out.cell 0; have f2b:=WL.out.frozen 0; simp only[List.getElem?_toArray,List.getElem?_cons_zero,List.getElem?_cons_succ] at k2b; clear hb5)
   exact ⟨⟨j+1,by simp,by omega,ED gN.out (by rw[O7.out]; exact hm),zJK.out,WL.out,TG.out⟩,by simp[intOf]; omega⟩
  ·obtain rfl:j=n:=by omega
   obtain ⟨k0,k1⟩:_∧_:=⟨HB0.out.cell 0,HB0.out.cell 1⟩
   simp only[List.getElem?_toArray,List.getElem?_cons_zero,List.getElem?_cons_succ] at k0 k1
   have Yq:=hI (HB0.out.alloc (.cells (zu zK).toArray 126))
   have Yp:=hI (HB1.out.alloc (.cells (zu zK).toArray 126))
   have uO:=hI (yO.out.alloc yO.out.size (.cells (zu zK).toArray 126))
   have hRI:=fun (hh:qH (wr.alloc (.cells (zu zK).toArray 126)) (·<(wr.alloc (.cells (zu zK).toArray 126)).heap.size) A j xs)=>KC (cap:=cap) hh hn16
   have HRI:=hI (hRI ((HX.out.below uO.out (fun b h=>h)).more (fun b h=>nL h uO.out.size)))
   have k1a:(wr.alloc (.cells #[.int .i64 0,.int .u64 0,.int .i64 0] 126)).cell? ⟨w.heap.size,1,none⟩=some (.slice A j cap):=Yq.out.cell 1
   clear hRI
   gi_wp2_with (refine ⟨trivial,?_⟩; gi_at_call 130; refine (callsIn_wide.2 HRI.out).mono ?_; rintro e w5 ⟨B,L,rfl,Lv,hperm,hri,hb5⟩)
   have hall:=zCl (fun k hk=>gN.out k (by rw[← HX.out.1]; exact hk))
   have yK:=hI hall
   have Ig:L.length≤16:=by rw[hperm.length_eq]; have:=pE xs xs.length; rw[HX.out.1] at this; unfold live; rw[HX.out.1]; omega
   have hb1:=Yp.out.below hb5 Yp.out.lt
   have hb2:=(z8.new wr 126 (zu zK).toArray).below hb5 (by simp)
   have Ke:=uO.out.trans (hb5.mono uO.out.size)
   have hH5:w.heap.size+1<wr.heap.size:=HB1.out.lt
   have hs5:wr.heap.size<w5.heap.size:=hb2.lt
   have hn1:(wr.alloc (.cells (zu zK).toArray 126)).heap.size=wr.heap.size+1:=by simp
   rw[hn1] at Lv
   refine wpIn_rangeFunc_ownH rfl (by omega) (gf:=184) (lb:=#[.pointer (some ⟨B,0,none⟩)]) rfl trivial (enters_of Tryz.func184 (by kernel_rfl) rfl)
    (KD Fence.wide 4 trivial rfl (by omega) B (wr.heap.size+1) w5.heap.size L Ig w5 Lv rfl) Mv (Mw (nR _)) (Below.refl _ _) (fun _=>rfl)
    (fun pre W=>((z8 W (w.heap.size+1) 36 #[.int .i64 0]∧z8 W wr.heap.size 126 (zu (lastOf zK pre)).toArray)∧flow zK pre=true)∧Below w.heap.size w W∧w5.heap.size≤W.heap.size)
    (fun c pre W=>(z8 W (w.heap.size+1) 36 #[.int .i64 180]∧c=.ret∧flow zK pre=false)∧Below w.heap.size w W)
    (OwnFrom.and (OwnFrom.and (OwnFrom.and (Own.from (fV _ _ _) _) (Own.from (fV _ _ _) _)) (ownFrom_pure _ _)) (OwnFrom.and (ownFrom_below (nR _) Ke.size) (Gc _)))
    (fun c=>OwnFrom.and (OwnFrom.and (Own.from (fV _ _ _) _) (ownFrom_pure _ _)) (ownFrom_below (nR _) Ke.size))
    ⟨⟨⟨hb1,hb2⟩,rfl⟩,Ke,nR _⟩
    (fun x a' W=>∃ Bx,wr.heap.size<Bx∧z8 W Bx 126 (zu x.2).toArray∧a'={ tmps:=#[.agg #[.int .i64 sec,.slice A j cap],.pointer (some ⟨w.heap.size,0,none⟩),.pointer (some ⟨w.heap.size+1,0,none⟩),undef,u4,.pointer (some ⟨wr.heap.size,0,none⟩),undef,.pointer (some ⟨Bx,0,none⟩),.pointer (some ⟨w.heap.size,1,none⟩),.slice A j cap,.int .i64 j,.pointer (some ⟨w.heap.size,0,none⟩),.int .i64 sec,.bool true,.bool false,.pointer (some ⟨w.heap.size,1,none⟩),.slice A j cap,.int .i64 j,.int .i64 j,.bool false,u20,u21,u22,u23,u24,u25,u26,u27,.pointer (some ⟨w.heap.size,1,none⟩),.slice A j cap,.func (.func 184) #[] #[.pointer (some ⟨B,0,none⟩)],.int .i64 x.1,.agg (zu x.2).toArray,undef,undef,undef,undef,undef,undef,undef,undef,undef,undef,undef],defers:=[] })
    (fun x a' _ X Y row hs hg hr=>by obtain ⟨Bx,h1,h2,h3⟩:=hs; exact ⟨Bx,h1,fV Bx _ (fun (_:Unit)=>_) () X Y row h2 hg (fun r e=>(hr r e).2),h3⟩)
    ?assign ?body ?done ?stop
   case assign =>
    rintro l pre x W K ⟨⟨⟨h1,h2⟩,h3⟩,hB,hsz⟩ hK
    gi_wp2
    exact hK _ _ ((KeepsOthers.alloc _ _).from _) ((Kept.refl _ W).alloc (fun b hb=>nL hb.2 hsz) _) ⟨⟨⟨h1.alloc _,h2.alloc _⟩,h3⟩,hB.alloc hB.size _,nT hsz (by simp)⟩ ⟨W.heap.size,h2.lt,z8.new W _ _,rfl⟩
   case body =>
    rintro l pre ⟨i,st,g,u⟩ a' W hl ⟨r,hr⟩ ⟨⟨⟨h1,h2⟩,h3⟩,hB,hsz⟩ ⟨Bx,hBx,bX,rfl⟩ hlt
    have hfs:=PY (i,st,g,u) pre zK
    have hls:=rU (i,st,g,u) pre zK
    rw[h3] at hfs
    obtain ⟨ast,ag,au,ha⟩:∃ ast ag au,lastOf zK pre=(ast,ag,au):=⟨_,_,_,rfl⟩
    rw[ha] at hfs h2
    have HFS:=hI hfs
    have HLS:=hI hls
    have H1:=hI h1
    have H2:=hI h2
    have bN:=hI hB
    have f1:=H1.out.frozen 0
    have c1:W.cell? ⟨w.heap.size+1,0,none⟩=some (.int .i64 0):=H1.out.cell 0
    obtain ⟨a0,a1,a2⟩:W.cell? ⟨wr.heap.size,0,none⟩=some (.int .i64 ast)∧W.cell? ⟨wr.heap.size,1,none⟩=some (.int .u64 ag)∧W.cell? ⟨wr.heap.size,2,none⟩=some (.int .i64 au):=⟨H2.out.cell 0,H2.out.cell 1,H2.out.cell 2⟩
    obtain ⟨g0,g1,g2⟩:=And.intro (H2.out.frozen 0) (And.intro (H2.out.frozen 1) (H2.out.frozen 2))
    obtain ⟨b0,b1,b2⟩:W.cell? ⟨Bx,0,none⟩=some (.int .i64 st)∧W.cell? ⟨Bx,1,none⟩=some (.int .u64 g)∧W.cell? ⟨Bx,2,none⟩=some (.int .i64 u):=⟨bX.cell 0,bX.cell 1,bX.cell 2⟩
    clear hfs hls h1 h2 hB ha h3 bX
    have zMh:∀ b,wr.heap.size+1≤b∧b<w5.heap.size→b≠wr.heap.size:=fun b h=>by omega
    have zQH:∀ b,wr.heap.size+1≤b∧b<w5.heap.size→b≠w.heap.size+1:=fun b h=>by omega
    by_cases d1:ast=1
    ·subst d1
     gi_wp2
     exact ⟨(KeepsOthers.setCell _ _ _).from _,⟨H1.out.set_ 0 _,rfl,by rw[HFS.out]; rfl⟩,bN.out.setCell (p:=⟨w.heap.size+1,0,none⟩) (by simp) _⟩
    ·have e1:(ast==1)=false:=by simpa using d1
     by_cases d2:ag=g
     ·subst d2
      gi_wp2
      exact ⟨(KeepsOthers.setCell _ _ _).from _,⟨H1.out.set_ 0 _,rfl,by rw[HFS.out]; simp⟩,bN.out.setCell (p:=⟨w.heap.size+1,0,none⟩) (by simp) _⟩
     ·have e2:(ag==g)=false:=by simpa using d2
      gi_wp2
      have hle:w.heap.size≤wr.heap.size:=by omega
      have hno:∀ k,¬ ((wr.heap.size+1≤(Addr.mk wr.heap.size k none).block)∧(Addr.mk wr.heap.size k none).block<w5.heap.size):=fun k h=>zMh _ h rfl
      have hne:w.heap.size+1≠wr.heap.size:=by omega
      refine ⟨(((KeepsOthers.setCell W _ _).trans (KeepsOthers.setCell _ _ _)).trans (KeepsOthers.setCell _ _ _)).from _,(((Kept.refl _ W).setCell (hno 0) _).setCell (hno 1) _).setCell (hno 2) _,
       ⟨⟨((H1.out.far (p:=⟨wr.heap.size,0,none⟩) hne _).far (p:=⟨wr.heap.size,1,none⟩) hne _).far (p:=⟨wr.heap.size,2,none⟩) hne _,?_⟩,by rw[HFS.out,e1,e2]; rfl⟩,((bN.out.setCell (p:=⟨wr.heap.size,0,none⟩) hle _).setCell (p:=⟨wr.heap.size,1,none⟩) hle _).setCell (p:=⟨wr.heap.size,2,none⟩) hle _,by simpa [World.setCell] using hsz⟩
      rw[HLS.out]
      exact ((H2.out.set_ 0 _).set_ 1 _).set_ 2 _
   case done =>
    rintro D ys W hD rfl ⟨⟨⟨h1,h2⟩,h3⟩,hB,hsz⟩ hK
    have f1:=h1.frozen 0
    have c1:W.cell? ⟨w.heap.size+1,0,none⟩=some (.int .i64 0):=h1.cell 0
    gi_wp2
    have hK':=(KeepsOthers.setCell W ⟨w.heap.size+1,0,none⟩ (.int .i64 0)).same D _ hK rfl
    refine ⟨by simp,.inl ⟨_,_,rfl,run_takeDeferred hK',?_⟩⟩
    have QX:=cell_kept (World.cell?_setCell_same' W ⟨w.heap.size+1,0,none⟩ (.int .i64 0) (by rw[c1]; rfl)) (grownBy_putObj' _ D (.deferred none)) (fun r e=>by cases e; exact ⟨_,hK',rfl⟩)
    refine ⟨.int .i64 0,?_,.inr ⟨yK.out,_,hperm,hri,by rw[h3]; rfl⟩,(hB.setCell (p:=⟨w.heap.size+1,0,none⟩) (by simp) _).trans (belowK_b (w:=w) (nR _) _ D _ _ (nT Ke.size hD) hK' rfl rfl)⟩
    simp[results,Tryz.f110,go_sem,QX]
   case stop =>
    rintro D c pre W hD ⟨k,hk,rfl⟩ ⟨⟨h1,rfl,h3⟩,hB⟩ hK
    have c1:W.cell? ⟨w.heap.size+1,0,none⟩=some (.int .i64 180):=h1.cell 0
    gi_wp2
    refine ⟨by simp,.inl ⟨_,_,rfl,run_takeDeferred hK,?_⟩⟩
    have QX:=cell_kept c1 (grownBy_putObj' _ D (.deferred none)) (fun r e=>by cases e; exact ⟨_,hK,rfl⟩)
    have hfl:flow zK L=false:=by
     have:=Fb (L.take k) (L.drop k) zK h3
     rwa [List.take_append_drop] at this
    refine ⟨.int .i64 180,?_,.inr ⟨yK.out,L,hperm,hri,by rw[hfl]; rfl⟩,hB.trans (belowK_b (w:=w) (nR _) W D _ _ (nT Ke.size hD) hK rfl rfl)⟩
    simp[results,Tryz.f110,go_sem,QX]
end
section
abbrev qE (xs:List Seg) (i:Nat):Int:=(xs.getD i zK).1
abbrev zM (xs:List Seg) (i:Nat):Int:=(xs.getD i zK).2.1
abbrev zI (xs:List Seg) (i:Nat):Int:=(xs.getD i zK).2.2
def Apart (xs:List Seg):Prop:=∀ i,i<xs.length→∀ j,j<xs.length→i≠j→(xs.getD i zK).1≠0→(xs.getD j zK).1≠0 →
 (xs.getD i zK).2.1≠(xs.getD j zK).2.1∧((xs.getD i zK).1=1→(xs.getD j zK).2.1<(xs.getD i zK).2.1)
def qp (sec:Int) (xs:List Seg):Prop:=qj xs.length sec∧(∀ s∈xs,xY s sec)∧Apart xs
noncomputable instance (sec:Int) (xs:List Seg):Decidable (qp sec xs):=Classical.propDecidable _
def bB (xs:List Seg):Nat→Int
 | 0=>-1
 | j+1=>if qE xs j≠0∧(bB xs j<0∨zM xs (bB xs j).toNat<zM xs j) then j else bB xs j
def Jt (xs:List Seg):Nat→Int
 | 0=>-1
 | j+1=>if 0≤Jt xs j then Jt xs j else if qE xs j=1 then j else -1
def Za (xs:List Seg):Nat→Int
 | 0=>-1
 | j+1=>if qE xs j=2∧(Za xs j<0∨zM xs j<zM xs (Za xs j).toNat) then j else Za xs j
def yZ (xs:List Seg) (a:Int):Nat→Int
 | 0=>-1
 | k+1=>if 0≤yZ xs a k then yZ xs a k else if qE xs ((a+1+k).toNat % xs.length)=0 then (((a+1+k).toNat % xs.length:Nat):Int) else -1
def jd (xs:List Seg):Int:=bB xs xs.length
def qO (xs:List Seg):Int:=Jt xs xs.length
def Ap (xs:List Seg):Int:=Za xs xs.length
def jQ (xs:List Seg):Int:=yZ xs (jd xs) xs.length
theorem Ze (xs:List Seg):∀ j,(bB xs j=-1∧∀ i,i<j→qE xs i=0)∨∃ i,i<j∧bB xs j=(i:Nat)∧qE xs i≠0∧∀ k,k<j→qE xs k≠0→zM xs k≤zM xs i
 | 0=>.inl ⟨rfl,fun i h=>absurd h (by omega)⟩
 | j + 1 => by
  have ih:=Ze xs j
  unfold bB
  split
  case isTrue h =>
   obtain ⟨h1,h2⟩:=h
   refine .inr ⟨j,by omega,rfl,h1,fun k hk hs=>?_⟩
   rcases Nat.lt_or_ge k j with hlt | hge
   ·rcases ih with ⟨e,hz⟩ | ⟨i,hi,e,hs',hm⟩
    ·exact absurd (hz k hlt) hs
    ·rw[e] at h2
     have:=hm k hlt hs
     simp only[Int.toNat_natCast] at h2
     rcases h2 with h2 | h2 <;> omega
   ·obtain rfl:k=j:=by omega
    exact Int.le_refl _
  case isFalse h =>
   rcases ih with ⟨e,hz⟩ | ⟨i,hi,e,hs',hm⟩
   ·refine .inl ⟨e,fun i hi=>?_⟩
    rcases Nat.lt_or_ge i j with hlt | hge
    ·exact hz i hlt
    ·obtain rfl:i=j:=by omega
     rw[e] at h
     by_cases h0:qE xs i=0
     ·exact h0
     ·exact absurd ⟨h0,.inl (by omega)⟩ h
   ·refine .inr ⟨i,by omega,e,hs',fun k hk hs=>?_⟩
    rcases Nat.lt_or_ge k j with hlt | hge
    ·exact hm k hlt hs
    ·obtain rfl:k=j:=by omega
     rw[e] at h
     simp only[Int.toNat_natCast,not_and,not_or] at h
     have:=(h hs).2
     omega
theorem Gm (xs:List Seg):∀ j,(Jt xs j=-1∧∀ i,i<j→qE xs i≠1)∨∃ i,i<j∧Jt xs j=(i:Nat)∧qE xs i=1
 | 0=>.inl ⟨rfl,fun i h=>absurd h (by omega)⟩
 | j + 1 => by
  have ih:=Gm xs j
  unfold Jt
  rcases ih with ⟨e,hz⟩ | ⟨i,hi,e,hs⟩
  ·rw[e,if_neg (by omega)]
   by_cases h1:qE xs j=1
   ·rw[if_pos h1]
    exact .inr ⟨j,by omega,rfl,h1⟩
   ·rw[if_neg h1]
    refine .inl ⟨rfl,fun i hi=>?_⟩
    rcases Nat.lt_or_ge i j with hlt | hge
    ·exact hz i hlt
    ·obtain rfl:i=j:=by omega
     exact h1
  ·rw[e,if_pos (by omega)]
   exact .inr ⟨i,by omega,rfl,hs⟩
theorem Gu (xs:List Seg):∀ j,(Za xs j=-1∧∀ i,i<j→qE xs i≠2)∨∃ i,i<j∧Za xs j=(i:Nat)∧qE xs i=2∧∀ k,k<j→qE xs k=2→zM xs i≤zM xs k
 | 0=>.inl ⟨rfl,fun i h=>absurd h (by omega)⟩
 | j + 1 => by
  have ih:=Gu xs j
  unfold Za
  split
  case isTrue h =>
   obtain ⟨h1,h2⟩:=h
   refine .inr ⟨j,by omega,rfl,h1,fun k hk hs=>?_⟩
   rcases Nat.lt_or_ge k j with hlt | hge
   ·rcases ih with ⟨e,hz⟩ | ⟨i,hi,e,hs',hm⟩
    ·exact absurd hs (hz k hlt)
    ·rw[e] at h2
     have:=hm k hlt hs
     simp only[Int.toNat_natCast] at h2
     rcases h2 with h2 | h2 <;> omega
   ·obtain rfl:k=j:=by omega
    exact Int.le_refl _
  case isFalse h =>
   rcases ih with ⟨e,hz⟩ | ⟨i,hi,e,hs',hm⟩
   ·refine .inl ⟨e,fun i hi=>?_⟩
    rcases Nat.lt_or_ge i j with hlt | hge
    ·exact hz i hlt
    ·obtain rfl:i=j:=by omega
     rw[e] at h
     exact fun h0=>h ⟨h0,.inl (by omega)⟩
   ·refine .inr ⟨i,by omega,e,hs',fun k hk hs=>?_⟩
    rcases Nat.lt_or_ge k j with hlt | hge
    ·exact hm k hlt hs
    ·obtain rfl:k=j:=by omega
     rw[e] at h
     simp only[Int.toNat_natCast,not_and,not_or] at h
     have:=(h hs).2
     omega
theorem Gx (xs:List Seg) (a:Int):∀ k,(yZ xs a k=-1∧∀ i,i<k→qE xs ((a+1+i).toNat % xs.length)≠0) ∨
 ∃ i,i<k∧yZ xs a k=(((a+1+(i:Nat)).toNat % xs.length:Nat):Int)∧qE xs ((a+1+i).toNat % xs.length)=0∧∀ q,q<i→qE xs ((a+1+(q:Nat)).toNat % xs.length)≠0
 | 0=>.inl ⟨rfl,fun i h=>absurd h (by omega)⟩
 | k + 1 => by
  have ih:=Gx xs a k
  unfold yZ
  rcases ih with ⟨e,hz⟩ | ⟨i,hi,e,hs,hq⟩
  ·rw[e,if_neg (by omega)]
   by_cases h1:qE xs ((a+1+(k:Nat)).toNat % xs.length)=0
   ·rw[if_pos h1]
    exact .inr ⟨k,by omega,rfl,h1,hz⟩
   ·rw[if_neg h1]
    refine .inl ⟨rfl,fun i hi=>?_⟩
    rcases Nat.lt_or_ge i k with hlt | hge
    ·exact hz i hlt
    ·obtain rfl:i=k:=by omega
     exact h1
  ·rw[e,if_pos (by omega)]
   exact .inr ⟨i,by omega,rfl,hs,hq⟩
theorem Gw (xs:List Seg) (a:Int) {k:Nat} (h:0≤yZ xs a k):∀ d,yZ xs a (k+d)=yZ xs a k
 | 0=>rfl
 | d+1=>by
  have ih:=Gw xs a h d
  show yZ xs a ((k+d)+1)=_
  conv=>lhs; unfold yZ
  rw[ih,if_pos h]
theorem mR {sec:Int} {xs:List Seg} (h:∀ s∈xs,xY s sec) {i:Nat} (hi:i<xs.length):xY (xs.getD i zK) sec:=h _ (by simp[List.getD,hi])
theorem fB {s:Seg} {sec:Int} (h:xY s sec) (h0:s.1≠0):(s.1=1∨s.1=2)∧0<s.2.1∧1≤s.2.2∧s.2.2≤sec:=by
 unfold xY at h
 rwa [if_neg h0] at h
theorem MK {sec:Int} {xs:List Seg} (h:qp sec xs) {i:Nat} (hi:i<xs.length) (h1:qE xs i=1):jd xs=i:=by
 rcases Ze xs xs.length with ⟨e,hz⟩ | ⟨m,hm,e,hs,hmax⟩
 ·have:=hz i hi
  omega
 ·unfold jd
  rw[e]
  by_cases hne:i=m
  ·rw[hne]
  ·have h2:=(h.2.2 i hi m hm hne (by rw[show (xs.getD i zK).1=1 from h1]; decide) hs).2 h1
   have h3:=hmax i hi (by omega)
   simp only[zM] at h3
   omega
theorem bW {sec:Int} {xs:List Seg} (h:qp sec xs):(qO xs=-1∧(∀ i,i<xs.length→qE xs i≠1))∨∃ i,i<xs.length∧qO xs=(i:Nat)∧jd xs=(i:Nat)∧qE xs i=1:=by
 rcases Gm xs xs.length with h1 | ⟨i,hi,e,hs⟩
 ·exact .inl h1
 ·exact .inr ⟨i,hi,e,MK h hi hs,hs⟩
theorem iQ (xs:List Seg):(jd xs=-1∧∀ i,i<xs.length→qE xs i=0)∨∃ i,i<xs.length∧jd xs=(i:Nat)∧qE xs i≠0∧∀ k,k<xs.length→qE xs k≠0→zM xs k≤zM xs i:=Ze xs xs.length
theorem zEc (xs:List Seg):(Ap xs=-1∧∀ i,i<xs.length→qE xs i≠2)∨∃ i,i<xs.length∧Ap xs=(i:Nat)∧qE xs i=2∧∀ k,k<xs.length→qE xs k=2→zM xs i≤zM xs k:=Gu xs xs.length
theorem iO (xs:List Seg):(jQ xs=-1∧∀ i,i<xs.length→qE xs ((jd xs+1+i).toNat % xs.length)≠0) ∨
 ∃ i,i<xs.length∧jQ xs=(((jd xs+1+(i:Nat)).toNat % xs.length:Nat):Int)∧qE xs ((jd xs+1+i).toNat % xs.length)=0∧∀ q,q<i→qE xs ((jd xs+1+(q:Nat)).toNat % xs.length)≠0:=Gx xs _ xs.length
def y8 (xs:List Seg):Int:=if jd xs<0 then 0 else zM xs (jd xs).toNat
def jB (sec:Int) (xs:List Seg):Int:=if 0≤qO xs then sec-zI xs (qO xs).toNat else 0
def He (xs:List Seg):Nat→Nat
 | 0=>0
 | j+1=>He xs j+(if qE xs j=0 then 1 else 0)
def Kj (xs:List Seg):Nat:=He xs xs.length
noncomputable def zZ (sec:Int) (xs:List Seg) (g:Int):Int:=if ¬ qp sec xs then 180 else if 0≤qO xs then 181 else if g≤y8 xs then 2 else if jQ xs<0 then 6 else 0
noncomputable def dL (sec:Int) (xs:List Seg) (n:Int):Int:=if ¬ qp sec xs then 180 else if qO xs<0 then 181 else if n<0 then 2 else if jB sec xs<n then 6 else 0
noncomputable def jP (sec:Int) (xs:List Seg):Int:=if ¬ qp sec xs then 180 else if qO xs<0 then 181 else 0
def qC (xs:List Seg) (g:Int):List Seg:=xs.set (jQ xs).toNat (1,g,1)
def qL (xs:List Seg) (n:Int):List Seg:=xs.set (qO xs).toNat (qE xs (qO xs).toNat,zM xs (qO xs).toNat,zI xs (qO xs).toNat+n)
def vN (xs:List Seg):List Seg:=xs.set (qO xs).toNat (2,zM xs (qO xs).toNat,zI xs (qO xs).toNat)
end
section
open Go.RowKit Go.Shelf
attribute [local go_sem] Oper.semAt_some
theorem Hf:∀ (L:List Num) (a:Seg),flow a L=true↔∀ k,k<L.length→(if k=0 then a else (L.getD (k-1) xO).2).1≠1∧(if k=0 then a else (L.getD (k-1) xO).2).2.1≠(L.getD k xO).2.2.1
 | [],a=>⟨fun _ k h=>absurd h (by simp),fun _=>rfl⟩
 | x :: r, a => by
  have ih:=Hf r x.2
  simp only[flow,Bool.and_eq_true,ih,Bool.not_eq_true',Bool.or_eq_false_iff,beq_eq_false_iff_ne]
  constructor
  ·rintro ⟨h1,h2⟩ k hk
   match k with
   | 0=>exact h1
   | 1=>exact h2 0 (by simpa using hk)
   | k+2=>exact h2 (k+1) (by simp at hk; omega)
  ·intro h
   refine ⟨h 0 (by simp),fun k hk=>?_⟩
   match k with
   | 0=>exact h 1 (by simpa using hk)
   | k+1=>exact h (k+2) (by simp; omega)
theorem Zc (xs:List Seg):∀ j,((xA xs j).map (·.1)).Nodup
 | 0=>List.nodup_nil
 | j + 1 => by
  unfold xA
  split
  ·simpa using Zc xs j
  ·rw[List.map_append,List.nodup_append]
   refine ⟨Zc xs j,by simp,?_⟩
   intro a ha b hb
   simp only[List.map_cons,List.map_nil,List.mem_singleton] at hb
   obtain ⟨x,hx,rfl⟩:=List.mem_map.1 ha
   have:=((Zb xs x j).1 hx).1
   omega
theorem MC {xs:List Seg} {i:Nat} (h:i<xs.length):xs.getD i zK∈xs:=by
 simp[List.getD,h]
theorem Ij {L:List Num} {k:Nat} (h:k<L.length):L.getD k xO∈L:=by
 simp[List.getD,h]
theorem EC {L:List Num} {x:Num} (h:x∈L):∃ k,k<L.length∧L.getD k xO=x:=by
 obtain ⟨k,hk,rfl⟩:=List.getElem_of_mem h
 exact ⟨k,hk,by simp[List.getD,hk]⟩
section
variable {xs:List Seg} {L:List Num} (hp:L.Perm (live xs)) (hr:XE L)
include hp
theorem Jy {k:Nat} (hk:k<L.length):(L.getD k xO).1<xs.length∧(L.getD k xO).2=xs.getD (L.getD k xO).1 zK∧(L.getD k xO).2.1≠0:=D8.1 (hp.mem_iff.1 (Ij hk))
theorem XC {i:Nat} (hi:i<xs.length) (h0:(xs.getD i zK).1≠0):∃ k,k<L.length∧L.getD k xO=(i,xs.getD i zK):=EC (hp.mem_iff.2 (D8.2 ⟨hi,rfl,h0⟩))
theorem UQ {p q:Nat} (hlt:p<q) (hq:q<L.length):(L.getD p xO).1≠(L.getD q xO).1:=by
 have hn:(L.map (·.1)).Nodup:=(hp.map (·.1)).nodup_iff.2 (Zc xs xs.length)
 rw[List.nodup_iff_pairwise_ne,List.pairwise_iff_getElem] at hn
 have h:=hn p q (by simp; omega) (by simpa using hq) hlt
 simpa [List.getD,hq,show p<L.length by omega] using h
theorem SI (hr:XE L) {sec:Int} (hall:∀ s∈xs,xY s sec):flow zK L=true↔Apart xs:=by
 have zMz:∀ k,k<L.length→0<(L.getD k xO).2.2.1:=fun k hk=>by
  obtain ⟨h1,h2,h3⟩:=Jy hp hk
  have hm:=hall (xs.getD (L.getD k xO).1 zK) (MC h1)
  rw[← h2] at hm
  unfold xY at hm
  rw[if_neg h3] at hm
  exact hm.2.1
 rw[Hf]
 constructor
 ·intro h
  have strict:∀ d p,p+d+1<L.length→(L.getD p xO).2.2.1<(L.getD (p+d+1) xO).2.2.1:=fun d p hq=>by
   have h1:=h (p+d+1) hq
   simp only[Nat.add_sub_cancel,show ¬ (p+d+1=0) by omega,if_false] at h1
   have h2:=hr (p+d) (p+d+1) (by omega) hq
   have h3:(L.getD p xO).2.2.1≤(L.getD (p+d) xO).2.2.1:=by
    rcases Nat.eq_zero_or_pos d with rfl | hd
    ·exact Int.le_refl _
    ·exact hr p (p+d) (by omega) (by omega)
   have:=h1.2
   omega
  have zEe:∀ p,p+1<L.length→(L.getD p xO).2.1≠1:=fun p hp1=>by
   have h1:=h (p+1) hp1
   simp only[Nat.add_sub_cancel,show ¬ (p+1=0) by omega,if_false] at h1
   exact h1.1
  intro i hi j hj hij li lj
  obtain ⟨p,hp1,ep⟩:=XC hp hi li
  obtain ⟨q,hq1,eq⟩:=XC hp hj lj
  have hpq:p≠q:=by
   rintro rfl
   rw[ep] at eq
   exact hij (by injection eq)
  rcases Nat.lt_or_gt_of_ne hpq with hlt | hgt
  ·obtain ⟨d,rfl⟩:∃ d,q=p+d+1:=⟨q-p-1,by omega⟩
   have h1:=strict d p hq1
   have h2:=zEe p (by omega)
   rw[ep] at h1 h2
   rw[eq] at h1
   exact ⟨by simp only[] at h1; omega,fun ho=>absurd ho h2⟩
  ·obtain ⟨d,rfl⟩:∃ d,p=q+d+1:=⟨p-q-1,by omega⟩
   have h1:=strict d q hp1
   rw[ep,eq] at h1
   exact ⟨by simp only[] at h1; omega,fun _=>h1⟩
 ·intro h k hk
  by_cases h0:k=0
  ·subst h0
   have:=zMz 0 hk
   simp only[if_true]
   exact ⟨by simp,by show (0:Int)≠_; omega⟩
  ·simp only[h0,if_false]
   have hk1:k-1<L.length:=by omega
   obtain ⟨a1,a2,a3⟩:=Jy hp hk1
   obtain ⟨b1,b2,b3⟩:=Jy hp hk
   have hne:=UQ hp (show k-1<k by omega) hk
   have h1:=h _ a1 _ b1 hne (by rw[← a2]; exact a3) (by rw[← b2]; exact b3)
   rw[← a2,← b2] at h1
   have h2:=hr (k-1) k (by omega) hk
   exact ⟨fun ho=>by have:=h1.2 ho; omega,h1.1⟩
end
theorem Ui {w:World} {A:Option Addr} {n cap:Nat} (sec:Int) (hsz:¬ qj n sec) :
 Calls Tryz.prog 110 #[.agg #[.int .i64 sec,.slice A n cap]] w fun e w'=>e=.returned (.int .i64 180)∧Below w.heap.size w w':=by
 have hd:decide (qj (n:Int) sec)=false:=decide_eq_false hsz
 have Pp:=hI (fun (W:World)=>by have h:=Qs n sec W; rw[hd] at h; exact h)
 have HB:=hI (((Below.refl w.heap.size w).alloc (nR _) (.cells #[.int .i64 sec,.slice A n cap] 95)).alloc (by simp) (.cells #[.int .i64 0] 36))
 have HE:=hI (zY w (.cells #[.int .i64 sec,.slice A n cap] 95) 36 #[.int .i64 0])
 clear hsz hd
 refine (callsIn_wide (n:=5)).1 ?_
 refine callsIn_of_wp_marks Tryz.func110 rfl trivial ?_ rfl
 simp only[Tryz.ntmps110,List.size_toArray,List.length_cons,List.length_nil,Nat.reduceAdd,Nat.reduceSub,Array.replicate_succ,Array.replicate_zero,List.push_toArray,List.append_toArray,List.nil_append,List.cons_append]
 gi_wp2_with (refine ⟨trivial,?_⟩; gi_at_call 109; refine (callsIn_wide.2 (Pp.out _)).mono ?_; rintro e w' ⟨rfl,rfl⟩)
 refine ⟨.int .i64 180,?_,rfl,((Below.refl w.heap.size w).alloc (nR _) _).alloc (by simp) _⟩
 have hc:((w.alloc (.cells #[.int .i64 sec,.slice A n cap] 95)).alloc (.cells #[.int .i64 180] 36)).cell? ⟨w.heap.size+1,0,none⟩=some (.int .i64 180):=(zY w (.cells #[.int .i64 sec,.slice A n cap] 95) 36 #[.int .i64 180]).cell 0
 simp[results,Tryz.f110,go_sem,hc]
theorem aS {w:World} {A:Option Addr} {n cap:Nat} {xs:List Seg} (h:qH w (·<w.heap.size) A n xs) (sec:Int) :
 Calls Tryz.prog 110 #[.agg #[.int .i64 sec,.slice A n cap]] w fun e w'=>e=.returned (.int .i64 (if qp sec xs then 0 else 180))∧Below w.heap.size w w':=by
 by_cases hs:qj n sec
 ·refine (Sb h sec hs).mono ?_
  rintro e w' ⟨⟨⟨s,hs1,hs2⟩,rfl⟩ | ⟨hall,L,hp,hr,rfl⟩,hb⟩
  ·rw[if_neg (fun hk=>hs2 (hk.2.1 s hs1))]
   exact ⟨rfl,hb⟩
  ·refine ⟨?_,hb⟩
   have e:flow zK L=true↔qp sec xs:=by
    rw[SI hp hr hall]
    exact ⟨fun ha=>⟨by rw[h.1]; exact hs,hall,ha⟩,fun h=>h.2.2⟩
   by_cases ho:qp sec xs
   ·rw[if_pos ho,if_pos (e.2 ho)]
   ·rw[if_neg ho,if_neg (fun h=>ho (e.1 h))]
 ·refine (Ui sec hs).mono ?_
  rintro e w' ⟨rfl,hb⟩
  rw[if_neg (fun hk=>hs (by have:=hk.1; rw[h.1] at this; exact this))]
  exact ⟨rfl,hb⟩
end
section
open Go.RowKit Go.Shelf
attribute [local go_sem] Oper.semAt_some
def Yg (a:Int):List Num→Int
 | []=>a
 | x::r=>Yg x.1 r
theorem JV (x:Num):∀ (pre:List Num) (a:Int),Yg a (pre++[x])=x.1
 | [],_=>rfl
 | y::pre,_=>JV x pre y.1
theorem GL {P:Program} {fn:Func} {p u:Tmp} {ty:TypeId} (h:fn.results=#[.tmp u,.cell p ty]) (tmps:Array Value) (w:World) (g:Nat) (t:TypeId) (cs:Array Value) (d:TypeDesc) (hp:tmps.getD p undef=.pointer (some ⟨g,0,none⟩))
 (hg:z8 w g t cs) (hu:P.underlying ty=some d) (hd:(match d with | .struct _ | .array _ _=>true | _=>false)=true) (hi:(P.info? ty).map (·.size)=some cs.size) :
 (results fn tmps).run P w=.ok (.tuple #[tmps.getD u undef,.agg cs]) w:=by
 have hp':tmps[p]?.getD undef=.pointer (some ⟨g,0,none⟩):=by simpa using hp
 have:=run_loadVar_row (P:=P) w g t ty cs (0,0) d hg hu hd hi
 simp[results,h,hp',asAddr,this]
theorem Ra {w:World} {A:Option Addr} {n cap:Nat} {xs:List Seg} (h:qH w (·<w.heap.size) A n xs) (sec:Int) (hn:n≤16) :
 Calls Tryz.prog 164 #[.agg #[.int .i64 sec,.slice A n cap]] w fun e w'=>(∃ L,L.Perm (live xs)∧XE L∧e=.returned (.tuple #[.int .i64 (Yg (-1) L),.agg (zu (lastOf zK L)).toArray]))∧Below w.heap.size w w':=by
 have HX:=hI h
 have HN:=hI hn
 clear h hn
 obtain ⟨w4,hw4⟩:∃ w4,w4=((((w.alloc (.cells #[.int .i64 sec,.slice A n cap] 95)).alloc (.cells #[.int .i64 0,.int .u64 0,.int .i64 0] 126)).alloc (.cells #[.int .i64 (-1)] 3)).alloc (.cells #[.int .i64 0,.int .u64 0,.int .i64 0] 126)):=⟨_,rfl⟩
 have nI:=hI hw4
 have hB4:Below w.heap.size w w4:=by rw[hw4]; exact ((((Below.refl _ w).alloc (nR _) _).alloc (by simp) _).alloc (by simp; omega) _).alloc (by simp; omega) _
 have zq:=hI hB4
 have hs4:w4.heap.size=w.heap.size+4:=by rw[hw4]; simp
 have yg:=hI hs4
 have jh:=hI (show z8 w4 (w.heap.size+1) 126 (zu zK).toArray by rw[hw4]; exact ((zY w _ _ _).alloc _).alloc _)
 have yI:=hI (show z8 w4 (w.heap.size+1+1) 3 #[.int .i64 (-1)] by rw[hw4]; have h:=(z8.new ((w.alloc (.cells #[.int .i64 sec,.slice A n cap] 95)).alloc (.cells #[.int .i64 0,.int .u64 0,.int .i64 0] 126)) 3 #[.int .i64 (-1)]).alloc (.cells #[.int .i64 0,.int .u64 0,.int .i64 0] 126); simpa using h)
 have yH:=hI (show z8 w4 (w.heap.size+1+1+1) 126 (zu zK).toArray by rw[hw4]; have h:=z8.new (((w.alloc (.cells #[.int .i64 sec,.slice A n cap] 95)).alloc (.cells #[.int .i64 0,.int .u64 0,.int .i64 0] 126)).alloc (.cells #[.int .i64 (-1)] 3)) 126 (zu zK).toArray; simpa using h)
 have HRI:=hI (KC (w:=w4) (cap:=cap) ((HX.out.below hB4 (fun b h=>h)).more (fun b h=>nL h hB4.size)) HN.out)
 rw[hw4] at HRI
 clear hw4 hB4 hs4
 refine (callsIn_wide (n:=5)).1 ?_
 refine callsIn_of_wp_marks Tryz.func164 rfl trivial ?_ rfl
 simp only[Tryz.ntmps164,List.size_toArray,List.length_cons,List.length_nil,Nat.reduceAdd,Nat.reduceSub,Array.replicate_succ,Array.replicate_zero,List.push_toArray,List.append_toArray,List.nil_append,List.cons_append]
 gi_wp2_with (refine ⟨trivial,?_⟩; gi_at_call 130; refine (callsIn_wide.2 HRI.out).mono ?_; rintro e w5 ⟨B,L,rfl,Lv,hperm,hri,hb5⟩)
 rw[← nI.out] at Lv hb5
 have Ig:L.length≤16:=by have hn:=HN.out; rw[hperm.length_eq]; have:=pE xs xs.length; rw[HX.out.1] at this; unfold live; rw[HX.out.1]; omega
 have hb1:=jh.out.below hb5 jh.out.lt
 have hb2:=yI.out.below hb5 yI.out.lt
 have hb3:=yH.out.below hb5 yH.out.lt
 have Ke:=zq.out.trans (hb5.mono zq.out.size)
 have hs4:=yg.out
 have hs5:=hb5.size
 refine wpIn_rangeFunc_ownH rfl (by omega) (gf:=184) (lb:=#[.pointer (some ⟨B,0,none⟩)]) rfl trivial (enters_of Tryz.func184 (by kernel_rfl) rfl)
  (KD Fence.wide 4 trivial rfl (by omega) B w4.heap.size w5.heap.size L Ig w5 Lv rfl) Mv (Mw (nR _)) (Below.refl _ _) (fun _=>rfl)
  (fun pre W=>((z8 W (w.heap.size+1) 126 (zu zK).toArray∧z8 W (w.heap.size+1+1) 3 #[.int .i64 (Yg (-1) pre)])∧z8 W (w.heap.size+1+1+1) 126 (zu (lastOf zK pre)).toArray)∧Below w.heap.size w W∧w5.heap.size≤W.heap.size)
  (fun _ _ _=>False)
  (OwnFrom.and (OwnFrom.and (OwnFrom.and (Own.from (fV _ _ _) _) (Own.from (fV _ _ _) _)) (Own.from (fV _ _ _) _)) (OwnFrom.and (ownFrom_below (nR _) Ke.size) (Gc _)))
  (fun _ _ _ _ _ hs _ _=>hs)
  ⟨⟨⟨hb1,hb2⟩,hb3⟩,Ke,nR _⟩
  (fun x a' W=>∃ Bx,w4.heap.size≤Bx∧z8 W Bx 126 (zu x.2).toArray∧a'={ tmps:=#[.agg #[.int .i64 sec,.slice A n cap],.pointer (some ⟨w.heap.size,0,none⟩),.int .i64 0,.pointer (some ⟨w.heap.size+1,0,none⟩),.pointer (some ⟨w.heap.size+1+1,0,none⟩),.pointer (some ⟨w.heap.size+1+1+1,0,none⟩),.int .i64 x.1,.pointer (some ⟨Bx,0,none⟩),.agg #[.int .i64 0,.int .u64 0,.int .i64 0],.pointer (some ⟨w.heap.size,1,none⟩),.slice A n cap,.func (.func 184) #[] #[.pointer (some ⟨B,0,none⟩)],.int .i64 x.1,.agg (zu x.2).toArray,undef,undef,undef,undef],defers:=[] })
  (fun x a' _ X Y row hs hg hr=>by obtain ⟨Bx,h1,h2,h3⟩:=hs; exact ⟨Bx,h1,fV Bx _ (fun (_:Unit)=>_) () X Y row h2 hg (fun r e=>(hr r e).2),h3⟩)
  ?assign ?body ?done ?stop
 case assign =>
  rintro l pre x W K ⟨⟨⟨h1,h2⟩,h3⟩,hB,hsz⟩ hK
  gi_wp2
  exact hK _ _ ((KeepsOthers.alloc _ _).from _) ((Kept.refl _ W).alloc (fun b hb=>nL hb.2 hsz) _) ⟨⟨⟨h1.alloc _,h2.alloc _⟩,h3.alloc _⟩,hB.alloc hB.size _,nT hsz (by simp)⟩ ⟨W.heap.size,nT hs5 hsz,z8.new W _ _,rfl⟩
 case body =>
  rintro l pre ⟨i,st,g,u⟩ a' W hl ⟨r,hr⟩ ⟨⟨⟨h1,h2⟩,h3⟩,hB,hsz⟩ ⟨Bx,hBx,bX,rfl⟩ hlt
  have hls:=rU (i,st,g,u) pre zK
  have has:=JV (i,st,g,u) pre (-1)
  obtain ⟨ast,ag,au,ha⟩:∃ ast ag au,lastOf zK pre=(ast,ag,au):=⟨_,_,_,rfl⟩
  rw[ha] at h3
  generalize Yg (-1) pre=Ux at h2
  have HLS:=hI hls
  have HAS:=hI has
  have H1:=hI h1
  have H2:=hI h2
  have H3:=hI h3
  have bN:=hI hB
  have c2:W.cell? ⟨w.heap.size+1+1,0,none⟩=some (.int .i64 Ux):=H2.out.cell 0
  have f2:=H2.out.frozen 0
  obtain ⟨a0,a1,a2⟩:W.cell? ⟨w.heap.size+1+1+1,0,none⟩=some (.int .i64 ast)∧W.cell? ⟨w.heap.size+1+1+1,1,none⟩=some (.int .u64 ag)∧W.cell? ⟨w.heap.size+1+1+1,2,none⟩=some (.int .i64 au):=⟨H3.out.cell 0,H3.out.cell 1,H3.out.cell 2⟩
  obtain ⟨g0,g1,g2⟩:=And.intro (H3.out.frozen 0) (And.intro (H3.out.frozen 1) (H3.out.frozen 2))
  obtain ⟨b0,b1,b2⟩:W.cell? ⟨Bx,0,none⟩=some (.int .i64 st)∧W.cell? ⟨Bx,1,none⟩=some (.int .u64 g)∧W.cell? ⟨Bx,2,none⟩=some (.int .i64 u):=⟨bX.cell 0,bX.cell 1,bX.cell 2⟩
  have n1:Bx≠w.heap.size+1+1:=by omega
  have n2:Bx≠w.heap.size+1+1+1:=by omega
  clear hls has h1 h2 h3 hB ha bX
  gi_wp2
  have mixed:Tryz.prog.follows Departure.mixedOrders=true:=by kernel_rfl
  gi_region_with_o (fail)
  all_goals gi_wp2
  all_goals (try go_bits)
  all_goals
   have e3:w.heap.size+1≠w.heap.size+1+1:=by omega
   have e4:w.heap.size+1≠w.heap.size+1+1+1:=by omega
   have e5:w.heap.size+1+1≠w.heap.size+1+1+1:=by omega
   have hA:=HAS.out
   have hL:=HLS.out
   refine ⟨(((((KeepsOthers.setCell W _ _).trans (KeepsOthers.setCell _ _ _)).trans (KeepsOthers.setCell _ _ _)).trans (KeepsOthers.setCell _ _ _)).trans (KeepsOthers.drew _)).from _,
    (((((Kept.refl _ W).setCell (p:=⟨w.heap.size+1+1,0,none⟩) (fun h=>by have:=h.1; simp only[] at this; omega) _).setCell (p:=⟨w.heap.size+1+1+1,0,none⟩) (fun h=>by have:=h.1; simp only[] at this; omega) _).setCell (p:=⟨w.heap.size+1+1+1,1,none⟩) (fun h=>by have:=h.1; simp only[] at this; omega) _).setCell (p:=⟨w.heap.size+1+1+1,2,none⟩) (fun h=>by have:=h.1; simp only[] at this; omega) _).drew,
    ⟨⟨((((H1.out.far (p:=⟨w.heap.size+1+1,0,none⟩) e3 _).far (p:=⟨w.heap.size+1+1+1,0,none⟩) e4 _).far (p:=⟨w.heap.size+1+1+1,1,none⟩) e4 _).far (p:=⟨w.heap.size+1+1+1,2,none⟩) e4 _).drew,?_⟩,?_⟩,
    ((((bN.out.setCell (p:=⟨w.heap.size+1+1,0,none⟩) (by simp only[]; omega) _).setCell (p:=⟨w.heap.size+1+1+1,0,none⟩) (by simp only[]; omega) _).setCell (p:=⟨w.heap.size+1+1+1,1,none⟩) (by simp only[]; omega) _).setCell (p:=⟨w.heap.size+1+1+1,2,none⟩) (by simp only[]; omega) _).drew,by simpa [World.setCell] using hsz⟩
   ·rw[hA]
    exact ((((H2.out.set_ 0 _).far (p:=⟨w.heap.size+1+1+1,0,none⟩) e5 _).far (p:=⟨w.heap.size+1+1+1,1,none⟩) e5 _).far (p:=⟨w.heap.size+1+1+1,2,none⟩) e5 _).drew
   ·rw[hL]
    exact ((((H3.out.far (p:=⟨w.heap.size+1+1,0,none⟩) e5.symm _).set_ 0 _).set_ 1 _).set_ 2 _).drew
 case done =>
  rintro D ys W hD rfl ⟨⟨⟨h1,h2⟩,h3⟩,hB,hsz⟩ hK
  obtain ⟨ast,ag,au,ha⟩:∃ ast ag au,lastOf zK ys=(ast,ag,au):=⟨_,_,_,rfl⟩
  rw[ha] at h3
  have HA:=hI ha
  obtain ⟨Ux,hat⟩:∃ Ux,Yg (-1) ys=Ux:=⟨_,rfl⟩
  rw[hat] at h2
  have HAT:=hI hat
  have H1:=hI h1
  have bN:=hI hB
  have c2:W.cell? ⟨w.heap.size+1+1,0,none⟩=some (.int .i64 Ux):=h2.cell 0
  obtain ⟨a0,a1,a2⟩:W.cell? ⟨w.heap.size+1+1+1,0,none⟩=some (.int .i64 ast)∧W.cell? ⟨w.heap.size+1+1+1,1,none⟩=some (.int .u64 ag)∧W.cell? ⟨w.heap.size+1+1+1,2,none⟩=some (.int .i64 au):=⟨h3.cell 0,h3.cell 1,h3.cell 2⟩
  obtain ⟨d0,d1,d2⟩:W.cell? ⟨w.heap.size+1,0,none⟩=some (.int .i64 0)∧W.cell? ⟨w.heap.size+1,1,none⟩=some (.int .u64 0)∧W.cell? ⟨w.heap.size+1,2,none⟩=some (.int .i64 0):=⟨h1.cell 0,h1.cell 1,h1.cell 2⟩
  obtain ⟨g0,g1,g2⟩:=And.intro (H1.out.frozen 0) (And.intro (H1.out.frozen 1) (H1.out.frozen 2))
  have mixed:Tryz.prog.follows Departure.mixedOrders=true:=by kernel_rfl
  clear h1 h2 h3 hB ha hat
  gi_wp2
  refine wpIn_mono (Q:=NoPanic _) ?_ NoPanic.imp
  gi_region_with_o (fail)
  all_goals refine NoPanic.normal ?_
  all_goals gi_wp2
  all_goals (try go_bits)
  all_goals
   have hW:(((W.setCell ⟨w.heap.size+1,0,none⟩ (.int .i64 ast)).setCell ⟨w.heap.size+1,1,none⟩ (.int .u64 ag)).setCell ⟨w.heap.size+1,2,none⟩ (.int .i64 au)).drew.heap[D]? = some (.deferred (some [])):=((((KeepsOthers.setCell W _ _).trans (KeepsOthers.setCell _ _ _)).trans (KeepsOthers.setCell _ _ _)).trans (KeepsOthers.drew _)).same D _ hK rfl
   have hF:=(((bN.out.setCell (p:=⟨w.heap.size+1,0,none⟩) (by simp) (.int .i64 ast)).setCell (p:=⟨w.heap.size+1,1,none⟩) (by simp) (.int .u64 ag)).setCell (p:=⟨w.heap.size+1,2,none⟩) (by simp) (.int .i64 au)).drew
   have hG:=(((H1.out.set_ 0 (.int .i64 ast)).set_ 1 (.int .u64 ag)).set_ 2 (.int .i64 au)).drew
   refine ⟨by simp,.inl ⟨_,_,rfl,run_takeDeferred hW,?_⟩⟩
   refine ⟨_,GL (p:=3) (u:=2) rfl _ _ (w.heap.size+1) 126 (zu (ast,ag,au)).toArray _ rfl ?_ Tryz.underlying126 rfl wV,⟨_,hperm,hri,by rw[HA.out,HAT.out]; rfl⟩,hF.trans (belowK_b (w:=w) (nR _) _ D _ _ (nT Ke.size hD) hW rfl rfl)⟩
   exact hG.grown (grownBy_putObj' _ D (.deferred none)) (fun e=>by cases e; rw[show _=_ from hG] at hW; cases hW)
 case stop =>
  rintro D c pre W _ _ h _
  exact h.elim
end
section
set_option linter.unusedSectionVars false
def dA (xs:List Seg):Seg:=if jd xs<0 then zK else xs.getD (jd xs).toNat zK
theorem Eb (xs:List Seg):(dA xs).2.1=y8 xs:=by
 unfold dA y8
 split <;> rfl
theorem PG {sec:Int} {xs:List Seg} (h:qp sec xs):(dA xs).1=1↔0≤qO xs:=by
 rcases bW h with ⟨e,hz⟩ | ⟨i,hi,e,el,hs⟩
 ·rw[e]
  refine ⟨fun h1=>?_,fun h=>by omega⟩
  exfalso
  rcases iQ xs with ⟨e2,_⟩ | ⟨m,hm,e2,_⟩
  ·unfold dA at h1; rw[e2,if_pos (by omega)] at h1; exact absurd h1 (by decide)
  ·unfold dA at h1; rw[e2,if_neg (by omega),Int.toNat_natCast] at h1; exact hz m hm h1
 ·rw[e]
  refine ⟨fun _=>by omega,fun _=>?_⟩
  unfold dA
  rw[el,if_neg (by omega),Int.toNat_natCast]
  exact hs
section
variable {sec:Int} {xs:List Seg} {L:List Num} (hk:qp sec xs) (hp:L.Perm (live xs)) (hr:XE L)
include hk hp hr
theorem Al:Yg (-1) L=jd xs∧lastOf zK L=dA xs:=by
 rcases List.eq_nil_or_concat L with rfl | ⟨pre,x,rfl⟩
 ·rcases iQ xs with ⟨e,hz⟩ | ⟨i,hi,e,hs,hm⟩
  ·unfold dA
   rw[e,if_pos (by omega)]
   exact ⟨rfl,rfl⟩
  ·obtain ⟨k,hk',_⟩:=XC hp hi hs
   simp at hk'
 ·rw [List.concat_eq_append] at *
  rw[JV,rU]
  have hl:pre.length<(pre++[x]).length:=by simp
  have hx:(pre++[x]).getD pre.length xO=x:=by simp[List.getD]
  obtain ⟨h1,h2,h3⟩:=Jy hp hl
  rw[hx] at h1 h2 h3
  rcases iQ xs with ⟨e,hz⟩ | ⟨i,hi,e,hs,hm⟩
  ·exact absurd (by have:=hz x.1 h1; simp only[qE] at this; rw[← h2] at this; exact this) h3
  ·have hxi:x.1=i:=by
    by_cases hne:x.1=i
    ·exact hne
    ·obtain ⟨k,hk',ek⟩:=XC hp hi hs
     have hle:((pre++[x]).getD k xO).2.2.1≤((pre++[x]).getD pre.length xO).2.2.1:=by
      rcases Nat.lt_or_ge k pre.length with hlt | hge
      ·exact hr k pre.length hlt hl
      ·obtain rfl:k=pre.length:=by simp at hk'; omega
       exact Int.le_refl _
     rw[ek,hx,h2] at hle
     have hge:=hm x.1 h1 (by simp only[qE]; rw[← h2]; exact h3)
     have:=(hk.2.2 x.1 h1 i hi hne (by rw[← h2]; exact h3) hs).1
     simp only[zM] at hge hle
     omega
   unfold dA
   rw[e,if_neg (by omega),Int.toNat_natCast]
   exact ⟨by rw[hxi],by rw[h2,hxi]⟩
end
theorem jD {w W:World} {A:Option Addr} {n:Nat} {xs:List Seg} (h:qH w (·<w.heap.size) A n xs) (hb:Below w.heap.size w W):qH W (·<W.heap.size) A n xs :=
 (h.below hb (fun _ h=>h)).more (fun b h=>nL h hb.size)
theorem YQ {sec:Int} {xs:List Seg} {n:Nat} (h:qp sec xs) (hn:xs.length=n):4≤n∧n≤16:=by
 have:=h.1
 unfold qj at this
 omega
theorem J7 {w:World} {A:Option Addr} {n cap:Nat} {xs:List Seg} (h:qH w (·<w.heap.size) A n xs) {sec:Int} (hk:qp sec xs) :
 Calls Tryz.prog 164 #[.agg #[.int .i64 sec,.slice A n cap]] w fun e w'=>e=.returned (.tuple #[.int .i64 (jd xs),.agg (zu (dA xs)).toArray])∧Below w.heap.size w w':=by
 refine (Ra h sec (YQ hk h.1).2).mono ?_
 rintro e w' ⟨⟨L,hp,hr,rfl⟩,hb⟩
 obtain ⟨e1,e2⟩:=Al hk hp hr
 rw[e1,e2]
 exact ⟨rfl,hb⟩
end
section
abbrev xk (sec:Int) (A:Option Addr) (n cap:Nat):Value:=.agg #[.int .i64 sec,.slice A n cap]
def RI (w:World) (sec:Int) (A:Option Addr) (n cap:Nat) (wr:World) (j:Nat) (i:Value):Prop :=
 j≤n∧i=.int .i64 j∧z8 wr w.heap.size 95 #[.int .i64 sec,.slice A n cap]∧Below w.heap.size w wr
theorem VW {w:World} {S:Nat→Prop} {A:Option Addr} {n:Nat} {xs:List Seg} (h:qH w S A n xs) {j:Nat} (hj:j<n):∃ b off,A=some ⟨b,off,none⟩∧S b ∧
 (∀ i,i<n→w.cell? ⟨b,off+i*3,none⟩=some (.int .i64 (qE xs i))∧w.cell? ⟨b,off+i*3+1,none⟩=some (.int .u64 (zM xs i))∧w.cell? ⟨b,off+i*3+2,none⟩=some (.int .i64 (zI xs i))):=by
 obtain ⟨b,off,e,hb,hc⟩:=h.2 (by omega)
 refine ⟨b,off,e,hb,fun i hi=>?_⟩
 have:=hc i hi
 exact ⟨this 0 _ rfl,this 1 _ rfl,this 2 _ rfl⟩
theorem BP (xs:List Seg) (j:Nat):bB xs j=-1∨∃ i:Nat,i<j∧bB xs j=(i:Int):=by
 rcases Ze xs j with ⟨e,_⟩ | ⟨i,hi,e,_⟩
 ·exact .inl e
 ·exact .inr ⟨i,hi,e⟩
end
section
noncomputable def xM (sec:Int) (xs:List Seg):Int:=if ¬ qp sec xs then 180 else if qO xs<0 then 4 else 0
noncomputable def y7 (sec:Int) (xs:List Seg):Int:=if xM sec xs=0 then qO xs else 0
theorem KL {sec:Int} {xs:List Seg} (h:¬ qp sec xs):xM sec xs=180∧y7 sec xs=0:=by
 have e:xM sec xs=180:=by unfold xM; rw[if_pos h]
 exact ⟨e,by unfold y7; rw[e]; rfl⟩
theorem J2 {sec:Int} {xs:List Seg} (h:qp sec xs) (h2:qO xs<0):xM sec xs=4∧y7 sec xs=0:=by
 have e:xM sec xs=4:=by unfold xM; rw[if_neg (fun k=>k h),if_pos h2]
 exact ⟨e,by unfold y7; rw[e]; rfl⟩
theorem gu {sec:Int} {xs:List Seg} (h:qp sec xs) (h2:¬ qO xs<0):xM sec xs=0∧y7 sec xs=qO xs:=by
 have e:xM sec xs=0:=by unfold xM; rw[if_neg (fun k=>k h),if_neg h2]
 exact ⟨e,by unfold y7; rw[e]; rfl⟩
theorem qG {w:World} {g:Nat} {sec:Int} {A:Option Addr} {n cap:Nat} (h:z8 w g 95 #[.int .i64 sec,.slice A n cap]):w.cell? ⟨g,0,none⟩=some (.int .i64 sec)∧w.cell? ⟨g,1,none⟩=some (.slice A n cap):=⟨h.cell 0,h.cell 1⟩
theorem kT {w w1:World} {sec:Int} {A:Option Addr} {n cap:Nat} (h:Below (w.alloc (.cells #[.int .i64 sec,.slice A n cap] 95)).heap.size (w.alloc (.cells #[.int .i64 sec,.slice A n cap] 95)) w1) :
 Below w.heap.size w w1∧z8 w1 w.heap.size 95 #[.int .i64 sec,.slice A n cap] :=
 ⟨((Below.refl w.heap.size w).alloc (nR _) _).trans (h.mono (by simp)),(z8.new w _ _).below h (by simp)⟩
theorem lq {w:World} {A:Option Addr} {n cap:Nat} {xs:List Seg} (h:qH w (·<w.heap.size) A n xs) (sec:Int) :
 Calls Tryz.prog 111 #[xk sec A n cap] w fun e w'=>e=.returned (.tuple #[.int .i64 (y7 sec xs),.int .i64 (xM sec xs)])∧Below w.heap.size w w':=by
 have HX:=hI h
 have HB1:=hI ((Below.refl w.heap.size w).alloc (nR _) (.cells #[.int .i64 sec,.slice A n cap] 95))
 have HC:=hI (aS (cap:=cap) (jD h HB1.out) sec)
 clear h
 by_cases hk:qp sec xs
 case neg =>
  obtain ⟨e1,e2⟩:=KL hk
  rw[if_neg hk] at HC
  rw[e1,e2]
  clear e1 e2
  go_enter Tryz.func111,Tryz.ntmps111
  go_wp2_with (go_at_call 110; refine HC.out.mono ?_; rintro e w1 ⟨rfl,hb1⟩; have HB2:=hI (kT hb1); clear hb1)
  go_ret2
  exact ⟨rfl,HB2.out.1⟩
 rw[if_pos hk] at HC
 have HK:=hI hk
 have Ck:=hI (PG hk)
 have HOY:=hI (fun h2=>gu hk h2)
 have HON:=hI (fun h2=>J2 hk h2)
 have qd:=hI (bW hk)
 clear hk
 obtain ⟨st,g,u,hl⟩:∃ st g u,dA xs=(st,g,u):=⟨_,_,_,rfl⟩
 rw[hl] at Ck
 have HL:=hI (fun (W:World) (hh:qH W (·<W.heap.size) A n xs)=>by have:=J7 (cap:=cap) hh HK.out; rw[hl] at this; exact this)
 clear hl
 by_cases h1:st=1
 ·subst h1
  have ho:¬ qO xs<0:=by have:=Ck.out.1 rfl; omega
  obtain ⟨e1,e2⟩:=HOY.out ho
  have e3:jd xs=qO xs:=by rcases qd.out with ⟨e,_⟩ | ⟨i,_,e,e',_⟩ <;> omega
  rw[e1,e2,← e3]
  clear e1 e2 e3 ho
  generalize jd xs=a at *
  go_enter Tryz.func111,Tryz.ntmps111
  go_wp2_with (first
   | (go_at_call 110; refine HC.out.mono ?_; rintro e w1 ⟨rfl,hb1⟩; have HB2:=hI (kT hb1); obtain ⟨k0,k1⟩:=qG HB2.out.2; clear hb1)
   | (go_at_call 164; refine (HL.out _ (jD HX.out HB2.out.1)).mono ?_; rintro e w2 ⟨rfl,hb2⟩; have HB3:=hI (HB2.out.1.trans (hb2.mono HB2.out.1.size)); clear hb2))
  go_ret2
  exact ⟨rfl,HB3.out.alloc HB3.out.size _⟩
 ·have d1:(st != 1)=true:=by simpa using h1
  have ho:qO xs<0:=by
   rcases Int.lt_or_le (qO xs) 0 with h | h
   ·exact h
   ·exact absurd (Ck.out.2 h) h1
  obtain ⟨e1,e2⟩:=HON.out ho
  rw[e1,e2]
  clear e1 e2 ho
  generalize jd xs=a at *
  go_enter Tryz.func111,Tryz.ntmps111
  go_wp2_with (first
   | (go_at_call 110; refine HC.out.mono ?_; rintro e w1 ⟨rfl,hb1⟩; have HB2:=hI (kT hb1); obtain ⟨k0,k1⟩:=qG HB2.out.2; clear hb1)
   | (go_at_call 164; refine (HL.out _ (jD HX.out HB2.out.1)).mono ?_; rintro e w2 ⟨rfl,hb2⟩; have HB3:=hI (HB2.out.1.trans (hb2.mono HB2.out.1.size)); clear hb2))
  go_ret2
  exact ⟨rfl,HB3.out.alloc HB3.out.size _⟩
noncomputable def NU (sec:Int) (xs:List Seg):Int:=if xM sec xs=4 then 181 else xM sec xs
theorem zCD (sec:Int) (xs:List Seg):NU sec xs=jP sec xs:=by
 unfold NU jP xM
 by_cases hk:qp sec xs
 ·by_cases h2:qO xs<0 <;> simp[hk,h2]
 ·simp[hk]
theorem XI {w:World} {A:Option Addr} {n cap:Nat} {xs:List Seg} (h:qH w (·<w.heap.size) A n xs) (sec:Int) :
 Calls Tryz.prog 172 #[xk sec A n cap] w fun e w'=>e=.returned (.tuple #[.int .i64 (y7 sec xs),.int .i64 (jP sec xs)])∧Below w.heap.size w w':=by
 have HB1:=hI ((Below.refl w.heap.size w).alloc (nR _) (.cells #[.int .i64 sec,.slice A n cap] 95))
 have HC:=hI (lq (cap:=cap) (jD h HB1.out) sec)
 have HV:=hI (show xM sec xs=4→y7 sec xs=0 from fun h=>by unfold y7; rw[if_neg (by omega)])
 rw[← zCD]
 unfold NU
 clear h
 generalize xM sec xs=er at *
 generalize y7 sec xs=vr at *
 by_cases h4:er=4
 ·subst h4
  obtain rfl:vr=0:=HV.out rfl
  go_enter Tryz.func172,Tryz.ntmps172
  go_wp2_with (go_at_call 111; refine HC.out.mono ?_; rintro e w1 ⟨rfl,hb1⟩; have HB2:=hI (kT hb1); clear hb1)
  go_ret2
  exact ⟨rfl,HB2.out.1⟩
 ·have d4:(er==4)=false:=by simpa using h4
  rw[if_neg h4]
  go_enter Tryz.func172,Tryz.ntmps172
  go_wp2_with (go_at_call 111; refine HC.out.mono ?_; rintro e w1 ⟨rfl,hb1⟩; have HB2:=hI (kT hb1); clear hb1)
  go_ret2
  exact ⟨rfl,HB2.out.1⟩
noncomputable def uD (sec:Int) (xs:List Seg):Int:=if qp sec xs then jB sec xs else 0
theorem P7 {w:World} {A:Option Addr} {n cap:Nat} {xs:List Seg} (h:qH w (·<w.heap.size) A n xs) (sec:Int) :
 Calls Tryz.prog 46 #[xk sec A n cap] w fun e w'=>e=.returned (.int .i64 (uD sec xs))∧Below w.heap.size w w':=by
 have HX:=hI h
 have HB1:=hI ((Below.refl w.heap.size w).alloc (nR _) (.cells #[.int .i64 sec,.slice A n cap] 95))
 have HC:=hI (lq (cap:=cap) (jD h HB1.out) sec)
 clear h
 by_cases hk:xM sec xs=0
 case neg =>
  have e0:uD sec xs=0:=by
   unfold uD
   split
   case isFalse=>rfl
   case isTrue ho =>
    unfold jB
    by_cases h2:qO xs<0
    ·rw[if_neg (by omega)]
    ·exact absurd (gu ho h2).1 hk
  rw[e0]
  have d1:(xM sec xs != 0)=true:=by simpa using hk
  clear hk e0
  generalize xM sec xs=er at *
  generalize y7 sec xs=vr at *
  go_enter Tryz.func46,Tryz.ntmps46
  go_wp2_with (go_at_call 111; refine HC.out.mono ?_; rintro e w1 ⟨rfl,hb1⟩; have HB2:=hI (kT hb1); clear hb1)
  go_ret
  exact ⟨rfl,HB2.out.1⟩
 have hok:qp sec xs:=by
  by_cases h:qp sec xs
  ·exact h
  ·have:=(KL h).1; omega
 have hno:¬ qO xs<0:=fun h=>by have:=(J2 hok h).1; omega
 obtain ⟨e1,e2⟩:=gu hok hno
 obtain ⟨i,hi,IG⟩:∃ i:Nat,i<n∧qO xs=i:=by
  rcases bW hok with ⟨e,_⟩ | ⟨i,hi,e,_⟩
  ·omega
  ·exact ⟨i,by rw[← HX.out.1]; exact hi,e⟩
 have e3:uD sec xs=sec-zI xs i:=by unfold uD jB; rw[if_pos hok,if_pos (by omega),IG,Int.toNat_natCast]
 have hu:0≤zI xs i∧24≤sec∧sec≤64∧zI xs i≤64:=by
  have h1:=hok.1
  unfold qj at h1
  have h2:=hok.2.1 (xs.getD i zK) (MC (by rw[HX.out.1]; exact hi))
  unfold xY at h2
  split at h2
  ·simp only[zI]; omega
  ·simp only[zI]; omega
 rw[e1,e2,IG] at HC
 rw[e3]
 clear hok hno e1 e2 IG e3 hk
 obtain ⟨b,off,rfl,hbb,hcc⟩:=VW HX.out hi
 have c2:=(hcc i hi).2.2
 have HCC:=hI c2
 generalize zI xs i=u at *
 clear hcc c2
 have hw:wrap64 (sec-u)=sec-u:=by unfold wrap64; omega
 go_enter Tryz.func46,Tryz.ntmps46
 go_wp2_with (go_at_call 111; refine HC.out.mono ?_; rintro e w1 ⟨rfl,hb1⟩; have HB2:=hI (kT hb1); obtain ⟨k0,k1⟩:=qG HB2.out.2; have kG:w1.cell? ⟨b,off+i*3+2,none⟩=some (.int .i64 u):=(Below.cell HB2.out.1 (p:=⟨b,_,none⟩) hbb).trans HCC.out; clear hb1)
 go_quiet (fail)
 go_wp2
 go_ret
 exact ⟨rfl,below_drewN HB2.out.1 _⟩
end
section
def flatG (L:List Seg):List Value:=L.flatMap zu
theorem flatG_append (L M:List Seg):flatG (L++M)=flatG L++flatG M:=by simp[flatG]
theorem flatG_one (s:Seg):flatG [s]=zu s:=by simp[flatG]
theorem q9 (L:List Seg):(flatG L).length=L.length*3:=by
 induction L with
 | nil=>rfl
 | cons x r ih =>
  simp only[flatG,List.flatMap_cons,List.length_append,List.length_cons] at *
  rw[ih]
  simp only[zu,List.length_cons,List.length_nil]
  omega
theorem jV:∀ (L:List Seg) (t:Nat),t<L.length*3→(flatG L)[t]? = (zu (L.getD (t / 3) zK))[t % 3]?
 | [],t,h=>by simp at h
 | y :: L, t, h => by
  unfold flatG
  rw[List.flatMap_cons]
  by_cases h4:t<3
  ·rw[List.getElem?_append_left (by simpa using h4)]
   rw[show t / 3=0 by omega,show t % 3=t by omega]
   rfl
  ·have e:t-(zu y).length=t-3:=by simp
   rw[List.getElem?_append_right (by simp; omega),e]
   have ih:=jV L (t-3) (by simp at h; omega)
   unfold flatG at ih
   rw[ih,show t / 3=(t-3) / 3+1 by omega,show t % 3=(t-3) % 3 by omega]
   rfl
theorem dD (L:List Seg):∀ v∈flatG L,v.oneCell'=true:=by
 intro v hv
 obtain ⟨s,_,h⟩:=List.mem_flatMap.1 hv
 exact YO s v h
theorem UY (L:List Seg) (i:Nat) (s:Seg) (h:i<L.length):flatG (L.set i s)=(flatG L).take (i*3)++zu s++(flatG L).drop (i*3+3):=by
 have e:L.set i s=L.take i++[s]++L.drop (i+1):=by
  rw[List.set_eq_take_append_cons_drop,if_pos h]; simp
 have e2:L=L.take i++[L.getD i zK]++L.drop (i+1):=by
  simp only[List.getD,List.getElem?_eq_getElem h,Option.getD_some]
  rw[List.append_assoc,List.singleton_append,← List.drop_eq_getElem_cons h,List.take_append_drop]
 have hl:(flatG (L.take i)).length=i*3:=by rw[q9,List.length_take]; omega
 have h1:(flatG L).take (i*3)=flatG (L.take i):=by
  conv=>lhs; rw[e2]
  rw[flatG_append,flatG_append,List.append_assoc,List.take_append_of_le_length (by omega),← hl,List.take_length]
 have h2:(flatG L).drop (i*3+3)=flatG (L.drop (i+1)):=by
  conv=>lhs; rw[e2]
  rw[flatG_append,List.drop_append_of_le_length (by rw[flatG_append,List.length_append,hl,flatG_one]; simp)]
  rw[List.drop_eq_nil_of_le (by rw[flatG_append,List.length_append,hl,flatG_one]; simp)]
  simp
 rw[h1,h2,e,flatG_append,flatG_append,flatG_one]
def ArrS (w:World) (g:Nat) (L:List Seg):Prop:=z8 w g 126 (flatG L).toArray
theorem row_of_flat {w:World} {g:Nat} {t:TypeId} {L:List Seg} {X:List Value} (h:z8 w g t (flatG L++X).toArray) {S:Nat→Prop} (hS:S g) {n:Nat} (hn:L.length=n):qH w S (some ⟨g,0,none⟩) n L :=
 ⟨hn,fun _=>⟨g,0,rfl,hS,fun i hi j v hv=>by
  have hj:j<3:=by have:=(List.getElem?_eq_some_iff.1 hv).1; simpa using this
  show w.cell? ⟨g,0+i*3+j,none⟩=some v
  rw[h.cell,Nat.zero_add]
  have hlt:i*3+j<(flatG L).length:=by rw[q9]; omega
  rw[List.getElem?_toArray,List.getElem?_append_left hlt,jV L _ (by rw[q9] at hlt; exact hlt),show (i*3+j) / 3=i by omega,show (i*3+j) % 3=j by omega]
  exact hv⟩⟩
theorem ArrS.row {w:World} {g:Nat} {L:List Seg} (h:ArrS w g L) {S:Nat→Prop} (hS:S g) {n:Nat} (hn:L.length=n):qH w S (some ⟨g,0,none⟩) n L :=
 row_of_flat (X:=[]) (by simpa [ArrS] using h) hS hn
theorem Q5 {w:World} {S:Nat→Prop} {A:Option Addr} {n:Nat} {xs:List Seg} (h:qH w S A n xs) (hn:0<n) :
 ∃ ad,A=some ad∧∀ j v,(flatG xs)[j]? = some v→w.cell? (ad.add j)=some v:=by
 obtain ⟨b,off,e,_,hc⟩:=h.2 hn
 refine ⟨_,e,fun j v hv=>?_⟩
 have hj:j<xs.length*3:=by have:=(List.getElem?_eq_some_iff.1 hv).1; rwa [q9] at this
 rw[jV xs j hj] at hv
 have h1:=hc (j / 3) (by have:=h.1; omega) (j % 3) v hv
 rw[add_plain,show off+j=off+j / 3*3+j % 3 by omega]
 exact h1
theorem info_seg:(Tryz.prog.info? 126).map (fun i=>(i.zero,i.size,i.bytes))=some (some (.agg (zu zK).toArray),3,24):=by kernel_rfl
theorem Le (k:Nat):madeCells (zu zK).toArray (k*3)=(flatG (List.replicate k zK)).toArray:=by
 apply Array.ext
 ·simp[size_madeCells,q9]
 ·intro i h1 h2
  have hi:i<k*3:=by simpa [size_madeCells] using h1
  have hq:i / 3<k:=by omega
  have e2:=jV (List.replicate k zK) i (by simpa using hi)
  have e3:(List.replicate k zK).getD (i / 3) zK=zK:=by simp[List.getD,List.getElem?_replicate,hq]
  rw[e3,← List.getElem?_toArray,Array.getElem?_eq_getElem h2] at e2
  have hm:i % 3<3:=Nat.mod_lt _ (by omega)
  have e4:(zu zK).toArray[i % 3]! = (zu zK)[i % 3]'(by simpa using hm):=by
   rw[getElem!_def,List.getElem?_toArray,List.getElem?_eq_getElem (by simpa using hm)]
  rw[List.getElem?_eq_getElem (by simpa using hm)] at e2
  injection e2 with e2
  rw[e2]
  simp only[madeCells,Array.getElem_map,Array.getElem_range]
  exact e4
theorem BL (l c:Nat) (hlc:l≤c) (hc:c≤1000000) (w:World):(Instr.makeSlice 93 (.int .i64 l) (.int .i64 c)).run Tryz.prog w=.ok (.slice (some ⟨w.heap.size,0,none⟩) l c) (w.alloc (.cells (flatG (List.replicate c zK)).toArray 126)):=by
 obtain ⟨i0,hi,hz0,hz1,hz2⟩:=info_parts info_seg
 have hr:=run_make (P:=Tryz.prog) w 93 126 i0 (.agg (zu zK).toArray) Tryz.underlying93 hi hz0 .i64 .i64 l c (by omega) (by omega) (by rw[hz2]; omega) (by omega)
 simp only[Int.toNat_natCast,hz1,Value.cells] at hr
 rw[Le] at hr
 exact hr
theorem BN (w:World) (ty:TypeId) (g dCap:Nat) (a:Addr) (n sCap:Nat) (cur:List Value) (cs:List Value)
 (hg:z8 w g 126 cur.toArray) (hn:cs.length=n*3) (hsrc:∀ j v,cs[j]? = some v→w.cell? (a.add j)=some v) (hfit:cs.length=cur.length) (h1:∀ v∈cs,v.oneCell'=true) :
 (Builtin.copy_ #[93,93] ty #[.slice (some ⟨g,0,none⟩) n dCap,.slice (some a) n sCap]).run Tryz.prog w=.ok (goInt n) (w.setRow g cs.toArray):=by
 have hl:=run_loadCells_list (P:=Tryz.prog) w a cs hsrc
 have hst:=run_storeCells_at Tryz.prog g 0 126 cs 0 cur.toArray w hg (by simp[hfit]) h1
 have e:(List.take (0+0) cur.toArray.toList++cs++List.drop (0+0+cs.length) cur.toArray.toList).toArray=cs.toArray:=by simp[hfit]
 rw[e] at hst
 obtain ⟨i0,hi,hz0,hz1,hz2⟩:=info_parts info_seg
 simp[Builtin.copy_,run_underlying (Tryz.underlying93),Builtin.lenOf,Builtin.firstCells,sizeOf,typeInfo,hi,hz1,← hn,hl,hst]
section
variable {w:World} {ops:Array Oper} {rest:List Oper} {o:Oper} {a:Act} {Q:Exit→Act→World→Prop}
theorem wR (l c:Operand) (ho:o.op=.makeSlice 93 l c) (hgd:o.guard=none) (L C:Int) (l0 k:Nat) (hl:a.eval l=.int .i64 L) (hc:a.eval c=.int .i64 C) (hL:L=l0) (hC:C=k) (hlk:l0≤k) (hk:k≤1000000)
 (h:wpList Tryz.prog ops Q rest (a.put o.dst (.slice (some ⟨w.heap.size,0,none⟩) l0 k)) (w.alloc (.cells (flatG (List.replicate k zK)).toArray 126))):wpList Tryz.prog ops Q (o::rest) a w:=by
 refine wpList_plain hgd fun K hK=>?_
 subst hL hC
 have hr:=BL l0 k hlk hk w
 unfold Oper.wp
 simp[execOp,ho,hl,hc,hr,Result.andThen]
 exact hK _ _ h
theorem cZ (d s:Operand) (ho:o.op=.call { callee:=.builtin .copy,args:=#[d,s],argTypes:=#[93,93] }) (hgd:o.guard=none) (g dCap n sCap:Nat) (A:Option Addr) (hd:a.eval d=.slice (some ⟨g,0,none⟩) n dCap) (hs:a.eval s=.slice A n sCap)
 (S:Nat→Prop) (xs ys:List Seg) (hr:qH w S A n xs) (hg:ArrS w g ys) (hl:ys.length=n) (hpos:0<n)
 (h:wpList Tryz.prog ops Q rest (a.put o.dst (goInt n)) (w.setRow g (flatG xs).toArray)):wpList Tryz.prog ops Q (o::rest) a w:=by
 refine wpList_plain hgd fun K hK=>?_
 obtain ⟨ad,rfl,hsrc⟩:=Q5 hr hpos
 have hrun:=BN w o.type g dCap ad n sCap (flatG ys) (flatG xs) hg (by rw[q9,hr.1]) hsrc (by rw[q9,q9,hl,hr.1]) (dD xs)
 unfold Oper.wp
 simp[execOp,ho,resolve,invoke,builtin,hd,hs,hrun,Result.andThen]
 exact hK _ _ h
theorem cK (x y:Operand) (ho:o.op=.store 126 x y) (hgd:o.guard=none) (g i:Nat) (s:Seg) (hx:a.eval x=.pointer (some ⟨g,i*3,none⟩)) (hy:a.eval y=.agg (zu s).toArray)
 (L:List Seg) (hg:ArrS w g L) (hi:i<L.length) (h:wpList Tryz.prog ops Q rest (a.put o.dst undef) (w.setRow g (flatG (L.set i s)).toArray)):wpList Tryz.prog ops Q (o::rest) a w:=by
 refine wpList_plain hgd fun K hK=>?_
 have hs:=run_storeCells_at Tryz.prog g (i*3) 126 (zu s) 0 (flatG L).toArray w hg (by simp[q9]; omega) (YO s)
 have he:(List.take (i*3+0) (flatG L).toArray.toList++zu s++List.drop (i*3+0+(zu s).length) (flatG L).toArray.toList).toArray=(flatG (L.set i s)).toArray:=by
  rw[UY L i s hi]; rfl
 rw[he] at hs
 have hsz:∀ w,(sizeOf 126).run Tryz.prog w=.ok 3 w:=Tryz.sizeOf126
 have hrun:(Instr.storeAt 126 (.pointer (some ⟨g,i*3,none⟩)) (.agg (zu s).toArray)).run Tryz.prog w=.ok () (w.setRow g (flatG (L.set i s)).toArray):=by
  simp only[Instr.storeAt,Instr.sureAddr,Sem.run_bind,Sem.run_pure,Result.andThen_ok,storeVar,hsz,Value.cells]
  simpa using hs
 unfold Oper.wp execOp
 simp only[ho,hx,hy,hrun,Sem.run_bind,Result.andThen_ok]
 exact hK _ _ h
end
theorem ArrS.setRow {w:World} {g:Nat} {L:List Seg} (h:ArrS w g L) (M:List Seg):ArrS (w.setRow g (flatG M).toArray) g M:=setRow_heap w g _ _ _ _ h
theorem ArrS.alloc {w:World} {g:Nat} {L:List Seg} (h:ArrS w g L) (o:Obj):ArrS (w.alloc o) g L:=z8.alloc h o
theorem ArrS.below {w w':World} {g B:Nat} {L:List Seg} (h:ArrS w g L) (hb:Below B w w') (hg:g<B):ArrS w' g L:=z8.below h hb hg
theorem kI (w:World) (ty:TypeId) (base:Nat) (v:Value) (n:Nat) (P:List Value) (hown:w.ownsRow base 126 3 v n P)
 (S:Nat→Prop) (A:Option Addr) (m c:Nat) (ys:List Seg) (hr:qH w S A m ys) (hnil:A=none→c=0) (h63:n+m≤1000000) (hbase:base≤w.heap.size) :
 ∃ v' w',(Builtin.append_ #[93,93] ty #[v,.slice A m c]).run Tryz.prog w=.ok v' w'∧w'.ownsRow base 126 3 v' (n+m) (P++flatG ys)∧w.grownBy w' v.ownBlock∧(v'.ownBlock=v.ownBlock∨v'.ownBlock=some w.heap.size):=by
 obtain ⟨i0,hi,hz0,hz1,hz2⟩:=info_parts info_seg
 have hl:=hr.1
 rcases A with _ | ad
 ·have hm:m=0:=by
   rcases Nat.eq_zero_or_pos m with h0 | h0
   ·exact h0
   ·obtain ⟨_,_,h1,_⟩:=hr.2 h0
    cases h1
  subst hm
  have hn:ys=[]:=List.eq_nil_of_length_eq_zero hl
  subst hn
  rw[hnil rfl]
  exact ⟨v,w,run_append_owned_none (P:=Tryz.prog) (w:=w) base 93 ty 126 i0 3 Tryz.underlying93 hi v n P hown,by simpa [flatG] using hown,World.grownBy.refl w _,.inl rfl⟩
 ·obtain ⟨v',w',h1,h2,h3,_,h4⟩:=run_append_own_at (P:=Tryz.prog) w base 93 ty 126 i0 (.agg (zu zK).toArray) 3 24 Tryz.underlying93 hi hz0 hz1 hz2 (by simp[Value.cells]) (by omega) v n P hown ad m c (flatG ys) (by rw[q9,hl])
   (fun j u hu=>by
     have hm:0<m:=by
      rcases Nat.eq_zero_or_pos m with h0 | h0
      ·have:ys=[]:=List.eq_nil_of_length_eq_zero (by omega)
       subst this
       simp[flatG] at hu
      ·exact h0
     obtain ⟨ad',e,hc⟩:=Q5 hr hm
     injection e with e
     subst e
     exact hc j u hu)
   (dD ys) (by unfold maxLen; omega) (by omega) hbase
  exact ⟨v',w',h1,h2,h3,h4⟩
theorem rowZ_own {w:World} {base:Nat} {v:Value} {n:Nat} {xs:List Seg} {P:List Value} (ho:w.ownsRow base 126 3 v n P) (hP:P=flatG xs) (hn:xs.length=n) :
 ∃ A cap,v=.slice A n cap∧n≤cap∧(A=none→cap=0)∧qH w (fun b=>base≤b∧b<w.heap.size) A n xs:=by
 subst hP
 have hlt:=ho.lt
 rcases ho.2 with ⟨rfl,rfl⟩ | ⟨g,cap,cur,rfl,hg,hh,hnc,hc⟩
 ·exact ⟨none,0,rfl,by omega,fun _=>rfl,hn,fun h=>absurd h (by omega)⟩
 ·refine ⟨_,cap,rfl,hnc,(fun h=>by cases h),hn,fun _=>⟨g,0,rfl,⟨hg,(hlt g rfl).2⟩,fun i hi j v hv=>?_⟩⟩
  have hj:j<3:=by have:=(List.getElem?_eq_some_iff.1 hv).1; simpa using this
  have h1:=ho.cells (g:=g) rfl (i*3+j) v (by rw[jV xs _ (by omega),show (i*3+j) / 3=i by omega,show (i*3+j) % 3=j by omega]; exact hv)
  rw[add_plain] at h1
  rw[Nat.add_assoc]
  exact h1
section
variable {w:World} {ops:Array Oper} {rest:List Oper} {o:Oper} {a:Act} {Q:Exit→Act→World→Prop}
theorem wpList_append_rowZ (s x:Operand) (ho:o.op=.call { callee:=.builtin .append,args:=#[s,x],argTypes:=#[93,93] }) (hgd:o.guard=none)
 (base:Nat) (v:Value) (n:Nat) (P:List Value) (hs:a.eval s=v) (hown:w.ownsRow base 126 3 v n P)
 (S:Nat→Prop) (A:Option Addr) (m c:Nat) (ys:List Seg) (hx:a.eval x=.slice A m c) (hr:qH w S A m ys) (hnil:A=none→c=0) (h63:n+m≤1000000) (hbase:base≤w.heap.size)
 (h:∀ v' w',w'.ownsRow base 126 3 v' (n+m) (P++flatG ys)→w.grownBy w' v.ownBlock→(v'.ownBlock=v.ownBlock∨v'.ownBlock=some w.heap.size)→wpList Tryz.prog ops Q rest (a.put o.dst v') w') :
 wpList Tryz.prog ops Q (o::rest) a w:=by
 obtain ⟨v',w',hrun,h2,h3,h4⟩:=kI w o.type base v n P hown S A m c ys hr hnil h63 hbase
 refine wpList_plain hgd fun K hK=>?_
 unfold Oper.wp execOp
 simp only[ho,resolve,invoke,builtin,Sem.run_bind,Sem.run_pure,Result.andThen_ok,List.map_toArray,List.map_cons,List.map_nil,hs,hx,hrun]
 exact hK _ _ (h v' w' h2 h3 h4)
theorem step_append_rowZ {K:Act→World→Prop} {E:Prop} (s x:Operand) (ho:o.op=.call { callee:=.builtin .append,args:=#[s,x],argTypes:=#[93,93] }) (hgd:o.guard=none)
 (base:Nat) (v:Value) (n:Nat) (P:List Value) (hs:a.eval s=v) (hown:w.ownsRow base 126 3 v n P)
 (S:Nat→Prop) (A:Option Addr) (m c:Nat) (ys:List Seg) (hx:a.eval x=.slice A m c) (hr:qH w S A m ys) (hnil:A=none→c=0) (h63:n+m≤1000000) (hbase:base≤w.heap.size)
 (h:∀ v' w',w'.ownsRow base 126 3 v' (n+m) (P++flatG ys)→w.grownBy w' v.ownBlock→(v'.ownBlock=v.ownBlock∨v'.ownBlock=some w.heap.size)→K (a.put o.dst v') w') :
 if Region.wanted o (yielded ops a.tmps)=true then Oper.wp Tryz.prog o a w K Q else E:=by
 obtain ⟨v',w',hrun,h2,h3,h4⟩:=kI w o.type base v n P hown S A m c ys hr hnil h63 hbase
 have hw:Region.wanted o (yielded ops a.tmps)=true:=by simp[Region.wanted,hgd]
 rw[if_pos hw]
 unfold Oper.wp execOp
 simp only[ho,resolve,invoke,builtin,Sem.run_bind,Sem.run_pure,Result.andThen_ok,List.map_toArray,List.map_cons,List.map_nil,hs,hx,hrun]
 exact h v' w' h2 h3 h4
end
end
section
def From (n₀:Nat) (w:World) (b:Nat):Prop:=n₀≤b∧b<w.heap.size
theorem qH.from {n₀ m₀:Nat} {w:World} {A:Option Addr} {n:Nat} {xs:List Seg} (h:qH w (From n₀ w) A n xs) (hm:m₀≤n₀):qH w (From m₀ w) A n xs:=h.more fun b hb=>⟨nT hm hb.1,hb.2⟩
theorem qH.now {n₀:Nat} {w:World} {A:Option Addr} {n:Nat} {xs:List Seg} (h:qH w (From n₀ w) A n xs):qH w (·<w.heap.size) A n xs:=h.more fun b hb=>hb.2
theorem qH.behind {n₀:Nat} {w W:World} {A:Option Addr} {n:Nat} {xs:List Seg} (h:qH w (From n₀ w) A n xs) (hb:Below w.heap.size w W):qH W (From n₀ W) A n xs :=
 (h.below hb (fun _ h=>h.2)).more fun b hb'=>⟨hb'.1,nL hb'.2 hb.size⟩
theorem qZ:(Tryz.prog.info? 95).map (·.size)=some 2:=by kernel_rfl
theorem zEg {w:World} (n:Nat) (sec:Int) (hs:qj n sec) :
 Calls Tryz.prog 43 #[.int .i64 n,.int .i64 sec] w fun e w'=>(∃ A,e=.returned (.tuple #[xk sec A n n,.int .i64 0])∧qH w' (From w.heap.size w') A n (List.replicate n zK))∧Below w.heap.size w w':=by
 have hd:decide (qj n sec)=true:=decide_eq_true hs
 have Pp:=hI (fun (W:World)=>by have h:=Qs n sec W; rw[hd] at h; exact h)
 have hn:n≤1000000:=by unfold qj at hs; omega
 clear hs hd
 go_enter Tryz.func43,Tryz.ntmps43
 go_wp2_with (first
  | (go_at_call 109; refine (Pp.out _).mono ?_; rintro e w1 ⟨rfl,rfl⟩)
  | (refine wR _ _ rfl rfl _ _ n n rfl rfl rfl rfl (nR _) hn ?_)
  | (with_reducible refine zJ ?_))
 have h2:=ArrS.row (w:=(w.alloc (.cells #[.int .i64 sec,.slice (some ⟨w.heap.size+1,0,none⟩) n n] 95)).alloc (.cells (flatG (List.replicate n zK)).toArray 126)) (g:=w.heap.size+1) (L:=List.replicate n zK) (zY _ _ _ _) (S:=From w.heap.size ((w.alloc (.cells #[.int .i64 sec,.slice (some ⟨w.heap.size+1,0,none⟩) n n] 95)).alloc (.cells (flatG (List.replicate n zK)).toArray 126))) (n:=n) ⟨by simp,by simp⟩ (by simp)
 exact Halt.ret (zy (p:=4) (u:=5) rfl _ _ w.heap.size 95 #[.int .i64 sec,.slice (some ⟨w.heap.size+1,0,none⟩) n n] _ rfl ((z8.new w _ _).alloc _) Tryz.underlying95 rfl qZ) rfl ⟨⟨_,rfl,h2⟩,((Below.refl _ w).alloc (nR _) _).alloc (by simp) _⟩
end
section
theorem RJ (w:World):(w.alloc (.cells #[] 126)).ownsRow w.heap.size 126 3 (.slice (some ⟨w.heap.size,0,none⟩) 0 0) 0 [] :=
 ⟨rfl,.inr ⟨w.heap.size,0,#[],rfl,nR _,heap_alloc_new w _,nR _,by simp,by simp,rfl⟩⟩
end
section
def xX (w:World) (base:Nat) (A:Option Addr) (n cap:Nat) (xs:List Seg):Prop :=
 xs.length=n∧w.ownsRow base 126 3 (.slice A n cap) n (flatG xs)∧(A=none→cap=0)∧n≤cap
theorem xX.row {w:World} {base:Nat} {A:Option Addr} {n cap:Nat} {xs:List Seg} (h:xX w base A n cap xs):qH w (From base w) A n xs:=by
 obtain ⟨A',cap',e,_,_,hr⟩:=rowZ_own h.2.1 rfl h.1
 injection e with e1 _ e2
 subst e1 e2
 exact hr
theorem xX.below {w W:World} {base:Nat} {A:Option Addr} {n cap:Nat} {xs:List Seg} (h:xX w base A n cap xs) (hb:Below w.heap.size w W):xX W base A n cap xs:=⟨h.1,own_below h.2.1 hb,h.2.2⟩
theorem xX.base {w:World} {base m:Nat} {A:Option Addr} {n cap:Nat} {xs:List Seg} (h:xX w base A n cap xs) (hm:m≤base):xX w m A n cap xs:=⟨h.1,Gg h.2.1 hm,h.2.2⟩
theorem ArrS.own {w:World} {g base n:Nat} {xs:List Seg} (h:ArrS w g xs) (hb:base≤g) (hn:xs.length=n) (hc:n≤1000000):xX w base (some ⟨g,0,none⟩) n n xs :=
 ⟨hn,⟨by rw[q9,hn],.inr ⟨g,n,(flatG xs).toArray,rfl,hb,h,nR _,by unfold maxLen; omega,by simp[q9,hn],by rw[← hn,← q9]; simp⟩⟩,(fun h=>by cases h),nR _⟩
theorem ArrS.cells {w:World} {g i:Nat} {xs:List Seg} {a b c:Int} (h:ArrS w g xs) (hi:i<xs.length) (hx:xs.getD i zK=(a,b,c)) :
 w.cell? ⟨g,i*3,none⟩=some (.int .i64 a)∧w.cell? ⟨g,i*3+1,none⟩=some (.int .u64 b)∧w.cell? ⟨g,i*3+2,none⟩=some (.int .i64 c):=by
 have key:∀ j v,j<3→(zu (a,b,c))[j]? = some v→w.cell? ⟨g,i*3+j,none⟩=some v:=fun j v hj hv=>by
  rw[z8.cell h,List.getElem?_toArray,jV xs _ (by omega),show (i*3+j) / 3=i by omega,show (i*3+j) % 3=j by omega,hx]
  exact hv
 exact ⟨key 0 _ (by omega) rfl,key 1 _ (by omega) rfl,key 2 _ (by omega) rfl⟩
theorem Iw (s:Seg) (g:Int) (G:Nat) (w:World) (hG:w.cell? ⟨G,0,none⟩=some (.int .u64 g)) (hlt:G<w.heap.size) :
 Calls Tryz.prog 201 #[.agg (zu s).toArray,.pointer (some ⟨G,0,none⟩)] w fun e w'=>e=.returned (.agg (zu (1,g,1)).toArray)∧Below w.heap.size w w':=by
 obtain ⟨a,b,c⟩:=s
 go_enter Tryz.func201,Tryz.ntmps201
 go_wp2
 exact Halt.ret (jF rfl _ _ (w.heap.size+1) 126 (zu (1,g,1)).toArray _ rfl (zY w _ _ _) Tryz.underlying126 rfl wV) rfl ⟨rfl,((Below.refl _ w).alloc (nR _) _).alloc (by simp) _⟩
theorem zDN (s:Seg) (n:Int) (G:Nat) (w:World) (hG:w.cell? ⟨G,0,none⟩=some (.int .i64 n)) (hlt:G<w.heap.size) :
 Calls Tryz.prog 173 #[.agg (zu s).toArray,.pointer (some ⟨G,0,none⟩)] w fun e w'=>e=.returned (.agg (zu (s.1,s.2.1,wrap64 (s.2.2+n))).toArray)∧Below w.heap.size w w':=by
 obtain ⟨a,b,c⟩:=s
 go_enter Tryz.func173,Tryz.ntmps173
 go_wp2
 exact Halt.ret (jF rfl _ _ (w.heap.size+1) 126 (zu (a,b,wrap64 (c+n))).toArray _ rfl (zY w _ _ _) Tryz.underlying126 rfl wV) rfl ⟨rfl,((Below.refl _ w).alloc (nR _) _).alloc (by simp) _⟩
theorem Iu (s:Seg) (w:World) :
 Calls Tryz.prog 200 #[.agg (zu s).toArray] w fun e w'=>e=.returned (.agg (zu (2,s.2.1,s.2.2)).toArray)∧Below w.heap.size w w':=by
 obtain ⟨a,b,c⟩:=s
 go_enter Tryz.func200,Tryz.ntmps200
 go_wp2
 exact Halt.ret (jF rfl _ _ (w.heap.size+1) 126 (zu (2,b,c)).toArray _ rfl (zY w _ _ _) Tryz.underlying126 rfl wV) rfl ⟨rfl,((Below.refl _ w).alloc (nR _) _).alloc (by simp) _⟩
theorem FB {w:World} {A:Option Addr} {n cap:Nat} {xs:List Seg} (h:qH w (·<w.heap.size) A n xs) (sec:Int) (hn:n≤1000) (i:Nat) (hi:i<n) :
 Calls Tryz.prog 133 #[xk sec A n cap,.int .i64 i,.func (.func 200) #[] #[]] w fun e w'=>(∃ A' cap',e=.returned (xk sec A' n cap')∧xX w' w.heap.size A' n cap' (xs.set i (2,zM xs i,zI xs i)))∧Below w.heap.size w w':=by
 have PN:n≤1000000:=by omega
 have UO:0<n:=by omega
 have HB:=hI ((((Below.refl w.heap.size w).alloc (nR _) (.cells #[.int .i64 sec,.slice A n cap] 95)).alloc (by simp) (.cells #[.int .i64 0,.slice none 0 0] 95)).alloc (by simp; omega) (.cells (flatG (List.replicate n zK)).toArray 126))
 have HX:=hI (jD h HB.out)
 have pQ:=hI (((z8.new w 95 #[.int .i64 sec,.slice A n cap]).alloc (.cells #[.int .i64 0,.slice none 0 0] 95)).alloc (.cells (flatG (List.replicate n zK)).toArray 126))
 have jh:=hI ((zY w (.cells #[.int .i64 sec,.slice A n cap] 95) 95 #[.int .i64 0,.slice none 0 0]).alloc (.cells (flatG (List.replicate n zK)).toArray 126))
 have HG:=hI (show ArrS _ (w.heap.size+1+1) (List.replicate n zK) from jw w (.cells #[.int .i64 sec,.slice A n cap] 95) (.cells #[.int .i64 0,.slice none 0 0] 95) 126 (flatG (List.replicate n zK)).toArray)
 have hl:=h.1
 have HL:=hI hl
 have hlx:i<xs.length:=by omega
 have eB:=hI hlx
 obtain ⟨q0,q1⟩:=qG pQ.out
 clear h hl hlx
 obtain ⟨st,g,u,hx⟩:∃ st g u,xs.getD i zK=(st,g,u):=⟨_,_,_,rfl⟩
 rw[show ((2,zM xs i,zI xs i):Seg)=(2,g,u) by simp only[qE,zM,zI,hx]]
 have O8:=hI hx
 clear hx
 go_enter Tryz.func133,Tryz.ntmps133
 go_wp2_with (first
  | (refine wR _ _ rfl rfl _ _ n n rfl rfl rfl rfl (nR _) PN ?_)
  | (refine cZ (.tmp 12) (.tmp 14) rfl rfl (w.heap.size + 1 + 1) n n cap A rfl rfl _ xs (List.replicate n zK) HX.out HG.out (by simp) UO ?_
     have mF:=hI (HG.out.setRow xs)
     have n1:w.heap.size≠w.heap.size+1+1:=by omega
     have n2:w.heap.size+1≠w.heap.size+1+1:=by omega
     have HB1:=hI (below_setRow HB.out (g:=w.heap.size+1+1) (by omega) (flatG xs).toArray)
     have yI:=hI (pQ.out.kept ((Kept.refl (fun b=>b≠w.heap.size+1+1) _).setRow (g:=w.heap.size+1+1) (fun h=>h rfl) (flatG xs).toArray) n1)
     have yH:=hI (jh.out.kept ((Kept.refl (fun b=>b≠w.heap.size+1+1) _).setRow (g:=w.heap.size+1+1) (fun h=>h rfl) (flatG xs).toArray) n2)
     obtain ⟨c0,c1,c2⟩:=ArrS.cells mF.out eB.out O8.out
     clear n1 n2)
  | (go_at_call 200; refine (Iu (st, g, u) _).mono ?_; rintro e w4 ⟨rfl, hb4⟩
     have zq:=hI (HB1.out.trans (hb4.mono HB1.out.size))
     have oZ:=hI (mF.out.below hb4 mF.out.lt)
     have kS:=hI (yI.out.below hb4 yI.out.lt)
     have je:=hI (yH.out.below hb4 yH.out.lt)
     clear hb4)
  | (refine cK (.tmp 24) (.tmp 23) rfl rfl (w.heap.size + 1 + 1) i (2, g, u) rfl rfl xs oZ.out eB.out ?_
     have mD:=hI (oZ.out.setRow (xs.set i (2,g,u)))
     have n1:w.heap.size≠w.heap.size+1+1:=by omega
     have n2:w.heap.size+1≠w.heap.size+1+1:=by omega
     have qM:=hI (below_setRow zq.out (g:=w.heap.size+1+1) (by omega) (flatG (xs.set i (2,g,u))).toArray)
     have lN:=hI (kS.out.kept ((Kept.refl (fun b=>b≠w.heap.size+1+1) _).setRow (g:=w.heap.size+1+1) (fun h=>h rfl) (flatG (xs.set i (2,g,u))).toArray) n1)
     have dZ:=hI (je.out.kept ((Kept.refl (fun b=>b≠w.heap.size+1+1) _).setRow (g:=w.heap.size+1+1) (fun h=>h rfl) (flatG (xs.set i (2,g,u))).toArray) n2)
     obtain ⟨q0,q1⟩:=qG lN.out
     obtain ⟨p0,p1⟩:=qG dZ.out
     obtain ⟨f0,f1⟩:=And.intro (lN.out.frozen 0) (lN.out.frozen 1)
     obtain ⟨g0,g1⟩:=And.intro (dZ.out.frozen 0) (dZ.out.frozen 1)
     clear n1 n2)
  | (with_reducible refine zJ ?_))
 have n1:w.heap.size+1≠w.heap.size:=by omega
 have n2:w.heap.size+1+1≠w.heap.size:=by omega
 have n3:w.heap.size+1+1≠w.heap.size+1:=by omega
 have hst:=((dZ.out.far (p:=⟨w.heap.size,1,none⟩) n1 (.slice (some ⟨w.heap.size+1+1,0,none⟩) n n)).set_ 0 (.int .i64 sec)).set_ 1 (.slice (some ⟨w.heap.size+1+1,0,none⟩) n n)
 have harr:ArrS _ (w.heap.size+1+1) (xs.set i (2,g,u)):=((z8.far mD.out (p:=⟨w.heap.size,1,none⟩) n2 (.slice (some ⟨w.heap.size+1+1,0,none⟩) n n)).far (p:=⟨w.heap.size+1,0,none⟩) n3 (.int .i64 sec)).far (p:=⟨w.heap.size+1,1,none⟩) n3 (.slice (some ⟨w.heap.size+1+1,0,none⟩) n n)
 have hbel:=((qM.out.setCell (p:=⟨w.heap.size,1,none⟩) (nR _) (.slice (some ⟨w.heap.size+1+1,0,none⟩) n n)).setCell (p:=⟨w.heap.size+1,0,none⟩) (by simp) (.int .i64 sec)).setCell (p:=⟨w.heap.size+1,1,none⟩) (by simp) (.slice (some ⟨w.heap.size+1+1,0,none⟩) n n)
 exact Halt.ret (jF rfl _ _ (w.heap.size+1) 95 #[.int .i64 sec,.slice (some ⟨w.heap.size+1+1,0,none⟩) n n] _ rfl hst Tryz.underlying95 rfl qZ) rfl ⟨⟨_,_,rfl,harr.own (by omega) (by rw[List.length_set,HL.out]) PN⟩,hbel⟩
theorem FC {w:World} {A:Option Addr} {n cap:Nat} {xs:List Seg} (h:qH w (·<w.heap.size) A n xs) (sec:Int) (hn:n≤1000) (i:Nat) (hi:i<n) (v:Int) (G:Nat) (hG:G<w.heap.size) (hc:w.cell? ⟨G,0,none⟩=some (.int .u64 v)) :
 Calls Tryz.prog 133 #[xk sec A n cap,.int .i64 i,.func (.func 201) #[] #[.pointer (some ⟨G,0,none⟩)]] w fun e w'=>(∃ A' cap',e=.returned (xk sec A' n cap')∧xX w' w.heap.size A' n cap' (xs.set i (1,v,1)))∧Below w.heap.size w w':=by
 have PN:n≤1000000:=by omega
 have UO:0<n:=by omega
 have HB:=hI ((((Below.refl w.heap.size w).alloc (nR _) (.cells #[.int .i64 sec,.slice A n cap] 95)).alloc (by simp) (.cells #[.int .i64 0,.slice none 0 0] 95)).alloc (by simp; omega) (.cells (flatG (List.replicate n zK)).toArray 126))
 have HX:=hI (jD h HB.out)
 have pQ:=hI (((z8.new w 95 #[.int .i64 sec,.slice A n cap]).alloc (.cells #[.int .i64 0,.slice none 0 0] 95)).alloc (.cells (flatG (List.replicate n zK)).toArray 126))
 have jh:=hI ((zY w (.cells #[.int .i64 sec,.slice A n cap] 95) 95 #[.int .i64 0,.slice none 0 0]).alloc (.cells (flatG (List.replicate n zK)).toArray 126))
 have HG:=hI (show ArrS _ (w.heap.size+1+1) (List.replicate n zK) from jw w (.cells #[.int .i64 sec,.slice A n cap] 95) (.cells #[.int .i64 0,.slice none 0 0] 95) 126 (flatG (List.replicate n zK)).toArray)
 have hl:=h.1
 have HCV:=hI hc
 clear hc
 have HL:=hI hl
 have hlx:i<xs.length:=by omega
 have eB:=hI hlx
 obtain ⟨q0,q1⟩:=qG pQ.out
 clear h hl hlx
 obtain ⟨st,g,u,hx⟩:∃ st g u,xs.getD i zK=(st,g,u):=⟨_,_,_,rfl⟩
 have O8:=hI hx
 clear hx
 go_enter Tryz.func133,Tryz.ntmps133
 go_wp2_with (first
  | (refine wR _ _ rfl rfl _ _ n n rfl rfl rfl rfl (nR _) PN ?_)
  | (refine cZ (.tmp 12) (.tmp 14) rfl rfl (w.heap.size + 1 + 1) n n cap A rfl rfl _ xs (List.replicate n zK) HX.out HG.out (by simp) UO ?_
     have mF:=hI (HG.out.setRow xs)
     have n1:w.heap.size≠w.heap.size+1+1:=by omega
     have n2:w.heap.size+1≠w.heap.size+1+1:=by omega
     have HB1:=hI (below_setRow HB.out (g:=w.heap.size+1+1) (by omega) (flatG xs).toArray)
     have yI:=hI (pQ.out.kept ((Kept.refl (fun b=>b≠w.heap.size+1+1) _).setRow (g:=w.heap.size+1+1) (fun h=>h rfl) (flatG xs).toArray) n1)
     have yH:=hI (jh.out.kept ((Kept.refl (fun b=>b≠w.heap.size+1+1) _).setRow (g:=w.heap.size+1+1) (fun h=>h rfl) (flatG xs).toArray) n2)
     obtain ⟨c0,c1,c2⟩:=ArrS.cells mF.out eB.out O8.out
     clear n1 n2)
  | (go_at_call 201; refine (Iw (st, g, u) v G _ ((Below.cell HB1.out (p := ⟨G, 0, none⟩) hG).trans HCV.out) (nL hG HB1.out.size)).mono ?_; rintro e w4 ⟨rfl, hb4⟩
     have zq:=hI (HB1.out.trans (hb4.mono HB1.out.size))
     have oZ:=hI (mF.out.below hb4 mF.out.lt)
     have kS:=hI (yI.out.below hb4 yI.out.lt)
     have je:=hI (yH.out.below hb4 yH.out.lt)
     clear hb4)
  | (refine cK (.tmp 24) (.tmp 23) rfl rfl (w.heap.size + 1 + 1) i (1, v, 1) rfl rfl xs oZ.out eB.out ?_
     have mD:=hI (oZ.out.setRow (xs.set i (1,v,1)))
     have n1:w.heap.size≠w.heap.size+1+1:=by omega
     have n2:w.heap.size+1≠w.heap.size+1+1:=by omega
     have qM:=hI (below_setRow zq.out (g:=w.heap.size+1+1) (by omega) (flatG (xs.set i (1,v,1))).toArray)
     have lN:=hI (kS.out.kept ((Kept.refl (fun b=>b≠w.heap.size+1+1) _).setRow (g:=w.heap.size+1+1) (fun h=>h rfl) (flatG (xs.set i (1,v,1))).toArray) n1)
     have dZ:=hI (je.out.kept ((Kept.refl (fun b=>b≠w.heap.size+1+1) _).setRow (g:=w.heap.size+1+1) (fun h=>h rfl) (flatG (xs.set i (1,v,1))).toArray) n2)
     obtain ⟨q0,q1⟩:=qG lN.out
     obtain ⟨p0,p1⟩:=qG dZ.out
     obtain ⟨f0,f1⟩:=And.intro (lN.out.frozen 0) (lN.out.frozen 1)
     obtain ⟨g0,g1⟩:=And.intro (dZ.out.frozen 0) (dZ.out.frozen 1)
     clear n1 n2)
  | (with_reducible refine zJ ?_))
 have n1:w.heap.size+1≠w.heap.size:=by omega
 have n2:w.heap.size+1+1≠w.heap.size:=by omega
 have n3:w.heap.size+1+1≠w.heap.size+1:=by omega
 have hst:=((dZ.out.far (p:=⟨w.heap.size,1,none⟩) n1 (.slice (some ⟨w.heap.size+1+1,0,none⟩) n n)).set_ 0 (.int .i64 sec)).set_ 1 (.slice (some ⟨w.heap.size+1+1,0,none⟩) n n)
 have harr:ArrS _ (w.heap.size+1+1) (xs.set i (1,v,1)):=((z8.far mD.out (p:=⟨w.heap.size,1,none⟩) n2 (.slice (some ⟨w.heap.size+1+1,0,none⟩) n n)).far (p:=⟨w.heap.size+1,0,none⟩) n3 (.int .i64 sec)).far (p:=⟨w.heap.size+1,1,none⟩) n3 (.slice (some ⟨w.heap.size+1+1,0,none⟩) n n)
 have hbel:=((qM.out.setCell (p:=⟨w.heap.size,1,none⟩) (nR _) (.slice (some ⟨w.heap.size+1+1,0,none⟩) n n)).setCell (p:=⟨w.heap.size+1,0,none⟩) (by simp) (.int .i64 sec)).setCell (p:=⟨w.heap.size+1,1,none⟩) (by simp) (.slice (some ⟨w.heap.size+1+1,0,none⟩) n n)
 exact Halt.ret (jF rfl _ _ (w.heap.size+1) 95 #[.int .i64 sec,.slice (some ⟨w.heap.size+1+1,0,none⟩) n n] _ rfl hst Tryz.underlying95 rfl qZ) rfl ⟨⟨_,_,rfl,harr.own (by omega) (by rw[List.length_set,HL.out]) PN⟩,hbel⟩
theorem NY {w:World} {A:Option Addr} {n cap:Nat} {xs:List Seg} (h:qH w (·<w.heap.size) A n xs) (sec:Int) (hn:n≤1000) (i:Nat) (hi:i<n) (v:Int) (G:Nat) (hG:G<w.heap.size) (hc:w.cell? ⟨G,0,none⟩=some (.int .i64 v)) :
 Calls Tryz.prog 133 #[xk sec A n cap,.int .i64 i,.func (.func 173) #[] #[.pointer (some ⟨G,0,none⟩)]] w fun e w'=>(∃ A' cap',e=.returned (xk sec A' n cap')∧xX w' w.heap.size A' n cap' (xs.set i (qE xs i,zM xs i,wrap64 (zI xs i+v))))∧Below w.heap.size w w':=by
 have PN:n≤1000000:=by omega
 have UO:0<n:=by omega
 have HB:=hI ((((Below.refl w.heap.size w).alloc (nR _) (.cells #[.int .i64 sec,.slice A n cap] 95)).alloc (by simp) (.cells #[.int .i64 0,.slice none 0 0] 95)).alloc (by simp; omega) (.cells (flatG (List.replicate n zK)).toArray 126))
 have HX:=hI (jD h HB.out)
 have pQ:=hI (((z8.new w 95 #[.int .i64 sec,.slice A n cap]).alloc (.cells #[.int .i64 0,.slice none 0 0] 95)).alloc (.cells (flatG (List.replicate n zK)).toArray 126))
 have jh:=hI ((zY w (.cells #[.int .i64 sec,.slice A n cap] 95) 95 #[.int .i64 0,.slice none 0 0]).alloc (.cells (flatG (List.replicate n zK)).toArray 126))
 have HG:=hI (show ArrS _ (w.heap.size+1+1) (List.replicate n zK) from jw w (.cells #[.int .i64 sec,.slice A n cap] 95) (.cells #[.int .i64 0,.slice none 0 0] 95) 126 (flatG (List.replicate n zK)).toArray)
 have hl:=h.1
 have HCV:=hI hc
 clear hc
 have HL:=hI hl
 have hlx:i<xs.length:=by omega
 have eB:=hI hlx
 obtain ⟨q0,q1⟩:=qG pQ.out
 clear h hl hlx
 obtain ⟨st,g,u,hx⟩:∃ st g u,xs.getD i zK=(st,g,u):=⟨_,_,_,rfl⟩
 rw[show ((qE xs i,zM xs i,wrap64 (zI xs i+v)):Seg)=(st,g,wrap64 (u+v)) by simp only[qE,zM,zI,hx]]
 have O8:=hI hx
 clear hx
 go_enter Tryz.func133,Tryz.ntmps133
 go_wp2_with (first
  | (refine wR _ _ rfl rfl _ _ n n rfl rfl rfl rfl (nR _) PN ?_)
  | (refine cZ (.tmp 12) (.tmp 14) rfl rfl (w.heap.size + 1 + 1) n n cap A rfl rfl _ xs (List.replicate n zK) HX.out HG.out (by simp) UO ?_
     have mF:=hI (HG.out.setRow xs)
     have n1:w.heap.size≠w.heap.size+1+1:=by omega
     have n2:w.heap.size+1≠w.heap.size+1+1:=by omega
     have HB1:=hI (below_setRow HB.out (g:=w.heap.size+1+1) (by omega) (flatG xs).toArray)
     have yI:=hI (pQ.out.kept ((Kept.refl (fun b=>b≠w.heap.size+1+1) _).setRow (g:=w.heap.size+1+1) (fun h=>h rfl) (flatG xs).toArray) n1)
     have yH:=hI (jh.out.kept ((Kept.refl (fun b=>b≠w.heap.size+1+1) _).setRow (g:=w.heap.size+1+1) (fun h=>h rfl) (flatG xs).toArray) n2)
     obtain ⟨c0,c1,c2⟩:=ArrS.cells mF.out eB.out O8.out
     clear n1 n2)
  | (go_at_call 173; refine (zDN (st, g, u) v G _ ((Below.cell HB1.out (p := ⟨G, 0, none⟩) hG).trans HCV.out) (nL hG HB1.out.size)).mono ?_; rintro e w4 ⟨rfl, hb4⟩
     have zq:=hI (HB1.out.trans (hb4.mono HB1.out.size))
     have oZ:=hI (mF.out.below hb4 mF.out.lt)
     have kS:=hI (yI.out.below hb4 yI.out.lt)
     have je:=hI (yH.out.below hb4 yH.out.lt)
     clear hb4)
  | (refine cK (.tmp 24) (.tmp 23) rfl rfl (w.heap.size + 1 + 1) i (st, g, wrap64 (u + v)) rfl rfl xs oZ.out eB.out ?_
     have mD:=hI (oZ.out.setRow (xs.set i (st,g,wrap64 (u+v))))
     have n1:w.heap.size≠w.heap.size+1+1:=by omega
     have n2:w.heap.size+1≠w.heap.size+1+1:=by omega
     have qM:=hI (below_setRow zq.out (g:=w.heap.size+1+1) (by omega) (flatG (xs.set i (st,g,wrap64 (u+v)))).toArray)
     have lN:=hI (kS.out.kept ((Kept.refl (fun b=>b≠w.heap.size+1+1) _).setRow (g:=w.heap.size+1+1) (fun h=>h rfl) (flatG (xs.set i (st,g,wrap64 (u+v)))).toArray) n1)
     have dZ:=hI (je.out.kept ((Kept.refl (fun b=>b≠w.heap.size+1+1) _).setRow (g:=w.heap.size+1+1) (fun h=>h rfl) (flatG (xs.set i (st,g,wrap64 (u+v)))).toArray) n2)
     obtain ⟨q0,q1⟩:=qG lN.out
     obtain ⟨p0,p1⟩:=qG dZ.out
     obtain ⟨f0,f1⟩:=And.intro (lN.out.frozen 0) (lN.out.frozen 1)
     obtain ⟨g0,g1⟩:=And.intro (dZ.out.frozen 0) (dZ.out.frozen 1)
     clear n1 n2)
  | (with_reducible refine zJ ?_))
 have n1:w.heap.size+1≠w.heap.size:=by omega
 have n2:w.heap.size+1+1≠w.heap.size:=by omega
 have n3:w.heap.size+1+1≠w.heap.size+1:=by omega
 have hst:=((dZ.out.far (p:=⟨w.heap.size,1,none⟩) n1 (.slice (some ⟨w.heap.size+1+1,0,none⟩) n n)).set_ 0 (.int .i64 sec)).set_ 1 (.slice (some ⟨w.heap.size+1+1,0,none⟩) n n)
 have harr:ArrS _ (w.heap.size+1+1) (xs.set i (st,g,wrap64 (u+v))):=((z8.far mD.out (p:=⟨w.heap.size,1,none⟩) n2 (.slice (some ⟨w.heap.size+1+1,0,none⟩) n n)).far (p:=⟨w.heap.size+1,0,none⟩) n3 (.int .i64 sec)).far (p:=⟨w.heap.size+1,1,none⟩) n3 (.slice (some ⟨w.heap.size+1+1,0,none⟩) n n)
 have hbel:=((qM.out.setCell (p:=⟨w.heap.size,1,none⟩) (nR _) (.slice (some ⟨w.heap.size+1+1,0,none⟩) n n)).setCell (p:=⟨w.heap.size+1,0,none⟩) (by simp) (.int .i64 sec)).setCell (p:=⟨w.heap.size+1,1,none⟩) (by simp) (.slice (some ⟨w.heap.size+1+1,0,none⟩) n n)
 exact Halt.ret (jF rfl _ _ (w.heap.size+1) 95 #[.int .i64 sec,.slice (some ⟨w.heap.size+1+1,0,none⟩) n n] _ rfl hst Tryz.underlying95 rfl qZ) rfl ⟨⟨_,_,rfl,harr.own (by omega) (by rw[List.length_set,HL.out]) PN⟩,hbel⟩
end
section
noncomputable def kU (sec:Int) (xs:List Seg):Int:=if ¬ qp sec xs then 180 else if jQ xs<0 then 6 else 0
noncomputable def mQ (sec:Int) (xs:List Seg):Int:=if kU sec xs=0 then jQ xs else 0
theorem XY {w:World} {A:Option Addr} {n cap:Nat} {xs:List Seg} (h:qH w (·<w.heap.size) A n xs) (sec:Int) :
 Calls Tryz.prog 116 #[xk sec A n cap] w fun e w'=>e=.returned (.tuple #[.int .i64 (mQ sec xs),.int .i64 (kU sec xs)])∧Below w.heap.size w w':=by
 have HX:=hI h
 have HB1:=hI ((Below.refl w.heap.size w).alloc (nR _) (.cells #[.int .i64 sec,.slice A n cap] 95))
 have HC:=hI (aS (cap:=cap) (jD h HB1.out) sec)
 clear h
 by_cases hk:qp sec xs
 case neg =>
  have e1:kU sec xs=180:=if_pos hk
  have e2:mQ sec xs=0:=by unfold mQ; rw[e1]; rfl
  rw[if_neg hk] at HC
  rw[e1,e2]
  clear e1 e2
  go_enter Tryz.func116,Tryz.ntmps116
  go_wp2
  go_step3
  go_wp2_with (go_at_call 110; refine HC.out.mono ?_; rintro e w1 ⟨rfl,hb1⟩; have HB2:=hI (kT hb1); clear hb1)
  try rw[Exit.noGoto_ret]
  go_ret2
  exact ⟨rfl,HB2.out.1⟩
 rw[if_pos hk] at HC
 have hn:=(YQ hk HX.out.1).2
 have hlat:=BP xs xs.length
 rw[HX.out.1] at hlat
 have e:bB xs n=jd xs:=by unfold jd; rw[HX.out.1]
 have e2:jQ xs=yZ xs (jd xs) n:=by unfold jQ; rw[HX.out.1]
 have e3:kU sec xs=if yZ xs (jd xs) n<0 then 6 else 0:=by unfold kU; rw[if_neg (fun h=>h hk),e2]
 have e4:mQ sec xs=if yZ xs (jd xs) n<0 then 0 else yZ xs (jd xs) n:=by unfold mQ; rw[e3,e2]; split <;> rfl
 rw[e] at hlat
 obtain ⟨st,g,u,hl⟩:∃ st g u,dA xs=(st,g,u):=⟨_,_,_,rfl⟩
 have HL:=hI (fun (W:World) (hh:qH W (·<W.heap.size) A n xs)=>by have:=J7 (cap:=cap) hh hk; rw[hl] at this; exact this)
 have EE:=hI e3
 have EV:=hI e4
 clear e e2 e3 e4 hl hk
 generalize kU sec xs=ee at *
 generalize mQ sec xs=ve at *
 generalize jd xs=a at *
 have HA:=hI hlat
 clear hlat
 go_enter Tryz.func116,Tryz.ntmps116
 go_wp2
 go_step3
 go_wp2_with (first
  | (go_at_call 110; refine HC.out.mono ?_; rintro e w1 ⟨rfl,hb1⟩; have HB2:=hI (kT hb1); obtain ⟨k0,k1⟩:=qG HB2.out.2; clear hb1)
  | (go_at_call 164; refine (HL.out _ (jD HX.out HB2.out.1)).mono ?_; rintro e w2 ⟨rfl,hb2⟩; have HB3:=hI (HB2.out.1.trans (hb2.mono HB2.out.1.size)); have yH:=hI (HB2.out.2.below hb2 HB2.out.2.lt); have VG:=hI (yH.out.alloc (.cells #[.int .i64 st,.int .u64 g,.int .i64 u] 126)); have HBa:=hI (HB3.out.alloc HB3.out.size (.cells #[.int .i64 st,.int .u64 g,.int .i64 u] 126)); obtain ⟨q0,q1⟩:=qG VG.out; clear hb2))
 go_step3
 go_wp2
 go_loopw [7,8,24] (fun v8 v9 i wr=>∃ j:Nat,RI w sec A n cap wr j i∧v8=.int .i64 0∧v9=.int .i64 6∧yZ xs a j=-1) (fun _ _ i _=>n-(intOf i).toNat)
 case atStart=>exact ⟨0,⟨Nat.zero_le _,rfl,VG.out,HBa.out⟩,rfl,rfl,rfl⟩
 case round =>
  obtain ⟨j,⟨hj,rfl,hb,hbel⟩,rfl,rfl,ho⟩:=hrel
  have HB:=hI hb
  have yO:=hI hbel
  have HO:=hI ho
  obtain ⟨k0,k1⟩:=qG hb
  clear hb hbel ho
  by_cases hlt:j<n
  ·obtain ⟨m,hm⟩:∃ m:Nat,a+1+(j:Int)=m:=⟨(a+1+(j:Int)).toNat,by rcases HA.out with h | ⟨i,_,h⟩ <;> omega⟩
   have zMl:m≤80∧-1≤a∧a≤40:=by rcases HA.out with h | ⟨i,_,h⟩ <;> omega
   have hmod:(wrap64 (wrap64 (a+1)+(j:Int))).tmod n=((m % n:Nat):Int):=by
    have e:wrap64 (wrap64 (a+1)+(j:Int))=(m:Int):=by unfold wrap64; omega
    rw[e]
    exact (Int.ofNat_tmod _ _).symm
   have hlm:m % n<n:=Nat.mod_lt _ (by omega)
   obtain ⟨b,off,rfl,hbb,hcc⟩:=VW (HX.out.below yO.out (fun b h=>h)) hlm
   obtain ⟨c0,c1,c2⟩:=hcc (m % n) hlm
   have e1:yZ xs a (j+1)=if qE xs (m % n)=0 then ((m % n:Nat):Int) else -1:=by
    conv=>(lhs; unfold yZ)
    rw[HO.out,if_neg (by omega),hm,Int.toNat_natCast,HX.out.1]
   have E1:=hI e1
   clear hcc e1 c1 c2 hm zMl
   generalize qE xs (m % n)=st at *
   generalize m % n=q at *
   by_cases h0:st=0
   ·subst h0
    go_wp2
    try rw[Exit.noGoto_ret]
    go_ret2
    have h2:=E1.out
    simp only[if_true] at h2
    obtain ⟨d,hd⟩:∃ d,n=(j+1)+d:=⟨n-(j+1),by omega⟩
    have e:yZ xs a n=(q:Int):=by rw[hd,Gw xs a (by omega),h2]
    exact ⟨by rw[EE.out,EV.out,e,if_neg (by omega),if_neg (by omega)]; rfl,yO.out⟩
   ·have d0:(st==0)=false:=by simpa using h0
    go_wp2
    go_roundw
    case rel=>exact ⟨j+1,⟨by omega,by simp,HB.out,yO.out⟩,rfl,rfl,by rw[E1.out,if_neg h0]⟩
    case measure=>simp[intOf]; omega
  ·obtain rfl:j=n:=by omega
   go_wp2
   try rw[Exit.noGoto_ret]
   go_ret2
   exact ⟨by rw[EE.out,EV.out,HO.out,if_pos (by omega),if_pos (by omega)]; rfl,yO.out⟩
end
end Go.Proofs.YtdkbpchmnhbhcaaGreat
