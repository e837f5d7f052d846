/- Texts of StoreMoves, packed. -/
import Derived.Test.YtdkbpchmnhbhcaaGreatPackStoreMoves9
import Derived.Lib.Hide
import Derived.Deep.RegionHeld3
import Derived.RangeFuncNested
import Derived.RangeFuncLeaves
import Derived.RangeFuncFrom
import Derived.RangeFuncBound
import Derived.Shelf.Abstract
import Derived.Shelf.RegionOpen
import Derived.WalkKit
import Derived.OwnWalkIn
import Derived.TacticsInMore
import Derived.LoopNIn
import Derived.LoopIn
import Derived.Scope
import Derived.ControlIn
import Derived.Sort.QuietIn
import Derived.OrdersIn
import Derived.TacticsIn
import Derived.RangeFuncKeeps
import Derived.RangeFuncOwn
set_option linter.unusedVariables false
set_option linter.unusedSimpArgs false
set_option maxRecDepth 100000
set_option maxHeartbeats 16000000
namespace Go.Proofs.YtdkbpchmnhbhcaaGreat
open Go.RowKit
section
section
variable {P:Program} {ops:Array Oper} {Q:Exit→Act→World→Prop} {md:Region.Mode} {S:World→Prop} {st:List Nat}
def GoodL (md:Region.Mode) (ops:Array Oper) (l:Array Bool):Prop:=∀ s o,ops[s]? = some o→l.getD s false=true→∀ e∈o.after,Region.binds md e=true→l.getD e.on false=true
def goodB (md:Region.Mode) (ops:Array Oper) (l:Array Bool):Bool:=(List.range ops.size).all fun s=>match ops[s]? with
 | none=>true
 | some o=>!(l.getD s false)||o.after.all fun e=>!(Region.binds md e)||l.getD e.on false
theorem goodB_spec {l:Array Bool} (h:goodB md ops l=true):GoodL md ops l:=by
 intro s o ho hs e he hb
 have hlt:s<ops.size:=(Array.getElem?_eq_some_iff.1 ho).1
 have h1:=List.all_eq_true.1 h s (List.mem_range.2 hlt)
 simp only[ho,hs,Bool.not_true,Bool.false_or] at h1
 have h2:=Array.all_eq_true'.1 h1 e he
 simpa [hb] using h2
theorem GoodL.set {l:Array Bool} {i:Nat} (h:GoodL md ops l) (hi:i∈Region.ready md ops l):GoodL md ops (l.setIfInBounds i true):=by
 intro s o ho hs e he hb
 have key:l.getD e.on false=true:=by
  obtain ⟨hun,oi,hoi,hall⟩:=mem_ready.1 hi
  by_cases hsi:i=s
  ·subst hsi
   rw[hoi] at ho
   injection ho with ho
   subst ho
   exact hall e he hb
  ·rw[getD_set_ne false hsi] at hs
   exact h s o ho hs e he hb
 by_cases hie:i=e.on
 ·rw[hie]
  have h1:=un_of_ready hi
  have hlt:e.on<l.size:=by
   rcases Nat.lt_or_ge e.on l.size with h' | h'
   ·exact h'
   ·simp[Array.getElem?_eq_none h'] at key
  simp[hlt]
 ·rw[getD_set_ne false hie]
  exact key
def reaches (md:Region.Mode) (ops:Array Oper):Nat→Nat→Nat→Bool
 | 0,_,_=>false
 | n+1,s,i=>match ops[s]? with
  | none=>false
  | some o=>o.after.any fun e=>Region.binds md e&&(e.on==i||reaches md ops n e.on i)
theorem reaches_listed {l:Array Bool} (hg:GoodL md ops l) {i:Nat}:∀ (n s:Nat),(∀ o,ops[s]? = some o→∀ e∈o.after,Region.binds md e=true→l.getD e.on false=true)→reaches md ops n s i=true→l.getD i false=true
 | 0,_,_,h=>by cases h
 | n + 1, s, hs, h => by
  unfold reaches at h
  cases ho:ops[s]? with
  | none=>simp only[ho] at h; cases h
  | some o =>
   simp only[ho] at h
   obtain ⟨e,he,hb⟩:=Array.any_eq_true'.1 h
   rw[Bool.and_eq_true] at hb
   have h1:=hs o ho e he hb.1
   rcases Bool.or_eq_true_iff.1 hb.2 with h2 | h2
   ·rw[beq_iff_eq] at h2
    rwa [h2] at h1
   ·exact reaches_listed hg n e.on (fun o' ho' e' he' hb'=>hg e.on o' ho' h1 e' he' hb') h2
def waitsBy (md:Region.Mode) (ops:Array Oper) (st:List Nat) (l:Array Bool) (i:Nat):Bool:=st.all fun s=>l.getD s false||reaches md ops ops.size s i
theorem waits_set {l:Array Bool} {i j:Nat} (hw:waitsBy md ops st l i=true) (hj:j<l.size):waitsBy md ops st (l.setIfInBounds j true) i=true:=by
 unfold waitsBy at *
 refine List.all_eq_true.2 fun s hs=>?_
 rcases Bool.or_eq_true_iff.1 (List.all_eq_true.1 hw s hs) with h | h
 ·refine Bool.or_eq_true_iff.2 (.inl ?_)
  by_cases e:j=s
  ·rw[e] at hj ⊢
   simp[hj]
  ·rw[getD_set_ne false e]
   exact h
 ·exact Bool.or_eq_true_iff.2 (.inr h)
theorem ready_lt {l:Array Bool} {j:Nat} (h:j∈Region.ready md ops l):j<l.size:=by
 have h0:=(mem_ready.1 h).1
 rcases Nat.lt_or_ge j l.size with h' | h'
 ·exact h'
 ·simp[Array.getElem?_eq_none h'] at h0
theorem not_lastG {l:Array Bool} {i s:Nat} (hg:GoodL md ops l) (hw:waitsBy md ops st l i=true) (hun:l.getD i false=false) (hs:s∈st):s ∉ Region.ready md ops l:=by
 intro h
 have hsun:=un_of_ready h
 obtain ⟨_,o,ho,hall⟩:=mem_ready.1 h
 have h1:=List.all_eq_true.1 hw s hs
 rw[hsun,Bool.false_or] at h1
 have h2:=reaches_listed hg ops.size s (fun o' ho' e he hb=>by rw[ho] at ho'; injection ho' with ho'; subst ho'; exact hall e he hb) h1
 rw[hun] at h2
 cases h2
theorem Tillst.firstG {i:Nat} {oi:Oper} {v:Value} (hi:ops[i]? = some oi) (hsel:∀ (j:Nat) (o:Oper) cs b,ops[j]? = some o→o.op≠.select cs b) (hQ:∀ c a w,Q (.panic c) (a.put oi.dst v) w→Q (.panic c) a w)
 : ∀ (k:Nat) (l:Array Bool) (a:Act) (w:World),GoodL md ops l→waitsBy md ops st l i=true →
  (∀ j oj,ops[j]? = some oj→j≠i→l.getD j true=false→(∀ e∈oj.after,Region.binds md e=true→e.on≠i)→oi.apart ops oj=true) →
  i∈Region.ready md ops l→YieldsIf P ops S oi v a→S w→Tillst P md ops Q S st k (l.setIfInBounds i true) (a.put oi.dst v) w→Tillst P md ops Q S st (k+1) l a w:=by
 intro k
 induction k with
 | zero =>
  intro l a w _ _ _ hr hy hS H
  refine ⟨fun h=>(by rw[h] at hr; cases hr),fun j hj=>?_⟩
  by_cases e:j=i
  ·rw[e]
   exact hy.wpOp hi hS ⟨fun _=>hS,H⟩
  ·have:=ready_mono hj e
   rw[H.1] at this
   cases this
 | succ k ih =>
  intro l a w hgd hw hfree hr hy hS H
  have hun:=un_of_ready hr
  refine ⟨fun h=>(by rw[h] at hr; cases hr),fun j hj=>?_⟩
  by_cases e:j=i
  ·rw[e]
   exact hy.wpOp hi hS ⟨fun _=>hS,H⟩
  have hjst:st.contains j=false:=by
   rcases h:st.contains j with _ | _
   ·rfl
   ·exact absurd hj (not_lastG hgd hw hun (by simpa using h))
  obtain ⟨hjun,oj,hoj,hall⟩:=mem_ready.1 hj
  have hno:∀ e∈oj.after,Region.binds md e=true→e.on≠i:=fun e he hb heq=>by
   have:=hall e he hb
   rw[heq,hun] at this
   cases this
  have hput:=wpOp_putIf hoj (hfree j oj hoj e hjun hno) (fun cs b=>hsel i oi cs b hi) (fun cs b=>hsel j oj cs b hoj) hQ hy (H.2 j (ready_mono hj e))
  refine wpOp_mono (fun b u g=>?_) hput
  have hSu:=g.2.1 hjst
  refine ⟨fun _=>hSu,ih (l.setIfInBounds j true) b u (hgd.set hj) (waits_set hw (ready_lt hj)) (fun m om hm hmi hmun hmno=>?_) (ready_mono hr (Ne.symm e)) g.1 hSu ?_⟩
  ·refine hfree m om hm hmi ?_ hmno
   by_cases hjm:j=m
   ·rw[← hjm]; exact hjun
   ·rw[getD_set_ne true hjm] at hmun; exact hmun
  ·rw[Array.setIfInBounds_comm _ _ e]
   exact g.2.2
theorem Tillst.firstF {i:Nat} {oi:Oper} {v:Value} (hi:ops[i]? = some oi) (hsel:∀ (j:Nat) (o:Oper) cs b,ops[j]? = some o→o.op≠.select cs b) (hQ:∀ c a w,Q (.panic c) (a.put oi.dst v) w→Q (.panic c) a w)
 (hst:st.contains i=true):∀ (k:Nat) (l:Array Bool) (a:Act) (w:World),
  (∀ j oj,ops[j]? = some oj→j≠i→l.getD j true=false→(∀ e∈oj.after,Region.binds md e=true→e.on≠i)→oi.apart ops oj=true) →
  i∈Region.ready md ops l→YieldsIf P ops (fun _=>True) oi v a→Tillst P md ops Q S st k (l.setIfInBounds i true) (a.put oi.dst v) w→Tillst P md ops Q S st (k+1) l a w:=by
 intro k
 induction k with
 | zero =>
  intro l a w _ hr hy H
  refine ⟨fun h=>(by rw[h] at hr; cases hr),fun j hj=>?_⟩
  by_cases e:j=i
  ·rw[e]
   exact hy.wpOp hi trivial ⟨fun h=>(by rw[hst] at h; cases h),H⟩
  ·have:=ready_mono hj e
   rw[H.1] at this
   cases this
 | succ k ih =>
  intro l a w hfree hr hy H
  have hun:=un_of_ready hr
  refine ⟨fun h=>(by rw[h] at hr; cases hr),fun j hj=>?_⟩
  by_cases e:j=i
  ·rw[e]
   exact hy.wpOp hi trivial ⟨fun h=>(by rw[hst] at h; cases h),H⟩
  obtain ⟨hjun,oj,hoj,hall⟩:=mem_ready.1 hj
  have hno:∀ e∈oj.after,Region.binds md e=true→e.on≠i:=fun e he hb heq=>by
   have:=hall e he hb
   rw[heq,hun] at this
   cases this
  have hput:=wpOp_putIf hoj (hfree j oj hoj e hjun hno) (fun cs b=>hsel i oi cs b hi) (fun cs b=>hsel j oj cs b hoj) hQ hy (H.2 j (ready_mono hj e))
  refine wpOp_mono (fun b u g=>?_) hput
  refine ⟨g.2.1,ih (l.setIfInBounds j true) b u (fun m om hm hmi hmun hmno=>?_) (ready_mono hr (Ne.symm e)) g.1 ?_⟩
  ·refine hfree m om hm hmi ?_ hmno
   by_cases hjm:j=m
   ·rw[← hjm]; exact hjun
   ·rw[getD_set_ne true hjm] at hmun; exact hmun
  ·rw[Array.setIfInBounds_comm _ _ e]
   exact g.2.2
theorem Tillst.takeF {i:Nat} {oi:Oper} {v:Value} {k:Nat} {l:Array Bool} {a:Act} {w:World} (hi:ops[i]? = some oi) (hs:Region.noSelect ops=true) (hf:Region.free md ops l i=true) (hr:(Region.ready md ops l).contains i=true)
 (hst:st.contains i=true) (hQ:∀ c a w,Q (.panic c) (a.put oi.dst v) w→Q (.panic c) a w) (hgd:Region.wanted oi (yielded ops a.tmps)=true) (hy:∀ w,(execOp a.eval oi).run P w=.ok (.value v) w)
 (h:Tillst P md ops Q S st k (l.setIfInBounds i true) (a.put oi.dst v) w):Tillst P md ops Q S st (k+1) l a w :=
 Tillst.firstF hi (Region.noSelect_spec hs) hQ hst k l a w (Region.free_spec hi hf) (by simpa using hr) (.inl ⟨hgd,fun w _=>hy w⟩) h
theorem Tillst.takeG {i:Nat} {oi:Oper} {v:Value} {k:Nat} {l:Array Bool} {a:Act} {w:World} (hi:ops[i]? = some oi) (hs:Region.noSelect ops=true) (hf:Region.free md ops l i=true) (hr:(Region.ready md ops l).contains i=true)
 (hg:goodB md ops l=true) (hw:waitsBy md ops st l i=true) (hQ:∀ c a w,Q (.panic c) (a.put oi.dst v) w→Q (.panic c) a w) (hgd:Region.wanted oi (yielded ops a.tmps)=true) (hy:∀ w,S w→(execOp a.eval oi).run P w=.ok (.value v) w) (hS:S w)
 (h:Tillst P md ops Q S st k (l.setIfInBounds i true) (a.put oi.dst v) w):Tillst P md ops Q S st (k+1) l a w :=
 Tillst.firstG hi (Region.noSelect_spec hs) hQ k l a w (goodB_spec hg) hw (Region.free_spec hi hf) (by simpa using hr) (.inl ⟨hgd,hy⟩) hS h
end
end
section
attribute [local go_sem] Oper.semAt_some
abbrev rq0:Oper:=⟨some 20,.move (.tmp 0),24,"log.go:78",#[],none⟩
abbrev rq1:Oper:=⟨some 21,.nilCheck (.tmp 20),0,"log.go:78",#[⟨0,.data⟩],none⟩
abbrev rq2:Oper:=⟨some 22,.fieldAddr 103 (.tmp 21) 0,0,"log.go:78",#[⟨1,.data⟩],none⟩
abbrev rq3:Oper:=⟨some 23,.load 45 (.tmp 22),45,"log.go:78",#[⟨2,.data⟩],none⟩
abbrev rq4:Oper:=⟨some 24,.fieldAddr 35 (.tmp 3) 0,0,"log.go:78",#[],none⟩
abbrev rq5:Oper:=⟨some 25,.load 3 (.tmp 24),3,"log.go:78",#[⟨4,.data⟩],none⟩
abbrev rq6:Oper:=⟨some 26,.call { callee:=.value (.func 52),args:=#[.tmp 23,.tmp 25],argTypes:=#[45,3] },110,"log.go:78",#[⟨3,.data⟩,⟨5,.data⟩],none⟩
abbrev rq7:Oper:=⟨some 27,.fieldAddr 35 (.tmp 3) 1,0,"log.go:78",#[],none⟩
abbrev rq8:Oper:=⟨some 28,.load 30 (.tmp 27),30,"log.go:78",#[⟨7,.data⟩],none⟩
abbrev rq9:Oper:=⟨some 29,.fieldAddr 35 (.tmp 3) 2,0,"log.go:78",#[],none⟩
abbrev rq10:Oper:=⟨some 30,.load 3 (.tmp 29),3,"log.go:78",#[⟨9,.data⟩],none⟩
abbrev rq11:Oper:=⟨some 31,.call { callee:=.value (.func 55),args:=#[.tmp 26,.tmp 28,.tmp 30],argTypes:=#[110,30,3] },118,"log.go:78",#[⟨6,.data⟩,⟨8,.data⟩,⟨10,.data⟩,⟨6,.chain⟩],none⟩
abbrev rq12:Oper:=⟨some 19,.move (.tmp 31),118,"log.go:78",#[⟨11,.data⟩],none⟩
abbrev rq13:Oper:=⟨some 32,.extract (.tmp 19) 0,33,"log.go:78",#[⟨12,.data⟩],none⟩
abbrev rq14:Oper:=⟨some 33,.extract (.tmp 19) 1,3,"log.go:78",#[⟨12,.data⟩,{ on:=17,ground:=Go.Ground.gcOnly Go.Departure.lateStores }],none⟩
abbrev rq15:Oper:=⟨some 34,.extract (.tmp 19) 2,36,"log.go:78",#[⟨12,.data⟩,{ on:=18,ground:=Go.Ground.gcOnly Go.Departure.lateStores }],none⟩
abbrev rq16:Oper:=⟨some 6,.alloc 33,0,"log.go:78",#[],none⟩
abbrev rq17:Oper:=⟨none,.store 33 (.tmp 6) (.tmp 32),0,"log.go:78",#[⟨16,.data⟩,⟨13,.data⟩,⟨11,.chain⟩,⟨0,.phase⟩,⟨1,.phase⟩,⟨2,.phase⟩,⟨3,.phase⟩,⟨4,.phase⟩,⟨5,.phase⟩,⟨6,.phase⟩,⟨7,.phase⟩,⟨8,.phase⟩,⟨9,.phase⟩,⟨10,.phase⟩,⟨11,.phase⟩,⟨12,.phase⟩,⟨13,.phase⟩,{ on:=14,ground:=Go.Ground.textOnly Go.Departure.lateStores },{ on:=15,ground:=Go.Ground.textOnly Go.Departure.lateStores },⟨16,.phase⟩],none⟩
abbrev rq18:Oper:=⟨some 7,.assign (.tmp 33),3,"log.go:78",#[⟨14,.data⟩,⟨17,.chain⟩,⟨0,.phase⟩,⟨1,.phase⟩,⟨2,.phase⟩,⟨3,.phase⟩,⟨4,.phase⟩,⟨5,.phase⟩,⟨6,.phase⟩,⟨7,.phase⟩,⟨8,.phase⟩,⟨9,.phase⟩,⟨10,.phase⟩,⟨11,.phase⟩,⟨12,.phase⟩,⟨13,.phase⟩,⟨14,.phase⟩,{ on:=15,ground:=Go.Ground.textOnly Go.Departure.lateStores },⟨16,.phase⟩,⟨17,.phase⟩],none⟩
abbrev rq19:Oper:=⟨some 8,.assign (.tmp 34),36,"log.go:78",#[⟨15,.data⟩,⟨18,.chain⟩,⟨0,.phase⟩,⟨1,.phase⟩,⟨2,.phase⟩,⟨3,.phase⟩,⟨4,.phase⟩,⟨5,.phase⟩,⟨6,.phase⟩,⟨7,.phase⟩,⟨8,.phase⟩,⟨9,.phase⟩,⟨10,.phase⟩,⟨11,.phase⟩,⟨12,.phase⟩,⟨13,.phase⟩,⟨14,.phase⟩,⟨15,.phase⟩,⟨16,.phase⟩,⟨17,.phase⟩,⟨18,.phase⟩],none⟩
theorem zero_rec9 (w:World):(zeroValue 33).run Tryz.prog w=.ok (.agg zeroC) w:=(Tryz.zeroValue33 w).trans rfl
def RdT (V:Nat→List Int) (E:Nat→Int) (gen:Int) (at_:Nat) (B:Nat) (W:World) (rec:Array Value) (e:Int):Prop :=
 (rec.size=6∧rec.all (·.oneCell')=true)∧e=standE V E gen at_∧(e≠0→rec=zeroC) ∧
 (e=0→∃ (xs:List Int) (b1 b2:Nat),xs=meants (secsAt V at_ (beginsN (V at_) gen at_))∧rec=recT9 xs b1 b2∧B≤b1∧B≤b2∧b1≠b2∧ArrU W b1 (keyOf xs)∧ArrU W b2 (valOf xs))
theorem RdT.keep {V:Nat→List Int} {E:Nat→Int} {gen:Int} {at_ B:Nat} {W W':World} {rec:Array Value} {e:Int} {S:Nat→Prop} (h:RdT V E gen at_ B W rec e) (hk:Kept S W W') (hS:∀ b,B≤b→b<W.heap.size→S b):RdT V E gen at_ B W' rec e:=by
 obtain ⟨h1,h2,h3,h4⟩:=h
 refine ⟨h1,h2,h3,fun h0=>?_⟩
 obtain ⟨xs,b1,b2,e1,e2,e3,e4,e5,e6,e7⟩:=h4 h0
 exact ⟨xs,b1,b2,e1,e2,e3,e4,e5,Blk.kept e6 hk (hS _ e3 (Blk.lt e6)),Blk.kept e7 hk (hS _ e4 (Blk.lt e7))⟩
theorem RdT.less {V:Nat→List Int} {E:Nat→Int} {gen:Int} {at_ B B':Nat} {W:World} {rec:Array Value} {e:Int} (h:RdT V E gen at_ B W rec e) (hB:B'≤B):RdT V E gen at_ B' W rec e:=by
 obtain ⟨h1,h2,h3,h4⟩:=h
 refine ⟨h1,h2,h3,fun h0=>?_⟩
 obtain ⟨xs,b1,b2,e1,e2,e3,e4,e5,e6,e7⟩:=h4 h0
 exact ⟨xs,b1,b2,e1,e2,by omega,by omega,e5,e6,e7⟩
def blkOf (rec:Array Value) (b:Nat):Prop:=∃ v,v∈rec.toList∧v.ownBlock=some b
theorem blk_rec9 {xs:List Int} {b1 b2 b:Nat} (h:blkOf (recT9 xs b1 b2) b):b=b1∨b=b2:=by
 obtain ⟨v,hv,he⟩:=h
 simp only[recT9,List.mem_cons,List.not_mem_nil,or_false] at hv
 rcases hv with rfl | rfl | rfl | rfl | rfl | rfl
 ·cases he
 ·cases he
 ·cases he
 ·cases he
 ·exact .inl (Option.some.inj he).symm
 ·exact .inr (Option.some.inj he).symm
theorem blk_one9 {xs:List Int} {b1 b2:Nat}:blkOf (recT9 xs b1 b2) b1:=⟨.slice (some ⟨b1,0,none⟩) (klenOf xs) (klenOf xs),by simp[recT9],rfl⟩
theorem blk_two9 {xs:List Int} {b1 b2:Nat}:blkOf (recT9 xs b1 b2) b2:=⟨.slice (some ⟨b2,0,none⟩) (vlenOf xs) (vlenOf xs),by simp[recT9],rfl⟩
theorem blk_zero9 {b:Nat}:¬ blkOf zeroC b:=by
 rintro ⟨v,hv,he⟩
 simp only[zeroC,List.mem_cons,List.not_mem_nil,or_false] at hv
 rcases hv with rfl | rfl | rfl | rfl | rfl | rfl <;> cases he
theorem StandT.rd {σ:Type} {R:(Nat→Prop)→σ→World→Prop} {nx:σ→Nat→σ} {X0:Nat→Prop} {st:σ} {V:Nat→List Int} {E:Nat→Int} {gen:Int} {at_:Nat} {w:World} {e:Ending} {w':World} (h:StandT R nx X0 st V E gen at_ w e w') :
 ∃ rec cnt er,e=.returned (.tuple #[.agg rec,.int .i64 cnt,.int .i64 er])∧RdT V E gen at_ w.heap.size w' rec er∧R X0 (stR nx st at_ (standR V E gen at_)) w'∧Kept X0 w w' ∧
  ∃ Z:Nat→Prop,(∀ b,X0 b→Z b)∧(∀ b,blkOf rec b→Z b∧w.heap.size≤b)∧R Z (stR nx st at_ (standR V E gen at_)) w':=by
 obtain ⟨h1,h2,h3,h4⟩:=h
 by_cases h0:standE V E gen at_=0
 ·obtain ⟨xs,e1,b1,b2,e2,e3,e4,e5,e6,e7,Z,z1,z2,z3,z4⟩:=h4 h0
  refine ⟨_,_,_,e2,⟨⟨rfl,one_rec _ _ _ _ _ _ _ _ _ _⟩,h0.symm,fun h=>absurd rfl h,fun _=>⟨xs,b1,b2,e1,rfl,e3,e4,e5,e6,e7⟩⟩,h1,h2,Z,z1,fun b hb=>?_,z4⟩
  rcases blk_rec9 hb with rfl | rfl
  ·exact ⟨z2,e3⟩
  ·exact ⟨z3,e4⟩
 ·exact ⟨_,_,_,h3 h0,⟨⟨rfl,one_zero⟩,rfl,fun _=>rfl,fun h=>absurd h h0⟩,h1,h2,X0,fun _ h=>h,fun b hb=>absurd hb blk_zero9,h1⟩
structure RdS (l p:Nat) (sec:Int) (A:Option Addr) (m c:Nat) (br:Bool) (xs:List Seg) (w:World) (X R:Nat→Prop) (ga gr:Nat) (ad:Array Value) (Z:Nat→Prop) (W:World):Prop where
 lb:Blk W l 103 (logC p sec A m c br)
 row:RowZ W R A m xs
 ab:Blk W ga 35 ad
 rb:Blk W gr 33 zeroC
 zl:Z l
 za:Z ga
 zr:Z gr
 zx:∀ b,X b∨R b→Z b
 zt:∀ b,Z b→b<W.heap.size
 kx:Kept X w W
theorem RdS.keep {l p:Nat} {sec:Int} {A:Option Addr} {m c:Nat} {br:Bool} {xs:List Seg} {w:World} {X R:Nat→Prop} {ga gr:Nat} {ad:Array Value} {Z S:Nat→Prop} {W W':World} (h:RdS l p sec A m c br xs w X R ga gr ad Z W) (hk:Kept S W W') (hS:∀ b,Z b→S b):RdS l p sec A m c br xs w X R ga gr ad Z W' :=
 ⟨h.lb.kept hk (hS _ h.zl),h.row.kept hk (fun b hb=>hS b (h.zx b (.inr hb))),h.ab.kept hk (hS _ h.za),h.rb.kept hk (hS _ h.zr),h.zl,h.za,h.zr,h.zx,fun b hb=>nL (h.zt b hb) hk.size,h.kx.trans hk (fun b hb=>hS b (h.zx b (.inl hb)))⟩
theorem RdS.mem {l p:Nat} {sec:Int} {A:Option Addr} {m c:Nat} {br:Bool} {xs:List Seg} {w:World} {X R:Nat→Prop} {ga gr:Nat} {ad:Array Value} {Z:Nat→Prop} {W W':World} (h:RdS l p sec A m c br xs w X R ga gr ad Z W) (hb:Below W.heap.size W W'):RdS l p sec A m c br xs w X R ga gr ad Z W' :=
 h.keep (Kept.of_below (S:=fun b=>b<W.heap.size) hb (fun b h=>h)) h.zt
theorem RdS.cells {l p:Nat} {sec:Int} {A:Option Addr} {m c:Nat} {br:Bool} {xs:List Seg} {w:World} {X R:Nat→Prop} {ga gr:Nat} {ad:Array Value} {Z:Nat→Prop} {W:World} (h:RdS l p sec A m c br xs w X R ga gr ad Z W):W.cell? ⟨l,0,none⟩=some (.pointer (some ⟨p,0,none⟩))∧W.cell? ⟨ga,0,none⟩=ad[0]? ∧ W.cell? ⟨ga,1,none⟩=ad[1]? ∧ W.cell? ⟨ga,2,none⟩=ad[2]? :=
 ⟨h.lb.cell 0,h.ab.cell 0,h.ab.cell 1,h.ab.cell 2⟩
section
variable {w:World} {X R Z X0:Nat→Prop} {l p d n:Nat} {s:Sup} {t:Int} {k k':Dk} {sec:Int} {A:Option Addr} {m c:Nat} {xs:List Seg} {br:Bool}
theorem rd_fin {ga gr gx gi g6 B seg at_:Nat} {gen:Int} {ad rec:Array Value} {er:Int} {V V11:World} {W:Nat→List Int} {E:Nat→Int} (hrds:RdS l p sec A m c br xs w X R ga gr ad Z V11) (hstr:StrM V11 X0 gx gi p d n s t k' seg) (hz:∀ b,Z b→X0 b)
 (hrd:RdT W E gen at_ B V11 rec er) (h6:¬ Z g6) (hB:g6<B∨V11.heap.size≤g6) (hx6:X0 g6∨V11.heap.size≤g6) (hb:Below V11.heap.size V11 V) (hb6:Blk V g6 33 zeroC) (hgr:gr<B) (hgw:w.heap.size≤gr) (hl:l<w.heap.size) (hX:∀ b,X b→b<w.heap.size) (hR:∀ b,R b→b<w.heap.size∧b≠l∧¬ X b) (hxl:¬ X l) (hQ:∀ b,blkOf rec b→X0 b∧B≤b) :
 Blk (V.setRow g6 rec) g6 33 rec∧Blk (V.setRow g6 rec) gr 33 zeroC∧Blk ((V.setRow g6 rec).setRow gr rec) gr 33 rec∧RdT W E gen at_ B ((V.setRow g6 rec).setRow gr rec) rec er ∧
 LogM ((V.setRow g6 rec).setRow gr rec) (fun b=>X b∨blkOf rec b) l p d n s t k' sec A m c xs br∧Kept X w ((V.setRow g6 rec).setRow gr rec):=by
 have hne:gr≠g6:=fun e=>h6 (e▸hrds.zr)
 have hk1:Kept (fun b=>b<V11.heap.size∧b≠g6) V11 (V.setRow g6 rec):=(Kept.of_below (S:=fun b=>b<V11.heap.size∧b≠g6) hb (fun b h=>h.1)).setRow (g:=g6) (fun h=>h.2 rfl) rec
 have hk2:Kept (fun b=>b<V11.heap.size∧b≠g6∧b≠gr) V11 ((V.setRow g6 rec).setRow gr rec):=(hk1.mono (S:=fun b=>b<V11.heap.size∧b≠g6∧b≠gr) (fun b h=>⟨h.1,h.2.1⟩)).setRow (g:=gr) (fun h=>h.2.2 rfl) rec
 have hrb:Blk (V.setRow g6 rec) gr 33 zeroC:=hrds.rb.kept hk1 ⟨hrds.zt _ hrds.zr,hne⟩
 have hlow:∀ b,Z b→b<w.heap.size→b<V11.heap.size∧b≠g6∧b≠gr:=fun b h1 h2=>⟨hrds.zt b h1,fun e=>h6 (e▸h1),by omega⟩
 refine ⟨setRow_heap _ _ _ rec _ _ hb6,hrb,setRow_heap _ _ _ rec _ _ hrb,hrd.keep hk2 (fun b h1 h2=>⟨h2,by omega,by omega⟩),?_,hrds.kx.trans hk2 (fun b hb=>hlow b (hrds.zx b (.inl hb)) (hX b hb))⟩
 have hz2:=hk2.size
 refine ⟨hrds.lb.kept hk2 (hlow l hrds.zl hl),fun e=>e.elim hxl (fun e=>by have:=(hQ _ e).2; omega),R,?_,hrds.row.kept hk2 (fun b hb=>hlow b (hrds.zx b (.inr hb)) (hR b hb).1),fun b hb=>⟨?_,(hR b hb).2.1,fun e=>e.elim (hR b hb).2.2 (fun e=>by have:=(hQ _ e).2; have:=(hR b hb).1; omega)⟩⟩
 ·refine StoreM.kept hstr.sto hk2 (fun b h1 h2=>⟨h1,fun e=>?_,fun e=>h2 (hz b (e▸hrds.zr))⟩) (fun b _ h=>?_)
  ·subst e
   rcases hx6 with h | h
   ·exact h2 h
   ·omega
  ·rcases h with (h | h) | rfl | h
   ·exact hz b (hrds.zx b (.inl h))
   ·exact (hQ b h).1
   ·exact hz _ hrds.zl
   ·exact hz b (hrds.zx b (.inr h))
 ·have:=(hlow b (hrds.zx b (.inr hb)) (hR b hb).1).1
  omega
end
def ReadT (w:World) (X:Nat→Prop) (l p d n:Nat) (s:Sup) (t:Int) (k:Dk) (sec:Int) (A:Option Addr) (m c:Nat) (xs:List Seg) (br:Bool) (seg:Nat) (g:Int) (at_:Nat) (e:Ending) (w':World):Prop :=
 ∃ rec er,e=.returned (.tuple #[.agg rec,.int .i64 er])∧RdT (strV k s seg) (strE s) g at_ w.heap.size w' rec er ∧
  LogM w' (fun b=>X b∨blkOf rec b) l p d n s t (stR (fun k i=>strK k s i) k at_ (standR (strV k s seg) (strE s) g at_)) sec A m c xs br∧Kept X w w'
section
variable {w:World} {X:Nat→Prop} {l p d n:Nat} {s:Sup} {t:Int} {k:Dk} {sec:Int} {A:Option Addr} {m c:Nat} {xs:List Seg} {br:Bool}
theorem read_used (h:LogM w X l p d n s t k sec A m c xs br) (hX:∀ b,X b→b<w.heap.size) (hm:m≤1000) (hma:s.May) (hg:Good k) (hok:k.Ok n) (seg:Nat) (hseg:(seg:Int)<s.a) (hroom:2+s.a*s.b≤(n:Int)) (hn:n≤2048) (g:Int) (at_:Nat) (hat:at_≤90000)
 (hu:usesB xs (seg:Nat) g (at_:Nat)=true) :
 Calls Tryz.prog 13 #[.pointer (some ⟨l,0,none⟩),.agg #[.int .i64 (seg:Nat),.int .u64 g,.int .i64 (at_:Nat)]] w (ReadT w X l p d n s t k sec A m c xs br seg g at_):=by
 obtain ⟨w1,hw1⟩:∃ w1,w1=(w.alloc (.cells #[.int .i64 (seg:Nat),.int .u64 g,.int .i64 (at_:Nat)] 35)).alloc (.cells zeroC 33):=⟨_,rfl⟩
 have hb1:Below w.heap.size w w1:=by rw[hw1]; exact ((Below.refl _ w).alloc (nR _) _).alloc (by simp) _
 have hz1:w1.heap.size=w.heap.size+2:=by rw[hw1]; simp
 have HA1:=hI (show Blk w1 w.heap.size 35 #[.int .i64 (seg:Nat),.int .u64 g,.int .i64 (at_:Nat)] by rw[hw1]; exact (Blk.new w _ _).alloc _)
 have HR1:=hI (show Blk w1 (w.heap.size+1) 33 zeroC by rw[hw1]; exact blk_new2 w _ _ _)
 have HU:=hI (fun (W:World) (hW:LogM W X l p d n s t k sec A m c xs br)=>by have h2:=uses_any hW hm (seg:Int) g (at_:Int); rw[hu] at h2; exact h2)
 have HW1:=hI hw1
 have HB1:=hI hb1
 have HL:=hI h
 have HX:=hI hX
 have HMA:=hI hma
 have HG:=hI hg
 have HOK:=hI hok
 clear hw1 hb1 h hX hma hg hok hu
 have a0:=HA1.out.cell 0
 have a1:=HA1.out.cell 1
 have a2:=HA1.out.cell 2
 go_enter Tryz.func13,Tryz.ntmps13
 go_upto_region 1 with fail
 rw[← HW1.out]
 go_upto_region 5 with (go_at_call 58; refine (HU.out _ (HL.out.below HB1.out)).mono ?_; rintro e w2 ⟨rfl,hb2⟩)
 rename World=>w2
 have HB2:=hI (HB1.out.trans (hb2.mono HB1.out.size)).drew
 have hsz2:w1.heap.size≤w2.heap.size:=hb2.size
 have HA2:=hI (HA1.out.below hb2 HA1.out.lt).drew
 have HR2:=hI (HR1.out.below hb2 HR1.out.lt).drew
 have hszd:w2.drew.heap.size=w2.heap.size:=rfl
 obtain ⟨hlb,hxl,RR,hsto,hrow,hRR⟩:=HL.out
 obtain ⟨Z,hZ⟩:∃ Z:Nat→Prop,Z=(fun b=>(X b∨b=l∨RR b)∨(w.heap.size≤b∧b<w2.drew.heap.size)):=⟨_,rfl⟩
 have HSTO:=hI (show StoS w2.drew Z p d n s t k by rw[hZ]; exact StoreM.grow hsto HB2.out)
 have HZT:=hI (show ∀ b,Z b→b<w2.drew.heap.size by rw[hZ]; exact grow_lt (fun b hb=>by rcases hb with h | rfl | h; exact HX.out b h; exact hlb.lt; exact (hRR b h).1) HB2.out.size)
 have HRD:=hI (show RdS l p sec A m c br xs w X RR w.heap.size (w.heap.size+1) #[.int .i64 (seg:Nat),.int .u64 g,.int .i64 (at_:Nat)] Z w2.drew from
  ⟨hlb.below HB2.out hlb.lt,hrow.below HB2.out (fun b h=>(hRR b h).1),HA2.out,HR2.out,by rw[hZ]; exact .inl (.inr (.inl rfl)),by rw[hZ]; exact .inr ⟨nR _,by omega⟩,by rw[hZ]; exact .inr ⟨by omega,by omega⟩,fun b hb=>by rw[hZ]; rcases hb with h | h; exact .inl (.inl h); exact .inl (.inr (.inr h)),HZT.out,Kept.of_below HB2.out HX.out⟩)
 have HLT:=hI hlb.lt
 have HRR:=hI hRR
 clear hb2 hsto hrow hRR hlb hZ a0 a1 a2 HA1 HA2 HR1 HR2 HU
 refine wp_region_noPanic ?_
 refine Tillst.region (fun W=>W.cell? ⟨l,0,none⟩=some (.pointer (some ⟨p,0,none⟩))∧W.cell? ⟨w.heap.size,0,none⟩=some (.int .i64 (seg:Nat))∧W.cell? ⟨w.heap.size,1,none⟩=some (.int .u64 g)∧W.cell? ⟨w.heap.size,2,none⟩=some (.int .i64 (at_:Nat))) [12,13,14,15,17,18,19] (by kernel_rfl) HRD.out.cells (fun hė=>?_)
 generalize w2.drew=vd at *
 refine Tillst.takeG (i:=0) (oi:=rq0) (v:=?_) rfl (by kernel_rfl) (by kernel_rfl) (by kernel_rfl) (by kernel_rfl) (by kernel_rfl) (fun _ _ _ h=>h) (by rfl) ?_ hė ?_
 rotate_left
 ·intro W hSW; unfold rq0; go_simp; with_reducible rfl
 simp only[rq0,Act.put,sA,sZ,sS]
 refine Tillst.takeG (i:=1) (oi:=rq1) (v:=?_) rfl (by kernel_rfl) (by kernel_rfl) (by kernel_rfl) (by kernel_rfl) (by kernel_rfl) (fun _ _ _ h=>h) (by rfl) ?_ hė ?_
 rotate_left
 ·intro W hSW; unfold rq1; go_simp; with_reducible rfl
 simp only[rq1,Act.put,sA,sZ,sS]
 refine Tillst.takeG (i:=2) (oi:=rq2) (v:=?_) rfl (by kernel_rfl) (by kernel_rfl) (by kernel_rfl) (by kernel_rfl) (by kernel_rfl) (fun _ _ _ h=>h) (by rfl) ?_ hė ?_
 rotate_left
 ·intro W hSW; unfold rq2; go_simp; with_reducible rfl
 simp only[rq2,Act.put,sA,sZ,sS]
 refine Tillst.takeG (i:=3) (oi:=rq3) (v:=?_) rfl (by kernel_rfl) (by kernel_rfl) (by kernel_rfl) (by kernel_rfl) (by kernel_rfl) (fun _ _ _ h=>h) (by rfl) ?_ hė ?_
 rotate_left
 ·intro W hSW; obtain ⟨y0,y1,y2,y3⟩:=hSW; unfold rq3; go_simp; with_reducible rfl
 simp only[rq3,Act.put,sA,sZ,sS]
 refine Tillst.takeG (i:=4) (oi:=rq4) (v:=?_) rfl (by kernel_rfl) (by kernel_rfl) (by kernel_rfl) (by kernel_rfl) (by kernel_rfl) (fun _ _ _ h=>h) (by rfl) ?_ hė ?_
 rotate_left
 ·intro W hSW; unfold rq4; go_simp; with_reducible rfl
 simp only[rq4,Act.put,sA,sZ,sS]
 refine Tillst.takeG (i:=5) (oi:=rq5) (v:=?_) rfl (by kernel_rfl) (by kernel_rfl) (by kernel_rfl) (by kernel_rfl) (by kernel_rfl) (fun _ _ _ h=>h) (by rfl) ?_ hė ?_
 rotate_left
 ·intro W hSW; obtain ⟨y0,y1,y2,y3⟩:=hSW; unfold rq5; go_simp; with_reducible rfl
 simp only[rq5,Act.put,sA,sZ,sS]
 refine Tillst.takeG (i:=7) (oi:=rq7) (v:=?_) rfl (by kernel_rfl) (by kernel_rfl) (by kernel_rfl) (by kernel_rfl) (by kernel_rfl) (fun _ _ _ h=>h) (by rfl) ?_ hė ?_
 rotate_left
 ·intro W hSW; unfold rq7; go_simp; with_reducible rfl
 simp only[rq7,Act.put,sA,sZ,sS]
 refine Tillst.takeG (i:=8) (oi:=rq8) (v:=?_) rfl (by kernel_rfl) (by kernel_rfl) (by kernel_rfl) (by kernel_rfl) (by kernel_rfl) (fun _ _ _ h=>h) (by rfl) ?_ hė ?_
 rotate_left
 ·intro W hSW; obtain ⟨y0,y1,y2,y3⟩:=hSW; unfold rq8; go_simp; with_reducible rfl
 simp only[rq8,Act.put,sA,sZ,sS]
 refine Tillst.takeG (i:=9) (oi:=rq9) (v:=?_) rfl (by kernel_rfl) (by kernel_rfl) (by kernel_rfl) (by kernel_rfl) (by kernel_rfl) (fun _ _ _ h=>h) (by rfl) ?_ hė ?_
 rotate_left
 ·intro W hSW; unfold rq9; go_simp; with_reducible rfl
 simp only[rq9,Act.put,sA,sZ,sS]
 refine Tillst.takeG (i:=10) (oi:=rq10) (v:=?_) rfl (by kernel_rfl) (by kernel_rfl) (by kernel_rfl) (by kernel_rfl) (by kernel_rfl) (fun _ _ _ h=>h) (by rfl) ?_ hė ?_
 rotate_left
 ·intro W hSW; obtain ⟨y0,y1,y2,y3⟩:=hSW; unfold rq10; go_simp; with_reducible rfl
 simp only[rq10,Act.put,sA,sZ,sS]
 refine Tillst.two (i:=6) (j:=16) (o:=rq6) (o':=rq16) (by kernel_rfl) rfl rfl ?_ ?_
 ·intro K hK
  refine step_call 52 #[.tmp 23,.tmp 25] #[45,3] rfl rfl Tryz.func52 rfl rfl [.pointer (some ⟨p,0,none⟩),.int .i64 (seg:Nat)] rfl ?_
  refine (stored_any HSTO.out HZT.out seg).mono ?_
  rintro e v6 ⟨⟨gx,gi,rfl,hsm⟩,hb6⟩
  have HSM:=hI hsm
  have HRD:=hI (HRD.out.mem hb6)
  have hsz6:=hb6.size
  clear hsm hb6
  refine ⟨_,rfl,?_⟩
  simp only[rq6,Act.put,sA,sZ,sS]
  refine hK.out _ _ (fun _=>HRD.out.cells) (fun hė=>?_)
  replace hė:=hė (by decide)
  clear hK K
  have HZX:=hI (show ∀ b,Z b→(Z b∨(vd.heap.size≤b∧b<v6.heap.size)) from fun b h=>Or.inl h)
  refine Tillst.two (i:=11) (j:=16) (o:=rq11) (o':=rq16) (by kernel_rfl) rfl rfl ?_ ?_
  ·intro K hK
   refine step_call 55 #[.tmp 26,.tmp 28,.tmp 30] #[110,30,3] rfl rfl Tryz.func55 rfl rfl [.func (.func 122) #[] #[.pointer (some ⟨gx,0,none⟩),.pointer (some ⟨gi,0,none⟩)],.int .u64 g,.int .i64 (at_:Nat)] rfl ?_
   refine (standing_stored _ _ (stored_held HMA.out hseg hroom hn HOK.out (v6).heap.size HSM.out.xx HSM.out.xi ⟨HSM.out.bx.lt,HSM.out.bi.lt⟩) ⟨HSM.out,HG.out,rfl,rfl⟩ g at_ hat).mono ?_
   intro e v11 hst
   obtain ⟨rec,cnt,er,rfl,hrd,_,hk,Z9,hz9,hq9,hr⟩:=hst.rd
   have HTOLD:=hI hrd
   have HKX:=hI hk
   have HRD:=hI (HRD.out.keep hk HZX.out)
   have HZX:=hI (fun b (h:Z b)=>hz9 b (HZX.out b h))
   have HZ9:=hI hz9
   have HQ9:=hI hq9
   have HSM:=hI hr.1
   have hsz11:=hk.size
   have HRS:=hI hrd.1
   clear hst hrd hr hk hz9 hq9
   refine ⟨_,rfl,?_⟩
   simp only[rq11,Act.put,sA,sZ,sS]
   refine hK.out _ _ (fun _=>HRD.out.cells) (fun hė=>?_)
   replace hė:=hė (by decide)
   clear hK K
   refine Tillst.takeF (i:=12) (oi:=rq12) (v:=?_) rfl (by kernel_rfl) (by kernel_rfl) (by kernel_rfl) (by decide) (fun _ _ _ h=>h) (by rfl) ?_ ?_
   rotate_left
   ·intro W; unfold rq12; go_simp; with_reducible rfl
   simp only[rq12,Act.put,sA,sZ,sS]
   refine Tillst.takeF (i:=13) (oi:=rq13) (v:=?_) rfl (by kernel_rfl) (by kernel_rfl) (by kernel_rfl) (by decide) (fun _ _ _ h=>h) (by rfl) ?_ ?_
   rotate_left
   ·intro W; unfold rq13; go_simp; with_reducible rfl
   simp only[rq13,Act.put,sA,sZ,sS]
   refine Tillst.takeF (i:=14) (oi:=rq14) (v:=?_) rfl (by kernel_rfl) (by kernel_rfl) (by kernel_rfl) (by decide) (fun _ _ _ h=>h) (by rfl) ?_ ?_
   rotate_left
   ·intro W; unfold rq14; go_simp; with_reducible rfl
   simp only[rq14,Act.put,sA,sZ,sS]
   refine Tillst.takeF (i:=15) (oi:=rq15) (v:=?_) rfl (by kernel_rfl) (by kernel_rfl) (by kernel_rfl) (by decide) (fun _ _ _ h=>h) (by rfl) ?_ ?_
   rotate_left
   ·intro W; unfold rq15; go_simp; with_reducible rfl
   simp only[rq15,Act.put,sA,sZ,sS]
   refine tO 16 rq16 ?_
   intro K hK
   have hba:=(Below.refl (v11).heap.size (v11)).alloc (nR _) (.cells zeroC 33)
   have HB6:=hI (show Blk ((v11).alloc (.cells zeroC 33)) (v11).heap.size 33 zeroC from Blk.new (v11) _ _)
   have hza:((v11).alloc (.cells zeroC 33)).heap.size=(v11).heap.size+1:=by simp
   have HRD11:=HRD
   have HRD:=hI (HRD.out.mem hba)
   refine step_alloc_row 33 rfl rfl zeroC zero_rec9 ?_
   simp only[rq16,Act.put,sA,sZ,sS]
   refine hK.out _ _ (fun _=>HRD.out.cells) (fun hė=>?_)
   replace hė:=hė (by decide)
   clear hK K
   have HRD:=HRD11
   have HF:=hI (rd_fin (V:=v11.alloc (.cells zeroC 33)) (g6:=v11.heap.size) HRD.out HSM.out HZX.out HTOLD.out (fun h=>by have:=HRD.out.zt _ h; omega) (.inr (nR _)) (.inr (nR _)) hba HB6.out (by omega) (by omega) HLT.out HX.out HRR.out hxl HQ9.out)
   refine tO 17 rq17 ?_
   intro K hK
   refine step_store_row (.tmp 6) (.tmp 32) 33 rfl rfl (v11.heap.size) rec rfl rfl 33 zeroC HB6.out (by rw[HRS.out.1]; exact size_rec) (by rw[HRS.out.1]; rfl) HRS.out.2 ?_
   simp only[rq17,Act.put,sA,sZ,sS]
   refine hK.out _ _ (fun h=>absurd h (by decide)) (fun _=>?_)
   clear hK K hė
   refine tO 18 rq18 ?_
   intro K hK
   refine step_value ?_ rfl ?_ ?_
   rotate_left
   ·unfold rq18; go_simp; with_reducible rfl
   simp only[rq18,Act.put,sA,sZ,sS]
   refine hK.out _ _ (fun h=>absurd h (by decide)) (fun _=>?_)
   clear hK K
   refine tO 19 rq19 ?_
   intro K hK
   refine step_value ?_ rfl ?_ ?_
   rotate_left
   ·unfold rq19; go_simp; with_reducible rfl
   simp only[rq19,Act.put,sA,sZ,sS]
   refine hK.out _ _ (fun h=>absurd h (by decide)) (fun _=>?_)
   clear hK K
   refine Tillst.done (by kernel_rfl) ?_ _
   refine NoPanic.normal ?_
   have HSZD:=hI hszd
   clear hszd
   go_wp2_with (first | (with_reducible refine halt_end ?_) | (refine wpList_load_rowB (.tmp 6) 33 rfl rfl (v11.heap.size) rfl 33 rec.toList _ Tryz.underlying33 rfl (by simp only[Array.length_toList,HRS.out.1]; exact size_rec) HF.out.1 ?_) | (refine wpList_store_rowB (.tmp 4) (.tmp 35) 33 rfl rfl (w.heap.size+1) rec rfl rfl 33 _ HF.out.2.1 (by rw[HRS.out.1]; exact size_rec) (by rw[HRS.out.1]; rfl) HRS.out.2 ?_))
   exact Halt.ret (results_row2 rfl _ _ (w.heap.size+1) 33 rec _ rfl HF.out.2.2.1 Tryz.underlying33 rfl (by rw[HRS.out.1]; exact size_rec)) rfl ⟨rec,er,rfl,HF.out.2.2.2.1.less (by have:=HSZD.out; omega),HF.out.2.2.2.2.1,HF.out.2.2.2.2.2⟩
  ·intro K hK
   have hba:=(Below.refl (v6).heap.size (v6)).alloc (nR _) (.cells zeroC 33)
   have HB6:=hI (show Blk ((v6).alloc (.cells zeroC 33)) (v6).heap.size 33 zeroC from Blk.new (v6) _ _)
   have hza:((v6).alloc (.cells zeroC 33)).heap.size=(v6).heap.size+1:=by simp
   have HRD:=hI (HRD.out.mem hba)
   have HSM:=hI (HSM.out.grow hba)
   have HZX:=hI (fun b (h:Z b)=>Or.inl (b:=v6.heap.size≤b∧b<(v6.alloc (.cells zeroC 33)).heap.size) (HZX.out b h))
   have hz6:=HZT.out
   clear hba
   refine step_alloc_row 33 rfl rfl zeroC zero_rec9 ?_
   simp only[rq16,Act.put,sA,sZ,sS]
   refine hK.out _ _ (fun _=>HRD.out.cells) (fun hė=>?_)
   replace hė:=hė (by decide)
   clear hK K
   refine tO 11 rq11 ?_
   intro K hK
   refine step_call 55 #[.tmp 26,.tmp 28,.tmp 30] #[110,30,3] rfl rfl Tryz.func55 rfl rfl [.func (.func 122) #[] #[.pointer (some ⟨gx,0,none⟩),.pointer (some ⟨gi,0,none⟩)],.int .u64 g,.int .i64 (at_:Nat)] rfl ?_
   refine (standing_stored _ _ (stored_held HMA.out hseg hroom hn HOK.out (v6.alloc (.cells zeroC 33)).heap.size HSM.out.xx HSM.out.xi ⟨HSM.out.bx.lt,HSM.out.bi.lt⟩) ⟨HSM.out,HG.out,rfl,rfl⟩ g at_ hat).mono ?_
   intro e v11 hst
   obtain ⟨rec,cnt,er,rfl,hrd,_,hk,Z9,hz9,hq9,hr⟩:=hst.rd
   have HTOLD:=hI hrd
   have HKX:=hI hk
   have HRD:=hI (HRD.out.keep hk HZX.out)
   have HZX:=hI (fun b (h:Z b)=>hz9 b (HZX.out b h))
   have HZ9:=hI hz9
   have HQ9:=hI hq9
   have HSM:=hI hr.1
   have hsz11:=hk.size
   have HRS:=hI hrd.1
   clear hst hrd hr hk hz9 hq9
   refine ⟨_,rfl,?_⟩
   simp only[rq11,Act.put,sA,sZ,sS]
   refine hK.out _ _ (fun _=>HRD.out.cells) (fun hė=>?_)
   replace hė:=hė (by decide)
   clear hK K
   refine Tillst.takeF (i:=12) (oi:=rq12) (v:=?_) rfl (by kernel_rfl) (by kernel_rfl) (by kernel_rfl) (by decide) (fun _ _ _ h=>h) (by rfl) ?_ ?_
   rotate_left
   ·intro W; unfold rq12; go_simp; with_reducible rfl
   simp only[rq12,Act.put,sA,sZ,sS]
   refine Tillst.takeF (i:=13) (oi:=rq13) (v:=?_) rfl (by kernel_rfl) (by kernel_rfl) (by kernel_rfl) (by decide) (fun _ _ _ h=>h) (by rfl) ?_ ?_
   rotate_left
   ·intro W; unfold rq13; go_simp; with_reducible rfl
   simp only[rq13,Act.put,sA,sZ,sS]
   refine Tillst.takeF (i:=14) (oi:=rq14) (v:=?_) rfl (by kernel_rfl) (by kernel_rfl) (by kernel_rfl) (by decide) (fun _ _ _ h=>h) (by rfl) ?_ ?_
   rotate_left
   ·intro W; unfold rq14; go_simp; with_reducible rfl
   simp only[rq14,Act.put,sA,sZ,sS]
   refine Tillst.takeF (i:=15) (oi:=rq15) (v:=?_) rfl (by kernel_rfl) (by kernel_rfl) (by kernel_rfl) (by decide) (fun _ _ _ h=>h) (by rfl) ?_ ?_
   rotate_left
   ·intro W; unfold rq15; go_simp; with_reducible rfl
   simp only[rq15,Act.put,sA,sZ,sS]
   have HB6:=hI (HB6.out.kept HKX.out (.inr ⟨nR _,by omega⟩))
   have HF:=hI (rd_fin (V:=v11) (g6:=v6.heap.size) HRD.out HSM.out HZX.out HTOLD.out (fun h=>by have:=hz6 _ h; omega) (.inl (by omega)) (.inl (HZ9.out _ (.inr ⟨nR _,by omega⟩))) (Below.refl _ _) HB6.out (by omega) (by omega) HLT.out HX.out HRR.out hxl HQ9.out)
   refine tO 17 rq17 ?_
   intro K hK
   refine step_store_row (.tmp 6) (.tmp 32) 33 rfl rfl (v6.heap.size) rec rfl rfl 33 zeroC HB6.out (by rw[HRS.out.1]; exact size_rec) (by rw[HRS.out.1]; rfl) HRS.out.2 ?_
   simp only[rq17,Act.put,sA,sZ,sS]
   refine hK.out _ _ (fun h=>absurd h (by decide)) (fun _=>?_)
   clear hK K hė
   refine tO 18 rq18 ?_
   intro K hK
   refine step_value ?_ rfl ?_ ?_
   rotate_left
   ·unfold rq18; go_simp; with_reducible rfl
   simp only[rq18,Act.put,sA,sZ,sS]
   refine hK.out _ _ (fun h=>absurd h (by decide)) (fun _=>?_)
   clear hK K
   refine tO 19 rq19 ?_
   intro K hK
   refine step_value ?_ rfl ?_ ?_
   rotate_left
   ·unfold rq19; go_simp; with_reducible rfl
   simp only[rq19,Act.put,sA,sZ,sS]
   refine hK.out _ _ (fun h=>absurd h (by decide)) (fun _=>?_)
   clear hK K
   refine Tillst.done (by kernel_rfl) ?_ _
   refine NoPanic.normal ?_
   have HSZD:=hI hszd
   clear hszd
   go_wp2_with (first | (with_reducible refine halt_end ?_) | (refine wpList_load_rowB (.tmp 6) 33 rfl rfl (v6.heap.size) rfl 33 rec.toList _ Tryz.underlying33 rfl (by simp only[Array.length_toList,HRS.out.1]; exact size_rec) HF.out.1 ?_) | (refine wpList_store_rowB (.tmp 4) (.tmp 35) 33 rfl rfl (w.heap.size+1) rec rfl rfl 33 _ HF.out.2.1 (by rw[HRS.out.1]; exact size_rec) (by rw[HRS.out.1]; rfl) HRS.out.2 ?_))
   exact Halt.ret (results_row2 rfl _ _ (w.heap.size+1) 33 rec _ rfl HF.out.2.2.1 Tryz.underlying33 rfl (by rw[HRS.out.1]; exact size_rec)) rfl ⟨rec,er,rfl,HF.out.2.2.2.1.less (by have:=HSZD.out; omega),HF.out.2.2.2.2.1,HF.out.2.2.2.2.2⟩
 ·intro K hK
  have hba:=(Below.refl (vd).heap.size (vd)).alloc (nR _) (.cells zeroC 33)
  have HB6:=hI (show Blk ((vd).alloc (.cells zeroC 33)) (vd).heap.size 33 zeroC from Blk.new (vd) _ _)
  have hza:((vd).alloc (.cells zeroC 33)).heap.size=(vd).heap.size+1:=by simp
  have HRD:=hI (HRD.out.mem hba)
  have HSTA:=hI (StoreM.grow HSTO.out hba)
  have hz6:=HZT.out
  have HZTA:=hI (grow_lt HZT.out hba.size)
  clear hba
  refine step_alloc_row 33 rfl rfl zeroC zero_rec9 ?_
  simp only[rq16,Act.put,sA,sZ,sS]
  refine hK.out _ _ (fun _=>HRD.out.cells) (fun hė=>?_)
  replace hė:=hė (by decide)
  clear hK K
  refine tO 6 rq6 ?_
  intro K hK
  refine step_call 52 #[.tmp 23,.tmp 25] #[45,3] rfl rfl Tryz.func52 rfl rfl [.pointer (some ⟨p,0,none⟩),.int .i64 (seg:Nat)] rfl ?_
  refine (stored_any HSTA.out HZTA.out seg).mono ?_
  rintro e v6 ⟨⟨gx,gi,rfl,hsm⟩,hb6⟩
  have HSM:=hI hsm
  have HRD:=hI (HRD.out.mem hb6)
  have hsz6:=hb6.size
  have HB6:=hI (HB6.out.below hb6 HB6.out.lt)
  clear hsm hb6
  refine ⟨_,rfl,?_⟩
  simp only[rq6,Act.put,sA,sZ,sS]
  refine hK.out _ _ (fun _=>HRD.out.cells) (fun hė=>?_)
  replace hė:=hė (by decide)
  clear hK K
  have HZX:=hI (fun b (h:Z b)=>Or.inl (b:=(vd.alloc (.cells zeroC 33)).heap.size≤b∧b<v6.heap.size) (Or.inl (b:=vd.heap.size≤b∧b<(vd.alloc (.cells zeroC 33)).heap.size) h))
  refine tO 11 rq11 ?_
  intro K hK
  refine step_call 55 #[.tmp 26,.tmp 28,.tmp 30] #[110,30,3] rfl rfl Tryz.func55 rfl rfl [.func (.func 122) #[] #[.pointer (some ⟨gx,0,none⟩),.pointer (some ⟨gi,0,none⟩)],.int .u64 g,.int .i64 (at_:Nat)] rfl ?_
  refine (standing_stored _ _ (stored_held HMA.out hseg hroom hn HOK.out (v6).heap.size HSM.out.xx HSM.out.xi ⟨HSM.out.bx.lt,HSM.out.bi.lt⟩) ⟨HSM.out,HG.out,rfl,rfl⟩ g at_ hat).mono ?_
  intro e v11 hst
  obtain ⟨rec,cnt,er,rfl,hrd,_,hk,Z9,hz9,hq9,hr⟩:=hst.rd
  have HTOLD:=hI hrd
  have HKX:=hI hk
  have HRD:=hI (HRD.out.keep hk HZX.out)
  have HZX:=hI (fun b (h:Z b)=>hz9 b (HZX.out b h))
  have HZ9:=hI hz9
  have HQ9:=hI hq9
  have HSM:=hI hr.1
  have hsz11:=hk.size
  have HRS:=hI hrd.1
  clear hst hrd hr hk hz9 hq9
  refine ⟨_,rfl,?_⟩
  simp only[rq11,Act.put,sA,sZ,sS]
  refine hK.out _ _ (fun _=>HRD.out.cells) (fun hė=>?_)
  replace hė:=hė (by decide)
  clear hK K
  refine Tillst.takeF (i:=12) (oi:=rq12) (v:=?_) rfl (by kernel_rfl) (by kernel_rfl) (by kernel_rfl) (by decide) (fun _ _ _ h=>h) (by rfl) ?_ ?_
  rotate_left
  ·intro W; unfold rq12; go_simp; with_reducible rfl
  simp only[rq12,Act.put,sA,sZ,sS]
  refine Tillst.takeF (i:=13) (oi:=rq13) (v:=?_) rfl (by kernel_rfl) (by kernel_rfl) (by kernel_rfl) (by decide) (fun _ _ _ h=>h) (by rfl) ?_ ?_
  rotate_left
  ·intro W; unfold rq13; go_simp; with_reducible rfl
  simp only[rq13,Act.put,sA,sZ,sS]
  refine Tillst.takeF (i:=14) (oi:=rq14) (v:=?_) rfl (by kernel_rfl) (by kernel_rfl) (by kernel_rfl) (by decide) (fun _ _ _ h=>h) (by rfl) ?_ ?_
  rotate_left
  ·intro W; unfold rq14; go_simp; with_reducible rfl
  simp only[rq14,Act.put,sA,sZ,sS]
  refine Tillst.takeF (i:=15) (oi:=rq15) (v:=?_) rfl (by kernel_rfl) (by kernel_rfl) (by kernel_rfl) (by decide) (fun _ _ _ h=>h) (by rfl) ?_ ?_
  rotate_left
  ·intro W; unfold rq15; go_simp; with_reducible rfl
  simp only[rq15,Act.put,sA,sZ,sS]
  have HB6:=hI (HB6.out.kept HKX.out (.inl (.inr ⟨nR _,by omega⟩)))
  have HF:=hI (rd_fin (V:=v11) (g6:=vd.heap.size) HRD.out HSM.out HZX.out HTOLD.out (fun h=>by have:=hz6 _ h; omega) (.inl (by omega)) (.inl (HZ9.out _ (.inl (.inr ⟨nR _,by omega⟩)))) (Below.refl _ _) HB6.out (by omega) (by omega) HLT.out HX.out HRR.out hxl HQ9.out)
  refine tO 17 rq17 ?_
  intro K hK
  refine step_store_row (.tmp 6) (.tmp 32) 33 rfl rfl (vd.heap.size) rec rfl rfl 33 zeroC HB6.out (by rw[HRS.out.1]; exact size_rec) (by rw[HRS.out.1]; rfl) HRS.out.2 ?_
  simp only[rq17,Act.put,sA,sZ,sS]
  refine hK.out _ _ (fun h=>absurd h (by decide)) (fun _=>?_)
  clear hK K hė
  refine tO 18 rq18 ?_
  intro K hK
  refine step_value ?_ rfl ?_ ?_
  rotate_left
  ·unfold rq18; go_simp; with_reducible rfl
  simp only[rq18,Act.put,sA,sZ,sS]
  refine hK.out _ _ (fun h=>absurd h (by decide)) (fun _=>?_)
  clear hK K
  refine tO 19 rq19 ?_
  intro K hK
  refine step_value ?_ rfl ?_ ?_
  rotate_left
  ·unfold rq19; go_simp; with_reducible rfl
  simp only[rq19,Act.put,sA,sZ,sS]
  refine hK.out _ _ (fun h=>absurd h (by decide)) (fun _=>?_)
  clear hK K
  refine Tillst.done (by kernel_rfl) ?_ _
  refine NoPanic.normal ?_
  have HSZD:=hI hszd
  clear hszd
  go_wp2_with (first | (with_reducible refine halt_end ?_) | (refine wpList_load_rowB (.tmp 6) 33 rfl rfl (vd.heap.size) rfl 33 rec.toList _ Tryz.underlying33 rfl (by simp only[Array.length_toList,HRS.out.1]; exact size_rec) HF.out.1 ?_) | (refine wpList_store_rowB (.tmp 4) (.tmp 35) 33 rfl rfl (w.heap.size+1) rec rfl rfl 33 _ HF.out.2.1 (by rw[HRS.out.1]; exact size_rec) (by rw[HRS.out.1]; rfl) HRS.out.2 ?_))
  exact Halt.ret (results_row2 rfl _ _ (w.heap.size+1) 33 rec _ rfl HF.out.2.2.1 Tryz.underlying33 rfl (by rw[HRS.out.1]; exact size_rec)) rfl ⟨rec,er,rfl,HF.out.2.2.2.1.less (by have:=HSZD.out; omega),HF.out.2.2.2.2.1,HF.out.2.2.2.2.2⟩
end
end
section
section
variable {w w':World} {X Y:Nat→Prop} {l p d n m c:Nat} {s:Sup} {t:Int} {k:Dk} {sec:Int} {A:Option Addr} {xs:List Seg} {br:Bool}
theorem LogM.disk {v:World} {k2:Dk} (h:LogM w X l p d n s t k sec A m c xs br) (hd:∀ R:Nat→Prop,StoS w (fun b=>X b∨b=l∨R b) p d n s t k→(∀ b,R b→b<w.heap.size)→StoS v (fun b=>X b∨b=l∨R b) p d n s t k2∧Kept (fun b=>X b∨b=l∨R b) w v):LogM v X l p d n s t k2 sec A m c xs br∧Kept X w v:=by
 obtain ⟨h1,h2,R,h3,h4,h5⟩:=h
 obtain ⟨g1,g2⟩:=hd R h3 (fun b h=>(h5 b h).1)
 exact ⟨⟨h1.kept g2 (.inr (.inl rfl)),h2,R,g1,h4.kept g2 (fun b h=>.inr (.inr h)),fun b h=>⟨nL (h5 b h).1 g2.size,(h5 b h).2⟩⟩,g2.mono (fun b h=>.inl h)⟩
theorem sync_good (h:LogM w X l p d n s t k sec A m c xs false) (hX:∀ b,X b→b<w.heap.size) (hg:Good k) :
 Calls Tryz.prog 92 #[.pointer (some ⟨l,0,none⟩)] w fun e w'=>e=.returned (.int .i64 0)∧LogM w' X l p d n s t (k.wr Dk.sync) sec A m c xs false∧Kept X w w':=by
 obtain ⟨c0,_,_,c3⟩:=log_cells h
 obtain ⟨h1,h2,R,h3,h4,h5⟩:=h
 have H1:=hI h1
 have H2:=hI h2
 have H3:=hI h3
 have H4:=hI h4
 have H5:=hI h5
 have hsy:=sync_k h3.2.1 (fun b h=>by
  rcases h with (h | h | h) | h
  ·exact hX b h
  ·rw[h]; exact h1.lt
  ·exact (h5 b h).1
  ·rw[h]; exact h3.1.lt)
 rw[hg.wre] at hsy
 have HSY:=hI hsy
 clear h1 h2 h3 h4 h5 hX hg hsy
 go_enter Tryz.func92,Tryz.ntmps92
 go_wp2_with fail
 refine (sto_disk H3.out).mono ?_
 rintro e w1 ⟨rfl,rfl⟩
 go_wp2_with fail
 refine HSY.out.mono ?_
 rintro e w2 ⟨rfl,hd,hk⟩
 have HD:=hI hd
 have HK:=hI hk
 clear hd hk
 go_wp2_with fail
 refine (breaks_ok _ l).mono ?_
 rintro e w3 ⟨rfl,rfl⟩
 go_wp2_with fail
 go_ret
 exact ⟨rfl,⟨H1.out.kept HK.out (.inl (.inr (.inl rfl))),H2.out,R,⟨H3.out.1.kept HK.out (.inr rfl),HD.out,H3.out.2.2⟩,H4.out.kept HK.out (fun b h=>.inl (.inr (.inr h))),fun b h=>⟨nL (H5.out b h).1 HK.out.size,(H5.out b h).2⟩⟩,HK.out.mono (fun b h=>.inl (.inl h))⟩
end
end
section
theorem strK_pend {k:Dk} {s:Sup} (h:Good k) (i:Nat):(strK k s i).pend=k.pend:=by
 unfold strK
 split
 ·rw[h.rd]
 ·rfl
theorem stR_good {k:Dk} {s:Sup} (h:Good k) (at_:Nat):∀ j,Good (stR (fun k i=>strK k s i) k at_ j)∧(stR (fun k i=>strK k s i) k at_ j).held=k.held∧(stR (fun k i=>strK k s i) k at_ j).pend=k.pend
 | 0=>⟨h,rfl,rfl⟩
 | j+1=>by
  obtain ⟨h1,h2,h3⟩:=stR_good h at_ j
  exact ⟨strK_good h1 _,(strK_held h1 _).trans h2,(strK_pend h1 _).trans h3⟩
abbrev adrW (a:Int × Int × Int):Value:=.agg #[.int .i64 a.1,.int .u64 a.2.1,.int .i64 a.2.2]
noncomputable section
def appR (s:Sup) (xs:List Seg) (K:Nat):Option (Nat × Sup × List Seg) :=
 if (K:Int)≤leftR s.b xs then some ((opnR xs).toNat,s,xs) else
 if nxtR xs<0 then none else some ((nxtR xs).toNat,genS s,openX (sealedX s.b xs) (s.g+1))
end
section
variable {w w':World} {X Y:Nat→Prop} {l p d n:Nat} {s:Sup} {t:Int} {k:Dk} {xs:List Seg} {pe:Nat} {a:Int × Int × Int} {bs:List Int}
theorem LgM.ok_k (h:LgM w X l p d n s t k xs pe):k.Ok n:=by
 obtain ⟨A,c,hl,_,_⟩:=h.log
 obtain ⟨_,_,R,hs,_,_⟩:=hl
 exact hs.2.1.ok
theorem LgM.pe_le {pe2:Nat} (h:LgM w X l p d n s t k xs pe) (hp:pe≤pe2):LgM w X l p d n s t k xs pe2 :=
 ⟨h.log,h.good,h.ok,h.top,h.may,h.sin,h.dims,h.n2,h.room,nT h.pend hp⟩
theorem LogM.off {S:Nat→Prop} {sec:Int} {A:Option Addr} {m c:Nat} {br:Bool} (h:LogM w X l p d n s t k sec A m c xs br) (hk:Kept S w w') (hS:∀ b,b<w.heap.size→¬ X b→S b):LogM w' X l p d n s t k sec A m c xs br:=by
 obtain ⟨h1,h2,R,h3,h4,h5⟩:=h
 exact ⟨h1.kept hk (hS _ h1.lt h2),h2,R,StoreM.kept h3 hk (fun b hb hx=>hS b hb (fun e=>hx (.inl e))) (fun b _ h=>h),h4.kept hk (fun b h=>hS b (h5 b h).1 (h5 b h).2.2),fun b h=>⟨nL (h5 b h).1 hk.size,(h5 b h).2⟩⟩
theorem LgM.off {S:Nat→Prop} (h:LgM w X l p d n s t k xs pe) (hk:Kept S w w') (hS:∀ b,b<w.heap.size→¬ X b→S b):LgM w' X l p d n s t k xs pe:=by
 obtain ⟨A,c,h1,h2,h3⟩:=h.log
 exact ⟨⟨A,c,h1.off hk hS,h2,h3⟩,h.good,h.ok,h.top,h.may,h.sin,h.dims,h.n2,h.room,h.pend⟩
def ReadH (w:World) (X:Nat→Prop) (l p d n:Nat) (s:Sup) (t:Int) (k:Dk) (xs:List Seg) (pe:Nat) (bs:List Int) (e:Ending) (w':World):Prop :=
 ∃ b1 b2 k',e=.returned (.tuple #[.agg (recT9 bs b1 b2),.int .i64 0])∧w.heap.size≤b1∧w.heap.size≤b2∧b1≠b2∧ArrU w' b1 (keyOf bs)∧ArrU w' b2 (valOf bs)∧LgM w' (fun b=>X b∨b=b1∨b=b2) l p d n s t k' xs pe∧k'.held=k.held∧Kept X w w'
theorem read_at (h:LgM w X l p d n s t k xs pe) (hX:∀ b,X b→b<w.heap.size) (ha:AtR k s xs a bs) :
 Calls Tryz.prog 13 #[.pointer (some ⟨l,0,none⟩),adrW a] w (ReadH w X l p d n s t k xs pe bs):=by
 obtain ⟨hr,i,c,rfl,h2,h3,h4,h5⟩:=ha
 obtain ⟨A,cc,hl,hc,hn⟩:=h.log
 have hlen:=h.ok.1
 unfold SizedR at hlen
 have hdim:=h.dims
 have hub:=used_le h.ok h2
 have hc1:1≤cntOf bs.length:=by unfold cntOf; omega
 have hu:usesB xs (i:Nat) (genG xs i) (c:Nat)=true:=by
  rw[uses_in h2]
  have e1:decide ((c:Int)<(xs.getD i seg0).2.2)=true:=decide_eq_true (by have:usedG xs i=(xs.getD i seg0).2.2:=rfl; omega)
  have e2:decide (1≤(c:Int))=true:=decide_eq_true (by omega)
  rw[e1,e2]
  show ((genG xs i==genG xs i)&&(true&&true))=true
  rw[beq_self_eq_true]
  rfl
 have hg:1≤genG xs i∧genG xs i≤18446744073709551615:=by
  have h0:stG xs i≠0:=fun e=>by have:=used_free h.ok h2 e; omega
  have h9:=h.top
  have h8:=top_max h2 h0
  have h7:=(may_live (may_at h.ok.2.1 h2) h0).2.1
  have h6:=h.sin
  simp only[Sup.In,InS] at h6
  have:genG xs i=(xs.getD i seg0).2.1:=rfl
  omega
 obtain ⟨r1,r2,r3⟩:=rec_stands (V:=strV k s i) (E:=strE s) hr h5 (fun j hj=>by unfold strE; rw[if_pos (by omega)]) hg (by omega)
 refine (read_used hl hX (by omega) h.may h.good h.ok_k i (by omega) h.room h.n2.2 (genG xs i) c (by omega) hu).mono ?_
 rintro e w' ⟨rec,er,rfl,hrd,hlog,hk⟩
 obtain ⟨_,q2,_,q4⟩:=hrd
 have hz:er=0:=q2.trans r1
 obtain ⟨ys,b1,b2,e1,e2,e3,e4,e5,e6,e7⟩:=q4 hz
 rw[r2,r3] at e1
 subst e1 e2 hz
 obtain ⟨g1,g2,g3⟩:=stR_good (s:=s) h.good c (standR (strV k s i) (strE s) (genG xs i) c)
 exact ⟨b1,b2,_,rfl,e3,e4,e5,e6,e7,⟨⟨A,cc,hlog.less (fun b hb=>hb.imp id (fun h=>by rcases h with rfl | rfl; exact blk_one9; exact blk_two9)),hc,hn⟩,g1,h.ok,h.top,h.may,h.sin,h.dims,h.n2,h.room,by rw[g3]; exact h.pend⟩,g2,hk⟩
end
end
section
def fing (l:List Int):Int:=fnv start l / 4294967296 % 4294967296
def fingK (us:List Int):Nat:=(fing us).toNat
theorem fing_lt (us:List Int):fingK us<4294967296∧fing us=(fingK us:Int):=by
 unfold fingK fing
 omega
theorem finger_any (s:ByteArray) (w:World) (hn:s.size≤9223372036854775807) :
 Calls Tryz.prog 151 #[.string s] w fun e w'=>e=.returned (.int .u32 (fing (nums s)))∧w=w':=by
 go_enter Tryz.func151,Tryz.ntmps151
 go_wp2_with (go_at_call 197; refine (turn_string _ s _ hn).mono ?_; rintro e w' ⟨rfl,rfl⟩)
 go_ret
 exact ⟨rfl,rfl⟩
theorem finger_key (A:Option Addr) (n c:Nat) (us:List Int) {S:Nat→Prop} (w:World) (hx:RowI .u8 w S A n us) (hS:∀ b,S b→b<w.heap.size) (hb:Bytes us) (hn:n≤1000000) :
 Calls Tryz.prog 100 #[.slice A n c] w fun e w'=>e=.returned (.int .u32 (fingK us:Nat))∧w'=w:=by
 obtain ⟨t,ht,hnt⟩:=conv_string (P:=Tryz.prog) w 31 9 5 Tryz.underlying31 Tryz.underlying5 Tryz.underlying9 c (hx.more hS).toRow hb
 have hsz:t.size≤9223372036854775807:=by
  have h1:(nums t).length=n:=by rw[hnt]; exact hx.1
  rw[nums_length] at h1
  omega
 have HF:=hI (finger_any t w hsz)
 rw[hnt,(fing_lt us).2] at HF
 clear hx hS hb hsz hnt
 go_enter Tryz.func100,Tryz.ntmps100
 go_wp2_with fail
 refine HF.out.mono ?_
 rintro e w2 ⟨rfl,rfl⟩
 go_wp2_with fail
 go_ret
 exact ⟨rfl,rfl⟩
end
section
def kindX (i:Nat):IntKind:=if i<2 then .i64 else if i<1027 then .u32 else if i<4102∧i % 3=2 then .u64 else .i64
theorem kind_lo {i:Nat} (h:i<2):kindX i=.i64:=by unfold kindX; rw[if_pos h]
theorem kind_fing {i:Nat} (h:i<1025):kindX (2+i)=.u32:=by unfold kindX; rw[if_neg (by omega),if_pos (by omega)]
theorem kind_adr0 {i:Nat} (h:i<1025):kindX (1027+i*3)=.i64:=by unfold kindX; rw[if_neg (by omega),if_neg (by omega),if_neg (by omega)]
theorem kind_adr1 {i:Nat} (h:i<1025):kindX (1027+i*3+1)=.u64:=by unfold kindX; rw[if_neg (by omega),if_neg (by omega),if_pos (by omega)]
theorem kind_adr2 {i:Nat} (h:i<1025):kindX (1027+i*3+2)=.i64:=by unfold kindX; rw[if_neg (by omega),if_neg (by omega),if_neg (by omega)]
theorem kind_hi {i:Nat} (h:4102≤i):kindX i=.i64:=by unfold kindX; rw[if_neg (by omega),if_neg (by omega),if_neg (by omega)]
def cellsX (c:Nat→Int):Array Value:=(Array.range 8202).map fun i=>.int (kindX i) (c i)
theorem cellsX_size (c:Nat→Int):(cellsX c).size=8202:=by simp[cellsX]
theorem cellsX_get (c:Nat→Int) {i:Nat} (h:i<8202):(cellsX c)[i]? = some (.int (kindX i) (c i)):=by
 simp[cellsX,h]
def upd (c:Nat→Int) (i:Nat) (v:Int):Nat→Int:=fun j=>if j=i then v else c j
theorem upd_same (c:Nat→Int) (i:Nat) (v:Int):upd c i v i=v:=if_pos rfl
theorem upd_far (c:Nat→Int) {i j:Nat} (v:Int) (h:j≠i):upd c i v j=c j:=if_neg h
theorem cellsX_set (c:Nat→Int) {i:Nat} (v:Int):(cellsX c).setIfInBounds i (.int (kindX i) v)=cellsX (upd c i v):=by
 apply Array.ext
 ·simp[cellsX]
 ·intro j h1 h2
  simp only[cellsX,Array.size_setIfInBounds,Array.size_map,Array.size_range] at h1
  rw[Array.getElem_setIfInBounds (by simpa [cellsX] using h1)]
  unfold upd
  by_cases h:i=j
  ·subst h; simp[cellsX]
  ·have h':¬ j=i:=fun e=>h e.symm
   simp[cellsX,h,h']
def IxM (w:World) (x:Nat) (c:Nat→Int):Prop:=Blk w x 221 (cellsX c)
section
variable {w w':World} {x:Nat} {c:Nat→Int}
theorem IxM.lt (h:IxM w x c):x<w.heap.size:=Blk.lt h
theorem IxM.cell (h:IxM w x c) {i:Nat} (hi:i<8202):w.cell? ⟨x,i,none⟩=some (.int (kindX i) (c i)):=by rw[Blk.cell h,cellsX_get c hi]
theorem IxM.frozen (h:IxM w x c) (i:Nat):w.frozen? ⟨x,i,none⟩=false:=Blk.frozen h i
theorem IxM.fing (h:IxM w x c) {i:Nat} (hi:i<1025):w.cell? ⟨x,2+i,none⟩=some (.int .u32 (c (2+i))):=by rw[h.cell (by omega),kind_fing hi]
theorem IxM.adr0 (h:IxM w x c) {i:Nat} (hi:i<1025):w.cell? ⟨x,1027+i*3,none⟩=some (.int .i64 (c (1027+i*3))):=by rw[h.cell (by omega),kind_adr0 hi]
theorem IxM.adr1 (h:IxM w x c) {i:Nat} (hi:i<1025):w.cell? ⟨x,1027+i*3+1,none⟩=some (.int .u64 (c (1027+i*3+1))):=by rw[h.cell (by omega),kind_adr1 hi]
theorem IxM.adr2 (h:IxM w x c) {i:Nat} (hi:i<1025):w.cell? ⟨x,1027+i*3+2,none⟩=some (.int .i64 (c (1027+i*3+2))):=by rw[h.cell (by omega),kind_adr2 hi]
theorem IxM.hi (h:IxM w x c) {i:Nat} (h1:4102≤i) (hi:i<8202):w.cell? ⟨x,i,none⟩=some (.int .i64 (c i)):=by rw[h.cell hi,kind_hi h1]
theorem IxM.lo (h:IxM w x c) {i:Nat} (hi:i<2):w.cell? ⟨x,i,none⟩=some (.int .i64 (c i)):=by rw[h.cell (by omega),kind_lo hi]
theorem IxM.set (h:IxM w x c) {i:Nat} {k:IntKind} (hk:kindX i=k) (v:Int):IxM (w.setCell ⟨x,i,none⟩ (.int k v)) x (upd c i v):=by
 have:=Blk.set_ h i (.int k v)
 rw[← hk,cellsX_set] at this
 rw[← hk]
 exact this
theorem IxM.drew (h:IxM w x c):IxM w.drew x c:=h
theorem IxM.drewN (h:IxM w x c) (n:Nat):IxM (w.drewN n) x c:=h
theorem IxM.kept {S:Nat→Prop} (h:IxM w x c) (hb:Kept S w w') (hg:S x):IxM w' x c:=Blk.kept h hb hg
theorem IxM.below {B:Nat} (h:IxM w x c) (hb:Below B w w') (hg:x<B):IxM w' x c:=Blk.below h hb hg
end
theorem len_ix {w:World} {x:Nat} {c:Nat→Int} (h:IxM w x c) :
 Calls Tryz.prog 102 #[.pointer (some ⟨x,0,none⟩)] w fun e w'=>e=.returned (.int .i64 (c 1))∧w'=w:=by
 have h1:=h.lo (i:=1) (by omega)
 go_enter Tryz.func102,Tryz.ntmps102
 go_wp2
 go_ret
 exact ⟨rfl,rfl⟩
end
section
attribute [local go_sem] Oper.semAt_some
theorem home_any (f:Nat) (w:World):Calls Tryz.prog 196 #[.int .u32 f] w fun e w'=>e=.returned (.int .u32 (f % 1024:Nat))∧w'=w:=by
 go_enter Tryz.func196,Tryz.ntmps196
 go_wp2
 go_ret
 exact ⟨by simp,rfl⟩
theorem give_back {w:World} {x:Nat} {c:Nat→Int} (h:IxM w x c) (k:Nat) (hk:k<1025) :
 Calls Tryz.prog 134 #[.pointer (some ⟨x,0,none⟩),.int .i64 k] w fun e w'=>e=.returned (.tuple #[])∧IxM w' x (upd (upd c (4102+k) (c 6151)) 6151 k)∧Kept (·≠x) w w':=by
 have h1:=h.hi (i:=6151) (by omega) (by omega)
 have h2:=h.hi (i:=4102+k) (by omega) (by omega)
 have f1:=h.frozen 6151
 have f2:=h.frozen (4102+k)
 have HX:=hI h
 clear h
 go_enter Tryz.func134,Tryz.ntmps134
 go_wp2
 go_region
 all_goals go_wp2
 all_goals (first | go_ret | go_ret2 | go_end0)
 all_goals exact ⟨rfl,((HX.out.set (kind_hi (by omega)) _).set (kind_hi (by omega)) _).drew,(((Kept.refl _ w).setCell (by simp) _).setCell (by simp) _).drew⟩
theorem take_free {w:World} {x:Nat} {c:Nat→Int} (h:IxM w x c) (k:Nat) (hk:k<1025) (hc:c 6151=k) :
 Calls Tryz.prog 211 #[.pointer (some ⟨x,0,none⟩)] w fun e w'=>e=.returned (.int .i64 k)∧IxM w' x (upd c 6151 (c (4102+k)))∧Kept (·≠x) w w':=by
 have h1:=h.hi (i:=6151) (by omega) (by omega)
 rw[hc] at h1
 have h2:=h.hi (i:=4102+k) (by omega) (by omega)
 have f1:=h.frozen 6151
 have f2:=h.frozen (4102+k)
 have HX:=hI h
 clear h hc
 go_enter Tryz.func211,Tryz.ntmps211
 go_wp2
 go_ret
 exact ⟨rfl,HX.out.set (kind_hi (by omega)) _,(Kept.refl _ w).setCell (by simp) _⟩
theorem chain_ix {w:World} {x:Nat} {c:Nat→Int} (h:IxM w x c) (k f g:Nat) (hk:k<1025) (hc:c (2+k)=f) (hg:f % 1024=g) :
 Calls Tryz.prog 212 #[.pointer (some ⟨x,0,none⟩),.int .i64 k] w fun e w'=>e=.returned (.tuple #[])∧IxM w' x (upd (upd c (4102+k) (c (5127+g))) (5127+g) k)∧Kept (·≠x) w w':=by
 have hg':g<1024:=by omega
 have h1:=h.fing (i:=k) hk
 rw[hc] at h1
 have h2:=h.hi (i:=4102+k) (by omega) (by omega)
 have h3:=h.hi (i:=5127+g) (by omega) (by omega)
 have f2:=h.frozen (4102+k)
 have f3:=h.frozen (5127+g)
 have HX:=hI h
 have HH:=hI (fun (W:World)=>by have:=home_any f W; rw[hg] at this; exact this)
 clear h hc hg
 go_enter Tryz.func212,Tryz.ntmps212
 go_wp2_with fail
 go_quiet ((go_at_call 196; exact Calls.quiet_of_same (HH.out _)))
 go_wp2
 go_region
 all_goals go_wp2
 all_goals (first | go_ret | go_ret2 | go_end0)
 all_goals exact ⟨rfl,((HX.out.set (kind_hi (by omega)) _).set (kind_hi (by omega)) _).drew,by repeat (first | exact Kept.refl _ _ | apply Kept.drew | apply Kept.drewN | refine Kept.setCell ?_ (by simp) _)⟩
theorem line_ix {w:World} {x:Nat} {c:Nat→Int} (h:IxM w x c) (k l:Nat) (hk:k<1025) (hl:l<1025) (hc:c 7177=l) :
 Calls Tryz.prog 213 #[.pointer (some ⟨x,0,none⟩),.int .i64 k] w fun e w'=>e=.returned (.tuple #[])∧IxM w' x (upd (upd (upd (upd c (7177+k) l) (6152+k) 0) (6152+l) k) 7177 k)∧Kept (·≠x) w w':=by
 have h1:=h.hi (i:=7177) (by omega) (by omega)
 rw[hc] at h1
 have h2:=h.hi (i:=7177+k) (by omega) (by omega)
 have h3:=h.hi (i:=6152+k) (by omega) (by omega)
 have f2:=h.frozen (7177+k)
 have f3:=h.frozen (6152+k)
 have HX:=hI h
 clear h hc
 go_enter Tryz.func213,Tryz.ntmps213
 go_wp2
 go_region
 have hkp:Kept (·≠x) w ((w.setCell ⟨x,7177+k,none⟩ (.int .i64 l)).setCell ⟨x,6152+k,none⟩ (.int .i64 0)).drew:=(((Kept.refl _ w).setCell (by simp) _).setCell (by simp) _).drew
 have hy:=((HX.out.set (i:=7177+k) (kind_hi (by omega)) l).set (i:=6152+k) (kind_hi (by omega)) 0).drew
 generalize ((w.setCell ⟨x,7177+k,none⟩ (.int .i64 l)).setCell ⟨x,6152+k,none⟩ (.int .i64 0)).drew=w1 at *
 have h4:=hy.hi (i:=6152+l) (by omega) (by omega)
 have h5:=hy.hi (i:=7177) (by omega) (by omega)
 have f4:=hy.frozen (6152+l)
 have f5:=hy.frozen 7177
 have HY:=hI hy
 have HK:=hI hkp
 clear hy hkp
 go_wp2
 go_region
 all_goals go_wp2
 all_goals (first | go_ret | go_ret2 | go_end0)
 all_goals exact ⟨rfl,((HY.out.set (kind_hi (by omega)) _).set (kind_hi (by omega)) _).drew,((HK.out.setCell (by simp) _).setCell (by simp) _).drew⟩
theorem unline_ix {w:World} {x:Nat} {c:Nat→Int} (h:IxM w x c) (k b d:Nat) (hk:k<1025) (hb:b<1025) (hd:d<1025) (hcb:c (7177+k)=b) (hcd:c (6152+k)=d) :
 Calls Tryz.prog 215 #[.pointer (some ⟨x,0,none⟩),.int .i64 k] w fun e w'=>e=.returned (.tuple #[])∧IxM w' x (upd (upd c (6152+b) d) (7177+d) b)∧Kept (·≠x) w w':=by
 have h1:=h.hi (i:=7177+k) (by omega) (by omega)
 have h2:=h.hi (i:=6152+k) (by omega) (by omega)
 rw[hcb] at h1
 rw[hcd] at h2
 have h3:=h.hi (i:=6152+b) (by omega) (by omega)
 have h4:=h.hi (i:=7177+d) (by omega) (by omega)
 have f3:=h.frozen (6152+b)
 have f4:=h.frozen (7177+d)
 have HX:=hI h
 clear h hcb hcd
 go_enter Tryz.func215,Tryz.ntmps215
 go_wp2_with fail
 go_quiet (fail)
 go_wp2
 go_region
 all_goals go_wp2
 all_goals (first | go_ret | go_ret2 | go_end0)
 all_goals exact ⟨rfl,((HX.out.set (kind_hi (by omega)) _).set (kind_hi (by omega)) _).drew,by repeat (first | exact Kept.refl _ _ | apply Kept.drew | apply Kept.drewN | refine Kept.setCell ?_ (by simp) _)⟩
theorem left_ix {w:World} {x:Nat} {c:Nat→Int} (h:IxM w x c) {s n:Int} (hs:c 0=s) (hn:c 1=n) (hlt:0≤n∧n≤s∧s≤1024) :
 Calls Tryz.prog 73 #[.pointer (some ⟨x,0,none⟩)] w fun e w'=>e=.returned (.int .i64 (s-n))∧Kept (fun _=>True) w w':=by
 have h1:=h.lo (i:=0) (by omega)
 have h2:=h.lo (i:=1) (by omega)
 rw[hs] at h1
 rw[hn] at h2
 go_enter Tryz.func73,Tryz.ntmps73
 go_wp2_with fail
 go_quiet (fail)
 go_wp2
 go_ret
 exact ⟨rfl,(Kept.refl _ w).drewN _⟩
end
section
def Lk (b:Nat) (c:Nat→Int):Int→List Nat→Prop
 | s,[]=>s=0
 | s,k::l=>s=k∧1≤k∧k<1025∧Lk b c (c (b+k)) l
theorem Lk.zero {b:Nat} {c:Nat→Int} {l:List Nat} (h:Lk b c 0 l):l=[]:=by
 cases l with
 | nil=>rfl
 | cons k l=>exact absurd h.1 (by have:=h.2.1; omega)
theorem Lk.one {b:Nat} {c:Nat→Int}:∀ {l l':List Nat} {s:Int},Lk b c s l→Lk b c s l'→l=l'
 | [],l',s,h,h'=>by obtain rfl:s=0:=h; exact h'.zero.symm
 | k::l,[],s,h,h'=>by obtain rfl:s=0:=h'; exact h.zero
 | k::l,k'::l',s,h,h'=>by
  have e:k=k':=by have h1:=h.1; have h2:=h'.1; omega
  subst e
  rw[Lk.one h.2.2.2 h'.2.2.2]
theorem Lk.next {b:Nat} {c:Nat→Int} {s:Int} {l:List Nat} (h:Lk b c s l) (hs:s≠0):∃ k m,l=k::m∧s=k∧1≤k∧k<1025∧Lk b c (c (b+k)) m:=by
 cases l with
 | nil=>exact absurd h hs
 | cons k m=>exact ⟨k,m,rfl,h⟩
theorem Lk.mem {b:Nat} {c:Nat→Int}:∀ {l:List Nat} {s:Int},Lk b c s l→∀ k∈l,1≤k∧k<1025
 | k::l,s,h,j,hj=>by
  rcases List.mem_cons.1 hj with rfl | hj
  ·exact ⟨h.2.1,h.2.2.1⟩
  ·exact h.2.2.2.mem j hj
theorem Lk.congr {b:Nat} {c c':Nat→Int}:∀ {l:List Nat} {s:Int},Lk b c s l→(∀ k∈l,c' (b+k)=c (b+k))→Lk b c' s l
 | [],s,h,_=>h
 | k::l,s,h,he=>⟨h.1,h.2.1,h.2.2.1,by
  rw[he k (List.mem_cons_self ..)]
  exact h.2.2.2.congr fun j hj=>he j (List.mem_cons_of_mem _ hj)⟩
open Classical in
noncomputable def lenK (b:Nat) (c:Nat→Int) (s:Int):Nat:=if h:∃ l,Lk b c s l then h.choose.length else 0
theorem Lk.len {b:Nat} {c:Nat→Int} {s:Int} {l:List Nat} (h:Lk b c s l):lenK b c s=l.length:=by
 have hx:∃ l,Lk b c s l:=⟨l,h⟩
 unfold lenK
 rw[dif_pos hx,Lk.one hx.choose_spec h]
def endC (b p:Nat):List Nat→Nat
 | []=>p
 | k::l=>endC b (b+k) l
theorem endC_snoc (b p k:Nat):∀ (l:List Nat),endC b p (l++[k])=b+k:=by
 intro l
 induction l generalizing p with
 | nil=>rfl
 | cons j l ih=>exact ih (b+j)
theorem endC_mem (b p:Nat):∀ (l:List Nat),endC b p l=p∨∃ k∈l,endC b p l=b+k:=by
 intro l
 induction l generalizing p with
 | nil=>exact .inl rfl
 | cons j l ih =>
  rcases ih (b+j) with h | ⟨k,hk,h⟩
  ·exact .inr ⟨j,List.mem_cons_self ..,h⟩
  ·exact .inr ⟨k,List.mem_cons_of_mem _ hk,h⟩
theorem Lk.behind {b:Nat} {c:Nat→Int}:∀ {pre m:List Nat} {p:Nat},Lk b c (c p) (pre++m)→Lk b c (c (endC b p pre)) m
 | [],m,p,h=>h
 | k::pre,m,p,h=>Lk.behind (p:=b+k) (pre:=pre) h.2.2.2
theorem Lk.cut {b:Nat} {c:Nat→Int}:∀ {pre m:List Nat} {k p:Nat},Lk b c (c p) (pre++k::m)→(pre++k::m).Nodup→(∀ j∈pre++k::m,p≠b+j) →
 Lk b (upd c (endC b p pre) (c (b+k))) (upd c (endC b p pre) (c (b+k)) p) (pre++m)
 | [],m,k,p,h,hd,hp=>by
  show Lk b (upd c p (c (b+k))) (upd c p (c (b+k)) p) m
  rw[upd_same]
  exact h.2.2.2.congr fun j hj=>upd_far c _ (fun e=>hp j (List.mem_cons_of_mem _ hj) e.symm)
 | i :: pre, m, k, p, h, hd, hp => by
  have ih:=Lk.cut (pre:=pre) (m:=m) (k:=k) (p:=b+i) h.2.2.2 (List.nodup_cons.1 hd).2 (fun j hj e=>(List.nodup_cons.1 hd).1 ((show i=j by omega).symm▸hj))
  have hne:p≠endC b (b+i) pre:=by
   rcases endC_mem b (b+i) pre with h1 | ⟨j,hj,h1⟩
   ·rw[h1]; exact hp i (List.mem_cons_self ..)
   ·rw[h1]; exact hp j (List.mem_cons_of_mem _ (List.mem_append.2 (.inl hj)))
  show Lk b (upd c (endC b (b+i) pre) (c (b+k))) (upd c (endC b (b+i) pre) (c (b+k)) p) (i::(pre++m))
  rw[upd_far c _ hne]
  exact ⟨h.1,h.2.1,h.2.2.1,ih⟩
theorem Lk.put {b:Nat} {c:Nat→Int}:∀ {l:List Nat} {k p:Nat},Lk b c (c p) l→l.Nodup→k ∉ l→1≤k→k<1025→(∀ j∈l,p≠b+j)→p≠b+k →
 Lk b (upd (upd c (b+k) 0) (endC b p l) k) (upd (upd c (b+k) 0) (endC b p l) k p) (l++[k])
 | [],k,p,h,hd,hk,h1,h2,hp,hpk=>by
  show Lk b (upd (upd c (b+k) 0) p k) (upd (upd c (b+k) 0) p k p) [k]
  rw[upd_same]
  refine ⟨rfl,h1,h2,?_⟩
  show upd (upd c (b+k) 0) p k (b+k)=0
  rw[upd_far _ _ hpk.symm,upd_same]
 | i :: l, k, p, h, hd, hk, h1, h2, hp, hpk => by
  have ih:=Lk.put (l:=l) (k:=k) (p:=b+i) h.2.2.2 (List.nodup_cons.1 hd).2 (fun hm=>hk (List.mem_cons_of_mem _ hm)) h1 h2
   (fun j hj e=>(List.nodup_cons.1 hd).1 ((show i=j by omega).symm▸hj)) (fun e=>hk ((show i=k by omega)▸List.mem_cons_self ..))
  have hne:p≠endC b (b+i) l:=by
   rcases endC_mem b (b+i) l with h1 | ⟨j,hj,h1⟩
   ·rw[h1]; exact hp i (List.mem_cons_self ..)
   ·rw[h1]; exact hp j (List.mem_cons_of_mem _ hj)
  show Lk b (upd (upd c (b+k) 0) (endC b (b+i) l) k) (upd (upd c (b+k) 0) (endC b (b+i) l) k p) (i::(l++[k]))
  rw[upd_far _ _ hne,upd_far _ _ hpk]
  exact ⟨h.1,h.2.1,h.2.2.1,ih⟩
theorem Lk.push {b:Nat} {c:Nat→Int} {l:List Nat} {k p:Nat} (h:Lk b c (c p) l) (hk:k ∉ l) (h1:1≤k) (h2:k<1025) (hp:∀ j∈l,p≠b+j) (hpk:p≠b+k) :
 Lk b (upd (upd c (b+k) (c p)) p k) (upd (upd c (b+k) (c p)) p k p) (k::l):=by
 rw[upd_same]
 refine ⟨rfl,h1,h2,?_⟩
 rw[upd_far _ _ hpk.symm,upd_same]
 exact h.congr fun j hj=>by
  have e1:b+j≠p:=fun e=>hp j hj e.symm
  have e2:b+j≠b+k:=fun e=>hk ((show j=k by omega)▸hj)
  rw[upd_far _ _ e1,upd_far _ _ e2]
end
section
def SeqM_x (F:Fence) (n:Nat) (P:Program) (g:Nat) (lb:Array Value) (encs:Nat→Array Value) (N:Nat) (M:Nat→World→Prop):Prop :=
 ∀ (l:Nat) (J Jx:Nat→World→Prop) (W:World),AbidesFrom W.heap.size J→AbidesFrom W.heap.size Jx→(∀ i V,J i V→M i V) →
  (∀ i V,i<N→J i V→YieldAt F (n-1) P l (encs i) V fun e V'=>(e=.returned (.bool true)∧J (i+1) V')∨(e=.returned (.bool false)∧Jx i V')) →
  J 0 W→CallsIn F n P g (#[.func (.yield l) #[] #[]]++lb) W fun e V'=>(∃ v,e=.returned v)∧(J N V'∨∃ i,i<N∧Jx i V')
def bodyBy (B:Nat) (I:Nat→World→Prop) (Ix:Code→Nat→World→Prop) (i:Nat) (W:World):Exit→Act→World→Prop
 | .normal,_,V=>KeepsFrom B W V∧I (i+1) V
 | .ret,_,V=>KeepsFrom B W V∧Ix .ret i V
 | .exit id,_,V=>KeepsFrom B W V∧Ix (.exit id) i V
 | .goto t,_,V=>KeepsFrom B W V∧Ix (.goto t) i V
 | .panic _,_,_=>False
 | .outgrown,_,_=>False
section
variable {F:Fence} {n:Nat} {P:Program} {w:World}
theorem range_by {g:Operand} {ps:Array Tmp} {assign body:Code} {Q:Exit→Act→World→Prop} {a:Act} (hro:F.round=none) (h1:1≤n) {gf:Nat} {lb:Array Value} (hg:a.eval g=.func (.func gf) #[] lb) (hFg:F.fn gf)
 (eg:∀ args W,(callFunc gf args).run P W=.ok (.enter gf args) W) {encs:Nat→Array Value} {N:Nat} {M:Nat→World→Prop} (hseq:SeqM_x F (n-1) P gf lb encs N M) (hps:∀ i,(encs i).size=ps.size)
 (I:Nat→World→Prop) (Ix:Code→Nat→World→Prop) (hI:OwnFrom w.heap.size I) (hIx:∀ c,OwnFrom w.heap.size (Ix c)) (h0:I 0 w) (hM:∀ i V,I i V→M i V) (Ax:Nat→Act→World→Prop) (hAx:∀ i a',OwnFrom w.heap.size (fun (_:Unit) W=>Ax i a' W))
 (hassign:∀ (l i:Nat) (W:World) (K:Act→World→Prop),i<N→I i W→(∀ a' V,KeepsFrom w.heap.size W V→I i V→Ax i a' V→K a' V) →
   assign.wpIn (F.inRound l) (n-1-1) P (Exit.then K (fun _ _ _=>False)) { tmps:=(ps.zip (encs i)).foldl (fun t (p,v)=>t.setIfInBounds p v) a.tmps,defers:=[] } W)
 (hbody:∀ (l i:Nat) (a':Act) (W:World),i<N→w.heap.size≤l→(∃ r,W.heap[l]? = some (.loop r))→I i W→Ax i a' W→body.wpIn (F.inRound l) (n-1-1) P (bodyBy w.heap.size I Ix i W) a' W)
 (hdone:∀ (D:Nat) (W:World),w.heap.size≤D→I N W→W.heap[D]? = some (.deferred (some []))→Q .normal { a with defers:={ target:=.collected D,args:=#[] }::a.defers } W)
 (hstop:∀ (D:Nat) (c:Code) (i:Nat) (W:World),w.heap.size≤D→i<N→Ix c i W→W.heap[D]? = some (.deferred (some []))→c.wpIn F n P Q { a with defers:={ target:=.collected D,args:=#[] }::a.defers } W) :
 (Code.rangeFunc g ps assign body).wpIn F n P Q a w:=by
 refine wpIn_rangeFunc fun fn hfn=>?_
 rw[hro]
 -- the loop's record,and the world behind 'enterLoop'
 let rec0:LoopState→Option Code→Loop:=fun st pe=>{ state:=st,pending:=pe,fn,tmps:=a.tmps,params:=ps,assign,body,defers:=w.heap.size }
 obtain ⟨rc,hrc⟩:∃ rc,rc=rec0:=⟨_,rfl⟩
 obtain ⟨V0,hV0⟩:∃ V0,V0=(w.alloc (.deferred (some []))).alloc (.loop (rc .ready none)):=⟨_,rfl⟩
 have sV0:V0.heap.size=w.heap.size+2:=by rw[hV0]; simp
 have lV0:V0.heap[w.heap.size+1]? = some (.loop (rc .ready none)):=by
  have h:=World.alloc_heap_new (w.alloc (.deferred (some []))) (.loop (rc .ready none))
  rw[World.size_alloc] at h
  rw[hV0]; exact h
 have dV0:V0.heap[w.heap.size]? = some (.deferred (some [])):=by
  rw[hV0]; exact (Below.heap_alloc _ _ _ (by simp)).trans (World.alloc_heap_new w _)
 -- what holds between two rounds,and behind the last one
 let Bk:LoopState→Option Code→World→Prop:=fun st pe V=>V.heap[w.heap.size+1]? = some (.loop (rc st pe))∧V.heap[w.heap.size]? = some (.deferred (some []))
 have own_bk:∀ {st pe} {A B:World} {row:Option Nat},Bk st pe A→A.grownBy B row→(∀ r,row=some r→∃ o:Obj,A.heap[r]? = some o∧o.isWalk=true)→Bk st pe B :=
  fun hb hgr hr=>⟨(grownBy_keeps hgr hr hb.1 rfl).trans hb.1,(grownBy_keeps hgr hr hb.2 rfl).trans hb.2⟩
 have narrow:∀ {A:World} {row:Option Nat},(∀ r,row=some r→V0.heap.size≤r∧∃ o:Obj,A.heap[r]? = some o∧o.isWalk=true)→∀ r,row=some r→w.heap.size≤r∧∃ o:Obj,A.heap[r]? = some o∧o.isCells=false :=
  fun hr r e=>by
   obtain ⟨h2,o,h3,h4⟩:=hr r e
   exact ⟨by omega,o,h3,Obj.not_cells_of_walk h4⟩
 refine ⟨w.heap.size+1,[{ target:=.collected w.heap.size,args:=#[] }],V0,{ target:=.fn (.func gf) lb,args:=#[.func (.yield (w.heap.size+1)) #[] #[]] },V0,gf,#[.func (.yield (w.heap.size+1)) #[] #[]]++lb,V0,?_,?_,?_,?_,fun _=>h1,?_⟩
 ·rw[hV0,hrc]; exact run_enterLoop_outer _ _ _ _ _
 ·simp only[resolve,hg]; simp[go_sem]
 ·intro f' hf'
  simp[Target.leads] at hf'
  subst hf'
  exact hFg
 ·simp[invoke,go_sem,eg]
 have shut:∀ (jump:Option Code) (V:World),V.heap[w.heap.size+1]? = some (.loop { rc .ready none with state:=.busy })→V.heap[w.heap.size]? = some (.deferred (some [])) →
  ∃ V',(Instr.endRound (w.heap.size+1) jump).run P V=.ok (.bool jump.isNone) V'∧V'=V.putObj (w.heap.size+1) (.loop (rc (if jump.isNone then .ready else .done) jump))∧Bk (if jump.isNone then .ready else .done) jump V':=fun jump V hl hd=>by
  have h:=run_endRound (P:=P) jump hl
  refine ⟨V.putObj (w.heap.size+1) (.loop (rc (if jump.isNone then .ready else .done) jump)),?_,rfl,World.putObj_heap_same (Array.getElem?_eq_some_iff.1 hl).1,(World.putObj_heap_other (by omega)).trans hd⟩
  rw[hrc] at h ⊢
  exact h
 refine (hseq (w.heap.size+1) (fun i V=>I i V∧Bk .ready none V) (fun i V=>∃ c,Ix c i V∧Bk .done (some c) V) V0
  (fun i A B row hs hgr hr=>⟨hI i A B row hs.1 hgr (narrow hr),own_bk hs.2 hgr fun r e=>(hr r e).2⟩)
  (fun i A B row ⟨c,hc,hb⟩ hgr hr=>⟨c,hIx c i A B row hc hgr (narrow hr),own_bk hb hgr fun r e=>(hr r e).2⟩)
  (fun i V h=>hM i V h.1) ?_ ⟨by rw[hV0]; exact hI.alloc _ (hI.alloc _ h0),lV0,dV0⟩).mono ?_
 ·-- a round
  rintro i V hi ⟨hiI,hl,hd⟩
  have hy:=run_yield (P:=P) (args:=encs i) hl (by rw[hrc]; exact hps i)
  rw[hrc] at hy
  refine ⟨fn,_,assign,body,hy,roundIn_of_wpIn hfn (hassign _ i V _ hi hiI ?_)⟩
  intro a' Va hk hIa hA
  have hla:=hk.same _ _ (by omega) hl rfl
  have hda:=hk.same _ _ (nR _) hd rfl
  have hlt:=(Array.getElem?_eq_some_iff.1 hla).1
  refine ⟨_,run_beginRound hla (by rw[hrc]),?_⟩
  have hlb:(Va.putObj (w.heap.size+1) (.loop { rc .ready none with state:=.busy })).heap[w.heap.size+1]? = some (.loop { rc .ready none with state:=.busy }):=World.putObj_heap_same hlt
  have hdb:(Va.putObj (w.heap.size+1) (.loop { rc .ready none with state:=.busy })).heap[w.heap.size]? = some (.deferred (some [])):=(World.putObj_heap_other (by omega)).trans hda
  refine wpIn_mono (hbody _ i a' _ hi (by omega) ⟨_,hlb⟩ (hI.putObj _ hIa (by omega) hla rfl) ((hAx i a').putObj (s:=()) _ hA (by omega) hla rfl)) ?_
  rintro e a3 V3 hp
  cases e with
  | normal =>
   have hl3:=hp.1.same _ _ (by omega) hlb rfl
   obtain ⟨V4,hr,e4,hb⟩:=shut none V3 hl3 (hp.1.same _ _ (nR _) hdb rfl)
   exact ⟨_,V4,hr,.inl ⟨rfl,by rw[e4]; exact hI.putObj _ hp.2 (by omega) hl3 rfl,hb⟩⟩
  | ret =>
   have hl3:=hp.1.same _ _ (by omega) hlb rfl
   obtain ⟨V4,hr,e4,hb⟩:=shut (some .ret) V3 hl3 (hp.1.same _ _ (nR _) hdb rfl)
   exact ⟨_,V4,hr,.inr ⟨rfl,.ret,by rw[e4]; exact (hIx _).putObj _ hp.2 (by omega) hl3 rfl,hb⟩⟩
  | exit id =>
   have hl3:=hp.1.same _ _ (by omega) hlb rfl
   obtain ⟨V4,hr,e4,hb⟩:=shut (some (.exit id)) V3 hl3 (hp.1.same _ _ (nR _) hdb rfl)
   exact ⟨_,V4,hr,.inr ⟨rfl,.exit id,by rw[e4]; exact (hIx _).putObj _ hp.2 (by omega) hl3 rfl,hb⟩⟩
  | goto t =>
   have hl3:=hp.1.same _ _ (by omega) hlb rfl
   obtain ⟨V4,hr,e4,hb⟩:=shut (some (.goto t)) V3 hl3 (hp.1.same _ _ (nR _) hdb rfl)
   exact ⟨_,V4,hr,.inr ⟨rfl,.goto t,by rw[e4]; exact (hIx _).putObj _ hp.2 (by omega) hl3 rfl,hb⟩⟩
  | panic ch=>exact hp.elim
  | outgrown=>exact hp.elim
 ·-- behind the iterator
  rintro e V2 ⟨⟨v,rfl⟩,(⟨hiI,hl,hd⟩ | ⟨i,hi,c,hc,hl,hd⟩)⟩
  ·have h:=run_endLoop (P:=P) hl (by rw[hrc]; simp[rec0])
   rw[hrc] at h
   exact ⟨none,_,h,hdone _ _ (nR _) (hI.putObj _ hiI (by omega) hl rfl) ((World.putObj_heap_other (by omega)).trans hd)⟩
  ·have h:=run_endLoop (P:=P) hl (by rw[hrc]; simp[rec0])
   rw[hrc] at h
   exact ⟨some c,_,h,hstop _ c i _ (nR _) hi ((hIx c).putObj _ hc (by omega) hl rfl) ((World.putObj_heap_other (by omega)).trans hd)⟩
end
end
section
open Go.RowKit Go.Shelf
attribute [local go_sem] Oper.semAt_some
theorem grown_drewN (w:World) (n:Nat):w.grownBy (w.drewN n) none:=⟨rfl,rfl,rfl,nR _,fun _ _ _=>rfl⟩
theorem having_seq (n gx gf x f g:Nat) (c:Nat→Int) (C T:List Nat) (hg:f % 1024=g) (hC:Lk 4102 c (c (5127+g)) C) (hT:T=C.filter (fun k=>c (2+k)=(f:Int)))
 (M:Nat→World→Prop) (hM:∀ i V,M i V→IxM V x c∧V.cell? ⟨gx,0,none⟩=some (.pointer (some ⟨x,0,none⟩))∧V.cell? ⟨gf,0,none⟩=some (.int .u32 f)) :
 SeqM_x Fence.wide n Tryz.prog 195 #[.pointer (some ⟨gx,0,none⟩),.pointer (some ⟨gf,0,none⟩)] (fun i=>#[.int .i64 (T.getD i 0)]) T.length M:=by
 intro l J Jx W hJ hJx hJM hY h0
 have hg':g<1024:=by omega
 have HH:=hI (fun (W:World)=>by have:=home_any f W; rw[hg] at this; exact this)
 refine callsIn_of_wp Tryz.func195 rfl trivial ?_ rfl
 simp only[Tryz.ntmps195,List.size_toArray,List.length_cons,List.length_nil,Nat.reduceAdd,Nat.reduceSub,Array.replicate_succ,Array.replicate_zero,List.push_toArray,List.append_toArray,List.nil_append,List.cons_append]
 obtain ⟨k0,k1,k2⟩:=hM _ _ (hJM 0 W h0)
 have HT:=hI hT
 have HC:=hI hC
 have HX0:=hI k0
 have hcc:=k0.hi (i:=5127+g) (by omega) (by omega)
 obtain ⟨s0,hs0⟩:∃ s0,c (5127+g)=s0:=⟨_,rfl⟩
 rw[hs0] at hcc
 have HS0:=hI hs0
 clear k0 hT hC hg hs0
 refine wpIn_wide.2 (wp_scope_straight ((wpIn_wide (n:=n)).1 ?_))
 gi_wp2
 refine wpIn_label ?_
 gi_wp2
 refine wpIn_wide.2 ?_
 go_quiet ((go_at_call 196; exact Calls.quiet_of_same (HH.out _)))
 gi_wp2
 gi_loopw [4] (fun i wr=>∃ (s:Int) (r:List Nat) (k:Nat),i=.int .i64 s∧Lk 4102 c s r∧k≤T.length∧T.drop k=r.filter (fun k=>c (2+k)=(f:Int))∧J k wr)
  (fun i _=>lenK 4102 c (intOf i))
 case atStart=>exact ⟨s0,C,0,rfl,by rw[← HS0.out]; exact HC.out,Nat.zero_le _,by rw[List.drop_zero]; exact HT.out,hJ 0 W _ none h0 (grown_drewN W nq) (fun r e=>by cases e)⟩
 case round =>
  obtain ⟨s,r,k,rfl,hL,hk,hd,hJk⟩:=hrel
  have hlen:=hL.len
  obtain ⟨q0,q1,q2⟩:=hM _ _ (hJM _ _ hJk)
  by_cases hs:s=0
  ·obtain rfl:=hs
   obtain rfl:=hL.zero
   have e:k=T.length:=by
    have:=congrArg List.length hd
    simp at this
    omega
   subst e
   clear hd hL
   gi_wp2
   rw[Exit.noGoto_normal]
   go_end0
   exact ⟨⟨_,rfl⟩,.inl hJk⟩
  ·obtain ⟨k0,m,rfl,rfl,hk1,hk2,hL2⟩:=hL.next hs
   have hlen2:=hL2.len
   have a1:=q0.fing hk2
   have a2:=q0.hi (i:=4102+k0) (by omega) (by omega)
   obtain ⟨s2,hs2⟩:∃ s2,c (4102+k0)=s2:=⟨_,rfl⟩
   rw[hs2] at a2 hL2 hlen2
   have HS2:=hI hs2
   clear hs2
   by_cases hv:c (2+k0)=(f:Int)
   ·rw[hv] at a1
    have hd2:T.drop k=k0::m.filter (fun k=>c (2+k)=(f:Int)):=by rw[hd,List.filter_cons_of_pos (by simpa using hv)]
    have hlt:k<T.length:=by
     have:=congrArg List.length hd2
     simp at this
     omega
    have hT2:T.getD k 0=k0:=by
     rw[List.drop_eq_getElem_cons hlt] at hd2
     have e:=(List.cons.inj hd2).1
     simp[List.getD,List.getElem?_eq_getElem hlt,e]
    have hd3:T.drop (k+1)=m.filter (fun k=>c (2+k)=(f:Int)):=by
     rw[List.drop_eq_getElem_cons hlt] at hd2
     injection hd2
    have HD:=hI hd3
    clear hd hd2 hv hd3
    gi_wp2
    refine wpIn_wide.2 ?_
    go_quiet (fail)
    have hJk2:=hJ k wr _ none hJk (grown_drewN wr nq) (fun r e=>by cases e)
    obtain ⟨fn,tmps,assign,body,hy,hR⟩:=hY k _ hlt hJk2
    rw[hT2] at hy
    clear hJk2
    gi_wp2
    refine ⟨(fun h=>by cases h),hR.mono ?_⟩
    rintro e V (⟨rfl,hJ2⟩ | ⟨rfl,hJ2⟩)
    ·obtain ⟨v0,v1,v2⟩:=hM _ _ (hJM _ _ hJ2)
     have b2:=v0.hi (i:=4102+k0) (by omega) (by omega)
     rw[HS2.out] at b2
     gi_wp2
     go_roundw
     case rel=>exact ⟨s2,m,k+1,rfl,hL2,by omega,HD.out,hJ2⟩
     case measure=>show lenK 4102 c s2<lenK 4102 c (k0:Int); rw[hlen2,hlen]; simp
    ·gi_wp2
     rw[Exit.noGoto_normal]
     go_end0
     exact ⟨⟨_,rfl⟩,.inr ⟨k,hlt,hJ2⟩⟩
   ·have hd2:T.drop k=m.filter (fun k=>c (2+k)=(f:Int)):=by rw[hd,List.filter_cons_of_neg (by simpa using hv)]
    obtain ⟨v,hv2⟩:∃ v,c (2+k0)=v:=⟨_,rfl⟩
    rw[hv2] at a1 hv
    have dv:(v != (f:Int))=true:=by simpa using hv
    have HD:=hI hd2
    clear hd hd2 hv2
    gi_wp2
    refine wpIn_wide.2 ?_
    go_quiet (fail)
    have hJk2:=hJ k wr _ none hJk (grown_drewN wr nq) (fun r e=>by cases e)
    gi_wp2
    go_roundw
    case rel=>exact ⟨s2,m,k,rfl,hL2,hk,HD.out,hJk2⟩
    case measure=>show lenK 4102 c s2<lenK 4102 c (k0:Int); rw[hlen2,hlen]; simp
end
section
section
variable {P:Program} {n l:Nat} {Q:Exit→Act→World→Prop}
theorem callsIn_round {f:FuncId} {args:Array Value} {w:World} {R:Ending→World→Prop} (h:Calls P f args w R):CallsIn (Fence.wide.inRound l) n P f args w R :=
 ⟨trivial,fun cs _=>let ⟨e,w',fr,r,s,x⟩:=h cs; ⟨e,w',fr,r,comesIn_wide.2 s,x⟩⟩
theorem rowsIn_round {row:String} {args:Array Value} {w:World} {R:Value→World→Prop} (h:Rows P row args w R):RowsIn (Fence.wide.inRound l) n P row args w R :=
 fun c cs _=>let ⟨v,w',r,s⟩:=h c cs; ⟨v,w',r,stepsIn_wide.2 s⟩
theorem operIn_round {o:Oper} {a:Act} {w:World} {K:Act→World→Prop} (hnd:∀ c,o.op≠.defer c) (h:o.wp P a w K Q):o.wpIn (Fence.wide.inRound l) n P a w K Q:=by
 refine ⟨fun _ _=>trivial,?_⟩
 rw[Oper.semAt_eq _ _ _ hnd]
 unfold Oper.wp at h
 generalize (execOp a.eval o).run P w=r at *
 have hd:(Fence.wide.inRound l).depth.isSome=true→1≤n:=fun h=>by simp[Fence.wide] at h
 cases r with
 | ok x w' =>
  cases x <;> simp only[Oper.upon] at h <;> simp only[Oper.uponIn]
  all_goals first
   | exact h
   | exact ⟨hd,callsIn_round h⟩
   | exact ⟨hd,rowsIn_round h⟩
   | exact ⟨hd,h⟩
 | halt x w'=>cases x <;> simp only[Oper.upon] at h <;> simp only[Oper.uponIn] <;> exact h
theorem anyIn_round {md:Region.Mode} {ops:Array Oper} (hnd:∀ (i:Nat) (o:Oper),ops[i]? = some o→∀ c,o.op≠.defer c) (hno:LetsOut Q→False) :
 ∀ (k:Nat) (L:Array Bool) (a:Act) (w:World),wpAny P md ops Q k L a w→wpAnyIn (Fence.wide.inRound l) n P md ops Q k L a w
 | 0,_,_,_,h=>h
 | k + 1, L, a, w, h => by
  refine ⟨h.1,fun i hi=>?_⟩
  have h2:=h.2 i hi
  unfold wpOp at h2
  unfold wpOpIn
  split
  ·rename_i ho
   simp only[ho] at h2
   exact anyIn_round hnd hno k _ _ _ h2
  ·rename_i o ho
   simp only[ho] at h2
   split
   ·rename_i hw
    simp only[hw,if_true] at h2
    exact Oper.wpIn_mono (fun a w h=>anyIn_round hnd hno k _ _ _ h) (operIn_round (hnd i o ho) (h2.resolve_right fun h=>hno h.2))
   ·rename_i hw
    simp only[hw] at h2
    exact ⟨fun _ _=>trivial,anyIn_round hnd hno k _ _ _ h2⟩
theorem region_anyR {id:Nat} {ops:List Oper} {a:Act} {w:World} (hnd:ops.all noDefer=true) (hm:P.follows .mixedOrders=true) (hno:LetsOut Q→False)
 (h:wpAny P .any ops.toArray Q ops.toArray.size (Array.replicate ops.toArray.size false) a w.drew):(Code.region id ops.toArray true).wpIn (Fence.wide.inRound l) n P Q a w :=
 wpIn_region_any hm (anyIn_round (noDefer_all hnd) hno _ _ _ _ h)
theorem Tillst.round {id:Nat} {ops:List Oper} {a:Act} {w:World} (S:World→Prop) (st:List Nat) (hnd:ops.all noDefer=true) (hm:P.follows .mixedOrders=true) (hno:LetsOut Q→False) (hS:S w.drew)
 (h:S w.drew→Tillst P .any ops.toArray Q S st ops.toArray.size (Array.replicate ops.toArray.size false) a w.drew):(Code.region id ops.toArray true).wpIn (Fence.wide.inRound l) n P Q a w :=
 region_anyR hnd hm hno (Tillst.any _ _ _ _ (h hS))
def NoPO (Q:Exit→Act→World→Prop):Exit→Act→World→Prop
 | .panic _,_,_=>False
 | .outgrown,_,_=>False
 | e,a,w=>Q e a w
theorem NoPO.imp:∀ (e:Exit) (a:Act) (w:World),NoPO Q e a w→Q e a w:=fun e a w h=>by cases e <;> first | exact h | exact h.elim
theorem Tillst.calm {id:Nat} {ops:List Oper} {a:Act} {w:World} (S:World→Prop) (st:List Nat) (hnd:ops.all noDefer=true) (hm:P.follows .mixedOrders=true) (hS:S w.drew)
 (h:S w.drew→Tillst P .any ops.toArray (NoPO Q) S st ops.toArray.size (Array.replicate ops.toArray.size false) a w.drew):(Code.region id ops.toArray true).wpIn (Fence.wide.inRound l) n P Q a w :=
 wpIn_mono (Tillst.round (Q:=NoPO Q) S st hnd hm (fun ⟨_,_,h⟩=>h) hS h) NoPO.imp
end
end
section
abbrev Ent:=Int × Int × Int × Int
def entC (c:Nat→Int) (k:Nat):Ent:=(c (2+k),c (1027+k*3),c (1027+k*3+1),c (1027+k*3+2))
def inG (c:Nat→Int) (g k:Nat):Bool:=decide (c (2+k) % 1024=(g:Int))
structure RepX (c:Nat→Int) (slots:Nat) (L fr:List Nat):Prop where
 s0:c 0=slots
 n:c 1=L.length
 top:slots≤1024
 nd:(L++fr).Nodup
 mem:∀ k∈L++fr,1≤k∧k≤slots
 all:L.length+fr.length=slots
 free:Lk 4102 c (c 6151) fr
 ch:∀ g<1024,Lk 4102 c (c (5127+g)) ((L.filter (inG c g)).reverse)
 lat:Lk 6152 c (c 6152) L
 ear:Lk 7177 c (c 7177) L.reverse
 fin:∀ k∈L,0≤c (2+k)∧c (2+k)<4294967296
 one:(L.map (entC c)).Nodup
theorem inj_of {f:Nat→Ent}:∀ {L:List Nat},(L.map f).Nodup→∀ {i j:Nat},i∈L→j∈L→f i=f j→i=j
 | x::L,h,i,j,hi,hj,e=>by
  obtain ⟨h1,h2⟩:=List.nodup_cons.1 h
  rcases List.mem_cons.1 hi with rfl | hi <;> rcases List.mem_cons.1 hj with rfl | hj
  ·rfl
  ·exact (h1 (List.mem_map.2 ⟨j,by assumption,e.symm⟩)).elim
  ·exact (h1 (List.mem_map.2 ⟨i,by assumption,e⟩)).elim
  ·exact inj_of h2 (by assumption) (by assumption) e
theorem RepX.inj {c:Nat→Int} {slots:Nat} {L fr:List Nat} (h:RepX c slots L fr) {i j:Nat} (hi:i∈L) (hj:j∈L) (e:entC c i=entC c j):i=j:=by
 exact inj_of h.one hi hj e
theorem RepX.ndL {c:Nat→Int} {slots:Nat} {L fr:List Nat} (h:RepX c slots L fr):L.Nodup:=(List.nodup_append.1 h.nd).1
theorem RepX.ndF {c:Nat→Int} {slots:Nat} {L fr:List Nat} (h:RepX c slots L fr):fr.Nodup:=(List.nodup_append.1 h.nd).2.1
theorem RepX.apart {c:Nat→Int} {slots:Nat} {L fr:List Nat} (h:RepX c slots L fr) {k:Nat} (h1:k∈L) (h2:k∈fr):False:=(List.nodup_append.1 h.nd).2.2 k h1 k h2 rfl
theorem RepX.memL {c:Nat→Int} {slots:Nat} {L fr:List Nat} (h:RepX c slots L fr) {k:Nat} (h1:k∈L):1≤k∧k<1025:=by
 have:=h.mem k (List.mem_append.2 (.inl h1)); have:=h.top; omega
theorem RepX.memF {c:Nat→Int} {slots:Nat} {L fr:List Nat} (h:RepX c slots L fr) {k:Nat} (h1:k∈fr):1≤k∧k<1025:=by
 have:=h.mem k (List.mem_append.2 (.inr h1)); have:=h.top; omega
def addC (c:Nat→Int) (k g l:Nat) (e:Ent):Nat→Int :=
 let c1:=upd c 6151 (c (4102+k))
 let c2:=upd (upd (upd (upd c1 (2+k) e.1) (1027+k*3) e.2.1) (1027+k*3+1) e.2.2.1) (1027+k*3+2) e.2.2.2
 let c3:=upd (upd c2 (4102+k) (c2 (5127+g))) (5127+g) k
 let c4:=upd (upd (upd (upd c3 (7177+k) l) (6152+k) 0) (6152+l) k) 7177 k
 upd c4 1 (c4 1+1)
theorem last_of {c:Nat→Int} {L:List Nat} (h:Lk 7177 c (c 7177) L.reverse):∃ l:Nat,c 7177=l∧6152+l=endC 6152 6152 L∧(l=0∨l∈L):=by
 rcases List.eq_nil_or_concat L with rfl | ⟨L',j,rfl⟩
 ·exact ⟨0,h,rfl,.inl rfl⟩
 ·simp only[List.concat_eq_append,List.reverse_append,List.reverse_cons,List.reverse_nil,List.nil_append,List.singleton_append] at h ⊢
  exact ⟨j,h.1,by rw[endC_snoc],.inr (by simp)⟩
theorem addC_ent {c:Nat→Int} {k g l:Nat} {e:Ent} (hk:k<1025) (hg:g<1024) (hl:l<1025):entC (addC c k g l e) k=e:=by
 obtain ⟨a,b,d,f⟩:=e
 simp (disch:=omega) only[entC,addC,upd_same,upd_far]
theorem addC_far {c:Nat→Int} {k g l:Nat} {e:Ent} (hk:k<1025) (hg:g<1024) (hl:l<1025) {j:Nat} (hj:j<1025) (hjk:j≠k):entC (addC c k g l e) j=entC c j∧addC c k g l e (2+j)=c (2+j):=by
 simp (disch:=omega) only[entC,addC,upd_same,upd_far]
 exact ⟨trivial,trivial⟩
theorem addC_rep {c:Nat→Int} {slots:Nat} {L fr:List Nat} {k l g:Nat} {e:Ent} (h:RepX c slots L (k::fr)) (hl:c 7177=l) (hg:e.1 % 1024=(g:Int)) (hf:0≤e.1∧e.1<4294967296) (he:e ∉ L.map (entC c)) :
 RepX (addC c k g l e) slots (L++[k]) fr:=by
 obtain ⟨l',hl',hel,hll⟩:=last_of h.ear
 obtain rfl:l=l':=by omega
 have hk:=h.memF (List.mem_cons_self ..)
 have hg':g<1024:=by omega
 have hlt:l<1025:=by
  rcases hll with rfl | hll
  ·omega
  ·exact (h.memL hll).2
 have hkL:k ∉ L:=fun hm=>h.apart hm (List.mem_cons_self ..)
 have hlk:l≠k:=by
  rcases hll with rfl | hll
  ·omega
  ·exact fun e=>hkL (e▸hll)
 have hE:=addC_ent (c:=c) (e:=e) hk.2 hg' hlt
 have hFar:∀ j∈L,entC (addC c k g l e) j=entC c j∧addC c k g l e (2+j)=c (2+j):=fun j hj=>addC_far hk.2 hg' hlt (h.memL hj).2 (fun e=>hkL (e▸hj))
 have h2k:addC c k g l e (2+k)=e.1:=congrArg (·.1) hE
 have hmap:(L++[k]).map (entC (addC c k g l e))=L.map (entC c)++[e]:=by
  rw[List.map_append,List.map_congr_left (fun j hj=>(hFar j hj).1)]
  simp[hE]
 have hfil:∀ g',L.filter (inG (addC c k g l e) g')=L.filter (inG c g'):=fun g'=>List.filter_congr fun j hj=>by unfold inG; rw[(hFar j hj).2]
 have hkf:k ∉ fr:=(List.nodup_cons.1 h.ndF).1
 constructor
 ·show addC c k g l e 0=slots
  simp (disch:=omega) only[addC,upd_same,upd_far]
  exact h.s0
 ·show addC c k g l e 1=((L++[k]).length:Int)
  simp (disch:=omega) only[addC,upd_same,upd_far]
  have:=h.n
  simp; omega
 ·exact h.top
 ·have:=h.nd
  rw[List.append_assoc]
  exact this
 ·intro j hj
  exact h.mem j (by simpa using hj)
 ·have:=h.all
  simp at this ⊢; omega
 ·have h1:=h.free.2.2.2
  have e1:addC c k g l e 6151=c (4102+k):=by simp (disch:=omega) only[addC,upd_same,upd_far]
  rw[e1]
  refine h1.congr fun j hj=>?_
  have:=h.memF (List.mem_cons_of_mem _ hj)
  have:j≠k:=fun e=>hkf (e▸hj)
  simp (disch:=omega) only[addC,upd_same,upd_far]
 ·intro g' hg1
  rw[List.filter_append,hfil]
  by_cases hgg:g'=g
  ·subst hgg
   have e0:[k].filter (inG (addC c k g' l e) g')=[k]:=by simp[inG,h2k,hg]
   rw[e0,List.reverse_append]
   have e1:addC c k g' l e (5127+g')=k:=by simp (disch:=omega) only[addC,upd_same,upd_far]
   have e2:addC c k g' l e (4102+k)=c (5127+g'):=by simp (disch:=omega) only[addC,upd_same,upd_far]
   rw[e1]
   refine ⟨rfl,hk.1,hk.2,?_⟩
   rw[e2]
   refine (h.ch g' hg').congr fun j hj=>?_
   have hj':j∈L:=(List.mem_filter.1 (List.mem_reverse.1 hj)).1
   have:=h.memL hj'
   have:j≠k:=fun e=>hkL (e▸hj')
   simp (disch:=omega) only[addC,upd_same,upd_far]
  ·have e0:[k].filter (inG (addC c k g l e) g')=[]:=by
    simp[inG,h2k,hg]
    omega
   rw[e0,List.append_nil]
   have e1:addC c k g l e (5127+g')=c (5127+g'):=by simp (disch:=omega) only[addC,upd_same,upd_far]
   rw[e1]
   refine (h.ch g' hg1).congr fun j hj=>?_
   have hj':j∈L:=(List.mem_filter.1 (List.mem_reverse.1 hj)).1
   have:=h.memL hj'
   have:j≠k:=fun e=>hkL (e▸hj')
   simp (disch:=omega) only[addC,upd_same,upd_far]
 ·have hp:=Lk.put (b:=6152) (c:=c) (k:=k) (p:=6152) h.lat h.ndL hkL hk.1 hk.2 (fun j hj=>by have:=h.memL hj; omega) (by omega)
  rw[← hel] at hp
  have e1:addC c k g l e 6152=upd (upd c (6152+k) 0) (6152+l) k 6152:=by
   by_cases h0:l=0
   ·subst h0
    simp (disch:=omega) only[addC,upd_same,upd_far,Nat.add_zero]
   ·simp (disch:=omega) only[addC,upd_same,upd_far]
  rw[e1]
  refine hp.congr fun j hj=>?_
  have hj1:j<1025∧1≤j:=by
   rcases List.mem_append.1 hj with hj | hj
   ·exact ⟨(h.memL hj).2,(h.memL hj).1⟩
   ·have:j=k:=by simpa using hj
    omega
  by_cases h1:j=l
  ·subst h1
   simp (disch:=omega) only[addC,upd_same,upd_far]
  ·by_cases h2:j=k
   ·subst h2
    simp (disch:=omega) only[addC,upd_same,upd_far]
   ·simp (disch:=omega) only[addC,upd_same,upd_far]
 ·have e1:addC c k g l e 7177=k:=by simp (disch:=omega) only[addC,upd_same,upd_far]
  have e2:addC c k g l e (7177+k)=c 7177:=by rw[hl]; simp (disch:=omega) only[addC,upd_same,upd_far]
  rw[List.reverse_append,e1]
  refine ⟨rfl,hk.1,hk.2,?_⟩
  rw[e2]
  refine h.ear.congr fun j hj=>?_
  have hj':j∈L:=List.mem_reverse.1 hj
  have:=h.memL hj'
  have:j≠k:=fun e=>hkL (e▸hj')
  simp (disch:=omega) only[addC,upd_same,upd_far]
 ·intro j hj
  rcases List.mem_append.1 hj with hj | hj
  ·rw[(hFar j hj).2]; exact h.fin j hj
  ·obtain rfl:j=k:=by simpa using hj
   rw[h2k]; exact hf
 ·rw[hmap]
  refine List.nodup_append.2 ⟨h.one,by simp,?_⟩
  rintro a ha b hb rfl
  obtain rfl:a=e:=by simpa using hb
  exact he ha
def outC (c:Nat→Int) (k p b d:Nat):Nat→Int :=
 let c1:=upd c p (c (4102+k))
 let c2:=upd (upd c1 (6152+b) d) (7177+d) b
 let c3:=upd (upd (upd (upd c2 (2+k) 0) (1027+k*3) 0) (1027+k*3+1) 0) (1027+k*3+2) 0
 let c4:=upd (upd c3 (4102+k) (c3 6151)) 6151 k
 upd c4 1 (c4 1-1)
theorem next_of {b:Nat} {c:Nat→Int} {pre post:List Nat} {k:Nat} (h:Lk b c (c b) (pre++k::post)):Lk b c (c (b+k)) post:=(h.behind (pre:=pre)).2.2.2
theorem head_of {b:Nat} {c:Nat→Int} {s:Int} {b':Nat}:∀ {l:List Nat},Lk b c s l→∃ d:Nat,s=d∧b'+d=endC b' b' l.reverse∧(d=0∨d∈l)
 | [],h=>⟨0,h,rfl,.inl rfl⟩
 | j::l,h=>⟨j,h.1,by rw[List.reverse_cons,endC_snoc],.inr (List.mem_cons_self ..)⟩
theorem mem_split {k:Nat} {L:List Nat} (hk:k∈L):∃ pre post,L=pre++k::post:=List.append_of_mem hk
theorem filter_rev_split {f:Nat→Bool} {pre post:List Nat} {k:Nat} (hf:f k=true):((pre++k::post).filter f).reverse=(post.filter f).reverse++k::(pre.filter f).reverse:=by
 simp[hf]
theorem filter_rev_gone {f:Nat→Bool} {pre post:List Nat}:((pre++post).filter f).reverse=(post.filter f).reverse++(pre.filter f).reverse:=by simp
structure OutAt (c:Nat→Int) (L:List Nat) (pre post:List Nat) (k g p b d:Nat):Prop where
 eL:L=pre++k::post
 eg:inG c g k=true
 ep:p=endC 4102 (5127+g) ((post.filter (inG c g)).reverse)
 eb:c (7177+k)=b
 b1:6152+b=endC 6152 6152 pre
 b2:b=0∨b∈pre
 ed:c (6152+k)=d
 d1:7177+d=endC 7177 7177 post.reverse
 d2:d=0∨d∈post
theorem outAt {c:Nat→Int} {slots:Nat} {L fr:List Nat} {k:Nat} (h:RepX c slots L fr) (hk:k∈L) {g:Nat} (hg:inG c g k=true):∃ pre post p b d,OutAt c L pre post k g p b d:=by
 obtain ⟨pre,post,rfl⟩:=mem_split hk
 obtain ⟨d,hd,hd1,hd2⟩:=head_of (b':=7177) (next_of h.lat)
 have he:=h.ear
 rw[show (pre++k::post).reverse=post.reverse++k::pre.reverse by simp] at he
 obtain ⟨b,hb,hb1,hb2⟩:=head_of (b':=6152) (next_of he)
 rw[List.reverse_reverse] at hb1
 exact ⟨pre,post,_,b,d,rfl,hg,rfl,hb,hb1,by simpa using hb2,hd,hd1,hd2⟩
theorem outC_rep {c:Nat→Int} {slots:Nat} {L fr pre post:List Nat} {k g p b d:Nat} (h:RepX c slots L fr) (ho:OutAt c L pre post k g p b d) :
 RepX (outC c k p b d) slots (pre++post) (k::fr)∧(∀ j∈pre++post,entC (outC c k p b d) j=entC c j∧outC c k p b d (2+j)=c (2+j)):=by
 obtain ⟨rfl,hg,hp,hb,hb1,hb2,hd,hd1,hd2⟩:=ho
 have hkm:k∈pre++k::post:=by simp
 have hk:=h.memL hkm
 have hnd:=h.ndL
 have hkp:k ∉ pre++post:=by
  have:=hnd
  rw[List.nodup_append] at this
  obtain ⟨h1,h2,h3⟩:=this
  have h4:=(List.nodup_cons.1 h2).1
  intro hm
  rcases List.mem_append.1 hm with hm | hm
  ·exact h3 k hm k (List.mem_cons_self ..) rfl
  ·exact h4 hm
 have hsub:∀ j∈pre++post,j∈pre++k::post:=fun j hj=>by
  rcases List.mem_append.1 hj with hj | hj
  ·exact List.mem_append.2 (.inl hj)
  ·exact List.mem_append.2 (.inr (List.mem_cons_of_mem _ hj))
 have hnd2:(pre++post).Nodup:=by
  have:=hnd
  rw[List.nodup_append] at this ⊢
  obtain ⟨h1,h2,h3⟩:=this
  exact ⟨h1,(List.nodup_cons.1 h2).2,fun a ha b hb=>h3 a ha b (List.mem_cons_of_mem _ hb)⟩
 have hblt:b<1025∧b≠k:=by
  rcases hb2 with rfl | hb2
  ·omega
  ·have hm:=List.mem_append.2 (.inl hb2:b∈pre∨b∈post)
   exact ⟨(h.memL (hsub b hm)).2,fun e=>hkp (e▸hm)⟩
 have hdlt:d<1025∧d≠k:=by
  rcases hd2 with rfl | hd2
  ·omega
  ·have hm:=List.mem_append.2 (.inr hd2:d∈pre∨d∈post)
   exact ⟨(h.memL (hsub d hm)).2,fun e=>hkp (e▸hm)⟩
 have hgk:c (2+k) % 1024=(g:Int):=by simpa [inG] using hg
 have hg':g<1024:=by omega
 have hpm:p=5127+g∨∃ j,(j∈post∧inG c g j=true)∧p=4102+j:=by
  rw[hp]
  rcases endC_mem 4102 (5127+g) ((post.filter (inG c g)).reverse) with e | ⟨j,hj,e⟩
  ·exact .inl e
  ·have:=List.mem_filter.1 (List.mem_reverse.1 hj)
   exact .inr ⟨j,this,e⟩
 have hpr:4102<p∧p<6151∧p≠4102+k:=by
  rcases hpm with e | ⟨j,⟨hj,-⟩,e⟩
  ·omega
  ·have hm:j∈pre++post:=List.mem_append.2 (.inr hj)
   have:=h.memL (hsub j hm)
   have:j≠k:=fun e=>hkp (e▸hm)
   omega
 have hfar:∀ j∈pre++post,entC (outC c k p b d) j=entC c j∧outC c k p b d (2+j)=c (2+j):=fun j hj=>by
  have:=h.memL (hsub j hj)
  have:j≠k:=fun e=>hkp (e▸hj)
  simp (disch:=omega) only[entC,outC,upd_same,upd_far]
  exact ⟨trivial,trivial⟩
 have hfil:∀ g',(pre++post).filter (inG (outC c k p b d) g')=(pre++post).filter (inG c g'):=fun g'=>List.filter_congr fun j hj=>by unfold inG; rw[(hfar j hj).2]
 refine ⟨?_,hfar⟩
 constructor
 ·simp (disch:=omega) only[outC,upd_same,upd_far]
  exact h.s0
 ·have:=h.n
  simp (disch:=omega) only[outC,upd_same,upd_far]
  simp at this ⊢; omega
 ·exact h.top
 ·have h1:=h.nd
  refine List.nodup_append.2 ⟨hnd2,List.nodup_cons.2 ⟨fun hm=>h.apart hkm hm,h.ndF⟩,?_⟩
  rintro a ha b hb rfl
  rcases List.mem_cons.1 hb with rfl | hb
  ·exact hkp ha
  ·exact h.apart (hsub a ha) hb
 ·intro j hj
  refine h.mem j ?_
  simp at hj ⊢
  rcases hj with hj | hj | hj | hj
  ·exact .inl hj
  ·exact .inr (.inr (.inl hj))
  ·exact .inr (.inl hj)
  ·exact .inr (.inr (.inr hj))
 ·have:=h.all
  simp at this ⊢; omega
 ·have e1:outC c k p b d 6151=k:=by simp (disch:=omega) only[outC,upd_same,upd_far]
  have e2:outC c k p b d (4102+k)=c 6151:=by simp (disch:=omega) only[outC,upd_same,upd_far]
  rw[e1]
  refine ⟨rfl,hk.1,hk.2,?_⟩
  rw[e2]
  refine h.free.congr fun j hj=>?_
  have h1:=h.memF hj
  have h2:j≠k:=fun e=>h.apart hkm (e▸hj)
  have h3:4102+j≠p:=by
   rcases hpm with e | ⟨i,⟨hi,-⟩,e⟩
   ·omega
   ·have:i≠j:=fun e=>h.apart (hsub i (List.mem_append.2 (.inr hi))) (e▸hj)
    omega
  simp (disch:=omega) only[outC,upd_same,upd_far]
 ·intro g' hg1
  rw[hfil]
  have hch:=h.ch g' hg1
  by_cases hgg:g'=g
  ·subst hgg
   rw[filter_rev_split hg] at hch
   have hcut:=Lk.cut hch (by
    have h1:=List.Pairwise.filter (inG c g') hnd
    have h2:=(List.reverse_perm _).nodup_iff.2 h1
    rw[filter_rev_split hg] at h2
    exact h2) (fun j hj=>by
     rw[← filter_rev_split hg] at hj
     have:=h.memL (List.mem_filter.1 (List.mem_reverse.1 hj)).1
     omega)
   rw[← hp,← filter_rev_gone] at hcut
   have e1:outC c k p b d (5127+g')=upd c p (c (4102+k)) (5127+g'):=by simp (disch:=omega) only[outC,upd_far]
   rw[e1]
   refine hcut.congr fun j hj=>?_
   have hj':=(List.mem_filter.1 (List.mem_reverse.1 hj)).1
   have:=h.memL (hsub j hj')
   have:j≠k:=fun e=>hkp (e▸hj')
   simp (disch:=omega) only[outC,upd_far]
  ·have e0:inG c g' k=false:=by simp[inG,hgk]; omega
   have e4:(pre++k::post).filter (inG c g')=(pre++post).filter (inG c g'):=by simp[e0]
   rw[e4] at hch
   have e5:5127+g'≠p:=by
    rcases hpm with e | ⟨i,⟨hi,-⟩,e⟩
    ·omega
    ·have:=h.memL (hsub i (List.mem_append.2 (.inr hi)))
     omega
   have e1:outC c k p b d (5127+g')=c (5127+g'):=by simp (disch:=omega) only[outC,upd_far]
   rw[e1]
   refine hch.congr fun j hj=>?_
   obtain ⟨hj',hjg⟩:=List.mem_filter.1 (List.mem_reverse.1 hj)
   have h1:=h.memL (hsub j hj')
   have h2:j≠k:=fun e=>hkp (e▸hj')
   have h3:4102+j≠p:=by
    rcases hpm with e | ⟨i,⟨hi,hig⟩,e⟩
    ·omega
    ·have:i≠j:=by
      rintro rfl
      simp[inG] at hjg hig
      omega
     omega
   simp (disch:=omega) only[outC,upd_far]
 ·have hcut:=Lk.cut h.lat hnd (fun j hj=>by have:=h.memL hj; omega)
  rw[← hb1,hd] at hcut
  have e1:outC c k p b d 6152=upd c (6152+b) d 6152:=by
   by_cases h0:b=0
   ·subst h0
    simp (disch:=omega) only[outC,upd_same,upd_far,Nat.add_zero]
   ·simp (disch:=omega) only[outC,upd_far]
  rw[e1]
  refine hcut.congr fun j hj=>?_
  have:=h.memL (hsub j hj)
  by_cases h1:j=b
  ·subst h1
   simp (disch:=omega) only[outC,upd_same,upd_far]
  ·simp (disch:=omega) only[outC,upd_far]
 ·have he:=h.ear
  rw[show (pre++k::post).reverse=post.reverse++k::pre.reverse by simp] at he
  have hcut:=Lk.cut he (by
   have h2:=(List.reverse_perm _).nodup_iff.2 hnd
   simpa using h2) (fun j hj => by
    have := h.memL (k := j) (by simp at hj ⊢; rcases hj with hj | hj | hj
                                ·exact .inr (.inr hj)
                                ·exact .inr (.inl hj)
                                ·exact .inl hj)
    omega)
  rw[← hd1,hb,← List.reverse_append] at hcut
  have e1:outC c k p b d 7177=upd c (7177+d) b 7177:=by
   by_cases h0:d=0
   ·subst h0
    simp (disch:=omega) only[outC,upd_same,upd_far,Nat.add_zero]
   ·simp (disch:=omega) only[outC,upd_far]
  rw[e1]
  refine hcut.congr fun j hj=>?_
  have:=h.memL (hsub j (List.mem_reverse.1 hj))
  by_cases h1:j=d
  ·subst h1
   simp (disch:=omega) only[outC,upd_same,upd_far]
  ·simp (disch:=omega) only[outC,upd_far]
 ·intro j hj
  rw[(hfar j hj).2]
  exact h.fin j (hsub j hj)
 ·rw[List.map_congr_left (fun j hj=>(hfar j hj).1)]
  have:=h.one
  simp only[List.map_append,List.map_cons] at this ⊢
  rw[List.nodup_append] at this ⊢
  obtain ⟨h1,h2,h3⟩:=this
  exact ⟨h1,(List.nodup_cons.1 h2).2,fun a ha b hb=>h3 a ha b (List.mem_cons_of_mem _ hb)⟩
end
section
theorem blk_own_x {β:Type} (g:Nat) (t:TypeId) (f:β→Array Value):Own (fun s W=>Blk W g t (f s)):=fun s X Y row hs hg hrow =>
 hs.grown hg (fun e=>by obtain ⟨o,ho,hc⟩:=hrow g e.symm; rw[show X.heap[g]? = _ from hs] at ho; cases ho; cases hc)
theorem own_pure {β:Type} {B:Nat} (p:β→Prop):OwnFrom B (fun (i:β) (_:World)=>p i):=fun _ _ _ _ hs _ _=>hs
theorem keeps_drewN_x (W:World) (n:Nat):KeepsOthers W (W.drewN n):=⟨nR _,fun _ _ h _=>h⟩
theorem ownsRow_grown {w w':World} {row:Option Nat} {base size n:Nat} {e:TypeId} {v:Value} {xs:List Value} (h:w.ownsRow base e size v n xs) (hg:w.grownBy w' row) (hr:∀ g,v.ownBlock=some g→row≠some g):w'.ownsRow base e size v n xs:=by
 rcases h.2 with h0 | ⟨g,cap,cur,rfl,hb,hh,rest⟩
 ·exact ⟨h.1,.inl h0⟩
 ·refine ⟨h.1,.inr ⟨g,cap,cur,rfl,hb,?_,rest⟩⟩
  rw[hg.block g (Array.getElem?_eq_some_iff.1 hh).1 (fun e=>hr g rfl e.symm)]
  exact hh
theorem ownsRow_block {w:World} {base size n g:Nat} {e:TypeId} {v:Value} {xs:List Value} (h:w.ownsRow base e size v n xs) (hv:v.ownBlock=some g):∃ cur,w.heap[g]? = some (.cells cur e (0,0))∧base≤g:=by
 rcases h.2 with ⟨rfl,_⟩ | ⟨g',cap,cur,rfl,hb,hh,rest⟩
 ·simp[Value.ownBlock] at hv
 ·have:g'=g:=by simpa [Value.ownBlock] using hv
  subst this
  exact ⟨cur,hh,hb⟩
theorem ownsRow_slice {w:World} {base size n:Nat} {e:TypeId} {v:Value} {xs:List Value} (h:w.ownsRow base e size v n xs):∃ A cap,v=.slice A n cap:=by
 rcases h.2 with ⟨rfl,rfl⟩ | ⟨g',cap,cur,rfl,_⟩
 ·exact ⟨_,_,rfl⟩
 ·exact ⟨_,_,rfl⟩
def VarO (g:Nat) (tv e:TypeId) (size base:Nat) (v:Value) (n:Nat) (xs:List Value) (W:World):Prop:=Blk W g tv #[v]∧W.ownsRow base e size v n xs
theorem own_varO {β:Type} (g:Nat) (tv e:TypeId) (size base:Nat) (f:β→Nat) (xs:β→List Value):Own (fun s W=>∃ v,VarO g tv e size base v (f s) (xs s) W):=fun s X Y row ⟨v,hb,ho⟩ hg hrow =>
 ⟨v,blk_own_x g tv (fun _:Unit=>#[v]) () X Y row hb hg hrow,ownsRow_grown ho hg (fun k hk e=>by
  obtain ⟨cur,hc,_⟩:=ownsRow_block ho hk
  obtain ⟨o,h1,h2⟩:=hrow k e
  rw[hc] at h1
  cases h1
  cases h2)⟩
theorem blk_past {w w':World} {base size n g:Nat} {e t:TypeId} {v:Value} {xs:List Value} {cs:Array Value} (hb:Blk w g t cs) (ho:w.ownsRow base e size v n xs) (hne:t≠e) (hg:w.grownBy w' v.ownBlock):Blk w' g t cs :=
 hb.grown hg (fun h=>by
  obtain ⟨cur,hc,_⟩:=ownsRow_block ho h.symm
  rw[show w.heap[g]? = _ from hb] at hc
  cases hc
  exact hne rfl)
theorem grown_drewalloc (w:World) (o:Obj):w.grownBy (w.drew.alloc o) none :=
 ⟨rfl,rfl,rfl,by rw[World.size_alloc]; exact Nat.le_succ _,fun k hk _=>((Below.refl w.heap.size w).drew.alloc (nR _) o).block k hk⟩
theorem own_past {w:World} {base size n g:Nat} {e t:TypeId} {v:Value} {xs:List Value} {cs:Array Value} (ho:w.ownsRow base e size v n xs) (hb:Blk w g t cs) (hne:t≠e) (i:Nat) (u:Value):(w.setCell ⟨g,i,none⟩ u).ownsRow base e size v n xs:=by
 rcases ho.2 with h0 | ⟨g',cap,cur,rfl,hbs,hh,rest⟩
 ·exact ⟨ho.1,.inl h0⟩
 ·refine ⟨ho.1,.inr ⟨g',cap,cur,rfl,hbs,?_,rest⟩⟩
  have:g'≠g:=by
   rintro rfl
   rw[show w.heap[g']? = _ from hb] at hh
   cases hh
   exact hne rfl
  rw[Below.heap_setCell _ _ _ g' this]
  exact hh
theorem keeps_append {w w':World} {base size n:Nat} {e:TypeId} {v:Value} {xs:List Value} (ho:w.ownsRow base e size v n xs) (hg:w.grownBy w' v.ownBlock):KeepsOthers w w' :=
 ⟨hg.size,fun k o hk hc=>(hg.block k (Array.getElem?_eq_some_iff.1 hk).1 (fun h=>by
  obtain ⟨cur,hh,_⟩:=ownsRow_block ho h.symm
  rw[hk] at hh
  cases hh
  cases hc)).trans hk⟩
theorem below_append {a w w':World} {B base size n:Nat} {e:TypeId} {v:Value} {xs:List Value} (hb:Below B a w) (ho:w.ownsRow base e size v n xs) (hB:B≤base) (hBw:B≤w.heap.size) (hg:w.grownBy w' v.ownBlock):Below B a w' :=
 hb.grown hg hBw (fun k hk=>by obtain ⟨_,_,h⟩:=ownsRow_block ho hk; omega)
def MarksR_x (m:Nat) (Ds:List Nat) (W:World):Prop:=Ds.Nodup∧∀ D,D∈Ds→m≤D∧D<W.heap.size∧W.heap[D]? = some (.deferred (some []))
theorem MarksR_x.nil (m:Nat) (W:World):MarksR_x m [] W:=⟨List.nodup_nil,fun D h=>by cases h⟩
theorem MarksR_x.below {m:Nat} {Ds:List Nat} {W W':World} (h:MarksR_x m Ds W) (hb:Below W.heap.size W W'):MarksR_x m Ds W' :=
 ⟨h.1,fun D hD=>by obtain ⟨h1,h2,h3⟩:=h.2 D hD; exact ⟨h1,nL h2 hb.size,by rw[hb.block D h2]; exact h3⟩⟩
theorem MarksR_x.cons {m D:Nat} {Ds:List Nat} {W W':World} (h:MarksR_x m Ds W) (hb:Below W.heap.size W W') (hD:W.heap.size≤D) (hm:m≤D) (hk:W'.heap[D]? = some (.deferred (some []))):MarksR_x m (D::Ds) W':=by
 have h2:=h.below hb
 refine ⟨List.nodup_cons.2 ⟨fun hin=>?_,h.1⟩,fun D' hD'=>?_⟩
 ·have:=(h.2 D hin).2.1
  omega
 ·rcases List.mem_cons.1 hD' with rfl | h3
  ·exact ⟨hm,(Array.getElem?_eq_some_iff.1 hk).1,hk⟩
  ·exact h2.2 D' h3
end
section
theorem eql_adr (a b c a' b' c':Int) (w:World):(binOp .eql 35 (.agg #[.int .i64 a,.int .u64 b,.int .i64 c]) (.agg #[.int .i64 a',.int .u64 b',.int .i64 c'])).run Tryz.prog w=.ok (.bool (decide ((a,b,c)=(a',b',c')))) w:=by
 by_cases h0:a=a'
 case neg =>
  have e0:(a==a')=false:=by simpa using h0
  rw[show decide ((a,b,c)=(a',b',c'))=false from decide_eq_false (fun h=>h0 (by simp only[Prod.mk.injEq] at h; first | exact h.1 | exact h.2.1 | exact h.2.2))]
  go_simp
 subst h0
 by_cases h1:b=b'
 case neg =>
  have e1:(b==b')=false:=by simpa using h1
  rw[show decide ((a,b,c)=(a,b',c'))=false from decide_eq_false (fun h=>h1 (by simp only[Prod.mk.injEq] at h; first | exact h.1 | exact h.2.1 | exact h.2.2))]
  go_simp
 subst h1
 by_cases h2:c=c'
 case neg =>
  have e2:(c==c')=false:=by simpa using h2
  rw[show decide ((a,b,c)=(a,b,c'))=false from decide_eq_false (fun h=>h2 (by simp only[Prod.mk.injEq] at h; first | exact h.1 | exact h.2.1 | exact h.2.2))]
  go_simp
 subst h2
 rw[show decide ((a,b,c)=(a,b,c))=true from decide_eq_true rfl]
 go_simp
end
end Go.Proofs.YtdkbpchmnhbhcaaGreat
