/- Texts of StoreKeeps, packed. -/
import Derived.Test.YtdkbpchmnhbhcaaGreatPackStoreKeeps9
import Derived.Lib.Hide
import Derived.Deep.RegionHeld3
import Derived.RangeFuncNested
import Derived.RangeFuncLeaves
import Derived.RangeFuncFrom
import Derived.RangeFuncBound
import Derived.Shelf.Abstract
import Derived.Shelf.RegionOpen
import Derived.WalkKit
import Derived.OwnWalkIn
import Derived.TacticsInMore
import Derived.LoopNIn
import Derived.LoopIn
import Derived.Scope
import Derived.ControlIn
import Derived.Sort.QuietIn
import Derived.OrdersIn
import Derived.TacticsIn
import Derived.RangeFuncKeeps
import Derived.RangeFuncOwn
set_option linter.unusedVariables false
set_option linter.unusedSimpArgs false
set_option maxRecDepth 100000
set_option maxHeartbeats 16000000
namespace Go.Proofs.YtdkbpchmnhbhcaaGreat
open Go.RowKit
section
section
variable {P:Program} {ops:Array Oper} {Q:Exit→Act→World→Prop} {md:Region.Mode} {S:World→Prop} {st:List Nat}
def QJ (md:Region.Mode) (ops:Array Oper) (l:Array Bool):Prop:=∀ s o,ops[s]? = some o→l.getD s false=true→∀ e∈o.after,Region.binds md e=true→l.getD e.on false=true
def zBW (md:Region.Mode) (ops:Array Oper) (l:Array Bool):Bool:=(List.range ops.size).all fun s=>match ops[s]? with
 | none=>true
 | some o=>!(l.getD s false)||o.after.all fun e=>!(Region.binds md e)||l.getD e.on false
theorem SG {l:Array Bool} (h:zBW md ops l=true):QJ md ops l:=by
 intro s o ho hs e he hb
 have hlt:s<ops.size:=(Array.getElem?_eq_some_iff.1 ho).1
 have h1:=List.all_eq_true.1 h s (List.mem_range.2 hlt)
 simp only[ho,hs,Bool.not_true,Bool.false_or] at h1
 have h2:=Array.all_eq_true'.1 h1 e he
 simpa [hb] using h2
theorem QJ.set {l:Array Bool} {i:Nat} (h:QJ md ops l) (hi:i∈Region.ready md ops l):QJ md ops (l.setIfInBounds i true):=by
 intro s o ho hs e he hb
 have key:l.getD e.on false=true:=by
  obtain ⟨hun,oi,hoi,hall⟩:=mem_ready.1 hi
  by_cases hsi:i=s
  ·subst hsi
   rw[hoi] at ho
   injection ho with ho
   subst ho
   exact hall e he hb
  ·rw[getD_set_ne false hsi] at hs
   exact h s o ho hs e he hb
 by_cases hie:i=e.on
 ·rw[hie]
  have h1:=dP hi
  have hlt:e.on<l.size:=by
   rcases Nat.lt_or_ge e.on l.size with h' | h'
   ·exact h'
   ·simp[Array.getElem?_eq_none h'] at key
  simp[hlt]
 ·rw[getD_set_ne false hie]
  exact key
def reaches (md:Region.Mode) (ops:Array Oper):Nat→Nat→Nat→Bool
 | 0,_,_=>false
 | n+1,s,i=>match ops[s]? with
  | none=>false
  | some o=>o.after.any fun e=>Region.binds md e&&(e.on==i||reaches md ops n e.on i)
theorem iL {l:Array Bool} (hg:QJ md ops l) {i:Nat}:∀ (n s:Nat),(∀ o,ops[s]? = some o→∀ e∈o.after,Region.binds md e=true→l.getD e.on false=true)→reaches md ops n s i=true→l.getD i false=true
 | 0,_,_,h=>by cases h
 | n + 1, s, hs, h => by
  unfold reaches at h
  cases ho:ops[s]? with
  | none=>simp only[ho] at h; cases h
  | some o =>
   simp only[ho] at h
   obtain ⟨e,he,hb⟩:=Array.any_eq_true'.1 h
   rw[Bool.and_eq_true] at hb
   have h1:=hs o ho e he hb.1
   rcases Bool.or_eq_true_iff.1 hb.2 with h2 | h2
   ·rw[beq_iff_eq] at h2
    rwa [h2] at h1
   ·exact iL hg n e.on (fun o' ho' e' he' hb'=>hg e.on o' ho' h1 e' he' hb') h2
def uP (md:Region.Mode) (ops:Array Oper) (st:List Nat) (l:Array Bool) (i:Nat):Bool:=st.all fun s=>l.getD s false||reaches md ops ops.size s i
theorem TQ {l:Array Bool} {i j:Nat} (hw:uP md ops st l i=true) (hj:j<l.size):uP md ops st (l.setIfInBounds j true) i=true:=by
 unfold uP at *
 refine List.all_eq_true.2 fun s hs=>?_
 rcases Bool.or_eq_true_iff.1 (List.all_eq_true.1 hw s hs) with h | h
 ·refine Bool.or_eq_true_iff.2 (.inl ?_)
  by_cases e:j=s
  ·rw[e] at hj ⊢
   simp[hj]
  ·rw[getD_set_ne false e]
   exact h
 ·exact Bool.or_eq_true_iff.2 (.inr h)
theorem Ac {l:Array Bool} {j:Nat} (h:j∈Region.ready md ops l):j<l.size:=by
 have h0:=(mem_ready.1 h).1
 rcases Nat.lt_or_ge j l.size with h' | h'
 ·exact h'
 ·simp[Array.getElem?_eq_none h'] at h0
theorem LW {l:Array Bool} {i s:Nat} (hg:QJ md ops l) (hw:uP md ops st l i=true) (hun:l.getD i false=false) (hs:s∈st):s ∉ Region.ready md ops l:=by
 intro h
 have zMb:=dP h
 obtain ⟨_,o,ho,hall⟩:=mem_ready.1 h
 have h1:=List.all_eq_true.1 hw s hs
 rw[zMb,Bool.false_or] at h1
 have h2:=iL hg ops.size s (fun o' ho' e he hb=>by rw[ho] at ho'; injection ho' with ho'; subst ho'; exact hall e he hb) h1
 rw[hun] at h2
 cases h2
theorem zB.firstG {i:Nat} {oi:Oper} {v:Value} (hi:ops[i]? = some oi) (hsel:∀ (j:Nat) (o:Oper) cs b,ops[j]? = some o→o.op≠.select cs b) (hQ:∀ c a w,Q (.panic c) (a.put oi.dst v) w→Q (.panic c) a w)
 : ∀ (k:Nat) (l:Array Bool) (a:Act) (w:World),QJ md ops l→uP md ops st l i=true →
  (∀ j oj,ops[j]? = some oj→j≠i→l.getD j true=false→(∀ e∈oj.after,Region.binds md e=true→e.on≠i)→oi.apart ops oj=true) →
  i∈Region.ready md ops l→YieldsIf P ops S oi v a→S w→zB P md ops Q S st k (l.setIfInBounds i true) (a.put oi.dst v) w→zB P md ops Q S st (k+1) l a w:=by
 intro k
 induction k with
 | zero =>
  intro l a w _ _ _ hr hy hS H
  refine ⟨fun h=>(by rw[h] at hr; cases hr),fun j hj=>?_⟩
  by_cases e:j=i
  ·rw[e]
   exact hy.wpOp hi hS ⟨fun _=>hS,H⟩
  ·have:=ready_mono hj e
   rw[H.1] at this
   cases this
 | succ k ih =>
  intro l a w hgd hw hfree hr hy hS H
  have hun:=dP hr
  refine ⟨fun h=>(by rw[h] at hr; cases hr),fun j hj=>?_⟩
  by_cases e:j=i
  ·rw[e]
   exact hy.wpOp hi hS ⟨fun _=>hS,H⟩
  have IV:st.contains j=false:=by
   rcases h:st.contains j with _ | _
   ·rfl
   ·exact absurd hj (LW hgd hw hun (by simpa using h))
  obtain ⟨hjun,oj,hoj,hall⟩:=mem_ready.1 hj
  have hno:∀ e∈oj.after,Region.binds md e=true→e.on≠i:=fun e he hb heq=>by
   have:=hall e he hb
   rw[heq,hun] at this
   cases this
  have hput:=wpOp_putIf hoj (hfree j oj hoj e hjun hno) (fun cs b=>hsel i oi cs b hi) (fun cs b=>hsel j oj cs b hoj) hQ hy (H.2 j (ready_mono hj e))
  refine wpOp_mono (fun b u g=>?_) hput
  have UF:=g.2.1 IV
  refine ⟨fun _=>UF,ih (l.setIfInBounds j true) b u (hgd.set hj) (TQ hw (Ac hj)) (fun m om hm U4 JD DW=>?_) (ready_mono hr (Ne.symm e)) g.1 UF ?_⟩
  ·refine hfree m om hm U4 ?_ DW
   by_cases hjm:j=m
   ·rw[← hjm]; exact hjun
   ·rw[getD_set_ne true hjm] at JD; exact JD
  ·rw[Array.setIfInBounds_comm _ _ e]
   exact g.2.2
theorem zB.firstF {i:Nat} {oi:Oper} {v:Value} (hi:ops[i]? = some oi) (hsel:∀ (j:Nat) (o:Oper) cs b,ops[j]? = some o→o.op≠.select cs b) (hQ:∀ c a w,Q (.panic c) (a.put oi.dst v) w→Q (.panic c) a w)
 (hst:st.contains i=true):∀ (k:Nat) (l:Array Bool) (a:Act) (w:World),
  (∀ j oj,ops[j]? = some oj→j≠i→l.getD j true=false→(∀ e∈oj.after,Region.binds md e=true→e.on≠i)→oi.apart ops oj=true) →
  i∈Region.ready md ops l→YieldsIf P ops (fun _=>True) oi v a→zB P md ops Q S st k (l.setIfInBounds i true) (a.put oi.dst v) w→zB P md ops Q S st (k+1) l a w:=by
 intro k
 induction k with
 | zero =>
  intro l a w _ hr hy H
  refine ⟨fun h=>(by rw[h] at hr; cases hr),fun j hj=>?_⟩
  by_cases e:j=i
  ·rw[e]
   exact hy.wpOp hi trivial ⟨fun h=>(by rw[hst] at h; cases h),H⟩
  ·have:=ready_mono hj e
   rw[H.1] at this
   cases this
 | succ k ih =>
  intro l a w hfree hr hy H
  have hun:=dP hr
  refine ⟨fun h=>(by rw[h] at hr; cases hr),fun j hj=>?_⟩
  by_cases e:j=i
  ·rw[e]
   exact hy.wpOp hi trivial ⟨fun h=>(by rw[hst] at h; cases h),H⟩
  obtain ⟨hjun,oj,hoj,hall⟩:=mem_ready.1 hj
  have hno:∀ e∈oj.after,Region.binds md e=true→e.on≠i:=fun e he hb heq=>by
   have:=hall e he hb
   rw[heq,hun] at this
   cases this
  have hput:=wpOp_putIf hoj (hfree j oj hoj e hjun hno) (fun cs b=>hsel i oi cs b hi) (fun cs b=>hsel j oj cs b hoj) hQ hy (H.2 j (ready_mono hj e))
  refine wpOp_mono (fun b u g=>?_) hput
  refine ⟨g.2.1,ih (l.setIfInBounds j true) b u (fun m om hm U4 JD DW=>?_) (ready_mono hr (Ne.symm e)) g.1 ?_⟩
  ·refine hfree m om hm U4 ?_ DW
   by_cases hjm:j=m
   ·rw[← hjm]; exact hjun
   ·rw[getD_set_ne true hjm] at JD; exact JD
  ·rw[Array.setIfInBounds_comm _ _ e]
   exact g.2.2
theorem zB.takeF {i:Nat} {oi:Oper} {v:Value} {k:Nat} {l:Array Bool} {a:Act} {w:World} (hi:ops[i]? = some oi) (hs:Region.noSelect ops=true) (hf:Region.free md ops l i=true) (hr:(Region.ready md ops l).contains i=true)
 (hst:st.contains i=true) (hQ:∀ c a w,Q (.panic c) (a.put oi.dst v) w→Q (.panic c) a w) (hgd:Region.wanted oi (yielded ops a.tmps)=true) (hy:∀ w,(execOp a.eval oi).run P w=.ok (.value v) w)
 (h:zB P md ops Q S st k (l.setIfInBounds i true) (a.put oi.dst v) w):zB P md ops Q S st (k+1) l a w :=
 zB.firstF hi (Region.noSelect_spec hs) hQ hst k l a w (Region.free_spec hi hf) (by simpa using hr) (.inl ⟨hgd,fun w _=>hy w⟩) h
theorem zB.takeG {i:Nat} {oi:Oper} {v:Value} {k:Nat} {l:Array Bool} {a:Act} {w:World} (hi:ops[i]? = some oi) (hs:Region.noSelect ops=true) (hf:Region.free md ops l i=true) (hr:(Region.ready md ops l).contains i=true)
 (hg:zBW md ops l=true) (hw:uP md ops st l i=true) (hQ:∀ c a w,Q (.panic c) (a.put oi.dst v) w→Q (.panic c) a w) (hgd:Region.wanted oi (yielded ops a.tmps)=true) (hy:∀ w,S w→(execOp a.eval oi).run P w=.ok (.value v) w) (hS:S w)
 (h:zB P md ops Q S st k (l.setIfInBounds i true) (a.put oi.dst v) w):zB P md ops Q S st (k+1) l a w :=
 zB.firstG hi (Region.noSelect_spec hs) hQ k l a w (SG hg) hw (Region.free_spec hi hf) (by simpa using hr) (.inl ⟨hgd,hy⟩) hS h
end
end
section
attribute [local go_sem] Oper.semAt_some
abbrev rq0:Oper:=⟨some 20,.move (.tmp 0),24,"log.go:78",#[],none⟩
abbrev rq1:Oper:=⟨some 21,.nilCheck (.tmp 20),0,"log.go:78",#[⟨0,.data⟩],none⟩
abbrev rq2:Oper:=⟨some 22,.fieldAddr 103 (.tmp 21) 0,0,"log.go:78",#[⟨1,.data⟩],none⟩
abbrev rq3:Oper:=⟨some 23,.load 45 (.tmp 22),45,"log.go:78",#[⟨2,.data⟩],none⟩
abbrev rq4:Oper:=⟨some 24,.fieldAddr 35 (.tmp 3) 0,0,"log.go:78",#[],none⟩
abbrev rq5:Oper:=⟨some 25,.load 3 (.tmp 24),3,"log.go:78",#[⟨4,.data⟩],none⟩
abbrev rq6:Oper:=⟨some 26,.call { callee:=.value (.func 52),args:=#[.tmp 23,.tmp 25],argTypes:=#[45,3] },110,"log.go:78",#[⟨3,.data⟩,⟨5,.data⟩],none⟩
abbrev rq7:Oper:=⟨some 27,.fieldAddr 35 (.tmp 3) 1,0,"log.go:78",#[],none⟩
abbrev rq8:Oper:=⟨some 28,.load 30 (.tmp 27),30,"log.go:78",#[⟨7,.data⟩],none⟩
abbrev rq9:Oper:=⟨some 29,.fieldAddr 35 (.tmp 3) 2,0,"log.go:78",#[],none⟩
abbrev AX:Oper:=⟨some 30,.load 3 (.tmp 29),3,"log.go:78",#[⟨9,.data⟩],none⟩
abbrev Vb:Oper:=⟨some 31,.call { callee:=.value (.func 55),args:=#[.tmp 26,.tmp 28,.tmp 30],argTypes:=#[110,30,3] },118,"log.go:78",#[⟨6,.data⟩,⟨8,.data⟩,⟨10,.data⟩,⟨6,.chain⟩],none⟩
abbrev ZP:Oper:=⟨some 19,.move (.tmp 31),118,"log.go:78",#[⟨11,.data⟩],none⟩
abbrev ZO:Oper:=⟨some 32,.extract (.tmp 19) 0,33,"log.go:78",#[⟨12,.data⟩],none⟩
abbrev ZN:Oper:=⟨some 33,.extract (.tmp 19) 1,3,"log.go:78",#[⟨12,.data⟩,{ on:=17,ground:=Go.Ground.gcOnly Go.Departure.lateStores }],none⟩
abbrev ZM:Oper:=⟨some 34,.extract (.tmp 19) 2,36,"log.go:78",#[⟨12,.data⟩,{ on:=18,ground:=Go.Ground.gcOnly Go.Departure.lateStores }],none⟩
abbrev VZ:Oper:=⟨some 6,.alloc 33,0,"log.go:78",#[],none⟩
abbrev VY:Oper:=⟨none,.store 33 (.tmp 6) (.tmp 32),0,"log.go:78",#[⟨16,.data⟩,⟨13,.data⟩,⟨11,.chain⟩,⟨0,.phase⟩,⟨1,.phase⟩,⟨2,.phase⟩,⟨3,.phase⟩,⟨4,.phase⟩,⟨5,.phase⟩,⟨6,.phase⟩,⟨7,.phase⟩,⟨8,.phase⟩,⟨9,.phase⟩,⟨10,.phase⟩,⟨11,.phase⟩,⟨12,.phase⟩,⟨13,.phase⟩,{ on:=14,ground:=Go.Ground.textOnly Go.Departure.lateStores },{ on:=15,ground:=Go.Ground.textOnly Go.Departure.lateStores },⟨16,.phase⟩],none⟩
abbrev ZL:Oper:=⟨some 7,.assign (.tmp 33),3,"log.go:78",#[⟨14,.data⟩,⟨17,.chain⟩,⟨0,.phase⟩,⟨1,.phase⟩,⟨2,.phase⟩,⟨3,.phase⟩,⟨4,.phase⟩,⟨5,.phase⟩,⟨6,.phase⟩,⟨7,.phase⟩,⟨8,.phase⟩,⟨9,.phase⟩,⟨10,.phase⟩,⟨11,.phase⟩,⟨12,.phase⟩,⟨13,.phase⟩,⟨14,.phase⟩,{ on:=15,ground:=Go.Ground.textOnly Go.Departure.lateStores },⟨16,.phase⟩,⟨17,.phase⟩],none⟩
abbrev ZK:Oper:=⟨some 8,.assign (.tmp 34),36,"log.go:78",#[⟨15,.data⟩,⟨18,.chain⟩,⟨0,.phase⟩,⟨1,.phase⟩,⟨2,.phase⟩,⟨3,.phase⟩,⟨4,.phase⟩,⟨5,.phase⟩,⟨6,.phase⟩,⟨7,.phase⟩,⟨8,.phase⟩,⟨9,.phase⟩,⟨10,.phase⟩,⟨11,.phase⟩,⟨12,.phase⟩,⟨13,.phase⟩,⟨14,.phase⟩,⟨15,.phase⟩,⟨16,.phase⟩,⟨17,.phase⟩,⟨18,.phase⟩],none⟩
theorem Qj (w:World):(zeroValue 33).run Tryz.prog w=.ok (.agg zP) w:=(Tryz.zeroValue33 w).trans rfl
def Xp (V:Nat→List Int) (E:Nat→Int) (gen:Int) (at_:Nat) (B:Nat) (W:World) (rec:Array Value) (e:Int):Prop :=
 (rec.size=6∧rec.all (·.oneCell')=true)∧e=jN V E gen at_∧(e≠0→rec=zP) ∧
 (e=0→∃ (xs:List Int) (b1 b2:Nat),xs=qW (zi V at_ (ze (V at_) gen at_))∧rec=jZ xs b1 b2∧B≤b1∧B≤b2∧b1≠b2∧zn W b1 (keyOf xs)∧zn W b2 (valOf xs))
theorem Xp.keep {V:Nat→List Int} {E:Nat→Int} {gen:Int} {at_ B:Nat} {W W':World} {rec:Array Value} {e:Int} {S:Nat→Prop} (h:Xp V E gen at_ B W rec e) (hk:Kept S W W') (hS:∀ b,B≤b→b<W.heap.size→S b):Xp V E gen at_ B W' rec e:=by
 obtain ⟨h1,h2,h3,h4⟩:=h
 refine ⟨h1,h2,h3,fun h0=>?_⟩
 obtain ⟨xs,b1,b2,e1,e2,e3,e4,e5,e6,e7⟩:=h4 h0
 exact ⟨xs,b1,b2,e1,e2,e3,e4,e5,z8.kept e6 hk (hS _ e3 (z8.lt e6)),z8.kept e7 hk (hS _ e4 (z8.lt e7))⟩
theorem Xp.less {V:Nat→List Int} {E:Nat→Int} {gen:Int} {at_ B B':Nat} {W:World} {rec:Array Value} {e:Int} (h:Xp V E gen at_ B W rec e) (hB:B'≤B):Xp V E gen at_ B' W rec e:=by
 obtain ⟨h1,h2,h3,h4⟩:=h
 refine ⟨h1,h2,h3,fun h0=>?_⟩
 obtain ⟨xs,b1,b2,e1,e2,e3,e4,e5,e6,e7⟩:=h4 h0
 exact ⟨xs,b1,b2,e1,e2,by omega,by omega,e5,e6,e7⟩
def aU (rec:Array Value) (b:Nat):Prop:=∃ v,v∈rec.toList∧v.ownBlock=some b
theorem zAB {xs:List Int} {b1 b2 b:Nat} (h:aU (jZ xs b1 b2) b):b=b1∨b=b2:=by
 obtain ⟨v,hv,he⟩:=h
 simp only[jZ,List.mem_cons,List.not_mem_nil,or_false] at hv
 rcases hv with rfl | rfl | rfl | rfl | rfl | rfl
 ·cases he
 ·cases he
 ·cases he
 ·cases he
 ·exact .inl (Option.some.inj he).symm
 ·exact .inr (Option.some.inj he).symm
theorem zAC {xs:List Int} {b1 b2:Nat}:aU (jZ xs b1 b2) b1:=⟨.slice (some ⟨b1,0,none⟩) (zH xs) (zH xs),by simp[jZ],rfl⟩
theorem zAA {xs:List Int} {b1 b2:Nat}:aU (jZ xs b1 b2) b2:=⟨.slice (some ⟨b2,0,none⟩) (zO xs) (zO xs),by simp[jZ],rfl⟩
theorem Un {b:Nat}:¬ aU zP b:=by
 rintro ⟨v,hv,he⟩
 simp only[zP,List.mem_cons,List.not_mem_nil,or_false] at hv
 rcases hv with rfl | rfl | rfl | rfl | rfl | rfl <;> cases he
theorem Ky.rd {σ:Type} {R:(Nat→Prop)→σ→World→Prop} {nx:σ→Nat→σ} {X0:Nat→Prop} {st:σ} {V:Nat→List Int} {E:Nat→Int} {gen:Int} {at_:Nat} {w:World} {e:Ending} {w':World} (h:Ky R nx X0 st V E gen at_ w e w') :
 ∃ rec cnt er,e=.returned (.tuple #[.agg rec,.int .i64 cnt,.int .i64 er])∧Xp V E gen at_ w.heap.size w' rec er∧R X0 (mM nx st at_ (vR V E gen at_)) w'∧Kept X0 w w' ∧
  ∃ Z:Nat→Prop,(∀ b,X0 b→Z b)∧(∀ b,aU rec b→Z b∧w.heap.size≤b)∧R Z (mM nx st at_ (vR V E gen at_)) w':=by
 obtain ⟨h1,h2,h3,h4⟩:=h
 by_cases h0:jN V E gen at_=0
 ·obtain ⟨xs,e1,b1,b2,e2,e3,e4,e5,e6,e7,Z,z1,z2,z3,z4⟩:=h4 h0
  refine ⟨_,_,_,e2,⟨⟨rfl,ni _ _ _ _ _ _ _ _ _ _⟩,h0.symm,fun h=>absurd rfl h,fun _=>⟨xs,b1,b2,e1,rfl,e3,e4,e5,e6,e7⟩⟩,h1,h2,Z,z1,fun b hb=>?_,z4⟩
  rcases zAB hb with rfl | rfl
  ·exact ⟨z2,e3⟩
  ·exact ⟨z3,e4⟩
 ·exact ⟨_,_,_,h3 h0,⟨⟨rfl,xC⟩,rfl,fun _=>rfl,fun h=>absurd h h0⟩,h1,h2,X0,fun _ h=>h,fun b hb=>absurd hb Un,h1⟩
structure Xq (l p:Nat) (sec:Int) (A:Option Addr) (m c:Nat) (br:Bool) (xs:List Seg) (w:World) (X R:Nat→Prop) (ga gr:Nat) (ad:Array Value) (Z:Nat→Prop) (W:World):Prop where
 lb:z8 W l 103 (DC p sec A m c br)
 row:qH W R A m xs
 ab:z8 W ga 35 ad
 rb:z8 W gr 33 zP
 zl:Z l
 za:Z ga
 zr:Z gr
 zx:∀ b,X b∨R b→Z b
 zt:∀ b,Z b→b<W.heap.size
 kx:Kept X w W
theorem Xq.keep {l p:Nat} {sec:Int} {A:Option Addr} {m c:Nat} {br:Bool} {xs:List Seg} {w:World} {X R:Nat→Prop} {ga gr:Nat} {ad:Array Value} {Z S:Nat→Prop} {W W':World} (h:Xq l p sec A m c br xs w X R ga gr ad Z W) (hk:Kept S W W') (hS:∀ b,Z b→S b):Xq l p sec A m c br xs w X R ga gr ad Z W' :=
 ⟨h.lb.kept hk (hS _ h.zl),h.row.kept hk (fun b hb=>hS b (h.zx b (.inr hb))),h.ab.kept hk (hS _ h.za),h.rb.kept hk (hS _ h.zr),h.zl,h.za,h.zr,h.zx,fun b hb=>nL (h.zt b hb) hk.size,h.kx.trans hk (fun b hb=>hS b (h.zx b (.inl hb)))⟩
theorem Xq.mem {l p:Nat} {sec:Int} {A:Option Addr} {m c:Nat} {br:Bool} {xs:List Seg} {w:World} {X R:Nat→Prop} {ga gr:Nat} {ad:Array Value} {Z:Nat→Prop} {W W':World} (h:Xq l p sec A m c br xs w X R ga gr ad Z W) (hb:Below W.heap.size W W'):Xq l p sec A m c br xs w X R ga gr ad Z W' :=
 h.keep (Kept.of_below (S:=fun b=>b<W.heap.size) hb (fun b h=>h)) h.zt
theorem Xq.cells {l p:Nat} {sec:Int} {A:Option Addr} {m c:Nat} {br:Bool} {xs:List Seg} {w:World} {X R:Nat→Prop} {ga gr:Nat} {ad:Array Value} {Z:Nat→Prop} {W:World} (h:Xq l p sec A m c br xs w X R ga gr ad Z W):W.cell? ⟨l,0,none⟩=some (.pointer (some ⟨p,0,none⟩))∧W.cell? ⟨ga,0,none⟩=ad[0]? ∧ W.cell? ⟨ga,1,none⟩=ad[1]? ∧ W.cell? ⟨ga,2,none⟩=ad[2]? :=
 ⟨h.lb.cell 0,h.ab.cell 0,h.ab.cell 1,h.ab.cell 2⟩
section
variable {w:World} {X R Z X0:Nat→Prop} {l p d n:Nat} {s:Sup} {t:Int} {k k':Dk} {sec:Int} {A:Option Addr} {m c:Nat} {xs:List Seg} {br:Bool}
theorem GV {ga gr gx gi g6 B seg at_:Nat} {gen:Int} {ad rec:Array Value} {er:Int} {V aV:World} {W:Nat→List Int} {E:Nat→Int} (dN:Xq l p sec A m c br xs w X R ga gr ad Z aV) (hstr:gH aV X0 gx gi p d n s t k' seg) (hz:∀ b,Z b→X0 b)
 (hrd:Xp W E gen at_ B aV rec er) (h6:¬ Z g6) (hB:g6<B∨aV.heap.size≤g6) (hx6:X0 g6∨aV.heap.size≤g6) (hb:Below aV.heap.size aV V) (hb6:z8 V g6 33 zP) (hgr:gr<B) (hgw:w.heap.size≤gr) (hl:l<w.heap.size) (hX:∀ b,X b→b<w.heap.size) (hR:∀ b,R b→b<w.heap.size∧b≠l∧¬ X b) (hxl:¬ X l) (hQ:∀ b,aU rec b→X0 b∧B≤b) :
 z8 (V.setRow g6 rec) g6 33 rec∧z8 (V.setRow g6 rec) gr 33 zP∧z8 ((V.setRow g6 rec).setRow gr rec) gr 33 rec∧Xp W E gen at_ B ((V.setRow g6 rec).setRow gr rec) rec er ∧
 qX ((V.setRow g6 rec).setRow gr rec) (fun b=>X b∨aU rec b) l p d n s t k' sec A m c xs br∧Kept X w ((V.setRow g6 rec).setRow gr rec):=by
 have hne:gr≠g6:=fun e=>h6 (e▸dN.zr)
 have hk1:Kept (fun b=>b<aV.heap.size∧b≠g6) aV (V.setRow g6 rec):=(Kept.of_below (S:=fun b=>b<aV.heap.size∧b≠g6) hb (fun b h=>h.1)).setRow (g:=g6) (fun h=>h.2 rfl) rec
 have hk2:Kept (fun b=>b<aV.heap.size∧b≠g6∧b≠gr) aV ((V.setRow g6 rec).setRow gr rec):=(hk1.mono (S:=fun b=>b<aV.heap.size∧b≠g6∧b≠gr) (fun b h=>⟨h.1,h.2.1⟩)).setRow (g:=gr) (fun h=>h.2.2 rfl) rec
 have hrb:z8 (V.setRow g6 rec) gr 33 zP:=dN.rb.kept hk1 ⟨dN.zt _ dN.zr,hne⟩
 have hlow:∀ b,Z b→b<w.heap.size→b<aV.heap.size∧b≠g6∧b≠gr:=fun b h1 h2=>⟨dN.zt b h1,fun e=>h6 (e▸h1),by omega⟩
 refine ⟨setRow_heap _ _ _ rec _ _ hb6,hrb,setRow_heap _ _ _ rec _ _ hrb,hrd.keep hk2 (fun b h1 h2=>⟨h2,by omega,by omega⟩),?_,dN.kx.trans hk2 (fun b hb=>hlow b (dN.zx b (.inl hb)) (hX b hb))⟩
 have hz2:=hk2.size
 refine ⟨dN.lb.kept hk2 (hlow l dN.zl hl),fun e=>e.elim hxl (fun e=>by have:=(hQ _ e).2; omega),R,?_,dN.row.kept hk2 (fun b hb=>hlow b (dN.zx b (.inr hb)) (hR b hb).1),fun b hb=>⟨?_,(hR b hb).2.1,fun e=>e.elim (hR b hb).2.2 (fun e=>by have:=(hQ _ e).2; have:=(hR b hb).1; omega)⟩⟩
 ·refine zk.kept hstr.sto hk2 (fun b h1 h2=>⟨h1,fun e=>?_,fun e=>h2 (hz b (e▸dN.zr))⟩) (fun b _ h=>?_)
  ·subst e
   rcases hx6 with h | h
   ·exact h2 h
   ·omega
  ·rcases h with (h | h) | rfl | h
   ·exact hz b (dN.zx b (.inl h))
   ·exact (hQ b h).1
   ·exact hz _ dN.zl
   ·exact hz b (dN.zx b (.inr h))
 ·have:=(hlow b (dN.zx b (.inr hb)) (hR b hb).1).1
  omega
end
def zJf (w:World) (X:Nat→Prop) (l p d n:Nat) (s:Sup) (t:Int) (k:Dk) (sec:Int) (A:Option Addr) (m c:Nat) (xs:List Seg) (br:Bool) (seg:Nat) (g:Int) (at_:Nat) (e:Ending) (w':World):Prop :=
 ∃ rec er,e=.returned (.tuple #[.agg rec,.int .i64 er])∧Xp (zh k s seg) (tH s) g at_ w.heap.size w' rec er ∧
  qX w' (fun b=>X b∨aU rec b) l p d n s t (mM (fun k i=>wU k s i) k at_ (vR (zh k s seg) (tH s) g at_)) sec A m c xs br∧Kept X w w'
section
variable {w:World} {X:Nat→Prop} {l p d n:Nat} {s:Sup} {t:Int} {k:Dk} {sec:Int} {A:Option Addr} {m c:Nat} {xs:List Seg} {br:Bool}
theorem Tw (h:qX w X l p d n s t k sec A m c xs br) (hX:∀ b,X b→b<w.heap.size) (hm:m≤1000) (hma:s.May) (hg:Good k) (hok:k.Ok n) (seg:Nat) (hseg:(seg:Int)<s.a) (hroom:2+s.a*s.b≤(n:Int)) (hn:n≤2048) (g:Int) (at_:Nat) (hat:at_≤90000)
 (hu:ZB xs (seg:Nat) g (at_:Nat)=true) :
 Calls Tryz.prog 13 #[.pointer (some ⟨l,0,none⟩),.agg #[.int .i64 (seg:Nat),.int .u64 g,.int .i64 (at_:Nat)]] w (zJf w X l p d n s t k sec A m c xs br seg g at_):=by
 obtain ⟨w1,hw1⟩:∃ w1,w1=(w.alloc (.cells #[.int .i64 (seg:Nat),.int .u64 g,.int .i64 (at_:Nat)] 35)).alloc (.cells zP 33):=⟨_,rfl⟩
 have hb1:Below w.heap.size w w1:=by rw[hw1]; exact ((Below.refl _ w).alloc (nR _) _).alloc (by simp) _
 have hz1:w1.heap.size=w.heap.size+2:=by rw[hw1]; simp
 have HA1:=hI (show z8 w1 w.heap.size 35 #[.int .i64 (seg:Nat),.int .u64 g,.int .i64 (at_:Nat)] by rw[hw1]; exact (z8.new w _ _).alloc _)
 have HR1:=hI (show z8 w1 (w.heap.size+1) 33 zP by rw[hw1]; exact zY w _ _ _)
 have HU:=hI (fun (W:World) (hW:qX W X l p d n s t k sec A m c xs br)=>by have h2:=Ou hW hm (seg:Int) g (at_:Int); rw[hu] at h2; exact h2)
 have HW1:=hI hw1
 have HB1:=hI hb1
 have HL:=hI h
 have HX:=hI hX
 have lK:=hI hma
 have HG:=hI hg
 have Ci:=hI hok
 clear hw1 hb1 h hX hma hg hok hu
 have a0:=HA1.out.cell 0
 have a1:=HA1.out.cell 1
 have a2:=HA1.out.cell 2
 go_enter Tryz.func13,Tryz.ntmps13
 go_upto_region 1 with fail
 rw[← HW1.out]
 go_upto_region 5 with (go_at_call 58; refine (HU.out _ (HL.out.below HB1.out)).mono ?_; rintro e w2 ⟨rfl,hb2⟩)
 rename World=>w2
 have HB2:=hI (HB1.out.trans (hb2.mono HB1.out.size)).drew
 have hsz2:w1.heap.size≤w2.heap.size:=hb2.size
 have HA2:=hI (HA1.out.below hb2 HA1.out.lt).drew
 have HR2:=hI (HR1.out.below hb2 HR1.out.lt).drew
 have Vq:w2.drew.heap.size=w2.heap.size:=rfl
 obtain ⟨hlb,hxl,RR,Rs,hrow,hRR⟩:=HL.out
 obtain ⟨Z,hZ⟩:∃ Z:Nat→Prop,Z=(fun b=>(X b∨b=l∨RR b)∨(w.heap.size≤b∧b<w2.drew.heap.size)):=⟨_,rfl⟩
 have zIO:=hI (show xQ w2.drew Z p d n s t k by rw[hZ]; exact zk.grow Rs HB2.out)
 have O5:=hI (show ∀ b,Z b→b<w2.drew.heap.size by rw[hZ]; exact wH (fun b hb=>by rcases hb with h | rfl | h; exact HX.out b h; exact hlb.lt; exact (hRR b h).1) HB2.out.size)
 have jg:=hI (show Xq l p sec A m c br xs w X RR w.heap.size (w.heap.size+1) #[.int .i64 (seg:Nat),.int .u64 g,.int .i64 (at_:Nat)] Z w2.drew from
  ⟨hlb.below HB2.out hlb.lt,hrow.below HB2.out (fun b h=>(hRR b h).1),HA2.out,HR2.out,by rw[hZ]; exact .inl (.inr (.inl rfl)),by rw[hZ]; exact .inr ⟨nR _,by omega⟩,by rw[hZ]; exact .inr ⟨by omega,by omega⟩,fun b hb=>by rw[hZ]; rcases hb with h | h; exact .inl (.inl h); exact .inl (.inr (.inr h)),O5.out,Kept.of_below HB2.out HX.out⟩)
 have qd:=hI hlb.lt
 have HRR:=hI hRR
 clear hb2 Rs hrow hRR hlb hZ a0 a1 a2 HA1 HA2 HR1 HR2 HU
 refine wp_region_noPanic ?_
 refine zB.region (fun W=>W.cell? ⟨l,0,none⟩=some (.pointer (some ⟨p,0,none⟩))∧W.cell? ⟨w.heap.size,0,none⟩=some (.int .i64 (seg:Nat))∧W.cell? ⟨w.heap.size,1,none⟩=some (.int .u64 g)∧W.cell? ⟨w.heap.size,2,none⟩=some (.int .i64 (at_:Nat))) [12,13,14,15,17,18,19] (by kernel_rfl) jg.out.cells (fun hė=>?_)
 generalize w2.drew=vd at *
 refine zB.takeG (i:=0) (oi:=rq0) (v:=?_) rfl (by kernel_rfl) (by kernel_rfl) (by kernel_rfl) (by kernel_rfl) (by kernel_rfl) (fun _ _ _ h=>h) (by rfl) ?_ hė ?_
 rotate_left
 ·intro W hSW; unfold rq0; go_simp; with_reducible rfl
 simp only[rq0,Act.put,sA,sZ,sS]
 refine zB.takeG (i:=1) (oi:=rq1) (v:=?_) rfl (by kernel_rfl) (by kernel_rfl) (by kernel_rfl) (by kernel_rfl) (by kernel_rfl) (fun _ _ _ h=>h) (by rfl) ?_ hė ?_
 rotate_left
 ·intro W hSW; unfold rq1; go_simp; with_reducible rfl
 simp only[rq1,Act.put,sA,sZ,sS]
 refine zB.takeG (i:=2) (oi:=rq2) (v:=?_) rfl (by kernel_rfl) (by kernel_rfl) (by kernel_rfl) (by kernel_rfl) (by kernel_rfl) (fun _ _ _ h=>h) (by rfl) ?_ hė ?_
 rotate_left
 ·intro W hSW; unfold rq2; go_simp; with_reducible rfl
 simp only[rq2,Act.put,sA,sZ,sS]
 refine zB.takeG (i:=3) (oi:=rq3) (v:=?_) rfl (by kernel_rfl) (by kernel_rfl) (by kernel_rfl) (by kernel_rfl) (by kernel_rfl) (fun _ _ _ h=>h) (by rfl) ?_ hė ?_
 rotate_left
 ·intro W hSW; obtain ⟨y0,y1,y2,y3⟩:=hSW; unfold rq3; go_simp; with_reducible rfl
 simp only[rq3,Act.put,sA,sZ,sS]
 refine zB.takeG (i:=4) (oi:=rq4) (v:=?_) rfl (by kernel_rfl) (by kernel_rfl) (by kernel_rfl) (by kernel_rfl) (by kernel_rfl) (fun _ _ _ h=>h) (by rfl) ?_ hė ?_
 rotate_left
 ·intro W hSW; unfold rq4; go_simp; with_reducible rfl
 simp only[rq4,Act.put,sA,sZ,sS]
 refine zB.takeG (i:=5) (oi:=rq5) (v:=?_) rfl (by kernel_rfl) (by kernel_rfl) (by kernel_rfl) (by kernel_rfl) (by kernel_rfl) (fun _ _ _ h=>h) (by rfl) ?_ hė ?_
 rotate_left
 ·intro W hSW; obtain ⟨y0,y1,y2,y3⟩:=hSW; unfold rq5; go_simp; with_reducible rfl
 simp only[rq5,Act.put,sA,sZ,sS]
 refine zB.takeG (i:=7) (oi:=rq7) (v:=?_) rfl (by kernel_rfl) (by kernel_rfl) (by kernel_rfl) (by kernel_rfl) (by kernel_rfl) (fun _ _ _ h=>h) (by rfl) ?_ hė ?_
 rotate_left
 ·intro W hSW; unfold rq7; go_simp; with_reducible rfl
 simp only[rq7,Act.put,sA,sZ,sS]
 refine zB.takeG (i:=8) (oi:=rq8) (v:=?_) rfl (by kernel_rfl) (by kernel_rfl) (by kernel_rfl) (by kernel_rfl) (by kernel_rfl) (fun _ _ _ h=>h) (by rfl) ?_ hė ?_
 rotate_left
 ·intro W hSW; obtain ⟨y0,y1,y2,y3⟩:=hSW; unfold rq8; go_simp; with_reducible rfl
 simp only[rq8,Act.put,sA,sZ,sS]
 refine zB.takeG (i:=9) (oi:=rq9) (v:=?_) rfl (by kernel_rfl) (by kernel_rfl) (by kernel_rfl) (by kernel_rfl) (by kernel_rfl) (fun _ _ _ h=>h) (by rfl) ?_ hė ?_
 rotate_left
 ·intro W hSW; unfold rq9; go_simp; with_reducible rfl
 simp only[rq9,Act.put,sA,sZ,sS]
 refine zB.takeG (i:=10) (oi:=AX) (v:=?_) rfl (by kernel_rfl) (by kernel_rfl) (by kernel_rfl) (by kernel_rfl) (by kernel_rfl) (fun _ _ _ h=>h) (by rfl) ?_ hė ?_
 rotate_left
 ·intro W hSW; obtain ⟨y0,y1,y2,y3⟩:=hSW; unfold AX; go_simp; with_reducible rfl
 simp only[AX,Act.put,sA,sZ,sS]
 refine zB.two (i:=6) (j:=16) (o:=rq6) (o':=VZ) (by kernel_rfl) rfl rfl ?_ ?_
 ·intro K hK
  refine zN 52 #[.tmp 23,.tmp 25] #[45,3] rfl rfl Tryz.func52 rfl rfl [.pointer (some ⟨p,0,none⟩),.int .i64 (seg:Nat)] rfl ?_
  refine (ZC zIO.out O5.out seg).mono ?_
  rintro e v6 ⟨⟨gx,gi,rfl,hsm⟩,hb6⟩
  have xg:=hI hsm
  have jg:=hI (jg.out.mem hb6)
  have I8:=hb6.size
  clear hsm hb6
  refine ⟨_,rfl,?_⟩
  simp only[rq6,Act.put,sA,sZ,sS]
  refine hU hK rfl _ _ jg.out.cells (fun hė=>?_)
  clear hK K
  have oM:=hI (show ∀ b,Z b→(Z b∨(vd.heap.size≤b∧b<v6.heap.size)) from fun b h=>Or.inl h)
  refine zB.two (i:=11) (j:=16) (o:=Vb) (o':=VZ) (by kernel_rfl) rfl rfl ?_ ?_
  ·intro K hK
   refine zN 55 #[.tmp 26,.tmp 28,.tmp 30] #[110,30,3] rfl rfl Tryz.func55 rfl rfl [.func (.func 122) #[] #[.pointer (some ⟨gx,0,none⟩),.pointer (some ⟨gi,0,none⟩)],.int .u64 g,.int .i64 (at_:Nat)] rfl ?_
   refine (mK _ _ (rP lK.out hseg hroom hn Ci.out (v6).heap.size xg.out.xx xg.out.xi ⟨xg.out.bx.lt,xg.out.bi.lt⟩) ⟨xg.out,HG.out,rfl,rfl⟩ g at_ hat).mono ?_
   intro e v11 hst
   obtain ⟨rec,cnt,er,rfl,hrd,_,hk,Z9,JA,QV,hr⟩:=hst.rd
   have V8:=hI hrd
   have BA:=hI hk
   have jg:=hI (jg.out.keep hk oM.out)
   have oM:=hI (fun b (h:Z b)=>JA b (oM.out b h))
   have V5:=hI JA
   have Ch:=hI QV
   have xg:=hI hr.1
   have zBG:=hk.size
   have wP:=hI hrd.1
   clear hst hrd hr hk JA QV
   refine ⟨_,rfl,?_⟩
   simp only[Vb,Act.put,sA,sZ,sS]
   refine hU hK rfl _ _ jg.out.cells (fun hė=>?_)
   clear hK K
   refine zB.takeF (i:=12) (oi:=ZP) (v:=?_) rfl (by kernel_rfl) (by kernel_rfl) (by kernel_rfl) (by decide) (fun _ _ _ h=>h) (by rfl) ?_ ?_
   rotate_left
   ·intro W; unfold ZP; go_simp; with_reducible rfl
   simp only[ZP,Act.put,sA,sZ,sS]
   refine zB.takeF (i:=13) (oi:=ZO) (v:=?_) rfl (by kernel_rfl) (by kernel_rfl) (by kernel_rfl) (by decide) (fun _ _ _ h=>h) (by rfl) ?_ ?_
   rotate_left
   ·intro W; unfold ZO; go_simp; with_reducible rfl
   simp only[ZO,Act.put,sA,sZ,sS]
   refine zB.takeF (i:=14) (oi:=ZN) (v:=?_) rfl (by kernel_rfl) (by kernel_rfl) (by kernel_rfl) (by decide) (fun _ _ _ h=>h) (by rfl) ?_ ?_
   rotate_left
   ·intro W; unfold ZN; go_simp; with_reducible rfl
   simp only[ZN,Act.put,sA,sZ,sS]
   refine zB.takeF (i:=15) (oi:=ZM) (v:=?_) rfl (by kernel_rfl) (by kernel_rfl) (by kernel_rfl) (by decide) (fun _ _ _ h=>h) (by rfl) ?_ ?_
   rotate_left
   ·intro W; unfold ZM; go_simp; with_reducible rfl
   simp only[ZM,Act.put,sA,sZ,sS]
   refine tO 16 VZ ?_
   intro K hK
   have hba:=(Below.refl (v11).heap.size (v11)).alloc (nR _) (.cells zP 33)
   have qK:=hI (show z8 ((v11).alloc (.cells zP 33)) (v11).heap.size 33 zP from z8.new (v11) _ _)
   have hza:((v11).alloc (.cells zP 33)).heap.size=(v11).heap.size+1:=by simp
   have zJq:=jg
   have jg:=hI (jg.out.mem hba)
   refine yM 33 rfl rfl zP Qj ?_
   simp only[VZ,Act.put,sA,sZ,sS]
   refine hU hK rfl _ _ jg.out.cells (fun hė=>?_)
   clear hK K
   have jg:=zJq
   have HF:=hI (GV (V:=v11.alloc (.cells zP 33)) (g6:=v11.heap.size) jg.out xg.out oM.out V8.out (fun h=>by have:=jg.out.zt _ h; omega) (.inr (nR _)) (.inr (nR _)) hba qK.out (by omega) (by omega) qd.out HX.out HRR.out hxl Ch.out)
   refine tO 17 VY ?_
   intro K hK
   refine yL (.tmp 6) (.tmp 32) 33 rfl rfl (v11.heap.size) rec rfl rfl 33 zP qK.out (by rw[wP.out.1]; exact zR) (by rw[wP.out.1]; rfl) wP.out.2 ?_
   simp only[VY,Act.put,sA,sZ,sS]
   refine hK.out _ _ (fun h=>absurd h (by decide)) (fun _=>?_)
   clear hK K hė
   refine tO 18 ZL ?_
   intro K hK
   refine qg ?_ rfl ?_ ?_
   rotate_left
   ·unfold ZL; go_simp; with_reducible rfl
   simp only[ZL,Act.put,sA,sZ,sS]
   refine hK.out _ _ (fun h=>absurd h (by decide)) (fun _=>?_)
   clear hK K
   refine tO 19 ZK ?_
   intro K hK
   refine qg ?_ rfl ?_ ?_
   rotate_left
   ·unfold ZK; go_simp; with_reducible rfl
   simp only[ZK,Act.put,sA,sZ,sS]
   refine hK.out _ _ (fun h=>absurd h (by decide)) (fun _=>?_)
   clear hK K
   refine zB.done (by kernel_rfl) ?_ _
   refine NoPanic.normal ?_
   have CZ:=hI Vq
   clear Vq
   go_wp2_with (first | (with_reducible refine zJ ?_) | (refine zV (.tmp 6) 33 rfl rfl (v11.heap.size) rfl 33 rec.toList _ Tryz.underlying33 rfl (by simp only[Array.length_toList,wP.out.1]; exact zR) HF.out.1 ?_) | (refine zF (.tmp 4) (.tmp 35) 33 rfl rfl (w.heap.size+1) rec rfl rfl 33 _ HF.out.2.1 (by rw[wP.out.1]; exact zR) (by rw[wP.out.1]; rfl) wP.out.2 ?_))
   exact Halt.ret (zy rfl _ _ (w.heap.size+1) 33 rec _ rfl HF.out.2.2.1 Tryz.underlying33 rfl (by rw[wP.out.1]; exact zR)) rfl ⟨rec,er,rfl,HF.out.2.2.2.1.less (by have:=CZ.out; omega),HF.out.2.2.2.2.1,HF.out.2.2.2.2.2⟩
  ·intro K hK
   have hba:=(Below.refl (v6).heap.size (v6)).alloc (nR _) (.cells zP 33)
   have qK:=hI (show z8 ((v6).alloc (.cells zP 33)) (v6).heap.size 33 zP from z8.new (v6) _ _)
   have hza:((v6).alloc (.cells zP 33)).heap.size=(v6).heap.size+1:=by simp
   have jg:=hI (jg.out.mem hba)
   have xg:=hI (xg.out.grow hba)
   have oM:=hI (fun b (h:Z b)=>Or.inl (b:=v6.heap.size≤b∧b<(v6.alloc (.cells zP 33)).heap.size) (oM.out b h))
   have Mx:=O5.out
   clear hba
   refine yM 33 rfl rfl zP Qj ?_
   simp only[VZ,Act.put,sA,sZ,sS]
   refine hU hK rfl _ _ jg.out.cells (fun hė=>?_)
   clear hK K
   refine tO 11 Vb ?_
   intro K hK
   refine zN 55 #[.tmp 26,.tmp 28,.tmp 30] #[110,30,3] rfl rfl Tryz.func55 rfl rfl [.func (.func 122) #[] #[.pointer (some ⟨gx,0,none⟩),.pointer (some ⟨gi,0,none⟩)],.int .u64 g,.int .i64 (at_:Nat)] rfl ?_
   refine (mK _ _ (rP lK.out hseg hroom hn Ci.out (v6.alloc (.cells zP 33)).heap.size xg.out.xx xg.out.xi ⟨xg.out.bx.lt,xg.out.bi.lt⟩) ⟨xg.out,HG.out,rfl,rfl⟩ g at_ hat).mono ?_
   intro e v11 hst
   obtain ⟨rec,cnt,er,rfl,hrd,_,hk,Z9,JA,QV,hr⟩:=hst.rd
   have V8:=hI hrd
   have BA:=hI hk
   have jg:=hI (jg.out.keep hk oM.out)
   have oM:=hI (fun b (h:Z b)=>JA b (oM.out b h))
   have V5:=hI JA
   have Ch:=hI QV
   have xg:=hI hr.1
   have zBG:=hk.size
   have wP:=hI hrd.1
   clear hst hrd hr hk JA QV
   refine ⟨_,rfl,?_⟩
   simp only[Vb,Act.put,sA,sZ,sS]
   refine hU hK rfl _ _ jg.out.cells (fun hė=>?_)
   clear hK K
   refine zB.takeF (i:=12) (oi:=ZP) (v:=?_) rfl (by kernel_rfl) (by kernel_rfl) (by kernel_rfl) (by decide) (fun _ _ _ h=>h) (by rfl) ?_ ?_
   rotate_left
   ·intro W; unfold ZP; go_simp; with_reducible rfl
   simp only[ZP,Act.put,sA,sZ,sS]
   refine zB.takeF (i:=13) (oi:=ZO) (v:=?_) rfl (by kernel_rfl) (by kernel_rfl) (by kernel_rfl) (by decide) (fun _ _ _ h=>h) (by rfl) ?_ ?_
   rotate_left
   ·intro W; unfold ZO; go_simp; with_reducible rfl
   simp only[ZO,Act.put,sA,sZ,sS]
   refine zB.takeF (i:=14) (oi:=ZN) (v:=?_) rfl (by kernel_rfl) (by kernel_rfl) (by kernel_rfl) (by decide) (fun _ _ _ h=>h) (by rfl) ?_ ?_
   rotate_left
   ·intro W; unfold ZN; go_simp; with_reducible rfl
   simp only[ZN,Act.put,sA,sZ,sS]
   refine zB.takeF (i:=15) (oi:=ZM) (v:=?_) rfl (by kernel_rfl) (by kernel_rfl) (by kernel_rfl) (by decide) (fun _ _ _ h=>h) (by rfl) ?_ ?_
   rotate_left
   ·intro W; unfold ZM; go_simp; with_reducible rfl
   simp only[ZM,Act.put,sA,sZ,sS]
   have qK:=hI (qK.out.kept BA.out (.inr ⟨nR _,by omega⟩))
   have HF:=hI (GV (V:=v11) (g6:=v6.heap.size) jg.out xg.out oM.out V8.out (fun h=>by have:=Mx _ h; omega) (.inl (by omega)) (.inl (V5.out _ (.inr ⟨nR _,by omega⟩))) (Below.refl _ _) qK.out (by omega) (by omega) qd.out HX.out HRR.out hxl Ch.out)
   refine tO 17 VY ?_
   intro K hK
   refine yL (.tmp 6) (.tmp 32) 33 rfl rfl (v6.heap.size) rec rfl rfl 33 zP qK.out (by rw[wP.out.1]; exact zR) (by rw[wP.out.1]; rfl) wP.out.2 ?_
   simp only[VY,Act.put,sA,sZ,sS]
   refine hK.out _ _ (fun h=>absurd h (by decide)) (fun _=>?_)
   clear hK K hė
   refine tO 18 ZL ?_
   intro K hK
   refine qg ?_ rfl ?_ ?_
   rotate_left
   ·unfold ZL; go_simp; with_reducible rfl
   simp only[ZL,Act.put,sA,sZ,sS]
   refine hK.out _ _ (fun h=>absurd h (by decide)) (fun _=>?_)
   clear hK K
   refine tO 19 ZK ?_
   intro K hK
   refine qg ?_ rfl ?_ ?_
   rotate_left
   ·unfold ZK; go_simp; with_reducible rfl
   simp only[ZK,Act.put,sA,sZ,sS]
   refine hK.out _ _ (fun h=>absurd h (by decide)) (fun _=>?_)
   clear hK K
   refine zB.done (by kernel_rfl) ?_ _
   refine NoPanic.normal ?_
   have CZ:=hI Vq
   clear Vq
   go_wp2_with (first | (with_reducible refine zJ ?_) | (refine zV (.tmp 6) 33 rfl rfl (v6.heap.size) rfl 33 rec.toList _ Tryz.underlying33 rfl (by simp only[Array.length_toList,wP.out.1]; exact zR) HF.out.1 ?_) | (refine zF (.tmp 4) (.tmp 35) 33 rfl rfl (w.heap.size+1) rec rfl rfl 33 _ HF.out.2.1 (by rw[wP.out.1]; exact zR) (by rw[wP.out.1]; rfl) wP.out.2 ?_))
   exact Halt.ret (zy rfl _ _ (w.heap.size+1) 33 rec _ rfl HF.out.2.2.1 Tryz.underlying33 rfl (by rw[wP.out.1]; exact zR)) rfl ⟨rec,er,rfl,HF.out.2.2.2.1.less (by have:=CZ.out; omega),HF.out.2.2.2.2.1,HF.out.2.2.2.2.2⟩
 ·intro K hK
  have hba:=(Below.refl (vd).heap.size (vd)).alloc (nR _) (.cells zP 33)
  have qK:=hI (show z8 ((vd).alloc (.cells zP 33)) (vd).heap.size 33 zP from z8.new (vd) _ _)
  have hza:((vd).alloc (.cells zP 33)).heap.size=(vd).heap.size+1:=by simp
  have jg:=hI (jg.out.mem hba)
  have zNR:=hI (zk.grow zIO.out hba)
  have Mx:=O5.out
  have zNK:=hI (wH O5.out hba.size)
  clear hba
  refine yM 33 rfl rfl zP Qj ?_
  simp only[VZ,Act.put,sA,sZ,sS]
  refine hU hK rfl _ _ jg.out.cells (fun hė=>?_)
  clear hK K
  refine tO 6 rq6 ?_
  intro K hK
  refine zN 52 #[.tmp 23,.tmp 25] #[45,3] rfl rfl Tryz.func52 rfl rfl [.pointer (some ⟨p,0,none⟩),.int .i64 (seg:Nat)] rfl ?_
  refine (ZC zNR.out zNK.out seg).mono ?_
  rintro e v6 ⟨⟨gx,gi,rfl,hsm⟩,hb6⟩
  have xg:=hI hsm
  have jg:=hI (jg.out.mem hb6)
  have I8:=hb6.size
  have qK:=hI (qK.out.below hb6 qK.out.lt)
  clear hsm hb6
  refine ⟨_,rfl,?_⟩
  simp only[rq6,Act.put,sA,sZ,sS]
  refine hU hK rfl _ _ jg.out.cells (fun hė=>?_)
  clear hK K
  have oM:=hI (fun b (h:Z b)=>Or.inl (b:=(vd.alloc (.cells zP 33)).heap.size≤b∧b<v6.heap.size) (Or.inl (b:=vd.heap.size≤b∧b<(vd.alloc (.cells zP 33)).heap.size) h))
  refine tO 11 Vb ?_
  intro K hK
  refine zN 55 #[.tmp 26,.tmp 28,.tmp 30] #[110,30,3] rfl rfl Tryz.func55 rfl rfl [.func (.func 122) #[] #[.pointer (some ⟨gx,0,none⟩),.pointer (some ⟨gi,0,none⟩)],.int .u64 g,.int .i64 (at_:Nat)] rfl ?_
  refine (mK _ _ (rP lK.out hseg hroom hn Ci.out (v6).heap.size xg.out.xx xg.out.xi ⟨xg.out.bx.lt,xg.out.bi.lt⟩) ⟨xg.out,HG.out,rfl,rfl⟩ g at_ hat).mono ?_
  intro e v11 hst
  obtain ⟨rec,cnt,er,rfl,hrd,_,hk,Z9,JA,QV,hr⟩:=hst.rd
  have V8:=hI hrd
  have BA:=hI hk
  have jg:=hI (jg.out.keep hk oM.out)
  have oM:=hI (fun b (h:Z b)=>JA b (oM.out b h))
  have V5:=hI JA
  have Ch:=hI QV
  have xg:=hI hr.1
  have zBG:=hk.size
  have wP:=hI hrd.1
  clear hst hrd hr hk JA QV
  refine ⟨_,rfl,?_⟩
  simp only[Vb,Act.put,sA,sZ,sS]
  refine hU hK rfl _ _ jg.out.cells (fun hė=>?_)
  clear hK K
  refine zB.takeF (i:=12) (oi:=ZP) (v:=?_) rfl (by kernel_rfl) (by kernel_rfl) (by kernel_rfl) (by decide) (fun _ _ _ h=>h) (by rfl) ?_ ?_
  rotate_left
  ·intro W; unfold ZP; go_simp; with_reducible rfl
  simp only[ZP,Act.put,sA,sZ,sS]
  refine zB.takeF (i:=13) (oi:=ZO) (v:=?_) rfl (by kernel_rfl) (by kernel_rfl) (by kernel_rfl) (by decide) (fun _ _ _ h=>h) (by rfl) ?_ ?_
  rotate_left
  ·intro W; unfold ZO; go_simp; with_reducible rfl
  simp only[ZO,Act.put,sA,sZ,sS]
  refine zB.takeF (i:=14) (oi:=ZN) (v:=?_) rfl (by kernel_rfl) (by kernel_rfl) (by kernel_rfl) (by decide) (fun _ _ _ h=>h) (by rfl) ?_ ?_
  rotate_left
  ·intro W; unfold ZN; go_simp; with_reducible rfl
  simp only[ZN,Act.put,sA,sZ,sS]
  refine zB.takeF (i:=15) (oi:=ZM) (v:=?_) rfl (by kernel_rfl) (by kernel_rfl) (by kernel_rfl) (by decide) (fun _ _ _ h=>h) (by rfl) ?_ ?_
  rotate_left
  ·intro W; unfold ZM; go_simp; with_reducible rfl
  simp only[ZM,Act.put,sA,sZ,sS]
  have qK:=hI (qK.out.kept BA.out (.inl (.inr ⟨nR _,by omega⟩)))
  have HF:=hI (GV (V:=v11) (g6:=vd.heap.size) jg.out xg.out oM.out V8.out (fun h=>by have:=Mx _ h; omega) (.inl (by omega)) (.inl (V5.out _ (.inl (.inr ⟨nR _,by omega⟩)))) (Below.refl _ _) qK.out (by omega) (by omega) qd.out HX.out HRR.out hxl Ch.out)
  refine tO 17 VY ?_
  intro K hK
  refine yL (.tmp 6) (.tmp 32) 33 rfl rfl (vd.heap.size) rec rfl rfl 33 zP qK.out (by rw[wP.out.1]; exact zR) (by rw[wP.out.1]; rfl) wP.out.2 ?_
  simp only[VY,Act.put,sA,sZ,sS]
  refine hK.out _ _ (fun h=>absurd h (by decide)) (fun _=>?_)
  clear hK K hė
  refine tO 18 ZL ?_
  intro K hK
  refine qg ?_ rfl ?_ ?_
  rotate_left
  ·unfold ZL; go_simp; with_reducible rfl
  simp only[ZL,Act.put,sA,sZ,sS]
  refine hK.out _ _ (fun h=>absurd h (by decide)) (fun _=>?_)
  clear hK K
  refine tO 19 ZK ?_
  intro K hK
  refine qg ?_ rfl ?_ ?_
  rotate_left
  ·unfold ZK; go_simp; with_reducible rfl
  simp only[ZK,Act.put,sA,sZ,sS]
  refine hK.out _ _ (fun h=>absurd h (by decide)) (fun _=>?_)
  clear hK K
  refine zB.done (by kernel_rfl) ?_ _
  refine NoPanic.normal ?_
  have CZ:=hI Vq
  clear Vq
  go_wp2_with (first | (with_reducible refine zJ ?_) | (refine zV (.tmp 6) 33 rfl rfl (vd.heap.size) rfl 33 rec.toList _ Tryz.underlying33 rfl (by simp only[Array.length_toList,wP.out.1]; exact zR) HF.out.1 ?_) | (refine zF (.tmp 4) (.tmp 35) 33 rfl rfl (w.heap.size+1) rec rfl rfl 33 _ HF.out.2.1 (by rw[wP.out.1]; exact zR) (by rw[wP.out.1]; rfl) wP.out.2 ?_))
  exact Halt.ret (zy rfl _ _ (w.heap.size+1) 33 rec _ rfl HF.out.2.2.1 Tryz.underlying33 rfl (by rw[wP.out.1]; exact zR)) rfl ⟨rec,er,rfl,HF.out.2.2.2.1.less (by have:=CZ.out; omega),HF.out.2.2.2.2.1,HF.out.2.2.2.2.2⟩
end
end
section
section
variable {w w':World} {X Y:Nat→Prop} {l p d n m c:Nat} {s:Sup} {t:Int} {k:Dk} {sec:Int} {A:Option Addr} {xs:List Seg} {br:Bool}
theorem qX.disk {v:World} {k2:Dk} (h:qX w X l p d n s t k sec A m c xs br) (hd:∀ R:Nat→Prop,xQ w (fun b=>X b∨b=l∨R b) p d n s t k→(∀ b,R b→b<w.heap.size)→xQ v (fun b=>X b∨b=l∨R b) p d n s t k2∧Kept (fun b=>X b∨b=l∨R b) w v):qX v X l p d n s t k2 sec A m c xs br∧Kept X w v:=by
 obtain ⟨h1,h2,R,h3,h4,h5⟩:=h
 obtain ⟨g1,g2⟩:=hd R h3 (fun b h=>(h5 b h).1)
 exact ⟨⟨h1.kept g2 (.inr (.inl rfl)),h2,R,g1,h4.kept g2 (fun b h=>.inr (.inr h)),fun b h=>⟨nL (h5 b h).1 g2.size,(h5 b h).2⟩⟩,g2.mono (fun b h=>.inl h)⟩
theorem TY (h:qX w X l p d n s t k sec A m c xs false) (hX:∀ b,X b→b<w.heap.size) (hg:Good k) :
 Calls Tryz.prog 92 #[.pointer (some ⟨l,0,none⟩)] w fun e w'=>e=.returned (.int .i64 0)∧qX w' X l p d n s t (k.wr Dk.sync) sec A m c xs false∧Kept X w w':=by
 obtain ⟨c0,_,_,c3⟩:=yU h
 obtain ⟨h1,h2,R,h3,h4,h5⟩:=h
 have H1:=hI h1
 have H2:=hI h2
 have H3:=hI h3
 have H4:=hI h4
 have H5:=hI h5
 have hsy:=Qm h3.2.1 (fun b h=>by
  rcases h with (h | h | h) | h
  ·exact hX b h
  ·rw[h]; exact h1.lt
  ·exact (h5 b h).1
  ·rw[h]; exact h3.1.lt)
 rw[hg.wre] at hsy
 have HSY:=hI hsy
 clear h1 h2 h3 h4 h5 hX hg hsy
 go_enter Tryz.func92,Tryz.ntmps92
 go_wp2_with fail
 refine (uX H3.out).mono ?_
 rintro e w1 ⟨rfl,rfl⟩
 go_wp2_with fail
 refine HSY.out.mono ?_
 rintro e w2 ⟨rfl,hd,hk⟩
 have HD:=hI hd
 have HK:=hI hk
 clear hd hk
 go_wp2_with fail
 refine (JR _ l).mono ?_
 rintro e w3 ⟨rfl,rfl⟩
 go_wp2_with fail
 go_ret
 exact ⟨rfl,⟨H1.out.kept HK.out (.inl (.inr (.inl rfl))),H2.out,R,⟨H3.out.1.kept HK.out (.inr rfl),HD.out,H3.out.2.2⟩,H4.out.kept HK.out (fun b h=>.inl (.inr (.inr h))),fun b h=>⟨nL (H5.out b h).1 HK.out.size,(H5.out b h).2⟩⟩,HK.out.mono (fun b h=>.inl (.inl h))⟩
end
end
section
theorem Te {k:Dk} {s:Sup} (h:Good k) (i:Nat):(wU k s i).pend=k.pend:=by
 unfold wU
 split
 ·rw[h.rd]
 ·rfl
theorem Bv {k:Dk} {s:Sup} (h:Good k) (at_:Nat):∀ j,Good (mM (fun k i=>wU k s i) k at_ j)∧(mM (fun k i=>wU k s i) k at_ j).held=k.held∧(mM (fun k i=>wU k s i) k at_ j).pend=k.pend
 | 0=>⟨h,rfl,rfl⟩
 | j+1=>by
  obtain ⟨h1,h2,h3⟩:=Bv h at_ j
  exact ⟨WT h1 _,(WS h1 _).trans h2,(Te h1 _).trans h3⟩
abbrev Sl (a:Int × Int × Int):Value:=.agg #[.int .i64 a.1,.int .u64 a.2.1,.int .i64 a.2.2]
noncomputable section
def kH (s:Sup) (xs:List Seg) (K:Nat):Option (Nat × Sup × List Seg) :=
 if (K:Int)≤jB s.b xs then some ((qO xs).toNat,s,xs) else
 if jQ xs<0 then none else some ((jQ xs).toNat,jR s,qC (zL s.b xs) (s.g+1))
end
section
variable {w w':World} {X Y:Nat→Prop} {l p d n:Nat} {s:Sup} {t:Int} {k:Dk} {xs:List Seg} {pe:Nat} {a:Int × Int × Int} {bs:List Int}
theorem jJ.ok_k (h:jJ w X l p d n s t k xs pe):k.Ok n:=by
 obtain ⟨A,c,hl,_,_⟩:=h.log
 obtain ⟨_,_,R,hs,_,_⟩:=hl
 exact hs.2.1.ok
theorem jJ.pe_le {pe2:Nat} (h:jJ w X l p d n s t k xs pe) (hp:pe≤pe2):jJ w X l p d n s t k xs pe2 :=
 ⟨h.log,h.good,h.ok,h.top,h.may,h.sin,h.dims,h.n2,h.room,nT h.pend hp⟩
theorem qX.off {S:Nat→Prop} {sec:Int} {A:Option Addr} {m c:Nat} {br:Bool} (h:qX w X l p d n s t k sec A m c xs br) (hk:Kept S w w') (hS:∀ b,b<w.heap.size→¬ X b→S b):qX w' X l p d n s t k sec A m c xs br:=by
 obtain ⟨h1,h2,R,h3,h4,h5⟩:=h
 exact ⟨h1.kept hk (hS _ h1.lt h2),h2,R,zk.kept h3 hk (fun b hb hx=>hS b hb (fun e=>hx (.inl e))) (fun b _ h=>h),h4.kept hk (fun b h=>hS b (h5 b h).1 (h5 b h).2.2),fun b h=>⟨nL (h5 b h).1 hk.size,(h5 b h).2⟩⟩
theorem jJ.off {S:Nat→Prop} (h:jJ w X l p d n s t k xs pe) (hk:Kept S w w') (hS:∀ b,b<w.heap.size→¬ X b→S b):jJ w' X l p d n s t k xs pe:=by
 obtain ⟨A,c,h1,h2,h3⟩:=h.log
 exact ⟨⟨A,c,h1.off hk hS,h2,h3⟩,h.good,h.ok,h.top,h.may,h.sin,h.dims,h.n2,h.room,h.pend⟩
def zJg (w:World) (X:Nat→Prop) (l p d n:Nat) (s:Sup) (t:Int) (k:Dk) (xs:List Seg) (pe:Nat) (bs:List Int) (e:Ending) (w':World):Prop :=
 ∃ b1 b2 k',e=.returned (.tuple #[.agg (jZ bs b1 b2),.int .i64 0])∧w.heap.size≤b1∧w.heap.size≤b2∧b1≠b2∧zn w' b1 (keyOf bs)∧zn w' b2 (valOf bs)∧jJ w' (fun b=>X b∨b=b1∨b=b2) l p d n s t k' xs pe∧k'.held=k.held∧Kept X w w'
theorem zCY (h:jJ w X l p d n s t k xs pe) (hX:∀ b,X b→b<w.heap.size) (ha:AtR k s xs a bs) :
 Calls Tryz.prog 13 #[.pointer (some ⟨l,0,none⟩),Sl a] w (zJg w X l p d n s t k xs pe bs):=by
 obtain ⟨hr,i,c,rfl,h2,h3,h4,h5⟩:=ha
 obtain ⟨A,cc,hl,hc,hn⟩:=h.log
 have hlen:=h.ok.1
 unfold qj at hlen
 have wG:=h.dims
 have hub:=gW h.ok h2
 have hc1:1≤zD bs.length:=by unfold zD; omega
 have hu:ZB xs (i:Nat) (zM xs i) (c:Nat)=true:=by
  rw[M6 h2]
  have e1:decide ((c:Int)<(xs.getD i zK).2.2)=true:=decide_eq_true (by have:zI xs i=(xs.getD i zK).2.2:=rfl; omega)
  have e2:decide (1≤(c:Int))=true:=decide_eq_true (by omega)
  rw[e1,e2]
  show ((zM xs i==zM xs i)&&(true&&true))=true
  rw[beq_self_eq_true]
  rfl
 have hg:1≤zM xs i∧zM xs i≤18446744073709551615:=by
  have h0:qE xs i≠0:=fun e=>by have:=rz h.ok h2 e; omega
  have h9:=h.top
  have h8:=VR h2 h0
  have h7:=(fB (mR h.ok.2.1 h2) h0).2.1
  have h6:=h.sin
  simp only[Sup.In,lG] at h6
  have:zM xs i=(xs.getD i zK).2.1:=rfl
  omega
 obtain ⟨r1,r2,r3⟩:=lZ (V:=zh k s i) (E:=tH s) hr h5 (fun j hj=>by unfold tH; rw[if_pos (by omega)]) hg (by omega)
 refine (Tw hl hX (by omega) h.may h.good h.ok_k i (by omega) h.room h.n2.2 (zM xs i) c (by omega) hu).mono ?_
 rintro e w' ⟨rec,er,rfl,hrd,DY,hk⟩
 obtain ⟨_,q2,_,q4⟩:=hrd
 have hz:er=0:=q2.trans r1
 obtain ⟨ys,b1,b2,e1,e2,e3,e4,e5,e6,e7⟩:=q4 hz
 rw[r2,r3] at e1
 subst e1 e2 hz
 obtain ⟨g1,g2,g3⟩:=Bv (s:=s) h.good c (vR (zh k s i) (tH s) (zM xs i) c)
 exact ⟨b1,b2,_,rfl,e3,e4,e5,e6,e7,⟨⟨A,cc,DY.less (fun b hb=>hb.imp id (fun h=>by rcases h with rfl | rfl; exact zAC; exact zAA)),hc,hn⟩,g1,h.ok,h.top,h.may,h.sin,h.dims,h.n2,h.room,by rw[g3]; exact h.pend⟩,g2,hk⟩
end
end
section
def fing (l:List Int):Int:=yV start l / 4294967296 % 4294967296
def xJ (us:List Int):Nat:=(fing us).toNat
theorem Hg (us:List Int):xJ us<4294967296∧fing us=(xJ us:Int):=by
 unfold xJ fing
 omega
theorem SL (s:ByteArray) (w:World) (hn:s.size≤9223372036854775807) :
 Calls Tryz.prog 151 #[.string s] w fun e w'=>e=.returned (.int .u32 (fing (nums s)))∧w=w':=by
 go_enter Tryz.func151,Tryz.ntmps151
 go_wp2_with (go_at_call 197; refine (FD _ s _ hn).mono ?_; rintro e w' ⟨rfl,rfl⟩)
 go_ret
 exact ⟨rfl,rfl⟩
theorem mh (A:Option Addr) (n c:Nat) (us:List Int) {S:Nat→Prop} (w:World) (hx:zW .u8 w S A n us) (hS:∀ b,S b→b<w.heap.size) (hb:Bytes us) (hn:n≤1000000) :
 Calls Tryz.prog 100 #[.slice A n c] w fun e w'=>e=.returned (.int .u32 (xJ us:Nat))∧w'=w:=by
 obtain ⟨t,ht,hnt⟩:=pX (P:=Tryz.prog) w 31 9 5 Tryz.underlying31 Tryz.underlying5 Tryz.underlying9 c (hx.more hS).toRow hb
 have hsz:t.size≤9223372036854775807:=by
  have h1:(nums t).length=n:=by rw[hnt]; exact hx.1
  rw[nums_length] at h1
  omega
 have HF:=hI (SL t w hsz)
 rw[hnt,(Hg us).2] at HF
 clear hx hS hb hsz hnt
 go_enter Tryz.func100,Tryz.ntmps100
 go_wp2_with fail
 refine HF.out.mono ?_
 rintro e w2 ⟨rfl,rfl⟩
 go_wp2_with fail
 go_ret
 exact ⟨rfl,rfl⟩
end
section
def vP (i:Nat):IntKind:=if i<2 then .i64 else if i<1027 then .u32 else if i<4102∧i % 3=2 then .u64 else .i64
theorem Mt {i:Nat} (h:i<2):vP i=.i64:=by unfold vP; rw[if_pos h]
theorem aL {i:Nat} (h:i<1025):vP (2+i)=.u32:=by unfold vP; rw[if_neg (by omega),if_pos (by omega)]
theorem aO {i:Nat} (h:i<1025):vP (1027+i*3)=.i64:=by unfold vP; rw[if_neg (by omega),if_neg (by omega),if_neg (by omega)]
theorem aN {i:Nat} (h:i<1025):vP (1027+i*3+1)=.u64:=by unfold vP; rw[if_neg (by omega),if_neg (by omega),if_pos (by omega)]
theorem aM {i:Nat} (h:i<1025):vP (1027+i*3+2)=.i64:=by unfold vP; rw[if_neg (by omega),if_neg (by omega),if_neg (by omega)]
theorem kK {i:Nat} (h:4102≤i):vP i=.i64:=by unfold vP; rw[if_neg (by omega),if_neg (by omega),if_neg (by omega)]
def jr (c:Nat→Int):Array Value:=(Array.range 8202).map fun i=>.int (vP i) (c i)
theorem Xn (c:Nat→Int):(jr c).size=8202:=by simp[jr]
theorem Kr (c:Nat→Int) {i:Nat} (h:i<8202):(jr c)[i]? = some (.int (vP i) (c i)):=by
 simp[jr,h]
def upd (c:Nat→Int) (i:Nat) (v:Int):Nat→Int:=fun j=>if j=i then v else c j
theorem upd_same (c:Nat→Int) (i:Nat) (v:Int):upd c i v i=v:=if_pos rfl
theorem zX (c:Nat→Int) {i j:Nat} (v:Int) (h:j≠i):upd c i v j=c j:=if_neg h
theorem Kq (c:Nat→Int) {i:Nat} (v:Int):(jr c).setIfInBounds i (.int (vP i) v)=jr (upd c i v):=by
 apply Array.ext
 ·simp[jr]
 ·intro j h1 h2
  simp only[jr,Array.size_setIfInBounds,Array.size_map,Array.size_range] at h1
  rw[Array.getElem_setIfInBounds (by simpa [jr] using h1)]
  unfold upd
  by_cases h:i=j
  ·subst h; simp[jr]
  ·have h':¬ j=i:=fun e=>h e.symm
   simp[jr,h,h']
def jO (w:World) (x:Nat) (c:Nat→Int):Prop:=z8 w x 221 (jr c)
section
variable {w w':World} {x:Nat} {c:Nat→Int}
theorem jO.lt (h:jO w x c):x<w.heap.size:=z8.lt h
theorem jO.cell (h:jO w x c) {i:Nat} (hi:i<8202):w.cell? ⟨x,i,none⟩=some (.int (vP i) (c i)):=by rw[z8.cell h,Kr c hi]
theorem jO.frozen (h:jO w x c) (i:Nat):w.frozen? ⟨x,i,none⟩=false:=z8.frozen h i
theorem jO.fing (h:jO w x c) {i:Nat} (hi:i<1025):w.cell? ⟨x,2+i,none⟩=some (.int .u32 (c (2+i))):=by rw[h.cell (by omega),aL hi]
theorem jO.adr0 (h:jO w x c) {i:Nat} (hi:i<1025):w.cell? ⟨x,1027+i*3,none⟩=some (.int .i64 (c (1027+i*3))):=by rw[h.cell (by omega),aO hi]
theorem jO.adr1 (h:jO w x c) {i:Nat} (hi:i<1025):w.cell? ⟨x,1027+i*3+1,none⟩=some (.int .u64 (c (1027+i*3+1))):=by rw[h.cell (by omega),aN hi]
theorem jO.adr2 (h:jO w x c) {i:Nat} (hi:i<1025):w.cell? ⟨x,1027+i*3+2,none⟩=some (.int .i64 (c (1027+i*3+2))):=by rw[h.cell (by omega),aM hi]
theorem jO.hi (h:jO w x c) {i:Nat} (h1:4102≤i) (hi:i<8202):w.cell? ⟨x,i,none⟩=some (.int .i64 (c i)):=by rw[h.cell hi,kK h1]
theorem jO.lo (h:jO w x c) {i:Nat} (hi:i<2):w.cell? ⟨x,i,none⟩=some (.int .i64 (c i)):=by rw[h.cell (by omega),Mt hi]
theorem jO.set (h:jO w x c) {i:Nat} {k:IntKind} (hk:vP i=k) (v:Int):jO (w.setCell ⟨x,i,none⟩ (.int k v)) x (upd c i v):=by
 have:=z8.set_ h i (.int k v)
 rw[← hk,Kq] at this
 rw[← hk]
 exact this
theorem jO.drew (h:jO w x c):jO w.drew x c:=h
theorem jO.drewN (h:jO w x c) (n:Nat):jO (w.drewN n) x c:=h
theorem jO.kept {S:Nat→Prop} (h:jO w x c) (hb:Kept S w w') (hg:S x):jO w' x c:=z8.kept h hb hg
theorem jO.below {B:Nat} (h:jO w x c) (hb:Below B w w') (hg:x<B):jO w' x c:=z8.below h hb hg
end
theorem zFg {w:World} {x:Nat} {c:Nat→Int} (h:jO w x c) :
 Calls Tryz.prog 102 #[.pointer (some ⟨x,0,none⟩)] w fun e w'=>e=.returned (.int .i64 (c 1))∧w'=w:=by
 have h1:=h.lo (i:=1) (by omega)
 go_enter Tryz.func102,Tryz.ntmps102
 go_wp2
 go_ret
 exact ⟨rfl,rfl⟩
end
section
attribute [local go_sem] Oper.semAt_some
theorem Ya (f:Nat) (w:World):Calls Tryz.prog 196 #[.int .u32 f] w fun e w'=>e=.returned (.int .u32 (f % 1024:Nat))∧w'=w:=by
 go_enter Tryz.func196,Tryz.ntmps196
 go_wp2
 go_ret
 exact ⟨by simp,rfl⟩
theorem PX {w:World} {x:Nat} {c:Nat→Int} (h:jO w x c) (k:Nat) (hk:k<1025) :
 Calls Tryz.prog 134 #[.pointer (some ⟨x,0,none⟩),.int .i64 k] w fun e w'=>e=.returned (.tuple #[])∧jO w' x (upd (upd c (4102+k) (c 6151)) 6151 k)∧Kept (·≠x) w w':=by
 have h1:=h.hi (i:=6151) (by omega) (by omega)
 have h2:=h.hi (i:=4102+k) (by omega) (by omega)
 have f1:=h.frozen 6151
 have f2:=h.frozen (4102+k)
 have HX:=hI h
 clear h
 go_enter Tryz.func134,Tryz.ntmps134
 go_wp2
 go_region
 all_goals go_wp2
 all_goals (first | go_ret | go_ret2 | go_end0)
 all_goals exact ⟨rfl,((HX.out.set (kK (by omega)) _).set (kK (by omega)) _).drew,(((Kept.refl _ w).setCell (by simp) _).setCell (by simp) _).drew⟩
theorem TW {w:World} {x:Nat} {c:Nat→Int} (h:jO w x c) (k:Nat) (hk:k<1025) (hc:c 6151=k) :
 Calls Tryz.prog 211 #[.pointer (some ⟨x,0,none⟩)] w fun e w'=>e=.returned (.int .i64 k)∧jO w' x (upd c 6151 (c (4102+k)))∧Kept (·≠x) w w':=by
 have h1:=h.hi (i:=6151) (by omega) (by omega)
 rw[hc] at h1
 have h2:=h.hi (i:=4102+k) (by omega) (by omega)
 have f1:=h.frozen 6151
 have f2:=h.frozen (4102+k)
 have HX:=hI h
 clear h hc
 go_enter Tryz.func211,Tryz.ntmps211
 go_wp2
 go_ret
 exact ⟨rfl,HX.out.set (kK (by omega)) _,(Kept.refl _ w).setCell (by simp) _⟩
theorem Iy {w:World} {x:Nat} {c:Nat→Int} (h:jO w x c) (k f g:Nat) (hk:k<1025) (hc:c (2+k)=f) (hg:f % 1024=g) :
 Calls Tryz.prog 212 #[.pointer (some ⟨x,0,none⟩),.int .i64 k] w fun e w'=>e=.returned (.tuple #[])∧jO w' x (upd (upd c (4102+k) (c (5127+g))) (5127+g) k)∧Kept (·≠x) w w':=by
 have hg':g<1024:=by omega
 have h1:=h.fing (i:=k) hk
 rw[hc] at h1
 have h2:=h.hi (i:=4102+k) (by omega) (by omega)
 have h3:=h.hi (i:=5127+g) (by omega) (by omega)
 have f2:=h.frozen (4102+k)
 have f3:=h.frozen (5127+g)
 have HX:=hI h
 have HH:=hI (fun (W:World)=>by have:=Ya f W; rw[hg] at this; exact this)
 clear h hc hg
 go_enter Tryz.func212,Tryz.ntmps212
 go_wp2_with fail
 go_quiet ((go_at_call 196; exact Calls.quiet_of_same (HH.out _)))
 go_wp2
 go_region
 all_goals go_wp2
 all_goals (first | go_ret | go_ret2 | go_end0)
 all_goals exact ⟨rfl,((HX.out.set (kK (by omega)) _).set (kK (by omega)) _).drew,by repeat (first | exact Kept.refl _ _ | apply Kept.drew | apply Kept.drewN | refine Kept.setCell ?_ (by simp) _)⟩
theorem zCt {w:World} {x:Nat} {c:Nat→Int} (h:jO w x c) (k l:Nat) (hk:k<1025) (hl:l<1025) (hc:c 7177=l) :
 Calls Tryz.prog 213 #[.pointer (some ⟨x,0,none⟩),.int .i64 k] w fun e w'=>e=.returned (.tuple #[])∧jO w' x (upd (upd (upd (upd c (7177+k) l) (6152+k) 0) (6152+l) k) 7177 k)∧Kept (·≠x) w w':=by
 have h1:=h.hi (i:=7177) (by omega) (by omega)
 rw[hc] at h1
 have h2:=h.hi (i:=7177+k) (by omega) (by omega)
 have h3:=h.hi (i:=6152+k) (by omega) (by omega)
 have f2:=h.frozen (7177+k)
 have f3:=h.frozen (6152+k)
 have HX:=hI h
 clear h hc
 go_enter Tryz.func213,Tryz.ntmps213
 go_wp2
 go_region
 have hkp:Kept (·≠x) w ((w.setCell ⟨x,7177+k,none⟩ (.int .i64 l)).setCell ⟨x,6152+k,none⟩ (.int .i64 0)).drew:=(((Kept.refl _ w).setCell (by simp) _).setCell (by simp) _).drew
 have hy:=((HX.out.set (i:=7177+k) (kK (by omega)) l).set (i:=6152+k) (kK (by omega)) 0).drew
 generalize ((w.setCell ⟨x,7177+k,none⟩ (.int .i64 l)).setCell ⟨x,6152+k,none⟩ (.int .i64 0)).drew=w1 at *
 have h4:=hy.hi (i:=6152+l) (by omega) (by omega)
 have h5:=hy.hi (i:=7177) (by omega) (by omega)
 have f4:=hy.frozen (6152+l)
 have f5:=hy.frozen 7177
 have HY:=hI hy
 have HK:=hI hkp
 clear hy hkp
 go_wp2
 go_region
 all_goals go_wp2
 all_goals (first | go_ret | go_ret2 | go_end0)
 all_goals exact ⟨rfl,((HY.out.set (kK (by omega)) _).set (kK (by omega)) _).drew,((HK.out.setCell (by simp) _).setCell (by simp) _).drew⟩
theorem TT {w:World} {x:Nat} {c:Nat→Int} (h:jO w x c) (k b d:Nat) (hk:k<1025) (hb:b<1025) (hd:d<1025) (hcb:c (7177+k)=b) (hcd:c (6152+k)=d) :
 Calls Tryz.prog 215 #[.pointer (some ⟨x,0,none⟩),.int .i64 k] w fun e w'=>e=.returned (.tuple #[])∧jO w' x (upd (upd c (6152+b) d) (7177+d) b)∧Kept (·≠x) w w':=by
 have h1:=h.hi (i:=7177+k) (by omega) (by omega)
 have h2:=h.hi (i:=6152+k) (by omega) (by omega)
 rw[hcb] at h1
 rw[hcd] at h2
 have h3:=h.hi (i:=6152+b) (by omega) (by omega)
 have h4:=h.hi (i:=7177+d) (by omega) (by omega)
 have f3:=h.frozen (6152+b)
 have f4:=h.frozen (7177+d)
 have HX:=hI h
 clear h hcb hcd
 go_enter Tryz.func215,Tryz.ntmps215
 go_wp2_with fail
 go_quiet (fail)
 go_wp2
 go_region
 all_goals go_wp2
 all_goals (first | go_ret | go_ret2 | go_end0)
 all_goals exact ⟨rfl,((HX.out.set (kK (by omega)) _).set (kK (by omega)) _).drew,by repeat (first | exact Kept.refl _ _ | apply Kept.drew | apply Kept.drewN | refine Kept.setCell ?_ (by simp) _)⟩
theorem zCw {w:World} {x:Nat} {c:Nat→Int} (h:jO w x c) {s n:Int} (hs:c 0=s) (hn:c 1=n) (hlt:0≤n∧n≤s∧s≤1024) :
 Calls Tryz.prog 73 #[.pointer (some ⟨x,0,none⟩)] w fun e w'=>e=.returned (.int .i64 (s-n))∧Kept (fun _=>True) w w':=by
 have h1:=h.lo (i:=0) (by omega)
 have h2:=h.lo (i:=1) (by omega)
 rw[hs] at h1
 rw[hn] at h2
 go_enter Tryz.func73,Tryz.ntmps73
 go_wp2_with fail
 go_quiet (fail)
 go_wp2
 go_ret
 exact ⟨rfl,(Kept.refl _ w).drewN _⟩
end
section
def Lk (b:Nat) (c:Nat→Int):Int→List Nat→Prop
 | s,[]=>s=0
 | s,k::l=>s=k∧1≤k∧k<1025∧Lk b c (c (b+k)) l
theorem Lk.zero {b:Nat} {c:Nat→Int} {l:List Nat} (h:Lk b c 0 l):l=[]:=by
 cases l with
 | nil=>rfl
 | cons k l=>exact absurd h.1 (by have:=h.2.1; omega)
theorem Lk.one {b:Nat} {c:Nat→Int}:∀ {l l':List Nat} {s:Int},Lk b c s l→Lk b c s l'→l=l'
 | [],l',s,h,h'=>by obtain rfl:s=0:=h; exact h'.zero.symm
 | k::l,[],s,h,h'=>by obtain rfl:s=0:=h'; exact h.zero
 | k::l,k'::l',s,h,h'=>by
  have e:k=k':=by have h1:=h.1; have h2:=h'.1; omega
  subst e
  rw[Lk.one h.2.2.2 h'.2.2.2]
theorem Lk.next {b:Nat} {c:Nat→Int} {s:Int} {l:List Nat} (h:Lk b c s l) (hs:s≠0):∃ k m,l=k::m∧s=k∧1≤k∧k<1025∧Lk b c (c (b+k)) m:=by
 cases l with
 | nil=>exact absurd h hs
 | cons k m=>exact ⟨k,m,rfl,h⟩
theorem Lk.mem {b:Nat} {c:Nat→Int}:∀ {l:List Nat} {s:Int},Lk b c s l→∀ k∈l,1≤k∧k<1025
 | k::l,s,h,j,hj=>by
  rcases List.mem_cons.1 hj with rfl | hj
  ·exact ⟨h.2.1,h.2.2.1⟩
  ·exact h.2.2.2.mem j hj
theorem Lk.congr {b:Nat} {c c':Nat→Int}:∀ {l:List Nat} {s:Int},Lk b c s l→(∀ k∈l,c' (b+k)=c (b+k))→Lk b c' s l
 | [],s,h,_=>h
 | k::l,s,h,he=>⟨h.1,h.2.1,h.2.2.1,by
  rw[he k (List.mem_cons_self ..)]
  exact h.2.2.2.congr fun j hj=>he j (List.mem_cons_of_mem _ hj)⟩
open Classical in
noncomputable def iA (b:Nat) (c:Nat→Int) (s:Int):Nat:=if h:∃ l,Lk b c s l then h.choose.length else 0
theorem Lk.len {b:Nat} {c:Nat→Int} {s:Int} {l:List Nat} (h:Lk b c s l):iA b c s=l.length:=by
 have hx:∃ l,Lk b c s l:=⟨l,h⟩
 unfold iA
 rw[dif_pos hx,Lk.one hx.choose_spec h]
def kX (b p:Nat):List Nat→Nat
 | []=>p
 | k::l=>kX b (b+k) l
theorem JQ (b p k:Nat):∀ (l:List Nat),kX b p (l++[k])=b+k:=by
 intro l
 induction l generalizing p with
 | nil=>rfl
 | cons j l ih=>exact ih (b+j)
theorem oF (b p:Nat):∀ (l:List Nat),kX b p l=p∨∃ k∈l,kX b p l=b+k:=by
 intro l
 induction l generalizing p with
 | nil=>exact .inl rfl
 | cons j l ih =>
  rcases ih (b+j) with h | ⟨k,hk,h⟩
  ·exact .inr ⟨j,List.mem_cons_self ..,h⟩
  ·exact .inr ⟨k,List.mem_cons_of_mem _ hk,h⟩
theorem Lk.behind {b:Nat} {c:Nat→Int}:∀ {pre m:List Nat} {p:Nat},Lk b c (c p) (pre++m)→Lk b c (c (kX b p pre)) m
 | [],m,p,h=>h
 | k::pre,m,p,h=>Lk.behind (p:=b+k) (pre:=pre) h.2.2.2
theorem Lk.cut {b:Nat} {c:Nat→Int}:∀ {pre m:List Nat} {k p:Nat},Lk b c (c p) (pre++k::m)→(pre++k::m).Nodup→(∀ j∈pre++k::m,p≠b+j) →
 Lk b (upd c (kX b p pre) (c (b+k))) (upd c (kX b p pre) (c (b+k)) p) (pre++m)
 | [],m,k,p,h,hd,hp=>by
  show Lk b (upd c p (c (b+k))) (upd c p (c (b+k)) p) m
  rw[upd_same]
  exact h.2.2.2.congr fun j hj=>zX c _ (fun e=>hp j (List.mem_cons_of_mem _ hj) e.symm)
 | i :: pre, m, k, p, h, hd, hp => by
  have ih:=Lk.cut (pre:=pre) (m:=m) (k:=k) (p:=b+i) h.2.2.2 (List.nodup_cons.1 hd).2 (fun j hj e=>(List.nodup_cons.1 hd).1 ((show i=j by omega).symm▸hj))
  have hne:p≠kX b (b+i) pre:=by
   rcases oF b (b+i) pre with h1 | ⟨j,hj,h1⟩
   ·rw[h1]; exact hp i (List.mem_cons_self ..)
   ·rw[h1]; exact hp j (List.mem_cons_of_mem _ (List.mem_append.2 (.inl hj)))
  show Lk b (upd c (kX b (b+i) pre) (c (b+k))) (upd c (kX b (b+i) pre) (c (b+k)) p) (i::(pre++m))
  rw[zX c _ hne]
  exact ⟨h.1,h.2.1,h.2.2.1,ih⟩
theorem Lk.put {b:Nat} {c:Nat→Int}:∀ {l:List Nat} {k p:Nat},Lk b c (c p) l→l.Nodup→k ∉ l→1≤k→k<1025→(∀ j∈l,p≠b+j)→p≠b+k →
 Lk b (upd (upd c (b+k) 0) (kX b p l) k) (upd (upd c (b+k) 0) (kX b p l) k p) (l++[k])
 | [],k,p,h,hd,hk,h1,h2,hp,hpk=>by
  show Lk b (upd (upd c (b+k) 0) p k) (upd (upd c (b+k) 0) p k p) [k]
  rw[upd_same]
  refine ⟨rfl,h1,h2,?_⟩
  show upd (upd c (b+k) 0) p k (b+k)=0
  rw[zX _ _ hpk.symm,upd_same]
 | i :: l, k, p, h, hd, hk, h1, h2, hp, hpk => by
  have ih:=Lk.put (l:=l) (k:=k) (p:=b+i) h.2.2.2 (List.nodup_cons.1 hd).2 (fun hm=>hk (List.mem_cons_of_mem _ hm)) h1 h2
   (fun j hj e=>(List.nodup_cons.1 hd).1 ((show i=j by omega).symm▸hj)) (fun e=>hk ((show i=k by omega)▸List.mem_cons_self ..))
  have hne:p≠kX b (b+i) l:=by
   rcases oF b (b+i) l with h1 | ⟨j,hj,h1⟩
   ·rw[h1]; exact hp i (List.mem_cons_self ..)
   ·rw[h1]; exact hp j (List.mem_cons_of_mem _ hj)
  show Lk b (upd (upd c (b+k) 0) (kX b (b+i) l) k) (upd (upd c (b+k) 0) (kX b (b+i) l) k p) (i::(l++[k]))
  rw[zX _ _ hne,zX _ _ hpk]
  exact ⟨h.1,h.2.1,h.2.2.1,ih⟩
theorem Lk.push {b:Nat} {c:Nat→Int} {l:List Nat} {k p:Nat} (h:Lk b c (c p) l) (hk:k ∉ l) (h1:1≤k) (h2:k<1025) (hp:∀ j∈l,p≠b+j) (hpk:p≠b+k) :
 Lk b (upd (upd c (b+k) (c p)) p k) (upd (upd c (b+k) (c p)) p k p) (k::l):=by
 rw[upd_same]
 refine ⟨rfl,h1,h2,?_⟩
 rw[zX _ _ hpk.symm,upd_same]
 exact h.congr fun j hj=>by
  have e1:b+j≠p:=fun e=>hp j hj e.symm
  have e2:b+j≠b+k:=fun e=>hk ((show j=k by omega)▸hj)
  rw[zX _ _ e1,zX _ _ e2]
end
section
def Uy (F:Fence) (n:Nat) (P:Program) (g:Nat) (lb:Array Value) (encs:Nat→Array Value) (N:Nat) (M:Nat→World→Prop):Prop :=
 ∀ (l:Nat) (J Jx:Nat→World→Prop) (W:World),AbidesFrom W.heap.size J→AbidesFrom W.heap.size Jx→(∀ i V,J i V→M i V) →
  (∀ i V,i<N→J i V→YieldAt F (n-1) P l (encs i) V fun e V'=>(e=.returned (.bool true)∧J (i+1) V')∨(e=.returned (.bool false)∧Jx i V')) →
  J 0 W→CallsIn F n P g (#[.func (.yield l) #[] #[]]++lb) W fun e V'=>(∃ v,e=.returned v)∧(J N V'∨∃ i,i<N∧Jx i V')
def zHe (B:Nat) (I:Nat→World→Prop) (Ix:Code→Nat→World→Prop) (i:Nat) (W:World):Exit→Act→World→Prop
 | .normal,_,V=>KeepsFrom B W V∧I (i+1) V
 | .ret,_,V=>KeepsFrom B W V∧Ix .ret i V
 | .exit id,_,V=>KeepsFrom B W V∧Ix (.exit id) i V
 | .goto t,_,V=>KeepsFrom B W V∧Ix (.goto t) i V
 | .panic _,_,_=>False
 | .outgrown,_,_=>False
section
variable {F:Fence} {n:Nat} {P:Program} {w:World}
theorem GX {g:Operand} {ps:Array Tmp} {assign body:Code} {Q:Exit→Act→World→Prop} {a:Act} (hro:F.round=none) (h1:1≤n) {gf:Nat} {lb:Array Value} (hg:a.eval g=.func (.func gf) #[] lb) (hFg:F.fn gf)
 (eg:∀ args W,(callFunc gf args).run P W=.ok (.enter gf args) W) {encs:Nat→Array Value} {N:Nat} {M:Nat→World→Prop} (hseq:Uy F (n-1) P gf lb encs N M) (hps:∀ i,(encs i).size=ps.size)
 (I:Nat→World→Prop) (Ix:Code→Nat→World→Prop) (hI:OwnFrom w.heap.size I) (hIx:∀ c,OwnFrom w.heap.size (Ix c)) (h0:I 0 w) (hM:∀ i V,I i V→M i V) (Ax:Nat→Act→World→Prop) (hAx:∀ i a',OwnFrom w.heap.size (fun (_:Unit) W=>Ax i a' W))
 (hassign:∀ (l i:Nat) (W:World) (K:Act→World→Prop),i<N→I i W→(∀ a' V,KeepsFrom w.heap.size W V→I i V→Ax i a' V→K a' V) →
   assign.wpIn (F.inRound l) (n-1-1) P (Exit.then K (fun _ _ _=>False)) { tmps:=(ps.zip (encs i)).foldl (fun t (p,v)=>t.setIfInBounds p v) a.tmps,defers:=[] } W)
 (hbody:∀ (l i:Nat) (a':Act) (W:World),i<N→w.heap.size≤l→(∃ r,W.heap[l]? = some (.loop r))→I i W→Ax i a' W→body.wpIn (F.inRound l) (n-1-1) P (zHe w.heap.size I Ix i W) a' W)
 (hdone:∀ (D:Nat) (W:World),w.heap.size≤D→I N W→W.heap[D]? = some (.deferred (some []))→Q .normal { a with defers:={ target:=.collected D,args:=#[] }::a.defers } W)
 (hstop:∀ (D:Nat) (c:Code) (i:Nat) (W:World),w.heap.size≤D→i<N→Ix c i W→W.heap[D]? = some (.deferred (some []))→c.wpIn F n P Q { a with defers:={ target:=.collected D,args:=#[] }::a.defers } W) :
 (Code.rangeFunc g ps assign body).wpIn F n P Q a w:=by
 refine wpIn_rangeFunc fun fn hfn=>?_
 rw[hro]
 -- the loop's record,and the world behind 'enterLoop'
 let Ab:LoopState→Option Code→Loop:=fun st pe=>{ state:=st,pending:=pe,fn,tmps:=a.tmps,params:=ps,assign,body,defers:=w.heap.size }
 obtain ⟨rc,hrc⟩:∃ rc,rc=Ab:=⟨_,rfl⟩
 obtain ⟨V0,hV0⟩:∃ V0,V0=(w.alloc (.deferred (some []))).alloc (.loop (rc .ready none)):=⟨_,rfl⟩
 have sV0:V0.heap.size=w.heap.size+2:=by rw[hV0]; simp
 have lV0:V0.heap[w.heap.size+1]? = some (.loop (rc .ready none)):=by
  have h:=World.alloc_heap_new (w.alloc (.deferred (some []))) (.loop (rc .ready none))
  rw[World.size_alloc] at h
  rw[hV0]; exact h
 have dV0:V0.heap[w.heap.size]? = some (.deferred (some [])):=by
  rw[hV0]; exact (Below.heap_alloc _ _ _ (by simp)).trans (World.alloc_heap_new w _)
 -- what holds between two rounds,and behind the last one
 let Bk:LoopState→Option Code→World→Prop:=fun st pe V=>V.heap[w.heap.size+1]? = some (.loop (rc st pe))∧V.heap[w.heap.size]? = some (.deferred (some []))
 have LP:∀ {st pe} {A B:World} {row:Option Nat},Bk st pe A→A.grownBy B row→(∀ r,row=some r→∃ o:Obj,A.heap[r]? = some o∧o.isWalk=true)→Bk st pe B :=
  fun hb hgr hr=>⟨(grownBy_keeps hgr hr hb.1 rfl).trans hb.1,(grownBy_keeps hgr hr hb.2 rfl).trans hb.2⟩
 have narrow:∀ {A:World} {row:Option Nat},(∀ r,row=some r→V0.heap.size≤r∧∃ o:Obj,A.heap[r]? = some o∧o.isWalk=true)→∀ r,row=some r→w.heap.size≤r∧∃ o:Obj,A.heap[r]? = some o∧o.isCells=false :=
  fun hr r e=>by
   obtain ⟨h2,o,h3,h4⟩:=hr r e
   exact ⟨by omega,o,h3,Obj.not_cells_of_walk h4⟩
 refine ⟨w.heap.size+1,[{ target:=.collected w.heap.size,args:=#[] }],V0,{ target:=.fn (.func gf) lb,args:=#[.func (.yield (w.heap.size+1)) #[] #[]] },V0,gf,#[.func (.yield (w.heap.size+1)) #[] #[]]++lb,V0,?_,?_,?_,?_,fun _=>h1,?_⟩
 ·rw[hV0,hrc]; exact run_enterLoop_outer _ _ _ _ _
 ·simp only[resolve,hg]; simp[go_sem]
 ·intro f' hf'
  simp[Target.leads] at hf'
  subst hf'
  exact hFg
 ·simp[invoke,go_sem,eg]
 have shut:∀ (jump:Option Code) (V:World),V.heap[w.heap.size+1]? = some (.loop { rc .ready none with state:=.busy })→V.heap[w.heap.size]? = some (.deferred (some [])) →
  ∃ V',(Instr.endRound (w.heap.size+1) jump).run P V=.ok (.bool jump.isNone) V'∧V'=V.putObj (w.heap.size+1) (.loop (rc (if jump.isNone then .ready else .done) jump))∧Bk (if jump.isNone then .ready else .done) jump V':=fun jump V hl hd=>by
  have h:=run_endRound (P:=P) jump hl
  refine ⟨V.putObj (w.heap.size+1) (.loop (rc (if jump.isNone then .ready else .done) jump)),?_,rfl,World.putObj_heap_same (Array.getElem?_eq_some_iff.1 hl).1,(World.putObj_heap_other (by omega)).trans hd⟩
  rw[hrc] at h ⊢
  exact h
 refine (hseq (w.heap.size+1) (fun i V=>I i V∧Bk .ready none V) (fun i V=>∃ c,Ix c i V∧Bk .done (some c) V) V0
  (fun i A B row hs hgr hr=>⟨hI i A B row hs.1 hgr (narrow hr),LP hs.2 hgr fun r e=>(hr r e).2⟩)
  (fun i A B row ⟨c,hc,hb⟩ hgr hr=>⟨c,hIx c i A B row hc hgr (narrow hr),LP hb hgr fun r e=>(hr r e).2⟩)
  (fun i V h=>hM i V h.1) ?_ ⟨by rw[hV0]; exact hI.alloc _ (hI.alloc _ h0),lV0,dV0⟩).mono ?_
 ·-- a round
  rintro i V hi ⟨hiI,hl,hd⟩
  have hy:=run_yield (P:=P) (args:=encs i) hl (by rw[hrc]; exact hps i)
  rw[hrc] at hy
  refine ⟨fn,_,assign,body,hy,roundIn_of_wpIn hfn (hassign _ i V _ hi hiI ?_)⟩
  intro a' Va hk hIa hA
  have hla:=hk.same _ _ (by omega) hl rfl
  have hda:=hk.same _ _ (nR _) hd rfl
  have hlt:=(Array.getElem?_eq_some_iff.1 hla).1
  refine ⟨_,run_beginRound hla (by rw[hrc]),?_⟩
  have hlb:(Va.putObj (w.heap.size+1) (.loop { rc .ready none with state:=.busy })).heap[w.heap.size+1]? = some (.loop { rc .ready none with state:=.busy }):=World.putObj_heap_same hlt
  have hdb:(Va.putObj (w.heap.size+1) (.loop { rc .ready none with state:=.busy })).heap[w.heap.size]? = some (.deferred (some [])):=(World.putObj_heap_other (by omega)).trans hda
  refine wpIn_mono (hbody _ i a' _ hi (by omega) ⟨_,hlb⟩ (hI.putObj _ hIa (by omega) hla rfl) ((hAx i a').putObj (s:=()) _ hA (by omega) hla rfl)) ?_
  rintro e a3 V3 hp
  cases e with
  | normal =>
   have hl3:=hp.1.same _ _ (by omega) hlb rfl
   obtain ⟨V4,hr,e4,hb⟩:=shut none V3 hl3 (hp.1.same _ _ (nR _) hdb rfl)
   exact ⟨_,V4,hr,.inl ⟨rfl,by rw[e4]; exact hI.putObj _ hp.2 (by omega) hl3 rfl,hb⟩⟩
  | ret =>
   have hl3:=hp.1.same _ _ (by omega) hlb rfl
   obtain ⟨V4,hr,e4,hb⟩:=shut (some .ret) V3 hl3 (hp.1.same _ _ (nR _) hdb rfl)
   exact ⟨_,V4,hr,.inr ⟨rfl,.ret,by rw[e4]; exact (hIx _).putObj _ hp.2 (by omega) hl3 rfl,hb⟩⟩
  | exit id =>
   have hl3:=hp.1.same _ _ (by omega) hlb rfl
   obtain ⟨V4,hr,e4,hb⟩:=shut (some (.exit id)) V3 hl3 (hp.1.same _ _ (nR _) hdb rfl)
   exact ⟨_,V4,hr,.inr ⟨rfl,.exit id,by rw[e4]; exact (hIx _).putObj _ hp.2 (by omega) hl3 rfl,hb⟩⟩
  | goto t =>
   have hl3:=hp.1.same _ _ (by omega) hlb rfl
   obtain ⟨V4,hr,e4,hb⟩:=shut (some (.goto t)) V3 hl3 (hp.1.same _ _ (nR _) hdb rfl)
   exact ⟨_,V4,hr,.inr ⟨rfl,.goto t,by rw[e4]; exact (hIx _).putObj _ hp.2 (by omega) hl3 rfl,hb⟩⟩
  | panic ch=>exact hp.elim
  | outgrown=>exact hp.elim
 ·-- behind the iterator
  rintro e V2 ⟨⟨v,rfl⟩,(⟨hiI,hl,hd⟩ | ⟨i,hi,c,hc,hl,hd⟩)⟩
  ·have h:=run_endLoop (P:=P) hl (by rw[hrc]; simp[Ab])
   rw[hrc] at h
   exact ⟨none,_,h,hdone _ _ (nR _) (hI.putObj _ hiI (by omega) hl rfl) ((World.putObj_heap_other (by omega)).trans hd)⟩
  ·have h:=run_endLoop (P:=P) hl (by rw[hrc]; simp[Ab])
   rw[hrc] at h
   exact ⟨some c,_,h,hstop _ c i _ (nR _) hi ((hIx c).putObj _ hc (by omega) hl rfl) ((World.putObj_heap_other (by omega)).trans hd)⟩
end
end
section
open Go.RowKit Go.Shelf
attribute [local go_sem] Oper.semAt_some
theorem iD (w:World) (n:Nat):w.grownBy (w.drewN n) none:=⟨rfl,rfl,rfl,nR _,fun _ _ _=>rfl⟩
theorem KZ (n gx gf x f g:Nat) (c:Nat→Int) (C T:List Nat) (hg:f % 1024=g) (hC:Lk 4102 c (c (5127+g)) C) (hT:T=C.filter (fun k=>c (2+k)=(f:Int)))
 (M:Nat→World→Prop) (hM:∀ i V,M i V→jO V x c∧V.cell? ⟨gx,0,none⟩=some (.pointer (some ⟨x,0,none⟩))∧V.cell? ⟨gf,0,none⟩=some (.int .u32 f)) :
 Uy Fence.wide n Tryz.prog 195 #[.pointer (some ⟨gx,0,none⟩),.pointer (some ⟨gf,0,none⟩)] (fun i=>#[.int .i64 (T.getD i 0)]) T.length M:=by
 intro l J Jx W hJ hJx hJM hY h0
 have hg':g<1024:=by omega
 have HH:=hI (fun (W:World)=>by have:=Ya f W; rw[hg] at this; exact this)
 refine callsIn_of_wp Tryz.func195 rfl trivial ?_ rfl
 simp only[Tryz.ntmps195,List.size_toArray,List.length_cons,List.length_nil,Nat.reduceAdd,Nat.reduceSub,Array.replicate_succ,Array.replicate_zero,List.push_toArray,List.append_toArray,List.nil_append,List.cons_append]
 obtain ⟨k0,k1,k2⟩:=hM _ _ (hJM 0 W h0)
 have HT:=hI hT
 have HC:=hI hC
 have HX0:=hI k0
 have hcc:=k0.hi (i:=5127+g) (by omega) (by omega)
 obtain ⟨s0,hs0⟩:∃ s0,c (5127+g)=s0:=⟨_,rfl⟩
 rw[hs0] at hcc
 have HS0:=hI hs0
 clear k0 hT hC hg hs0
 refine wpIn_wide.2 (wp_scope_straight ((wpIn_wide (n:=n)).1 ?_))
 gi_wp2
 refine wpIn_label ?_
 gi_wp2
 refine wpIn_wide.2 ?_
 go_quiet ((go_at_call 196; exact Calls.quiet_of_same (HH.out _)))
 gi_wp2
 gi_loopw [4] (fun i wr=>∃ (s:Int) (r:List Nat) (k:Nat),i=.int .i64 s∧Lk 4102 c s r∧k≤T.length∧T.drop k=r.filter (fun k=>c (2+k)=(f:Int))∧J k wr)
  (fun i _=>iA 4102 c (intOf i))
 case atStart=>exact ⟨s0,C,0,rfl,by rw[← HS0.out]; exact HC.out,Nat.zero_le _,by rw[List.drop_zero]; exact HT.out,hJ 0 W _ none h0 (iD W nq) (fun r e=>by cases e)⟩
 case round =>
  obtain ⟨s,r,k,rfl,hL,hk,hd,hJk⟩:=hrel
  have hlen:=hL.len
  obtain ⟨q0,q1,q2⟩:=hM _ _ (hJM _ _ hJk)
  by_cases hs:s=0
  ·obtain rfl:=hs
   obtain rfl:=hL.zero
   have e:k=T.length:=by
    have:=congrArg List.length hd
    simp at this
    omega
   subst e
   clear hd hL
   gi_wp2
   rw[Exit.noGoto_normal]
   go_end0
   exact ⟨⟨_,rfl⟩,.inl hJk⟩
  ·obtain ⟨k0,m,rfl,rfl,hk1,hk2,hL2⟩:=hL.next hs
   have X4:=hL2.len
   have a1:=q0.fing hk2
   have a2:=q0.hi (i:=4102+k0) (by omega) (by omega)
   obtain ⟨s2,hs2⟩:∃ s2,c (4102+k0)=s2:=⟨_,rfl⟩
   rw[hs2] at a2 hL2 X4
   have HS2:=hI hs2
   clear hs2
   by_cases hv:c (2+k0)=(f:Int)
   ·rw[hv] at a1
    have hd2:T.drop k=k0::m.filter (fun k=>c (2+k)=(f:Int)):=by rw[hd,List.filter_cons_of_pos (by simpa using hv)]
    have hlt:k<T.length:=by
     have:=congrArg List.length hd2
     simp at this
     omega
    have hT2:T.getD k 0=k0:=by
     rw[List.drop_eq_getElem_cons hlt] at hd2
     have e:=(List.cons.inj hd2).1
     simp[List.getD,List.getElem?_eq_getElem hlt,e]
    have hd3:T.drop (k+1)=m.filter (fun k=>c (2+k)=(f:Int)):=by
     rw[List.drop_eq_getElem_cons hlt] at hd2
     injection hd2
    have HD:=hI hd3
    clear hd hd2 hv hd3
    gi_wp2
    refine wpIn_wide.2 ?_
    go_quiet (fail)
    have SF:=hJ k wr _ none hJk (iD wr nq) (fun r e=>by cases e)
    obtain ⟨fn,tmps,assign,body,hy,hR⟩:=hY k _ hlt SF
    rw[hT2] at hy
    clear SF
    gi_wp2
    refine ⟨(fun h=>by cases h),hR.mono ?_⟩
    rintro e V (⟨rfl,hJ2⟩ | ⟨rfl,hJ2⟩)
    ·obtain ⟨v0,v1,v2⟩:=hM _ _ (hJM _ _ hJ2)
     have b2:=v0.hi (i:=4102+k0) (by omega) (by omega)
     rw[HS2.out] at b2
     gi_wp2
     go_roundw
     case rel=>exact ⟨s2,m,k+1,rfl,hL2,by omega,HD.out,hJ2⟩
     case measure=>show iA 4102 c s2<iA 4102 c (k0:Int); rw[X4,hlen]; simp
    ·gi_wp2
     rw[Exit.noGoto_normal]
     go_end0
     exact ⟨⟨_,rfl⟩,.inr ⟨k,hlt,hJ2⟩⟩
   ·have hd2:T.drop k=m.filter (fun k=>c (2+k)=(f:Int)):=by rw[hd,List.filter_cons_of_neg (by simpa using hv)]
    obtain ⟨v,hv2⟩:∃ v,c (2+k0)=v:=⟨_,rfl⟩
    rw[hv2] at a1 hv
    have dv:(v != (f:Int))=true:=by simpa using hv
    have HD:=hI hd2
    clear hd hd2 hv2
    gi_wp2
    refine wpIn_wide.2 ?_
    go_quiet (fail)
    have SF:=hJ k wr _ none hJk (iD wr nq) (fun r e=>by cases e)
    gi_wp2
    go_roundw
    case rel=>exact ⟨s2,m,k,rfl,hL2,hk,HD.out,SF⟩
    case measure=>show iA 4102 c s2<iA 4102 c (k0:Int); rw[X4,hlen]; simp
end
section
section
variable {P:Program} {n l:Nat} {Q:Exit→Act→World→Prop}
theorem BZ {f:FuncId} {args:Array Value} {w:World} {R:Ending→World→Prop} (h:Calls P f args w R):CallsIn (Fence.wide.inRound l) n P f args w R :=
 ⟨trivial,fun cs _=>let ⟨e,w',fr,r,s,x⟩:=h cs; ⟨e,w',fr,r,comesIn_wide.2 s,x⟩⟩
theorem GI {row:String} {args:Array Value} {w:World} {R:Value→World→Prop} (h:Rows P row args w R):RowsIn (Fence.wide.inRound l) n P row args w R :=
 fun c cs _=>let ⟨v,w',r,s⟩:=h c cs; ⟨v,w',r,stepsIn_wide.2 s⟩
theorem Gn {o:Oper} {a:Act} {w:World} {K:Act→World→Prop} (hnd:∀ c,o.op≠.defer c) (h:o.wp P a w K Q):o.wpIn (Fence.wide.inRound l) n P a w K Q:=by
 refine ⟨fun _ _=>trivial,?_⟩
 rw[Oper.semAt_eq _ _ _ hnd]
 unfold Oper.wp at h
 generalize (execOp a.eval o).run P w=r at *
 have hd:(Fence.wide.inRound l).depth.isSome=true→1≤n:=fun h=>by simp[Fence.wide] at h
 cases r with
 | ok x w' =>
  cases x <;> simp only[Oper.upon] at h <;> simp only[Oper.uponIn]
  all_goals first
   | exact h
   | exact ⟨hd,BZ h⟩
   | exact ⟨hd,GI h⟩
   | exact ⟨hd,h⟩
 | halt x w'=>cases x <;> simp only[Oper.upon] at h <;> simp only[Oper.uponIn] <;> exact h
theorem rX {md:Region.Mode} {ops:Array Oper} (hnd:∀ (i:Nat) (o:Oper),ops[i]? = some o→∀ c,o.op≠.defer c) (hno:LetsOut Q→False) :
 ∀ (k:Nat) (L:Array Bool) (a:Act) (w:World),wpAny P md ops Q k L a w→wpAnyIn (Fence.wide.inRound l) n P md ops Q k L a w
 | 0,_,_,_,h=>h
 | k + 1, L, a, w, h => by
  refine ⟨h.1,fun i hi=>?_⟩
  have h2:=h.2 i hi
  unfold wpOp at h2
  unfold wpOpIn
  split
  ·rename_i ho
   simp only[ho] at h2
   exact rX hnd hno k _ _ _ h2
  ·rename_i o ho
   simp only[ho] at h2
   split
   ·rename_i hw
    simp only[hw,if_true] at h2
    exact Oper.wpIn_mono (fun a w h=>rX hnd hno k _ _ _ h) (Gn (hnd i o ho) (h2.resolve_right fun h=>hno h.2))
   ·rename_i hw
    simp only[hw] at h2
    exact ⟨fun _ _=>trivial,rX hnd hno k _ _ _ h2⟩
theorem FM {id:Nat} {ops:List Oper} {a:Act} {w:World} (hnd:ops.all uR=true) (hm:P.follows .mixedOrders=true) (hno:LetsOut Q→False)
 (h:wpAny P .any ops.toArray Q ops.toArray.size (Array.replicate ops.toArray.size false) a w.drew):(Code.region id ops.toArray true).wpIn (Fence.wide.inRound l) n P Q a w :=
 wpIn_region_any hm (rX (XW hnd) hno _ _ _ _ h)
theorem zB.round {id:Nat} {ops:List Oper} {a:Act} {w:World} (S:World→Prop) (st:List Nat) (hnd:ops.all uR=true) (hm:P.follows .mixedOrders=true) (hno:LetsOut Q→False) (hS:S w.drew)
 (h:S w.drew→zB P .any ops.toArray Q S st ops.toArray.size (Array.replicate ops.toArray.size false) a w.drew):(Code.region id ops.toArray true).wpIn (Fence.wide.inRound l) n P Q a w :=
 FM hnd hm hno (zB.any _ _ _ _ (h hS))
def CP (Q:Exit→Act→World→Prop):Exit→Act→World→Prop
 | .panic _,_,_=>False
 | .outgrown,_,_=>False
 | e,a,w=>Q e a w
theorem CP.imp:∀ (e:Exit) (a:Act) (w:World),CP Q e a w→Q e a w:=fun e a w h=>by cases e <;> first | exact h | exact h.elim
theorem zB.calm {id:Nat} {ops:List Oper} {a:Act} {w:World} (S:World→Prop) (st:List Nat) (hnd:ops.all uR=true) (hm:P.follows .mixedOrders=true) (hS:S w.drew)
 (h:S w.drew→zB P .any ops.toArray (CP Q) S st ops.toArray.size (Array.replicate ops.toArray.size false) a w.drew):(Code.region id ops.toArray true).wpIn (Fence.wide.inRound l) n P Q a w :=
 wpIn_mono (zB.round (Q:=CP Q) S st hnd hm (fun ⟨_,_,h⟩=>h) hS h) CP.imp
end
end
section
abbrev pU:=Int × Int × Int × Int
def jX (c:Nat→Int) (k:Nat):pU:=(c (2+k),c (1027+k*3),c (1027+k*3+1),c (1027+k*3+2))
def ko (c:Nat→Int) (g k:Nat):Bool:=decide (c (2+k) % 1024=(g:Int))
structure kY (c:Nat→Int) (slots:Nat) (L fr:List Nat):Prop where
 s0:c 0=slots
 n:c 1=L.length
 top:slots≤1024
 nd:(L++fr).Nodup
 mem:∀ k∈L++fr,1≤k∧k≤slots
 all:L.length+fr.length=slots
 free:Lk 4102 c (c 6151) fr
 ch:∀ g<1024,Lk 4102 c (c (5127+g)) ((L.filter (ko c g)).reverse)
 lat:Lk 6152 c (c 6152) L
 ear:Lk 7177 c (c 7177) L.reverse
 fin:∀ k∈L,0≤c (2+k)∧c (2+k)<4294967296
 one:(L.map (jX c)).Nodup
theorem Ls {f:Nat→pU}:∀ {L:List Nat},(L.map f).Nodup→∀ {i j:Nat},i∈L→j∈L→f i=f j→i=j
 | x::L,h,i,j,hi,hj,e=>by
  obtain ⟨h1,h2⟩:=List.nodup_cons.1 h
  rcases List.mem_cons.1 hi with rfl | hi <;> rcases List.mem_cons.1 hj with rfl | hj
  ·rfl
  ·exact (h1 (List.mem_map.2 ⟨j,by assumption,e.symm⟩)).elim
  ·exact (h1 (List.mem_map.2 ⟨i,by assumption,e⟩)).elim
  ·exact Ls h2 (by assumption) (by assumption) e
theorem kY.inj {c:Nat→Int} {slots:Nat} {L fr:List Nat} (h:kY c slots L fr) {i j:Nat} (hi:i∈L) (hj:j∈L) (e:jX c i=jX c j):i=j:=by
 exact Ls h.one hi hj e
theorem kY.ndL {c:Nat→Int} {slots:Nat} {L fr:List Nat} (h:kY c slots L fr):L.Nodup:=(List.nodup_append.1 h.nd).1
theorem kY.ndF {c:Nat→Int} {slots:Nat} {L fr:List Nat} (h:kY c slots L fr):fr.Nodup:=(List.nodup_append.1 h.nd).2.1
theorem kY.apart {c:Nat→Int} {slots:Nat} {L fr:List Nat} (h:kY c slots L fr) {k:Nat} (h1:k∈L) (h2:k∈fr):False:=(List.nodup_append.1 h.nd).2.2 k h1 k h2 rfl
theorem kY.memL {c:Nat→Int} {slots:Nat} {L fr:List Nat} (h:kY c slots L fr) {k:Nat} (h1:k∈L):1≤k∧k<1025:=by
 have:=h.mem k (List.mem_append.2 (.inl h1)); have:=h.top; omega
theorem kY.memF {c:Nat→Int} {slots:Nat} {L fr:List Nat} (h:kY c slots L fr) {k:Nat} (h1:k∈fr):1≤k∧k<1025:=by
 have:=h.mem k (List.mem_append.2 (.inr h1)); have:=h.top; omega
def jY (c:Nat→Int) (k g l:Nat) (e:pU):Nat→Int :=
 let c1:=upd c 6151 (c (4102+k))
 let c2:=upd (upd (upd (upd c1 (2+k) e.1) (1027+k*3) e.2.1) (1027+k*3+1) e.2.2.1) (1027+k*3+2) e.2.2.2
 let c3:=upd (upd c2 (4102+k) (c2 (5127+g))) (5127+g) k
 let c4:=upd (upd (upd (upd c3 (7177+k) l) (6152+k) 0) (6152+l) k) 7177 k
 upd c4 1 (c4 1+1)
theorem Mg {c:Nat→Int} {L:List Nat} (h:Lk 7177 c (c 7177) L.reverse):∃ l:Nat,c 7177=l∧6152+l=kX 6152 6152 L∧(l=0∨l∈L):=by
 rcases List.eq_nil_or_concat L with rfl | ⟨L',j,rfl⟩
 ·exact ⟨0,h,rfl,.inl rfl⟩
 ·simp only[List.concat_eq_append,List.reverse_append,List.reverse_cons,List.reverse_nil,List.nil_append,List.singleton_append] at h ⊢
  exact ⟨j,h.1,by rw[JQ],.inr (by simp)⟩
theorem C9 {c:Nat→Int} {k g l:Nat} {e:pU} (hk:k<1025) (hg:g<1024) (hl:l<1025):jX (jY c k g l e) k=e:=by
 obtain ⟨a,b,d,f⟩:=e
 simp (disch:=omega) only[jX,jY,upd_same,zX]
theorem C8 {c:Nat→Int} {k g l:Nat} {e:pU} (hk:k<1025) (hg:g<1024) (hl:l<1025) {j:Nat} (hj:j<1025) (hjk:j≠k):jX (jY c k g l e) j=jX c j∧jY c k g l e (2+j)=c (2+j):=by
 simp (disch:=omega) only[jX,jY,upd_same,zX]
 exact ⟨trivial,trivial⟩
theorem zAI {c:Nat→Int} {slots:Nat} {L fr:List Nat} {k l g:Nat} {e:pU} (h:kY c slots L (k::fr)) (hl:c 7177=l) (hg:e.1 % 1024=(g:Int)) (hf:0≤e.1∧e.1<4294967296) (he:e ∉ L.map (jX c)) :
 kY (jY c k g l e) slots (L++[k]) fr:=by
 obtain ⟨l',hl',hel,hll⟩:=Mg h.ear
 obtain rfl:l=l':=by omega
 have hk:=h.memF (List.mem_cons_self ..)
 have hg':g<1024:=by omega
 have hlt:l<1025:=by
  rcases hll with rfl | hll
  ·omega
  ·exact (h.memL hll).2
 have Xh:k ∉ L:=fun hm=>h.apart hm (List.mem_cons_self ..)
 have hlk:l≠k:=by
  rcases hll with rfl | hll
  ·omega
  ·exact fun e=>Xh (e▸hll)
 have hE:=C9 (c:=c) (e:=e) hk.2 hg' hlt
 have Ih:∀ j∈L,jX (jY c k g l e) j=jX c j∧jY c k g l e (2+j)=c (2+j):=fun j hj=>C8 hk.2 hg' hlt (h.memL hj).2 (fun e=>Xh (e▸hj))
 have h2k:jY c k g l e (2+k)=e.1:=congrArg (·.1) hE
 have hmap:(L++[k]).map (jX (jY c k g l e))=L.map (jX c)++[e]:=by
  rw[List.map_append,List.map_congr_left (fun j hj=>(Ih j hj).1)]
  simp[hE]
 have hfil:∀ g',L.filter (ko (jY c k g l e) g')=L.filter (ko c g'):=fun g'=>List.filter_congr fun j hj=>by unfold ko; rw[(Ih j hj).2]
 have hkf:k ∉ fr:=(List.nodup_cons.1 h.ndF).1
 constructor
 ·show jY c k g l e 0=slots
  simp (disch:=omega) only[jY,upd_same,zX]
  exact h.s0
 ·show jY c k g l e 1=((L++[k]).length:Int)
  simp (disch:=omega) only[jY,upd_same,zX]
  have:=h.n
  simp; omega
 ·exact h.top
 ·have:=h.nd
  rw[List.append_assoc]
  exact this
 ·intro j hj
  exact h.mem j (by simpa using hj)
 ·have:=h.all
  simp at this ⊢; omega
 ·have h1:=h.free.2.2.2
  have e1:jY c k g l e 6151=c (4102+k):=by simp (disch:=omega) only[jY,upd_same,zX]
  rw[e1]
  refine h1.congr fun j hj=>?_
  have:=h.memF (List.mem_cons_of_mem _ hj)
  have:j≠k:=fun e=>hkf (e▸hj)
  simp (disch:=omega) only[jY,upd_same,zX]
 ·intro g' hg1
  rw[List.filter_append,hfil]
  by_cases hgg:g'=g
  ·subst hgg
   have e0:[k].filter (ko (jY c k g' l e) g')=[k]:=by simp[ko,h2k,hg]
   rw[e0,List.reverse_append]
   have e1:jY c k g' l e (5127+g')=k:=by simp (disch:=omega) only[jY,upd_same,zX]
   have e2:jY c k g' l e (4102+k)=c (5127+g'):=by simp (disch:=omega) only[jY,upd_same,zX]
   rw[e1]
   refine ⟨rfl,hk.1,hk.2,?_⟩
   rw[e2]
   refine (h.ch g' hg').congr fun j hj=>?_
   have hj':j∈L:=(List.mem_filter.1 (List.mem_reverse.1 hj)).1
   have:=h.memL hj'
   have:j≠k:=fun e=>Xh (e▸hj')
   simp (disch:=omega) only[jY,upd_same,zX]
  ·have e0:[k].filter (ko (jY c k g l e) g')=[]:=by
    simp[ko,h2k,hg]
    omega
   rw[e0,List.append_nil]
   have e1:jY c k g l e (5127+g')=c (5127+g'):=by simp (disch:=omega) only[jY,upd_same,zX]
   rw[e1]
   refine (h.ch g' hg1).congr fun j hj=>?_
   have hj':j∈L:=(List.mem_filter.1 (List.mem_reverse.1 hj)).1
   have:=h.memL hj'
   have:j≠k:=fun e=>Xh (e▸hj')
   simp (disch:=omega) only[jY,upd_same,zX]
 ·have hp:=Lk.put (b:=6152) (c:=c) (k:=k) (p:=6152) h.lat h.ndL Xh hk.1 hk.2 (fun j hj=>by have:=h.memL hj; omega) (by omega)
  rw[← hel] at hp
  have e1:jY c k g l e 6152=upd (upd c (6152+k) 0) (6152+l) k 6152:=by
   by_cases h0:l=0
   ·subst h0
    simp (disch:=omega) only[jY,upd_same,zX,Nat.add_zero]
   ·simp (disch:=omega) only[jY,upd_same,zX]
  rw[e1]
  refine hp.congr fun j hj=>?_
  have hj1:j<1025∧1≤j:=by
   rcases List.mem_append.1 hj with hj | hj
   ·exact ⟨(h.memL hj).2,(h.memL hj).1⟩
   ·have:j=k:=by simpa using hj
    omega
  by_cases h1:j=l
  ·subst h1
   simp (disch:=omega) only[jY,upd_same,zX]
  ·by_cases h2:j=k
   ·subst h2
    simp (disch:=omega) only[jY,upd_same,zX]
   ·simp (disch:=omega) only[jY,upd_same,zX]
 ·have e1:jY c k g l e 7177=k:=by simp (disch:=omega) only[jY,upd_same,zX]
  have e2:jY c k g l e (7177+k)=c 7177:=by rw[hl]; simp (disch:=omega) only[jY,upd_same,zX]
  rw[List.reverse_append,e1]
  refine ⟨rfl,hk.1,hk.2,?_⟩
  rw[e2]
  refine h.ear.congr fun j hj=>?_
  have hj':j∈L:=List.mem_reverse.1 hj
  have:=h.memL hj'
  have:j≠k:=fun e=>Xh (e▸hj')
  simp (disch:=omega) only[jY,upd_same,zX]
 ·intro j hj
  rcases List.mem_append.1 hj with hj | hj
  ·rw[(Ih j hj).2]; exact h.fin j hj
  ·obtain rfl:j=k:=by simpa using hj
   rw[h2k]; exact hf
 ·rw[hmap]
  refine List.nodup_append.2 ⟨h.one,by simp,?_⟩
  rintro a ha b hb rfl
  obtain rfl:a=e:=by simpa using hb
  exact he ha
def xW (c:Nat→Int) (k p b d:Nat):Nat→Int :=
 let c1:=upd c p (c (4102+k))
 let c2:=upd (upd c1 (6152+b) d) (7177+d) b
 let c3:=upd (upd (upd (upd c2 (2+k) 0) (1027+k*3) 0) (1027+k*3+1) 0) (1027+k*3+2) 0
 let c4:=upd (upd c3 (4102+k) (c3 6151)) 6151 k
 upd c4 1 (c4 1-1)
theorem MP {b:Nat} {c:Nat→Int} {pre post:List Nat} {k:Nat} (h:Lk b c (c b) (pre++k::post)):Lk b c (c (b+k)) post:=(h.behind (pre:=pre)).2.2.2
theorem H8 {b:Nat} {c:Nat→Int} {s:Int} {b':Nat}:∀ {l:List Nat},Lk b c s l→∃ d:Nat,s=d∧b'+d=kX b' b' l.reverse∧(d=0∨d∈l)
 | [],h=>⟨0,h,rfl,.inl rfl⟩
 | j::l,h=>⟨j,h.1,by rw[List.reverse_cons,JQ],.inr (List.mem_cons_self ..)⟩
theorem Lb {k:Nat} {L:List Nat} (hk:k∈L):∃ pre post,L=pre++k::post:=List.append_of_mem hk
theorem vI {f:Nat→Bool} {pre post:List Nat} {k:Nat} (hf:f k=true):((pre++k::post).filter f).reverse=(post.filter f).reverse++k::(pre.filter f).reverse:=by
 simp[hf]
theorem Kl {f:Nat→Bool} {pre post:List Nat}:((pre++post).filter f).reverse=(post.filter f).reverse++(pre.filter f).reverse:=by simp
structure Kz (c:Nat→Int) (L:List Nat) (pre post:List Nat) (k g p b d:Nat):Prop where
 eL:L=pre++k::post
 eg:ko c g k=true
 ep:p=kX 4102 (5127+g) ((post.filter (ko c g)).reverse)
 eb:c (7177+k)=b
 b1:6152+b=kX 6152 6152 pre
 b2:b=0∨b∈pre
 ed:c (6152+k)=d
 d1:7177+d=kX 7177 7177 post.reverse
 d2:d=0∨d∈post
theorem zJR {c:Nat→Int} {slots:Nat} {L fr:List Nat} {k:Nat} (h:kY c slots L fr) (hk:k∈L) {g:Nat} (hg:ko c g k=true):∃ pre post p b d,Kz c L pre post k g p b d:=by
 obtain ⟨pre,post,rfl⟩:=Lb hk
 obtain ⟨d,hd,hd1,hd2⟩:=H8 (b':=7177) (MP h.lat)
 have he:=h.ear
 rw[show (pre++k::post).reverse=post.reverse++k::pre.reverse by simp] at he
 obtain ⟨b,hb,hb1,hb2⟩:=H8 (b':=6152) (MP he)
 rw[List.reverse_reverse] at hb1
 exact ⟨pre,post,_,b,d,rfl,hg,rfl,hb,hb1,by simpa using hb2,hd,hd1,hd2⟩
theorem Gj {c:Nat→Int} {slots:Nat} {L fr pre post:List Nat} {k g p b d:Nat} (h:kY c slots L fr) (ho:Kz c L pre post k g p b d) :
 kY (xW c k p b d) slots (pre++post) (k::fr)∧(∀ j∈pre++post,jX (xW c k p b d) j=jX c j∧xW c k p b d (2+j)=c (2+j)):=by
 obtain ⟨rfl,hg,hp,hb,hb1,hb2,hd,hd1,hd2⟩:=ho
 have hkm:k∈pre++k::post:=by simp
 have hk:=h.memL hkm
 have hnd:=h.ndL
 have hkp:k ∉ pre++post:=by
  have:=hnd
  rw[List.nodup_append] at this
  obtain ⟨h1,h2,h3⟩:=this
  have h4:=(List.nodup_cons.1 h2).1
  intro hm
  rcases List.mem_append.1 hm with hm | hm
  ·exact h3 k hm k (List.mem_cons_self ..) rfl
  ·exact h4 hm
 have hsub:∀ j∈pre++post,j∈pre++k::post:=fun j hj=>by
  rcases List.mem_append.1 hj with hj | hj
  ·exact List.mem_append.2 (.inl hj)
  ·exact List.mem_append.2 (.inr (List.mem_cons_of_mem _ hj))
 have zMi:(pre++post).Nodup:=by
  have:=hnd
  rw[List.nodup_append] at this ⊢
  obtain ⟨h1,h2,h3⟩:=this
  exact ⟨h1,(List.nodup_cons.1 h2).2,fun a ha b hb=>h3 a ha b (List.mem_cons_of_mem _ hb)⟩
 have hblt:b<1025∧b≠k:=by
  rcases hb2 with rfl | hb2
  ·omega
  ·have hm:=List.mem_append.2 (.inl hb2:b∈pre∨b∈post)
   exact ⟨(h.memL (hsub b hm)).2,fun e=>hkp (e▸hm)⟩
 have zQQ:d<1025∧d≠k:=by
  rcases hd2 with rfl | hd2
  ·omega
  ·have hm:=List.mem_append.2 (.inr hd2:d∈pre∨d∈post)
   exact ⟨(h.memL (hsub d hm)).2,fun e=>hkp (e▸hm)⟩
 have hgk:c (2+k) % 1024=(g:Int):=by simpa [ko] using hg
 have hg':g<1024:=by omega
 have hpm:p=5127+g∨∃ j,(j∈post∧ko c g j=true)∧p=4102+j:=by
  rw[hp]
  rcases oF 4102 (5127+g) ((post.filter (ko c g)).reverse) with e | ⟨j,hj,e⟩
  ·exact .inl e
  ·have:=List.mem_filter.1 (List.mem_reverse.1 hj)
   exact .inr ⟨j,this,e⟩
 have hpr:4102<p∧p<6151∧p≠4102+k:=by
  rcases hpm with e | ⟨j,⟨hj,-⟩,e⟩
  ·omega
  ·have hm:j∈pre++post:=List.mem_append.2 (.inr hj)
   have:=h.memL (hsub j hm)
   have:j≠k:=fun e=>hkp (e▸hm)
   omega
 have SB:∀ j∈pre++post,jX (xW c k p b d) j=jX c j∧xW c k p b d (2+j)=c (2+j):=fun j hj=>by
  have:=h.memL (hsub j hj)
  have:j≠k:=fun e=>hkp (e▸hj)
  simp (disch:=omega) only[jX,xW,upd_same,zX]
  exact ⟨trivial,trivial⟩
 have hfil:∀ g',(pre++post).filter (ko (xW c k p b d) g')=(pre++post).filter (ko c g'):=fun g'=>List.filter_congr fun j hj=>by unfold ko; rw[(SB j hj).2]
 refine ⟨?_,SB⟩
 constructor
 ·simp (disch:=omega) only[xW,upd_same,zX]
  exact h.s0
 ·have:=h.n
  simp (disch:=omega) only[xW,upd_same,zX]
  simp at this ⊢; omega
 ·exact h.top
 ·have h1:=h.nd
  refine List.nodup_append.2 ⟨zMi,List.nodup_cons.2 ⟨fun hm=>h.apart hkm hm,h.ndF⟩,?_⟩
  rintro a ha b hb rfl
  rcases List.mem_cons.1 hb with rfl | hb
  ·exact hkp ha
  ·exact h.apart (hsub a ha) hb
 ·intro j hj
  refine h.mem j ?_
  simp at hj ⊢
  rcases hj with hj | hj | hj | hj
  ·exact .inl hj
  ·exact .inr (.inr (.inl hj))
  ·exact .inr (.inl hj)
  ·exact .inr (.inr (.inr hj))
 ·have:=h.all
  simp at this ⊢; omega
 ·have e1:xW c k p b d 6151=k:=by simp (disch:=omega) only[xW,upd_same,zX]
  have e2:xW c k p b d (4102+k)=c 6151:=by simp (disch:=omega) only[xW,upd_same,zX]
  rw[e1]
  refine ⟨rfl,hk.1,hk.2,?_⟩
  rw[e2]
  refine h.free.congr fun j hj=>?_
  have h1:=h.memF hj
  have h2:j≠k:=fun e=>h.apart hkm (e▸hj)
  have h3:4102+j≠p:=by
   rcases hpm with e | ⟨i,⟨hi,-⟩,e⟩
   ·omega
   ·have:i≠j:=fun e=>h.apart (hsub i (List.mem_append.2 (.inr hi))) (e▸hj)
    omega
  simp (disch:=omega) only[xW,upd_same,zX]
 ·intro g' hg1
  rw[hfil]
  have hch:=h.ch g' hg1
  by_cases hgg:g'=g
  ·subst hgg
   rw[vI hg] at hch
   have hcut:=Lk.cut hch (by
    have h1:=List.Pairwise.filter (ko c g') hnd
    have h2:=(List.reverse_perm _).nodup_iff.2 h1
    rw[vI hg] at h2
    exact h2) (fun j hj=>by
     rw[← vI hg] at hj
     have:=h.memL (List.mem_filter.1 (List.mem_reverse.1 hj)).1
     omega)
   rw[← hp,← Kl] at hcut
   have e1:xW c k p b d (5127+g')=upd c p (c (4102+k)) (5127+g'):=by simp (disch:=omega) only[xW,zX]
   rw[e1]
   refine hcut.congr fun j hj=>?_
   have hj':=(List.mem_filter.1 (List.mem_reverse.1 hj)).1
   have:=h.memL (hsub j hj')
   have:j≠k:=fun e=>hkp (e▸hj')
   simp (disch:=omega) only[xW,zX]
  ·have e0:ko c g' k=false:=by simp[ko,hgk]; omega
   have e4:(pre++k::post).filter (ko c g')=(pre++post).filter (ko c g'):=by simp[e0]
   rw[e4] at hch
   have e5:5127+g'≠p:=by
    rcases hpm with e | ⟨i,⟨hi,-⟩,e⟩
    ·omega
    ·have:=h.memL (hsub i (List.mem_append.2 (.inr hi)))
     omega
   have e1:xW c k p b d (5127+g')=c (5127+g'):=by simp (disch:=omega) only[xW,zX]
   rw[e1]
   refine hch.congr fun j hj=>?_
   obtain ⟨hj',hjg⟩:=List.mem_filter.1 (List.mem_reverse.1 hj)
   have h1:=h.memL (hsub j hj')
   have h2:j≠k:=fun e=>hkp (e▸hj')
   have h3:4102+j≠p:=by
    rcases hpm with e | ⟨i,⟨hi,hig⟩,e⟩
    ·omega
    ·have:i≠j:=by
      rintro rfl
      simp[ko] at hjg hig
      omega
     omega
   simp (disch:=omega) only[xW,zX]
 ·have hcut:=Lk.cut h.lat hnd (fun j hj=>by have:=h.memL hj; omega)
  rw[← hb1,hd] at hcut
  have e1:xW c k p b d 6152=upd c (6152+b) d 6152:=by
   by_cases h0:b=0
   ·subst h0
    simp (disch:=omega) only[xW,upd_same,zX,Nat.add_zero]
   ·simp (disch:=omega) only[xW,zX]
  rw[e1]
  refine hcut.congr fun j hj=>?_
  have:=h.memL (hsub j hj)
  by_cases h1:j=b
  ·subst h1
   simp (disch:=omega) only[xW,upd_same,zX]
  ·simp (disch:=omega) only[xW,zX]
 ·have he:=h.ear
  rw[show (pre++k::post).reverse=post.reverse++k::pre.reverse by simp] at he
  have hcut:=Lk.cut he (by
   have h2:=(List.reverse_perm _).nodup_iff.2 hnd
   simpa using h2) (fun j hj => by
    have := h.memL (k := j) (by simp at hj ⊢; rcases hj with hj | hj | hj
                                ·exact .inr (.inr hj)
                                ·exact .inr (.inl hj)
                                ·exact .inl hj)
    omega)
  rw[← hd1,hb,← List.reverse_append] at hcut
  have e1:xW c k p b d 7177=upd c (7177+d) b 7177:=by
   by_cases h0:d=0
   ·subst h0
    simp (disch:=omega) only[xW,upd_same,zX,Nat.add_zero]
   ·simp (disch:=omega) only[xW,zX]
  rw[e1]
  refine hcut.congr fun j hj=>?_
  have:=h.memL (hsub j (List.mem_reverse.1 hj))
  by_cases h1:j=d
  ·subst h1
   simp (disch:=omega) only[xW,upd_same,zX]
  ·simp (disch:=omega) only[xW,zX]
 ·intro j hj
  rw[(SB j hj).2]
  exact h.fin j (hsub j hj)
 ·rw[List.map_congr_left (fun j hj=>(SB j hj).1)]
  have:=h.one
  simp only[List.map_append,List.map_cons] at this ⊢
  rw[List.nodup_append] at this ⊢
  obtain ⟨h1,h2,h3⟩:=this
  exact ⟨h1,(List.nodup_cons.1 h2).2,fun a ha b hb=>h3 a ha b (List.mem_cons_of_mem _ hb)⟩
end
section
theorem vC {β:Type} (g:Nat) (t:TypeId) (f:β→Array Value):Own (fun s W=>z8 W g t (f s)):=fun s X Y row hs hg hrow =>
 hs.grown hg (fun e=>by obtain ⟨o,ho,hc⟩:=hrow g e.symm; rw[show X.heap[g]? = _ from hs] at ho; cases ho; cases hc)
theorem YM {β:Type} {B:Nat} (p:β→Prop):OwnFrom B (fun (i:β) (_:World)=>p i):=fun _ _ _ _ hs _ _=>hs
theorem QT (W:World) (n:Nat):KeepsOthers W (W.drewN n):=⟨nR _,fun _ _ h _=>h⟩
theorem tL {w w':World} {row:Option Nat} {base size n:Nat} {e:TypeId} {v:Value} {xs:List Value} (h:w.ownsRow base e size v n xs) (hg:w.grownBy w' row) (hr:∀ g,v.ownBlock=some g→row≠some g):w'.ownsRow base e size v n xs:=by
 rcases h.2 with h0 | ⟨g,cap,cur,rfl,hb,hh,rest⟩
 ·exact ⟨h.1,.inl h0⟩
 ·refine ⟨h.1,.inr ⟨g,cap,cur,rfl,hb,?_,rest⟩⟩
  rw[hg.block g (Array.getElem?_eq_some_iff.1 hh).1 (fun e=>hr g rfl e.symm)]
  exact hh
theorem p9 {w:World} {base size n g:Nat} {e:TypeId} {v:Value} {xs:List Value} (h:w.ownsRow base e size v n xs) (hv:v.ownBlock=some g):∃ cur,w.heap[g]? = some (.cells cur e (0,0))∧base≤g:=by
 rcases h.2 with ⟨rfl,_⟩ | ⟨g',cap,cur,rfl,hb,hh,rest⟩
 ·simp[Value.ownBlock] at hv
 ·have:g'=g:=by simpa [Value.ownBlock] using hv
  subst this
  exact ⟨cur,hh,hb⟩
theorem tJ {w:World} {base size n:Nat} {e:TypeId} {v:Value} {xs:List Value} (h:w.ownsRow base e size v n xs):∃ A cap,v=.slice A n cap:=by
 rcases h.2 with ⟨rfl,rfl⟩ | ⟨g',cap,cur,rfl,_⟩
 ·exact ⟨_,_,rfl⟩
 ·exact ⟨_,_,rfl⟩
def zAJ (g:Nat) (tv e:TypeId) (size base:Nat) (v:Value) (n:Nat) (xs:List Value) (W:World):Prop:=z8 W g tv #[v]∧W.ownsRow base e size v n xs
theorem Ah {β:Type} (g:Nat) (tv e:TypeId) (size base:Nat) (f:β→Nat) (xs:β→List Value):Own (fun s W=>∃ v,zAJ g tv e size base v (f s) (xs s) W):=fun s X Y row ⟨v,hb,ho⟩ hg hrow =>
 ⟨v,vC g tv (fun _:Unit=>#[v]) () X Y row hb hg hrow,tL ho hg (fun k hk e=>by
  obtain ⟨cur,hc,_⟩:=p9 ho hk
  obtain ⟨o,h1,h2⟩:=hrow k e
  rw[hc] at h1
  cases h1
  cases h2)⟩
theorem kP {w w':World} {base size n g:Nat} {e t:TypeId} {v:Value} {xs:List Value} {cs:Array Value} (hb:z8 w g t cs) (ho:w.ownsRow base e size v n xs) (hne:t≠e) (hg:w.grownBy w' v.ownBlock):z8 w' g t cs :=
 hb.grown hg (fun h=>by
  obtain ⟨cur,hc,_⟩:=p9 ho h.symm
  rw[show w.heap[g]? = _ from hb] at hc
  cases hc
  exact hne rfl)
theorem Kg (w:World) (o:Obj):w.grownBy (w.drew.alloc o) none :=
 ⟨rfl,rfl,rfl,by rw[World.size_alloc]; exact Nat.le_succ _,fun k hk _=>((Below.refl w.heap.size w).drew.alloc (nR _) o).block k hk⟩
theorem ZX {w:World} {base size n g:Nat} {e t:TypeId} {v:Value} {xs:List Value} {cs:Array Value} (ho:w.ownsRow base e size v n xs) (hb:z8 w g t cs) (hne:t≠e) (i:Nat) (u:Value):(w.setCell ⟨g,i,none⟩ u).ownsRow base e size v n xs:=by
 rcases ho.2 with h0 | ⟨g',cap,cur,rfl,hbs,hh,rest⟩
 ·exact ⟨ho.1,.inl h0⟩
 ·refine ⟨ho.1,.inr ⟨g',cap,cur,rfl,hbs,?_,rest⟩⟩
  have:g'≠g:=by
   rintro rfl
   rw[show w.heap[g']? = _ from hb] at hh
   cases hh
   exact hne rfl
  rw[Below.heap_setCell _ _ _ g' this]
  exact hh
theorem DI {w w':World} {base size n:Nat} {e:TypeId} {v:Value} {xs:List Value} (ho:w.ownsRow base e size v n xs) (hg:w.grownBy w' v.ownBlock):KeepsOthers w w' :=
 ⟨hg.size,fun k o hk hc=>(hg.block k (Array.getElem?_eq_some_iff.1 hk).1 (fun h=>by
  obtain ⟨cur,hh,_⟩:=p9 ho h.symm
  rw[hk] at hh
  cases hh
  cases hc)).trans hk⟩
theorem oH {a w w':World} {B base size n:Nat} {e:TypeId} {v:Value} {xs:List Value} (hb:Below B a w) (ho:w.ownsRow base e size v n xs) (hB:B≤base) (hBw:B≤w.heap.size) (hg:w.grownBy w' v.ownBlock):Below B a w' :=
 hb.grown hg hBw (fun k hk=>by obtain ⟨_,_,h⟩:=p9 ho hk; omega)
def gI (m:Nat) (Ds:List Nat) (W:World):Prop:=Ds.Nodup∧∀ D,D∈Ds→m≤D∧D<W.heap.size∧W.heap[D]? = some (.deferred (some []))
theorem gI.nil (m:Nat) (W:World):gI m [] W:=⟨List.nodup_nil,fun D h=>by cases h⟩
theorem gI.below {m:Nat} {Ds:List Nat} {W W':World} (h:gI m Ds W) (hb:Below W.heap.size W W'):gI m Ds W' :=
 ⟨h.1,fun D hD=>by obtain ⟨h1,h2,h3⟩:=h.2 D hD; exact ⟨h1,nL h2 hb.size,by rw[hb.block D h2]; exact h3⟩⟩
theorem gI.cons {m D:Nat} {Ds:List Nat} {W W':World} (h:gI m Ds W) (hb:Below W.heap.size W W') (hD:W.heap.size≤D) (hm:m≤D) (hk:W'.heap[D]? = some (.deferred (some []))):gI m (D::Ds) W':=by
 have h2:=h.below hb
 refine ⟨List.nodup_cons.2 ⟨fun hin=>?_,h.1⟩,fun D' hD'=>?_⟩
 ·have:=(h.2 D hin).2.1
  omega
 ·rcases List.mem_cons.1 hD' with rfl | h3
  ·exact ⟨hm,(Array.getElem?_eq_some_iff.1 hk).1,hk⟩
  ·exact h2.2 D' h3
end
section
theorem Hr (a b c a' b' c':Int) (w:World):(binOp .eql 35 (.agg #[.int .i64 a,.int .u64 b,.int .i64 c]) (.agg #[.int .i64 a',.int .u64 b',.int .i64 c'])).run Tryz.prog w=.ok (.bool (decide ((a,b,c)=(a',b',c')))) w:=by
 by_cases h0:a=a'
 case neg =>
  have e0:(a==a')=false:=by simpa using h0
  rw[show decide ((a,b,c)=(a',b',c'))=false from decide_eq_false (fun h=>h0 (by simp only[Prod.mk.injEq] at h; first | exact h.1 | exact h.2.1 | exact h.2.2))]
  go_simp
 subst h0
 by_cases h1:b=b'
 case neg =>
  have e1:(b==b')=false:=by simpa using h1
  rw[show decide ((a,b,c)=(a,b',c'))=false from decide_eq_false (fun h=>h1 (by simp only[Prod.mk.injEq] at h; first | exact h.1 | exact h.2.1 | exact h.2.2))]
  go_simp
 subst h1
 by_cases h2:c=c'
 case neg =>
  have e2:(c==c')=false:=by simpa using h2
  rw[show decide ((a,b,c)=(a,b,c'))=false from decide_eq_false (fun h=>h2 (by simp only[Prod.mk.injEq] at h; first | exact h.1 | exact h.2.1 | exact h.2.2))]
  go_simp
 subst h2
 rw[show decide ((a,b,c)=(a,b,c))=true from decide_eq_true rfl]
 go_simp
end
end Go.Proofs.YtdkbpchmnhbhcaaGreat
