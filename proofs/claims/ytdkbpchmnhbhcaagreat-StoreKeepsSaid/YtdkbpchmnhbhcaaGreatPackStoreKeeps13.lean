/- Texts of StoreKeeps, packed. -/
import Derived.Test.YtdkbpchmnhbhcaaGreatPackStoreKeeps12
import Derived.Great.BuildSlice
import Derived.Laws.CopyRow
import Derived.Laws.CopyOwn
import Derived.OwnWalk
import Derived.Lib.Hide
import Derived.Deep.DeepCutAuto
set_option linter.unusedVariables false
set_option linter.unusedSimpArgs false
set_option maxRecDepth 100000
set_option maxHeartbeats 16000000
namespace Go.Proofs.YtdkbpchmnhbhcaaGreat
open Go.RowKit
end Go.Proofs.YtdkbpchmnhbhcaaGreat
namespace Go.Proofs.YtdkbpchmnhbhcaaGreat.PlM
open Go.RowKit
open Go.Proofs.YtdkbpchmnhbhcaaGreat
structure Pl where
 sg:Int
 g:Int
 sc:Int
 kd:Int
 fl:Int
 ex:Int
 sq:Int
 a:Option Addr
 n:Nat
 c:Nat
 b:Option Addr
 m:Nat
 d:Nat
abbrev ent0:Pl:=⟨0,0,0,0,0,0,0,none,0,0,none,0,0⟩
abbrev entV (e:Pl):List Value:=[.int .i64 e.sg,.int .u64 e.g,.int .i64 e.sc,.int .i64 e.kd,.int .u32 e.fl,.int .u32 e.ex,.int .u64 e.sq,.slice e.a e.n e.c,.slice e.b e.m e.d]
theorem Am (s:Pl):∀ v∈entV s,v.oneCell'=true:=by
 intro v hv
 simp[entV] at hv
 rcases hv with rfl | rfl | rfl | rfl | rfl | rfl | rfl | rfl | rfl <;> rfl
abbrev RowE:=wI entV 9 ent0
def flatG (L:List Pl):List Value:=L.flatMap entV
theorem flatG_append (L M:List Pl):flatG (L++M)=flatG L++flatG M:=by simp[flatG]
theorem flatG_one (s:Pl):flatG [s]=entV s:=by simp[flatG]
theorem q9 (L:List Pl):(flatG L).length=L.length*9:=by
 induction L with
 | nil=>rfl
 | cons x r ih =>
  simp only[flatG,List.flatMap_cons,List.length_append,List.length_cons] at *
  rw[ih]
  simp only[entV,List.length_cons,List.length_nil]
  omega
theorem jV:∀ (L:List Pl) (t:Nat),t<L.length*9→(flatG L)[t]? = (entV (L.getD (t / 9) ent0))[t % 9]?
 | [],t,h=>by simp at h
 | y :: L, t, h => by
  unfold flatG
  rw[List.flatMap_cons]
  by_cases h4:t<9
  ·rw[List.getElem?_append_left (by simpa using h4)]
   rw[show t / 9=0 by omega,show t % 9=t by omega]
   rfl
  ·have e:t-(entV y).length=t-9:=by simp
   rw[List.getElem?_append_right (by simp; omega),e]
   have ih:=jV L (t-9) (by simp at h; omega)
   unfold flatG at ih
   rw[ih,show t / 9=(t-9) / 9+1 by omega,show t % 9=(t-9) % 9 by omega]
   rfl
theorem dD (L:List Pl):∀ v∈flatG L,v.oneCell'=true:=by
 intro v hv
 obtain ⟨s,_,h⟩:=List.mem_flatMap.1 hv
 exact Am s v h
def ArrS (w:World) (g:Nat) (L:List Pl):Prop:=z8 w g 40 (flatG L).toArray
theorem row_of_flat {w:World} {g:Nat} {t:TypeId} {L:List Pl} {X:List Value} (h:z8 w g t (flatG L++X).toArray) {S:Nat→Prop} (hS:S g) {n:Nat} (hn:L.length=n):RowE w S (some ⟨g,0,none⟩) n L :=
 ⟨hn,fun _=>⟨g,0,rfl,hS,fun i hi j v hv=>by
  have hj:j<9:=by have:=(List.getElem?_eq_some_iff.1 hv).1; simpa using this
  show w.cell? ⟨g,0+i*9+j,none⟩=some v
  rw[h.cell,Nat.zero_add]
  have hlt:i*9+j<(flatG L).length:=by rw[q9]; omega
  rw[List.getElem?_toArray,List.getElem?_append_left hlt,jV L _ (by rw[q9] at hlt; exact hlt),show (i*9+j) / 9=i by omega,show (i*9+j) % 9=j by omega]
  exact hv⟩⟩
theorem ArrS.row {w:World} {g:Nat} {L:List Pl} (h:ArrS w g L) {S:Nat→Prop} (hS:S g) {n:Nat} (hn:L.length=n):RowE w S (some ⟨g,0,none⟩) n L :=
 row_of_flat (X:=[]) (by simpa [ArrS] using h) hS hn
theorem zAN {w:World} {S:Nat→Prop} {A:Option Addr} {n:Nat} {xs:List Pl} (h:RowE w S A n xs) (hn:0<n) :
 ∃ ad,A=some ad∧∀ j v,(flatG xs)[j]? = some v→w.cell? (ad.add j)=some v:=by
 obtain ⟨b,off,e,_,hc⟩:=h.2 hn
 refine ⟨_,e,fun j v hv=>?_⟩
 have hj:j<xs.length*9:=by have:=(List.getElem?_eq_some_iff.1 hv).1; rwa [q9] at this
 rw[jV xs j hj] at hv
 have h1:=hc (j / 9) (by have:=h.1; omega) (j % 9) v hv
 rw[add_plain,show off+j=off+j / 9*9+j % 9 by omega]
 exact h1
theorem info_seg:(Tryz.prog.info? 40).map (fun i=>(i.zero,i.size,i.bytes))=some (some (.agg (entV ent0).toArray),9,96):=by kernel_rfl
theorem ArrS.setRow {w:World} {g:Nat} {L:List Pl} (h:ArrS w g L) (M:List Pl):ArrS (w.setRow g (flatG M).toArray) g M:=setRow_heap w g _ _ _ _ h
theorem ArrS.alloc {w:World} {g:Nat} {L:List Pl} (h:ArrS w g L) (o:Obj):ArrS (w.alloc o) g L:=z8.alloc h o
theorem ArrS.below {w w':World} {g B:Nat} {L:List Pl} (h:ArrS w g L) (hb:Below B w w') (hg:g<B):ArrS w' g L:=z8.below h hb hg
theorem kI (w:World) (ty:TypeId) (base:Nat) (v:Value) (n:Nat) (P:List Value) (hown:w.ownsRow base 40 9 v n P)
 (S:Nat→Prop) (A:Option Addr) (m c:Nat) (ys:List Pl) (hr:RowE w S A m ys) (hnil:A=none→c=0) (h63:n+m≤1000000) (hbase:base≤w.heap.size) :
 ∃ v' w',(Builtin.append_ #[28,28] ty #[v,.slice A m c]).run Tryz.prog w=.ok v' w'∧w'.ownsRow base 40 9 v' (n+m) (P++flatG ys)∧w.grownBy w' v.ownBlock∧(v'.ownBlock=v.ownBlock∨v'.ownBlock=some w.heap.size):=by
 obtain ⟨i0,hi,hz0,hz1,hz2⟩:=info_parts info_seg
 have hl:=hr.1
 rcases A with _ | ad
 ·have hm:m=0:=by
   rcases Nat.eq_zero_or_pos m with h0 | h0
   ·exact h0
   ·obtain ⟨_,_,h1,_⟩:=hr.2 h0
    cases h1
  subst hm
  have hn:ys=[]:=List.eq_nil_of_length_eq_zero hl
  subst hn
  rw[hnil rfl]
  exact ⟨v,w,run_append_owned_none (P:=Tryz.prog) (w:=w) base 28 ty 40 i0 9 Tryz.underlying28 hi v n P hown,by simpa [flatG] using hown,World.grownBy.refl w _,.inl rfl⟩
 ·obtain ⟨v',w',h1,h2,h3,_,h4⟩:=run_append_own_at (P:=Tryz.prog) w base 28 ty 40 i0 (.agg (entV ent0).toArray) 9 96 Tryz.underlying28 hi hz0 hz1 hz2 (by simp[Value.cells]) (by omega) v n P hown ad m c (flatG ys) (by rw[q9,hl])
   (fun j u hu=>by
     have hm:0<m:=by
      rcases Nat.eq_zero_or_pos m with h0 | h0
      ·have:ys=[]:=List.eq_nil_of_length_eq_zero (by omega)
       subst this
       simp[flatG] at hu
      ·exact h0
     obtain ⟨ad',e,hc⟩:=zAN hr hm
     injection e with e
     subst e
     exact hc j u hu)
   (dD ys) (by unfold maxLen; omega) (by omega) hbase
  exact ⟨v',w',h1,h2,h3,h4⟩
theorem rowZ_own {w:World} {base:Nat} {v:Value} {n:Nat} {xs:List Pl} {P:List Value} (ho:w.ownsRow base 40 9 v n P) (hP:P=flatG xs) (hn:xs.length=n) :
 ∃ A cap,v=.slice A n cap∧n≤cap∧(A=none→cap=0)∧RowE w (fun b=>base≤b∧b<w.heap.size) A n xs:=by
 subst hP
 have hlt:=ho.lt
 rcases ho.2 with ⟨rfl,rfl⟩ | ⟨g,cap,cur,rfl,hg,hh,hnc,hc⟩
 ·exact ⟨none,0,rfl,by omega,fun _=>rfl,hn,fun h=>absurd h (by omega)⟩
 ·refine ⟨_,cap,rfl,hnc,(fun h=>by cases h),hn,fun _=>⟨g,0,rfl,⟨hg,(hlt g rfl).2⟩,fun i hi j v hv=>?_⟩⟩
  have hj:j<9:=by have:=(List.getElem?_eq_some_iff.1 hv).1; simpa using this
  have h1:=ho.cells (g:=g) rfl (i*9+j) v (by rw[jV xs _ (by omega),show (i*9+j) / 9=i by omega,show (i*9+j) % 9=j by omega]; exact hv)
  rw[add_plain] at h1
  rw[Nat.add_assoc]
  exact h1
section
variable {w:World} {ops:Array Oper} {rest:List Oper} {o:Oper} {a:Act} {Q:Exit→Act→World→Prop}
theorem wpList_append_rowZ (s x:Operand) (ho:o.op=.call { callee:=.builtin .append,args:=#[s,x],argTypes:=#[28,28] }) (hgd:o.guard=none)
 (base:Nat) (v:Value) (n:Nat) (P:List Value) (hs:a.eval s=v) (hown:w.ownsRow base 40 9 v n P)
 (S:Nat→Prop) (A:Option Addr) (m c:Nat) (ys:List Pl) (hx:a.eval x=.slice A m c) (hr:RowE w S A m ys) (hnil:A=none→c=0) (h63:n+m≤1000000) (hbase:base≤w.heap.size)
 (h:∀ v' w',w'.ownsRow base 40 9 v' (n+m) (P++flatG ys)→w.grownBy w' v.ownBlock→(v'.ownBlock=v.ownBlock∨v'.ownBlock=some w.heap.size)→wpList Tryz.prog ops Q rest (a.put o.dst v') w') :
 wpList Tryz.prog ops Q (o::rest) a w:=by
 obtain ⟨v',w',hrun,h2,h3,h4⟩:=kI w o.type base v n P hown S A m c ys hr hnil h63 hbase
 refine wpList_plain hgd fun K hK=>?_
 unfold Oper.wp execOp
 simp only[ho,resolve,invoke,builtin,Sem.run_bind,Sem.run_pure,Result.andThen_ok,List.map_toArray,List.map_cons,List.map_nil,hs,hx,hrun]
 exact hK _ _ (h v' w' h2 h3 h4)
end
end Go.Proofs.YtdkbpchmnhbhcaaGreat.PlM

namespace Go.Proofs.YtdkbpchmnhbhcaaGreat
open Go.RowKit
section
structure nG (w:World) (gl gr n:Nat) (xss:List (List Int)):Prop where
 v:z8 w gl 178 #[.slice (some ⟨gr,0,none⟩) n n]
 row:RowK w (fun b=>b=gr) (some ⟨gr,0,none⟩) n xss
 lt:gr<w.heap.size
 len:xss.length=n
 secs:qY xss
 byt:∀ i,Bytes (xss.getD i [])
 small:n≤80000
section
variable {w w':World} {gl gr n:Nat} {xss:List (List Int)}
theorem nG.below (h:nG w gl gr n xss) (hb:Below w.heap.size w w'):nG w' gl gr n xss :=
 ⟨h.v.below hb h.v.lt,h.row.below hb (fun b e=>by rw[e]; exact h.lt),nL h.lt hb.size,h.len,h.secs,h.byt,h.small⟩
theorem nG.off (h:nG w gl gr n xss):oK gl (some ⟨gr,0,none⟩) n n xss (fun b=>b<w.heap.size∧b≠gl∧b≠gr) () w :=
 ⟨fun b hb=>hb.1,h.v,fun hb=>hb.2.1 rfl,h.row.more fun b e=>by rw[e]; exact ⟨h.lt,fun hb=>hb.2.2 rfl⟩⟩
def LdX (w0:World) (gl gr n:Nat) (xss:List (List Int)) (X:Nat→Prop) (st:Unit) (W:World):Prop :=
 oK gl (some ⟨gr,0,none⟩) n n xss X st W∧¬ X gr∧W.heap[gl]? = w0.heap[gl]? ∧ W.heap[gr]? = w0.heap[gr]? ∧ gr<W.heap.size
theorem MS (h:nG w gl gr n xss) (B:Nat) (X0:Nat→Prop):bH 121 [.pointer (some ⟨gl,0,none⟩)] B X0 (xH xss) (pz xss) (fun (st:Unit) _=>st) (LdX w gl gr n xss):=by
 have H:=FV (gl:=gl) (A:=some ⟨gr,0,none⟩) (c:=n) h.secs h.byt h.len (by have:=h.small; omega) B X0
 refine ⟨fun X st W i hr hi=>?_,fun X S st W W' hr hk hS=>?_,fun X st W hr=>H.lt X st W hr.1,fun X st W hr hx=>⟨H.back X st W hr.1 hx,fun e=>hr.2.1 (hx _ e),hr.2.2⟩,H.len,H.byt⟩
 ·refine (Xb hr.1 h.secs (by have:=h.small; omega) i hi).mono ?_
  rintro e W' ⟨he,hb⟩
  refine ⟨?_,⟨hr.1.below hb,hr.2.1,(hb.block _ hr.1.v.lt).trans hr.2.2.1,(hb.block _ hr.2.2.2.2).trans hr.2.2.2.1,nL hr.2.2.2.2 hb.size⟩,Kept.of_below hb hr.1.lt⟩
  rw[he]
 ·have hs:∀ b,b<W.heap.size→¬ X b→S b:=fun b h1 h2=>Classical.byContradiction fun h3=>h2 (hS b h1 h3).1
  have hl:=hr.1.v.lt
  refine ⟨H.put X S st W W' hr.1 hk hS,fun e=>?_,(hk.block _ (hs _ hl hr.1.xv)).trans hr.2.2.1,(hk.block _ (hs _ hr.2.2.2.2 hr.2.1)).trans hr.2.2.2.1,nL hr.2.2.2.2 hk.size⟩
  rcases e with e | e
  ·exact hr.2.1 e
  ·have:=hr.2.2.2.2; omega
theorem nG.x (h:nG w gl gr n xss):LdX w gl gr n xss (fun b=>b<w.heap.size∧b≠gl∧b≠gr) () w :=
 ⟨h.off,fun e=>e.2.2 rfl,rfl,rfl,h.lt⟩
theorem Hw {X:Nat→Prop} (hr:LdX w gl gr n xss X () w') (hk:Kept (fun b=>b<w.heap.size∧b≠gl∧b≠gr) w w'):Below w.heap.size w w' :=
 ⟨hk.os,hk.tape,hk.output,hk.size,fun b hb=>by
  by_cases e:b=gl
  ·rw[e]; exact hr.2.2.1
  ·by_cases e2:b=gr
   ·rw[e2]; exact hr.2.2.2.1
   ·exact hk.block b ⟨hb,e,e2⟩⟩
theorem Ur (h:nG w gl gr n xss) (seg:Nat) (hseg:seg≤15) :
 Calls Tryz.prog 54 #[.func (.func 121) #[] #[.pointer (some ⟨gl,0,none⟩)],.int .i64 seg] w fun e w'=>e=.returned (.int .u64 (kR (xH xss 0) seg))∧Below w.heap.size w w':=by
 refine (Dw _ (MS h w.heap.size _) h.x seg hseg).mono ?_
 rintro e w' ⟨he,hr,hk⟩
 exact ⟨he,Hw hr hk⟩
def zIB (xss:List (List Int)) (gen:Int) (at_:Nat) (w:World) (e:Ending) (w':World):Prop :=
 Below w.heap.size w w' ∧
 ((jN (xH xss) (pz xss) gen at_ ≠ 0 ∧ e = .returned (.tuple #[.agg zP, .int .i64 0, .int .i64 (jN (xH xss) (pz xss) gen at_)])) ∨
  (jN (xH xss) (pz xss) gen at_=0∧∃ (xs:List Int) (b1 b2:Nat),xs=qW (zi (xH xss) at_ (ze (xH xss at_) gen at_))∧e=.returned (.tuple #[.agg (jZ xs b1 b2),.int .i64 (ze (xH xss at_) gen at_:Nat),.int .i64 0]) ∧
   w.heap.size≤b1∧w.heap.size≤b2∧b1≠b2∧zn w' b1 (keyOf xs)∧zn w' b2 (valOf xs)))
theorem Nf (h:nG w gl gr n xss) (gen:Int) (at_:Nat) (hat:at_≤90000) :
 Calls Tryz.prog 55 #[.func (.func 121) #[] #[.pointer (some ⟨gl,0,none⟩)],.int .u64 gen,.int .i64 at_] w (zIB xss gen at_ w):=by
 refine (K3 _ (MS h w.heap.size _) h.x gen at_ hat).mono ?_
 rintro e w' ⟨hr,hk,h1,h2⟩
 refine ⟨Hw hr hk,?_⟩
 by_cases e0:jN (xH xss) (pz xss) gen at_=0
 ·obtain ⟨xs,e1,b1,b2,e2,e3,e4,e5,e6,e7,_⟩:=h2 e0
  exact .inr ⟨e0,xs,b1,b2,e1,e2,e3,e4,e5,e6,e7⟩
 ·exact .inl ⟨e0,h1 e0⟩
end
noncomputable section
def vU (xss:List (List Int)) (gen:Int):Nat→Nat→List (Nat × List Int)
 | 0,_=>[]
 | f+1,at_=>if jN (xH xss) (pz xss) gen at_=0 then (at_,qW (zi (xH xss) at_ (ze (xH xss at_) gen at_)))::vU xss gen f (at_+ze (xH xss at_) gen at_) else []
def gZ (xss:List (List Int)) (gen:Int):Nat→Nat→Nat
 | 0,at_=>at_
 | f+1,at_=>if jN (xH xss) (pz xss) gen at_=0 then gZ xss gen f (at_+ze (xH xss at_) gen at_) else at_
end
section
variable {xss:List (List Int)} {gen:Int} {at_:Nat}
theorem uq {i:Nat}:pz xss i=0↔i<xss.length:=by
 unfold pz
 split
 ·exact ⟨fun _=>by assumption,fun _=>rfl⟩
 ·exact ⟨(fun h=>by cases h),fun h=>absurd h (by assumption)⟩
theorem ZF (h:jN (xH xss) (pz xss) gen at_=0):1≤ze (xH xss at_) gen at_∧at_+ze (xH xss at_) gen at_≤xss.length:=by
 by_cases h1:pz xss at_=0
 ·by_cases h2:ze (xH xss at_) gen at_=0
  ·have:=(ZE (V:=xH xss) h1 h2).1; omega
  ·refine ⟨by omega,?_⟩
   by_cases h3:at_+ze (xH xss at_) gen at_≤xss.length
   ·exact h3
   ·have h4:=uq.1 h1
    have h5:=(Qp (V:=xH xss) (E:=pz xss) (gen:=gen) (at_:=at_) (k:=xss.length-at_) h1 (by omega) (by omega) (fun q h5 h6=>uq.2 (by omega)) (fun h7=>by have:=uq.1 h7; omega)).1
    rw[h] at h5
    have h6:=uq.1 h5.symm
    omega
 ·have:=(Qo (V:=xH xss) (gen:=gen) h1).1
  omega
theorem WW {f:Nat} (h:jN (xH xss) (pz xss) gen at_≠0):gZ xss gen f at_=at_:=by
 cases f with
 | zero=>rfl
 | succ f=>unfold gZ; rw[if_neg h]
theorem WX {f:Nat} (h:jN (xH xss) (pz xss) gen at_≠0):vU xss gen f at_=[]:=by
 cases f with
 | zero=>rfl
 | succ f=>unfold vU; rw[if_neg h]
end
end
section
section
variable {xss:List (List Int)} {gen:Int} {at_ k:Nat}
theorem Tg (h:ze (xH xss at_) gen at_=0):jN (xH xss) (pz xss) gen at_≠0:=fun h2=>by
 have:=(ZF h2).1
 omega
end
end
section
def Laid (V:Nat→List Int) (gen:Int):Nat→List (Nat × List Int)→Nat→Prop
 | c,[],e=>c=e
 | c,p::rs,e=>p.1=c∧dz p.2∧(∀ j,j<zD p.2.length→V (c+j)=qU gen ((c:Int)+j) (partOf p.2 j))∧Laid V gen (c+zD p.2.length) rs e
section
variable {V W:Nat→List Int} {gen:Int}
theorem Laid.le:∀ {rs:List (Nat × List Int)} {c e:Nat},Laid V gen c rs e→c≤e
 | [],_,_,h=>Nat.le_of_eq h
 | p::rs,c,e,⟨_,_,_,h⟩=>nT (Nat.le_add_right _ _) h.le
theorem Laid.ext:∀ {rs:List (Nat × List Int)} {c e:Nat},Laid V gen c rs e→(∀ j,c≤j→j<e→W j=V j)→Laid W gen c rs e
 | [],_,_,h,_=>h
 | p::rs,c,e,⟨h1,h2,h3,h4⟩,hw=>⟨h1,h2,fun j hj=>by
  have:=h4.le
  rw[hw (c+j) (by omega) (by omega)]
  exact h3 j hj,h4.ext (fun j h5 h6=>hw j (by omega) h6)⟩
theorem Laid.snoc:∀ {rs:List (Nat × List Int)} {c e:Nat} {bs:List Int},Laid V gen c rs e→dz bs→(∀ j,j<zD bs.length→V (e+j)=qU gen ((e:Int)+j) (partOf bs j))→Laid V gen c (rs++[(e,bs)]) (e+zD bs.length)
 | [],c,e,bs,h,hr,hv=>by
  have h:c=e:=h
  subst h
  exact ⟨rfl,hr,hv,rfl⟩
 | p::rs,c,e,bs,⟨h1,h2,h3,h4⟩,hr,hv=>⟨h1,h2,h3,h4.snoc hr hv⟩
theorem Laid.mem:∀ {rs:List (Nat × List Int)} {c e:Nat} {p:Nat × List Int},Laid V gen c rs e→p∈rs→dz p.2∧c≤p.1∧p.1+zD p.2.length≤e∧∀ j,j<zD p.2.length→V (p.1+j)=qU gen ((p.1:Int)+j) (partOf p.2 j)
 | q :: rs, c, e, p, ⟨h1, h2, h3, h4⟩, hp => by
  rcases List.mem_cons.1 hp with rfl | hp
  ·have:=h4.le
   subst h1
   exact ⟨h2,nR _,this,h3⟩
  ·obtain ⟨g1,g2,g3,g4⟩:=h4.mem hp
   exact ⟨g1,by omega,g3,g4⟩
theorem Vy (n:Nat):1≤zD n:=by unfold zD; omega
theorem WV {xss:List (List Int)} (hg:1≤gen∧gen≤18446744073709551615) (hx:xss.length≤80000):∀ {rs:List (Nat × List Int)} {c e f:Nat},Laid (xH xss) gen c rs e→e≤xss.length→jN (xH xss) (pz xss) gen e≠0→xss.length≤c+f→vU xss gen f c=rs∧gZ xss gen f c=e
 | [],c,e,f,h,_,hn,_=>by
  have h:c=e:=h
  subst h
  exact ⟨WX hn,WW hn⟩
 | p::rs,c,e,f,⟨h1,h2,h3,h4⟩,he,hn,hf=>by
  have hle:=h4.le
  have hc:=Vy p.2.length
  obtain ⟨g1,g2,g3⟩:=lZ (E:=pz xss) (at_:=c) h2 h3 (fun j hj=>uq.2 (by omega)) hg (by omega)
  obtain ⟨f',rfl⟩:∃ f',f=f'+1:=⟨f-1,by omega⟩
  have ih:=WV hg hx h4 he hn (f:=f') (by omega)
  rw[vU,gZ,if_pos g1,if_pos g1,g2,g3,ih.1,ih.2]
  obtain ⟨p1,p2⟩:=p
  have h1:p1=c:=h1
  subst h1
  exact ⟨rfl,rfl⟩
end
end
section
structure xZ (k:Dk) (s:Sup) (xs:List Seg) (rs:Nat→List (Nat × List Int)):Prop where
 hdr:∀ i,i<xs.length→qE xs i≠0→zh k s i 0=fD i (zM xs i)
 laid:∀ i,i<xs.length→qE xs i≠0→∃ e:Nat,zI xs i=e∧Laid (zh k s i) (zM xs i) 1 (rs i) e
 tail:∀ i,i<xs.length→qE xs i≠0→∀ j:Nat,zI xs i≤j→(j:Int)<s.b→ze (zh k s i j) (zM xs i) j=0
 old:∀ i j:Nat,i<xs.length→(j:Int)<s.b→stamped (zh k s i j)=true→qD (zh k s i j)≤s.g
section
variable {k k':Dk} {s:Sup} {xs:List Seg} {rs:Nat→List (Nat × List Int)}
theorem xZ.held (h:xZ k s xs rs) (hk:k'.held=k.held):xZ k' s xs rs:=by
 have e:∀ i j,zh k' s i j=zh k s i j:=fun i j=>kZ hk j
 have e2:∀ i,zh k' s i=zh k s i:=fun i=>funext (e i)
 exact ⟨fun i h1 h2=>by rw[e]; exact h.hdr i h1 h2,fun i h1 h2=>by rw[e2]; exact h.laid i h1 h2,fun i h1 h2 j h3 h4=>by rw[e]; exact h.tail i h1 h2 j h3 h4,fun i j h1 h2 h3=>by rw[e] at h3 ⊢; exact h.old i j h1 h2 h3⟩
theorem Dx {ys:List Int} {g:Int} {at_:Int} (h:stamped ys=true→qD ys<g):ze ys g at_=0:=by
 unfold ze
 rw[if_neg (fun h2=>by have:=h h2.1; omega)]
theorem iK {xs:List Seg} {i j:Nat} {x:Seg} (hi:i<xs.length):qE (xs.set i x) j=if i=j then x.1 else qE xs j:=by
 unfold qE
 by_cases e:i=j
 ·subst e; simp[List.getD,hi]
 ·simp[List.getD,List.getElem?_set_ne e,e]
theorem Ag (bs:List Int) (j:Nat):(partOf bs j).length≤48:=by
 unfold partOf
 simp
 omega
theorem xZ.lay {n:Nat} (h:xZ k s xs rs) (hg:Good k) (hok:qp s.b xs) (htop:y8 xs≤s.g) (hgm:s.g≤18446744073709551615) (hn:k.held.length=n) (hroom:2+s.a*s.b≤(n:Int)) (wG:(xs.length:Int)=s.a) {i u:Nat} (ho:qO xs=(i:Nat)) (hu:zI xs i=u) {vw:List Int} (hr:dz vw) (hfit:((zD vw.length:Nat):Int)≤jB s.b xs) (hgt:zM xs i≤y8 xs) :
 xZ (iB k s xs i vw) s (qL xs ((zD vw.length:Nat):Int)) (fun q=>if q=i then rs i++[(u,vw)] else rs q):=by
 obtain ⟨o1,o2,o3,o4,o5,o6⟩:=gq hok ho
 have hE:=uW hok (n:=((zD vw.length:Nat):Int)) (by omega) (by omega) hfit
 obtain ⟨i2,u1,u2,u3,u4,u5,u6,u7,u8,u9,u10,u11⟩:=fK hE
 obtain rfl:i2=i:=by omega
 have hc2:1≤zD vw.length:=Vy _
 obtain ⟨b,hb⟩:∃ b:Nat,s.b=b:=⟨s.b.toNat,by have hz:=hok.1; unfold qj at hz; omega⟩
 have o7:2+xs.length*b≤n:=by
  rw[← wG,hb] at hroom
  have:((xs.length*b:Nat):Int)=(xs.length:Int)*(b:Int):=by push_cast; rfl
  omega
 have hV:=fun seg j hj=>RZ (seg:=seg) (j:=j) (bs:=vw) hg (a:=xs.length) (b:=b) (u:=u) (i:=i2) wG.symm hb hu hn o7 u1 (by omega) hj
 have hu1:1≤u:=by omega
 have hg1:1≤zM xs i2:=by omega
 have zGV:qE xs i2≠0:=by rw[o6]; decide
 have hst:∀ q,qE (qL xs ((zD vw.length:Nat):Int)) q≠0→qE xs q≠0:=fun q hq=>by
  rw[u10,iK u1] at hq
  by_cases e:i2=q
  ·subst e; exact zGV
  ·rw[if_neg e] at hq; exact hq
 have hgen:∀ j,zM (qL xs ((zD vw.length:Nat):Int)) j=zM xs j:=fun j=>by
  rw[u10,rH u1]
  by_cases e:i2=j
  ·subst e; rw[if_pos rfl]
  ·rw[if_neg e]
 have KU:∀ j,zI (qL xs ((zD vw.length:Nat):Int)) j=if i2=j then zI xs i2+zD vw.length else zI xs j:=fun j=>by
  rw[u10,bQ u1]
 refine ⟨fun q h1 h2=>?_,fun q h1 h2=>?_,fun q h1 h2 j h3 h4=>?_,fun q j h1 h2 h3=>?_⟩
 ·rw[hV q 0 (by omega),if_neg (by omega),hgen]
  exact h.hdr q (by omega) (hst q h2)
 ·obtain ⟨e,e1,e2⟩:=h.laid q (by omega) (hst q h2)
  rw[hgen,KU]
  by_cases eq:i2=q
  ·subst eq
   rw[if_pos rfl,if_pos rfl]
   obtain rfl:e=u:=by omega
   refine ⟨e+zD vw.length,by rw[hu]; push_cast; rfl,Laid.snoc (e2.ext fun j h3 h4=>?_) hr (fun j hj=>?_)⟩
   ·rw[hV i2 j (by omega),if_neg (by omega)]
   ·rw[hV i2 (e+j) (by omega),if_pos ⟨rfl,by omega,by omega⟩,show e+j-e=j by omega]
    push_cast
    rfl
  ·rw[if_neg eq,if_neg (fun e3=>eq e3.symm)]
   have hub:=gW hok (show q<xs.length by omega)
   refine ⟨e,e1,e2.ext fun j h3 h4=>?_⟩
   rw[hV q j (by omega),if_neg (fun h5=>eq h5.1.symm)]
 ·rw[KU] at h3
  rw[hgen,hV q j (by omega)]
  by_cases eq:i2=q
  ·subst eq
   rw[if_pos rfl] at h3
   rw[if_neg (by omega)]
   exact h.tail i2 (by omega) zGV j (by omega) (by omega)
  ·rw[if_neg eq] at h3
   rw[if_neg (fun h5=>eq h5.1.symm)]
   exact h.tail q (by omega) (hst q h2) j h3 (by omega)
 ·rw[hV q j (by omega)] at h3 ⊢
  by_cases e:q=i2∧u≤j∧j<u+zD vw.length
  ·rw[if_pos e]
   rw[(sG (zM xs i2) (j:Int) (partOf vw (j-u)) (by omega) (by omega) (by omega) (by have:=gW hok (show i2<xs.length from u1); omega) (Ag _ _)).1]
   omega
  ·rw[if_neg e] at h3 ⊢
   exact h.old q j (by omega) h2 h3
theorem xZ.beg {n:Nat} (h:xZ k s xs rs) (hg:Good k) (hok:qp s.b xs) (hg0:0≤s.g) (hgm:s.g+1≤18446744073709551615) (hn:k.held.length=n) (hroom:2+s.a*s.b≤(n:Int)) (wG:(xs.length:Int)=s.a) (t:Int) {i:Nat} (hi:jQ xs=(i:Nat)) (hE:zZ s.b (zL s.b xs) (s.g+1)=0) :
 xZ (vo k s t i) (jR s) (qC (zL s.b xs) (s.g+1)) (fun q=>if q=i then [] else rs q):=by
 have hz:zL s.b xs=if jP s.b xs=0 then vN xs else xs:=rfl
 obtain ⟨z1,z2,z3,z4,z5,z6,z7⟩:=wW hok hz
 obtain ⟨j,j1,j2,j3,j4,j5,j6,j7,j8,j9,j10,j11⟩:=gy hE
 obtain rfl:j=i:=by omega
 obtain ⟨b,hb⟩:∃ b:Nat,s.b=b:=⟨s.b.toNat,by have hz:=hok.1; unfold qj at hz; omega⟩
 have Ie:24≤b:=by have hz:=hok.1; unfold qj at hz; omega
 have hV:=fun seg q hq hq1=>Sk (k:=k) (s:=s) (i:=j) hg hb t seg q hq hq1
 have hV0:zh (vo k s t j) (jR s) j 0=fD j (s.g+1):=by
  have hp2:(2+(j:Int)*s.b+((0:Nat):Int)).toNat=(2+(j:Int)*s.b).toNat:=by simp
  have hp1:(2+(j:Int)*s.b).toNat=2+(j*b+0):=by
   rw[hb]
   have h9:=iM j b 0
   simpa using h9
  have o7:2+xs.length*b≤n:=by
   rw[← wG,hb] at hroom
   have:((xs.length*b:Nat):Int)=(xs.length:Int)*(b:Int):=by push_cast; rfl
   omega
  have hin:=LD (p:=j) (i:=1) (b:=b) (a:=xs.length) (n:=n) (by omega) (by omega) o7
  unfold zh
  rw[if_pos (show ((0:Nat):Int)<(jR s).b by show ((0:Nat):Int)<s.b; omega)]
  show (vo k s t j).held.getD (2+(j:Int)*s.b+((0:Nat):Int)).toNat []=_
  rw[hp2,hp1]
  unfold vo bT
  rw[((hg.put _ _).sync.put _ _).held_sync,(hg.put _ _).sync.held_put,(hg.put _ _).held_sync,hg.held_put,hp1]
  simp only[List.getD]
  rw[List.getElem?_set_self (by rw[List.length_set,hn]; omega)]
  rfl
 have hst:∀ q,q≠j→qE (qC (zL s.b xs) (s.g+1)) q≠0→qE xs q≠0:=fun q hq h0 h1=>h0 (by
  rw[j11,iK j1,if_neg (Ne.symm hq)]
  exact (z7 q).1.2 h1)
 have hgen:∀ q,q≠j→zM (qC (zL s.b xs) (s.g+1)) q=zM xs q:=fun q hq=>by
  rw[j11,rH j1,if_neg (Ne.symm hq)]; exact (z7 q).2.1
 have KU:∀ q,q≠j→zI (qC (zL s.b xs) (s.g+1)) q=zI xs q:=fun q hq=>by
  rw[j11,bQ j1,if_neg (Ne.symm hq)]; exact (z7 q).2.2
 refine ⟨fun q h1 h2=>?_,fun q h1 h2=>?_,fun q h1 h2 p h3 h4=>?_,fun q p h1 h2 h3=>?_⟩
 ·by_cases e:q=j
  ·subst e; rw[hV0,j7]
  ·rw[hV q 0 (by omega) (.inr e),hgen q e]
   exact h.hdr q (by omega) (hst q e h2)
 ·by_cases e:q=j
  ·subst e
   exact ⟨1,j8,by rw[if_pos rfl]; rfl⟩
  ·obtain ⟨e1,e2,e3⟩:=h.laid q (by omega) (hst q e h2)
   rw[hgen q e,KU q e,if_neg e]
   have hub:=gW hok (show q<xs.length by omega)
   have he:=e3.le
   exact ⟨e1,e2,e3.ext fun p h3 h4=>hV q p (by omega) (.inr e)⟩
 ·have h4':(p:Int)<s.b:=h4
  by_cases e:q=j
  ·subst e
   rw[j8] at h3
   rw[hV q p (by omega) (.inl (by omega)),j7]
   exact Dx fun h5=>by have:=h.old q p (by omega) h4' h5; omega
  ·rw[KU q e] at h3
   rw[hgen q e,hV q p (by omega) (.inr e)]
   exact h.tail q (by omega) (hst q e h2) p h3 h4'
 ·have h2':(p:Int)<s.b:=h2
  show _≤s.g+1
  by_cases e:q=j∧p=0
  ·obtain ⟨rfl,rfl⟩:=e
   rw[hV0]
   have:=(sG (s.g+1) 0 [(q:Int) / 256,(q:Int)] (by omega) hgm (by omega) (by omega) (by simp)).1
   unfold fD
   omega
  ·have e1:zh (vo k s t j) (jR s) q p=zh k s q p:=hV q p (by omega) (by omega)
   rw[e1] at h3 ⊢
   have:=h.old q p (by omega) h2' h3
   omega
end
end
section
attribute [local go_sem] Oper.semAt_some
abbrev bP:Array Value:=#[.int .u64 0,.int .i64 0,.slice none 0 0]
theorem kg:(Tryz.prog.info? 42).map (·.size)=some 3:=by kernel_rfl
theorem RP:bP.all (·.oneCell')=true:=by simp[bP,Value.oneCell']
end
section
attribute [local go_sem] Oper.semAt_some
structure Tl where
 at_:Nat
 bs:List Int
 b1:Nat
 b2:Nat
def Tl.two (t:Tl):Nat × List Int:=(t.at_,t.bs)
def Gb (seg:Nat) (gen:Int) (t:Tl):PlM.Pl:=⟨(seg:Int),gen,(t.at_:Int),kindOf t.bs,flagsOf t.bs,qA t.bs,zo t.bs,some ⟨t.b1,0,none⟩,zH t.bs,zH t.bs,some ⟨t.b2,0,none⟩,zO t.bs,zO t.bs⟩
abbrev ji (g u:Int) (v:Value):Array Value:=#[.int .u64 g,.int .i64 u,v]
theorem nZ:(Tryz.prog.info? 40).map (·.size)=some 9:=by kernel_rfl
theorem Tk:(Tryz.prog.info? 35).map (·.size)=some 3:=by kernel_rfl
def Nl (w:World) (g:Nat):Nat:=match w.cell? ⟨g,1,none⟩ with
 | some (.int _ i)=>i.toNat
 | _=>0
theorem GD {w:World} {g:Nat} {x v:Value} {a:Nat} (h:z8 w g 42 #[x,.int .i64 a,v]):Nl w g=a:=by
 unfold Nl
 rw[show w.cell? ⟨g,1,none⟩=some (.int .i64 a) from h.cell 1]
 rfl
structure Kw (w:World) (m:Nat) (seg:Nat) (gen:Int) (A:Option Addr) (c:Nat) (ts:List Tl):Prop where
 row:PlM.RowE w (fun b=>m≤b∧b<w.heap.size) A ts.length (ts.map (Gb seg gen))
 cap:ts.length≤c
 nil:A=none→c=0
 ent:∀ t,t∈ts→m≤t.b1∧m≤t.b2∧zn w t.b1 (keyOf t.bs)∧zn w t.b2 (valOf t.bs)
def zBY (w:World) (X:Nat→Prop) (p d n:Nat) (s:Sup) (t:Int) (k:Dk) (seg:Nat) (xss:List (List Int)) (e:Ending) (w':World):Prop :=
 ∃ k' A c ts gen used m,e=.returned (.tuple #[.agg (ji gen used (.slice A ts.length c)),.int .i64 0])∧w.heap.size≤m∧xQ w' (fun b=>X b∨(m≤b∧b<w'.heap.size)) p d n s t k'∧Good k'∧k'.held=k.held∧k'.pend=k.pend∧Kept X w w' ∧
  gen=kR (xH xss 0) seg∧(gen=0→used=0∧ts=[]) ∧
  (gen≠0→used=(gZ xss gen xss.length 1:Nat)∧ts.map Tl.two=vU xss gen xss.length 1)∧Kw w' m seg gen A c ts
def Sm (w:World) (X:Nat→Prop) (p d n:Nat) (s:Sup) (t:Int) (k:Dk) (seg:Nat):Ending→World→Prop:=zBY w X p d n s t k seg (zi (zh k s seg) 0 s.b.toNat)
section
variable {w:World} {X:Nat→Prop} {p d n:Nat} {s:Sup} {t:Int} {k:Dk}
theorem Tn (h:xQ w X p d n s t k) (hX:∀ b,X b→b<w.heap.size) (hma:s.May) (hg:Good k) (hok:k.Ok n) (seg:Nat) (hseg:(seg:Int)<s.a) (hroom:2+s.a*s.b≤(n:Int)) (hn:n≤2048) :
 Calls Tryz.prog 10 #[.pointer (some ⟨p,0,none⟩),.int .i64 seg] w (Sm w X p d n s t k seg):=by
 have zMe:s.a≤16∧24≤s.b∧s.b≤64:=by have:=hma; unfold Sup.May wZ at this; omega
 obtain ⟨cn,hcn⟩:∃ cn:Nat,s.b=cn:=⟨s.b.toNat,by omega⟩
 have HCN:=hI hcn
 have zQR:24≤cn∧cn≤64:=by omega
 clear hcn
 obtain ⟨w1,hw1⟩:∃ w1,w1=w.alloc (.cells bP 42):=⟨_,rfl⟩
 have hb1:Below w.heap.size w w1:=by rw[hw1]; exact (Below.refl _ _).alloc (nR _) _
 have HR1:=hI (show z8 w1 w.heap.size 42 bP by rw[hw1]; exact z8.new w _ _)
 have ql:=hI (show xQ w1 (fun b=>X b∨(w.heap.size≤b∧b<w1.heap.size)) p d n s t k from zk.grow h hb1)
 have HB1:=hI hb1
 have HW1:=hI hw1
 have HX:=hI hX
 have lK:=hI hma
 have HG:=hI hg
 have Ci:=hI hok
 clear hw1 hb1 h hX hma hg hok
 go_enter Tryz.func10,Tryz.ntmps10
 go_wp2_with fail
 go_step3
 rw[← HW1.out]
 go_wp2_with fail
 refine (YF ql.out seg hseg zMe.1 (by omega)).mono ?_
 rintro e w2 ⟨rfl,rfl⟩
 go_wp2_with fail
 refine (ZC ql.out (fun b hb=>hb.elim (fun h=>nL (HX.out b h) HB1.out.size) (fun h=>h.2)) seg).mono ?_
 rintro e w3 ⟨⟨gx,gi,rfl,hsm⟩,hb3⟩
 have xg:=hI hsm
 have HB3:=hI hb3
 clear hsm hb3
 go_wp2_with fail
 refine (rG xg.out.sto).mono ?_
 rintro e w4 ⟨rfl,hb4⟩
 have xg:=hI (xg.out.grow hb4)
 have zq:=hI hb4
 clear hb4
 have SA:=K6 s.a s.b s.g s.r s.v s.f w4
 go_wp2_with fail
 clear SA
 rw[HCN.out]
 have HHC:=hI (rP (p:=p) (d:=d) (t:=t) (X0:=fun b=>((X b∨(w.heap.size≤b∧b<w2.heap.size))∨(w2.heap.size≤b∧b<w3.heap.size))∨(w3.heap.size≤b∧b<w4.heap.size)) lK.out hseg hroom hn Ci.out w4.heap.size xg.out.xx xg.out.xi ⟨xg.out.bx.lt,xg.out.bi.lt⟩)
 refine (BR _ _ HHC.out ⟨xg.out,HG.out,rfl,rfl⟩ cn (by omega)).mono ?_
 rintro e w5 (⟨gl,gr,rfl,hE,hld,hr,hk,hgl,hgr⟩ | ⟨j,hj,_,hne,_⟩)
 rotate_left
 ·exfalso
  unfold tH at hne
  rw[if_pos (by have:=HCN.out; omega)] at hne
  exact hne rfl
 have Ib:Below w.heap.size w w4:=HB1.out.trans ((HB3.out.mono HB1.out.size).trans (zq.out.mono (nT HB1.out.size HB3.out.size)))
 have zQW:=hI Ib
 have kS:=hI (show Kept X w w5 from (Kept.of_below Ib HX.out).trans hk (fun b hb=>.inl (.inl (.inl hb))))
 have oP:=hI (show z8 w5 w.heap.size 42 bP from ((HR1.out.below HB3.out HR1.out.lt).below zq.out (nL HR1.out.lt HB3.out.size)).kept hk (.inl (.inl (.inr ⟨nR _,HR1.out.lt⟩))))
 have aj:=hI (show xQ w5 (fun b=>X b∨b=w.heap.size) p d n s t _ from zk.kept (Z:=fun _=>True) hr.1.sto (Kept.refl _ _) (fun _ _ _=>trivial) (fun b _ hb=>hb.elim (fun h=>.inl (.inl (.inl h))) (fun h=>.inl (.inl (.inr (by rw[h]; exact ⟨nR _,HR1.out.lt⟩))))))
 have mD:=hI hr.2
 have Cn:=hI (show nG w5 gl gr cn (zi (zh k s seg) 0 cn) from by
  obtain ⟨b,off,e1,h2,h3⟩:=hld.row.2 (by omega)
  injection e1 with e1
  injection e1 with e2 e3
  subst e2 e3
  exact ⟨hld.v,⟨hld.row.1,fun _=>⟨gr,0,rfl,rfl,h3⟩⟩,h2.1,xS _ _ _,rQ HHC.out.len _ _,bU HHC.out.byt _ _,by omega⟩)
 have QA:=hI (show w.heap.size≤w5.heap.size∧w.heap.size<w5.heap.size from ⟨kS.out.size,oP.out.lt⟩)
 clear hE hld hr hk hgl hgr Ib HR1 xg HHC HB1 HB3 zq HW1
 obtain ⟨xss,uz⟩:∃ xss,zi (zh k s seg) 0 cn=xss:=⟨_,rfl⟩
 have HT:=hI (show ∀ e w',zBY w X p d n s t k seg xss e w'→Sm w X p d n s t k seg e w' from fun e w' h=>by
  unfold Sm
  rw[show s.b.toNat=cn from by rw[HCN.out]; rfl,uz]
  exact h)
 rw[uz] at Cn
 clear uz
 generalize mM (fun k i=>wU k s i) k 0 cn=k5 at *
 obtain ⟨w6,xB⟩:∃ w6,w6=w5.alloc (.cells bP 42):=⟨_,rfl⟩
 have hb6:Below w5.heap.size w5 w6:=by rw[xB]; exact (Below.refl _ _).alloc (nR _) _
 have Qc:=hI (show z8 w6 w5.heap.size 42 bP by rw[xB]; exact z8.new w5 _ _)
 have qK:=hI hb6
 have zAa:=hI (Cn.out.below hb6)
 have nS:=hI xB
 clear xB hb6
 go_upto_region 8 with fail
 rw[← nS.out]
 go_wp2_with fail
 refine (Ur zAa.out seg (by omega)).mono ?_
 rintro e w7 ⟨rfl,jy⟩
 have wQ:=hI (Qc.out.below jy Qc.out.lt)
 have zNd:=hI (zAa.out.below jy)
 have kN:=hI (qK.out.trans (jy.mono qK.out.size))
 clear jy Qc zAa qK
 obtain ⟨gen,hgen⟩:∃ gen,kR (xH xss 0) seg=gen:=⟨_,rfl⟩
 rw[hgen]
 have zIy:=hI hgen.symm
 clear hgen
 obtain ⟨ob,hob⟩:∃ ob,w5.heap.size=ob:=⟨_,rfl⟩
 rw[hob] at wQ
 rw[hob]
 have HOB:=hI hob
 clear hob
 have o0:w7.cell? ⟨ob,0,none⟩=some (.int .u64 0):=wQ.out.cell 0
 have f0:=wQ.out.frozen 0
 obtain ⟨w8,hw8⟩:∃ w8,w8=w7.setCell ⟨ob,0,none⟩ (.int .u64 gen):=⟨_,rfl⟩
 have Xv:=hI (show z8 w8 ob 42 (ji gen 0 (.slice none 0 0)) by rw[hw8]; exact wQ.out.set_ 0 (.int .u64 gen))
 have yj:=hI (show Below w5.heap.size w5 w8 by rw[hw8]; exact kN.out.setCell (p:=⟨ob,0,none⟩) (by have:=HOB.out; show w5.heap.size≤ob; omega) (.int .u64 gen))
 have zNc:=hI (Cn.out.below yj.out)
 have nH:=hI hw8.symm
 clear hw8 zNd kN
 go_upto_region 9 with fail
 rw[nH.out]
 clear o0 f0 wQ nH
 have bI:=hI (oP.out.below yj.out oP.out.lt)
 have wo:=hI (show ∀ (W:World) (c6:Array Value),Below w5.heap.size w5 W→∃ k',xQ (W.setRow w.heap.size c6) (fun b=>X b∨(w5.heap.size≤b∧b<(W.setRow w.heap.size c6).heap.size)) p d n s t k'∧Good k'∧(k'.held=k.held∧k'.pend=k.pend)∧Kept X w (W.setRow w.heap.size c6) from fun W c6 hW=>by
  have hkr:Kept (fun b=>b≠w.heap.size) W (W.setRow w.heap.size c6):=(Kept.refl _ W).setRow (fun h=>h rfl) c6
  refine ⟨k5,?_,mD.out.1,mD.out.2,(kS.out.trans (Kept.of_below (S:=X) hW (fun b h=>by have:=HX.out b h; have:=QA.out; omega)) (fun b h=>h)).trans hkr (fun b h=>by have:=HX.out b h; omega)⟩
  have h1:=zk.grow aj.out hW
  refine zk.kept (Z:=fun b=>b≠w.heap.size) h1 hkr (fun b hb hx e=>hx (.inl (.inr e))) (fun b hb hx=>?_)
  rcases hx with hx | hx
  ·exact .inl (.inl hx)
  ·exact .inr ⟨hx.1,hb⟩)
 by_cases hg0:gen=0
 ·subst hg0
  have o0:w8.cell? ⟨ob,0,none⟩=some (.int .u64 0):=Xv.out.cell 0
  go_wp2_with (first | (with_reducible refine zJ ?_) | (refine zV (.tmp 10) 42 rfl rfl ob rfl 42 (ji 0 0 (.slice none 0 0)).toList _ Tryz.underlying42 rfl kg Xv.out ?_) | (refine zF (.tmp 4) (.tmp 46) 42 rfl rfl w.heap.size bP rfl rfl 42 _ bI.out kg rfl RP ?_))
  rw[Exit.noGoto_ret]
  obtain ⟨k',g1,g2,g3,g4⟩:=wo.out w8 bP yj.out
  exact bodyPost_ret (zy rfl _ _ w.heap.size 42 bP _ rfl (setRow_heap _ _ _ bP _ _ bI.out) Tryz.underlying42 rfl kg) rfl (HT.out _ _ ⟨k',none,0,[],0,0,_,rfl,QA.out.1,g1,g2,g3.1,g3.2,g4,zIy.out,fun _=>⟨rfl,rfl⟩,fun h=>absurd rfl h,⟨⟨rfl,fun h=>absurd h (by simp)⟩,nR _,fun _=>rfl,fun t ht=>by simp at ht⟩⟩)
 ·have zMs:(gen==0)=false:=by simpa using hg0
  have o0:w8.cell? ⟨ob,0,none⟩=some (.int .u64 gen):=Xv.out.cell 0
  have o1:w8.cell? ⟨ob,1,none⟩=some (.int .i64 0):=Xv.out.cell 1
  have f1:=Xv.out.frozen 1
  obtain ⟨w9,KT⟩:∃ w9,w9=w8.setCell ⟨ob,1,none⟩ (.int .i64 1):=⟨_,rfl⟩
  have HO9:=hI (show z8 w9 ob 42 (ji gen 1 (.slice none 0 0)) by rw[KT]; exact Xv.out.set_ 1 (.int .i64 1))
  have oq:=hI (show Below w5.heap.size w5 w9 by rw[KT]; exact yj.out.setCell (p:=⟨ob,1,none⟩) (by have:=HOB.out; show w5.heap.size≤ob; omega) (.int .i64 1))
  have HW9:=hI KT.symm
  clear KT
  go_wp2_with fail
  rw[HW9.out]
  clear o0 o1 f1 Xv yj zNc bI HW9 zMs
  have lM:=hI Cn.out.len
  go_step3
  go_wp2_with fail
  go_loopw [48] (fun _ W=>∃ (at_ f:Nat) (v:Value) (ts:List Tl),z8 W ob 42 (ji gen at_ v)∧W.ownsRow w5.heap.size 40 9 v ts.length (PlM.flatG (ts.map (Gb seg gen)))∧Below w5.heap.size w5 W ∧
   (ts.map Tl.two++vU xss gen f at_=vU xss gen xss.length 1∧gZ xss gen f at_=gZ xss gen xss.length 1)∧(1≤at_∧at_≤xss.length∧xss.length≤at_+f∧ts.length≤at_) ∧
   ∀ t,t∈ts→w5.heap.size≤t.b1∧w5.heap.size≤t.b2∧zn W t.b1 (keyOf t.bs)∧zn W t.b2 (valOf t.bs)) (fun _ W=>cn-Nl W ob)
  case atStart=>exact ⟨1,xss.length,_,[],HO9.out,⟨rfl,.inl ⟨rfl,rfl⟩⟩,oq.out,⟨rfl,rfl⟩,by have:=lM.out; simp only[List.length_nil]; omega,fun t ht=>by simp at ht⟩
  case round =>
  clear HO9 oq
  obtain ⟨at_,f,v,ts,ho,hown,hb,hsc,hin,hent⟩:=hrel
  have HO:=hI ho
  have HOW:=hI hown
  have HB:=hI hb
  have ND:=hI hsc
  have yR:=hI hin
  have Z8:=hI hent
  have HAT:=hI (GD HO.out)
  have hat:=yR.out
  have hln:=lM.out
  have HST:=hI (Nf (Cn.out.below HB.out) gen at_ (by omega))
  have o0:wr.cell? ⟨ob,0,none⟩=some (.int .u64 gen):=HO.out.cell 0
  have o1:wr.cell? ⟨ob,1,none⟩=some (.int .i64 at_):=HO.out.cell 1
  clear ho hown hb hsc hin hent hat hln
  go_wp2_with fail
  refine HST.out.mono ?_
  rintro e w10 ⟨xP,hst⟩
  clear o0 o1 HST
  rcases hst with ⟨hne,rfl⟩ | ⟨he0,xs,b1,b2,hxs,rfl,hb1,hb2,hbb,ha1,ha2⟩
  ·-- none stands there: what was found is told
   obtain ⟨se,hse⟩:∃ se,jN (xH xss) (pz xss) gen at_=se:=⟨_,rfl⟩
   have jv:=hI hse
   rw[hse] at hne ⊢
   have hneb:(se==0)=false:=by simpa using hne
   have VE:=hI hne
   clear hse hne
   obtain ⟨w11,wF⟩:∃ w11,w11=(w10.alloc (.cells zP 33)).setRow w10.heap.size zP:=⟨_,rfl⟩
   have oC:Below w10.heap.size w10 w11:=by rw[wF]; exact below_setRow ((Below.refl _ _).alloc (nR _) _) (nR _) _
   have X9:Below wr.heap.size wr w11:=xP.trans (oC.mono xP.size)
   have Sv:=hI (HO.out.below X9 HO.out.lt)
   have WM:=hI (HB.out.trans (X9.mono HB.out.size))
   have zIW:=hI (oP.out.below WM.out oP.out.lt)
   have zJu:=hI (own_below HOW.out X9)
   have zKD:=hI (fun t (ht:t∈ts)=>by
    obtain ⟨g1,g2,g3,g4⟩:=Z8.out t ht
    exact (show w5.heap.size≤t.b1∧w5.heap.size≤t.b2∧zn w11 t.b1 (keyOf t.bs)∧zn w11 t.b2 (valOf t.bs) from ⟨g1,g2,z8.below g3 X9 (z8.lt g3),z8.below g4 X9 (z8.lt g4)⟩))
   have zAS:=hI wF.symm
   clear xP oC X9 wF
   obtain ⟨A,cap,rfl,hcap,hnil,hrow⟩:=PlM.rowZ_own zJu.out rfl (by simp)
   have xR:=hI (And.intro hcap (And.intro hnil hrow))
   clear hcap hnil hrow
   go_wp2_with (first
    | (with_reducible refine zJ ?_)
    | (refine zF (.tmp 11) (.tmp 55) 33 rfl rfl w10.heap.size zP rfl rfl 33 _ (z8.new w10 _ _) zR rfl xC ?_; rw[zAS.out])
    | (refine zV (.tmp 10) 42 rfl rfl ob rfl 42 (ji gen at_ (.slice A ts.length cap)).toList _ Tryz.underlying42 rfl kg Sv.out ?_)
    | (refine zF (.tmp 4) (.tmp 80) 42 rfl rfl w.heap.size (ji gen at_ (.slice A ts.length cap)) rfl rfl 42 _ zIW.out kg rfl (by simp[Value.oneCell']) ?_))
   rw[Exit.noGoto_ret]
   obtain ⟨k',g1,g2,g3,g4⟩:=wo.out w11 (ji gen at_ (.slice A ts.length cap)) WM.out
   have hkr:Kept (fun b=>b≠w.heap.size) w11 (w11.setRow w.heap.size (ji gen at_ (.slice A ts.length cap))):=(Kept.refl _ _).setRow (fun h=>h rfl) _
   have zMX:w11.heap.size≤(w11.setRow w.heap.size (ji gen at_ (.slice A ts.length cap))).heap.size:=hkr.size
   have jH:=QA.out.2
   have hst:jN (xH xss) (pz xss) gen at_≠0:=by rw[jv.out]; exact VE.out
   refine bodyPost_ret (zy rfl _ _ w.heap.size 42 (ji gen at_ (.slice A ts.length cap)) _ rfl (setRow_heap _ _ _ _ _ _ zIW.out) Tryz.underlying42 rfl kg) rfl (HT.out _ _ ⟨k',A,cap,ts,gen,at_,_,rfl,QA.out.1,g1,g2,g3.1,g3.2,g4,zIy.out,fun h=>absurd h hg0,fun _=>⟨?_,?_⟩,⟨?_,xR.out.1,xR.out.2.1,fun t ht=>?_⟩⟩)
   ·rw[← ND.out.2,WW hst]
   ·rw[← ND.out.1,WX hst,List.append_nil]
   ·exact (xR.out.2.2.kept hkr (fun b hb=>by omega)).more (fun b hb=>⟨hb.1,nL hb.2 zMX⟩)
   ·obtain ⟨g5,g6,g7,g8⟩:=zKD.out t ht
    exact ⟨g5,g6,z8.kept g7 hkr (by omega),z8.kept g8 hkr (by omega)⟩
  ·-- one stands there
   have hin2:=ZF he0
   obtain ⟨cc,hcc⟩:∃ cc,ze (xH xss at_) gen at_=cc:=⟨_,rfl⟩
   have Qh:=hI he0
   have HCC:=hI hcc
   have Z0:=hI hxs
   rw[hcc] at hin2 ⊢
   have zNi:=hI hin2
   have bN:=hI (And.intro hb1 hb2)
   clear hxs hcc he0 hbb
   obtain ⟨w11,wF⟩:∃ w11,w11=(w10.alloc (.cells zP 33)).setRow w10.heap.size (jZ xs b1 b2):=⟨_,rfl⟩
   have oC:Below w10.heap.size w10 w11:=by rw[wF]; exact below_setRow ((Below.refl _ _).alloc (nR _) _) (nR _) _
   have zBl:=hI (show z8 w11 w10.heap.size 33 (jZ xs b1 b2) by rw[wF]; exact setRow_heap _ _ _ _ _ _ (z8.new w10 _ _))
   have zAS:=hI wF.symm
   obtain ⟨w12,dM⟩:∃ w12,w12=w11.alloc (.cells #[.int .i64 (seg:Nat),.int .u64 gen,.int .i64 at_] 35):=⟨_,rfl⟩
   have tq:Below w11.heap.size w11 w12:=by rw[dM]; exact (Below.refl _ _).alloc (nR _) _
   have zKF:=hI (show z8 w12 w11.heap.size 35 #[.int .i64 (seg:Nat),.int .u64 gen,.int .i64 at_] by rw[dM]; exact z8.new w11 _ _)
   have zJr:=hI (zBl.out.below tq zBl.out.lt)
   have zAR:=hI dM.symm
   obtain ⟨w13,Rp⟩:∃ w13,w13=w12.alloc (.cells #[.int .i64 (seg:Nat),.int .u64 gen,.int .i64 at_,.int .i64 (kindOf xs),.int .u32 (flagsOf xs),.int .u32 (qA xs),.int .u64 (zo xs),.slice (some ⟨b1,0,none⟩) (zH xs) (zH xs),.slice (some ⟨b2,0,none⟩) (zO xs) (zO xs)] 40):=⟨_,rfl⟩
   have Zm:Below w12.heap.size w12 w13:=by rw[Rp]; exact (Below.refl _ _).alloc (nR _) _
   have zNe:=hI (show PlM.RowE w13 (fun _=>True) (some ⟨w12.heap.size,0,none⟩) 1 [Gb seg gen ⟨at_,xs,b1,b2⟩] from PlM.row_of_flat (X:=[]) (g:=w12.heap.size) (t:=40) (by rw[Rp,List.append_nil,PlM.flatG_one]; exact z8.new w12 _ _) trivial rfl)
   have zNN:=hI Rp.symm
   have Bg:Below wr.heap.size wr w11:=xP.trans (oC.mono xP.size)
   have Bf:Below wr.heap.size wr w12:=Bg.trans (tq.mono Bg.size)
   have X7:Below wr.heap.size wr w13:=Bf.trans (Zm.mono Bf.size)
   have Vu:Below w10.heap.size w10 w13:=oC.trans ((tq.mono oC.size).trans (Zm.mono (nT oC.size tq.size)))
   have Sv:=hI (HO.out.below Bg HO.out.lt)
   have zNV:=hI (HO.out.below Bf HO.out.lt)
   have zNU:=hI (HO.out.below X7 HO.out.lt)
   have wM:=hI (HB.out.trans (X7.mono HB.out.size))
   have VB:=hI (own_below HOW.out X7)
   have zKB:=hI (show ∀ t,t∈ts++[⟨at_,xs,b1,b2⟩]→w5.heap.size≤t.b1∧w5.heap.size≤t.b2∧zn w13 t.b1 (keyOf t.bs)∧zn w13 t.b2 (valOf t.bs) from fun t ht=>by
    rcases List.mem_append.1 ht with ht | ht
    ·obtain ⟨g1,g2,g3,g4⟩:=Z8.out t ht
     exact ⟨g1,g2,z8.below g3 X7 (z8.lt g3),z8.below g4 X7 (z8.lt g4)⟩
    ·rw[List.mem_singleton.1 ht]
     exact ⟨nT HB.out.size hb1,nT HB.out.size hb2,z8.below ha1 Vu (z8.lt ha1),z8.below ha2 Vu (z8.lt ha2)⟩)
   have o0:w11.cell? ⟨ob,0,none⟩=some (.int .u64 gen):=Sv.out.cell 0
   have o1:w11.cell? ⟨ob,1,none⟩=some (.int .i64 at_):=Sv.out.cell 1
   have o2:w12.cell? ⟨ob,2,none⟩=some v:=zNV.out.cell 2
   clear hb1 hb2 ha1 ha2 xP oC wF tq dM Zm Rp Bg Bf X7 Vu HOW Z8 HO
   go_upto_region 16 with (refine zF (.tmp 11) (.tmp 55) 33 rfl rfl w10.heap.size (jZ xs b1 b2) rfl rfl 33 _ (z8.new w10 _ _) zR rfl (ni _ _ _ _ _ _ _ _ _ _) ?_; rw[zAS.out])
   rw[zAR.out]
   clear o0 o1
   have HTL:=hI (show ts.length+1≤1000000 by have h1:=yR.out; have h2:=lM.out; omega)
   go_upto_region 17 with (first
    | (refine zV (.tmp 14) 35 rfl rfl w11.heap.size rfl 35 [.int .i64 (seg:Nat),.int .u64 gen,.int .i64 at_] _ Tryz.underlying35 rfl Tk zKF.out ?_)
    | (refine zV (.tmp 11) 33 rfl rfl w10.heap.size rfl 33 (jZ xs b1 b2).toList _ Tryz.underlying33 rfl zR zJr.out ?_)
    | (rw[zNN.out]; refine PlM.wpList_append_rowZ (.tmp 68) (.tmp 72) rfl rfl w5.heap.size v ts.length _ rfl VB.out _ _ 1 1 [Gb seg gen ⟨at_,xs,b1,b2⟩] rfl zNe.out (fun h=>by cases h) HTL.out wM.out.size ?_; intro v14 w14 hown hgrow zMV; obtain ⟨F7,c14,rfl⟩:=tJ hown; have WG:=hI (kP zNU.out VB.out (by decide) hgrow); have q14:w14.cell? ⟨ob,2,none⟩=some v:=WG.out.cell 2; have f14:=WG.out.frozen 2))
   clear o2 q14 f14
   have zAh:=hI (oH wM.out VB.out (nR _) wM.out.size hgrow)
   have zKA:=hI (show ∀ t,t∈ts++[⟨at_,xs,b1,b2⟩]→w5.heap.size≤t.b1∧w5.heap.size≤t.b2∧zn w14 t.b1 (keyOf t.bs)∧zn w14 t.b2 (valOf t.bs) from fun t ht=>by
    obtain ⟨g1,g2,g3,g4⟩:=zKB.out t ht
    exact ⟨g1,g2,kP g3 VB.out (by decide) hgrow,kP g4 VB.out (by decide) hgrow⟩)
   obtain ⟨w15,Vo⟩:∃ w15,w15=w14.setCell ⟨ob,2,none⟩ (.slice F7 (ts.length+1) c14):=⟨_,rfl⟩
   have IU:Kept (fun b=>b≠ob) w14 w15:=by rw[Vo]; exact (Kept.refl _ _).setCell (p:=⟨ob,2,none⟩) (fun h=>h rfl) _
   have WE:=hI (show z8 w15 ob 42 (ji gen at_ (.slice F7 (ts.length+1) c14)) by rw[Vo]; exact WG.out.set_ 2 (.slice F7 (ts.length+1) c14))
   have zJt:=hI (show w15.ownsRow w5.heap.size 40 9 (.slice F7 (ts.length+1) c14) (ts.length+1) _ by rw[Vo]; exact ZX hown WG.out (by decide) 2 (.slice F7 (ts.length+1) c14))
   have zJz:=hI (show ∀ t,t∈ts++[⟨at_,xs,b1,b2⟩]→w5.heap.size≤t.b1∧w5.heap.size≤t.b2∧zn w15 t.b1 (keyOf t.bs)∧zn w15 t.b2 (valOf t.bs) from fun t ht=>by
    obtain ⟨g1,g2,g3,g4⟩:=zKA.out t ht
    have e1:zn w14 t.b1 (keyOf t.bs):=g3
    have e2:zn w14 t.b2 (valOf t.bs):=g4
    exact ⟨g1,g2,z8.kept e1 IU (z8.ne_ e1 WG.out (by decide)),z8.kept e2 IU (z8.ne_ e2 WG.out (by decide))⟩)
   have TK:=hI (show Below w5.heap.size w5 w15 by rw[Vo]; exact zAh.out.setCell (p:=⟨ob,2,none⟩) (by have:=HOB.out; show w5.heap.size≤ob; omega) (.slice F7 (ts.length+1) c14))
   have zNM:=hI Vo.symm
   rw[zNM.out]
   clear Vo IU hown hgrow zMV
   have o1:w15.cell? ⟨ob,1,none⟩=some (.int .i64 at_):=WE.out.cell 1
   have f1:=WE.out.frozen 1
   have zIg:=hI (show z8 (w15.setCell ⟨ob,1,none⟩ (.int .i64 ((at_:Int)+cc))) ob 42 (ji gen ((at_+cc:Nat):Int) (.slice F7 (ts.length+1) c14)) from WE.out.set_ 1 (.int .i64 ((at_+cc:Nat):Int)))
   have zJs:=hI (ZX zJt.out WE.out (by decide) 1 (.int .i64 ((at_:Int)+cc)))
   have IQ:Kept (fun b=>b≠ob) w15 (w15.setCell ⟨ob,1,none⟩ (.int .i64 ((at_:Int)+cc))):=(Kept.refl _ _).setCell (p:=⟨ob,1,none⟩) (fun h=>h rfl) _
   have zJy:=hI (show ∀ t,t∈ts++[⟨at_,xs,b1,b2⟩]→w5.heap.size≤t.b1∧w5.heap.size≤t.b2∧zn (w15.setCell ⟨ob,1,none⟩ (.int .i64 ((at_:Int)+cc))) t.b1 (keyOf t.bs)∧zn (w15.setCell ⟨ob,1,none⟩ (.int .i64 ((at_:Int)+cc))) t.b2 (valOf t.bs) from fun t ht=>by
    obtain ⟨g1,g2,g3,g4⟩:=zJz.out t ht
    have e1:zn w15 t.b1 (keyOf t.bs):=g3
    have e2:zn w15 t.b2 (valOf t.bs):=g4
    exact ⟨g1,g2,z8.kept e1 IQ (z8.ne_ e1 WE.out (by decide)),z8.kept e2 IQ (z8.ne_ e2 WE.out (by decide))⟩)
   have TJ:=hI (TK.out.setCell (p:=⟨ob,1,none⟩) (by have:=HOB.out; show w5.heap.size≤ob; omega) (.int .i64 ((at_:Int)+cc)))
   clear IQ
   have hin:=yR.out
   have hin2:=zNi.out
   have hln:=lM.out
   have hf1:1≤f:=by omega
   obtain ⟨f',rfl⟩:=Nat.exists_eq_add_of_le' hf1
   clear hf1
   have HNX:=hI (show 1≤at_+cc∧at_+cc≤xss.length∧xss.length≤at_+cc+f'∧(ts++[(⟨at_,xs,b1,b2⟩:Tl)]).length≤at_+cc by simp only[List.length_append,List.length_cons,List.length_nil]; omega)
   have HME:=hI (show cn-(at_+cc)<cn-at_ by omega)
   have hwr:wrap64 ((at_:Int)+cc)=(at_:Int)+cc:=IntWalk.wrap64_in _ (by omega)
   go_wp2_with fail
   have hL:vU xss gen (f'+1) at_=(at_,xs)::vU xss gen f' (at_+cc):=by rw[vU,if_pos Qh.out,Z0.out,HCC.out]
   have hU:gZ xss gen (f'+1) at_=gZ xss gen f' (at_+cc):=by rw[gZ,if_pos Qh.out,HCC.out]
   have h1:=ND.out.1
   have h2:=ND.out.2
   rw[hL] at h1
   rw[hU] at h2
   go_roundw
   case rel =>
    refine ⟨at_+cc,f',_,ts++[⟨at_,xs,b1,b2⟩],zIg.out,?_,TJ.out,⟨?_,h2⟩,?_,zJy.out⟩
    ·have h9:=zJs.out
     rw[show (ts++[(⟨at_,xs,b1,b2⟩:Tl)]).length=ts.length+1 by simp,List.map_append,PlM.flatG_append]
     exact h9
    ·rw[List.map_append,List.append_assoc]
     exact h1
    ·exact HNX.out
   case measure =>
    rw[HAT.out,GD zIg.out]
    exact HME.out
end
end
section
theorem XU:stamped (noughts 64)=false:=by decide +kernel
section
variable {k k':Dk} {s:Sup} {xs:List Seg} {rs:Nat→List (Nat × List Int)}
theorem xZ.start (hst:∀ i,i<xs.length→qE xs i=0) (hV:∀ i j:Nat,i<xs.length→(j:Int)<s.b→zh k s i j=noughts 64):xZ k s xs (fun _=>[]) :=
 ⟨fun i h1 h2=>absurd (hst i h1) h2,fun i h1 h2=>absurd (hst i h1) h2,fun i h1 h2=>absurd (hst i h1) h2,fun i j h1 h2 h3=>by rw[hV i j h1 h2,XU] at h3; cases h3⟩
theorem xZ.known {s':Sup} (h:xZ k s xs rs) (hb:s'.b=s.b) (hg:s.g≤s'.g) (hV:∀ i j:Nat,(j:Int)<s.b→zh k' s' i j=zh k s i j) (hok:qp s.b xs):xZ k' s' xs rs:=by
 have Ie:24≤s.b:=by have hz:=hok.1; unfold qj at hz; omega
 refine ⟨fun i h1 h2=>?_,fun i h1 h2=>?_,fun i h1 h2 j h3 h4=>?_,fun i j h1 h2 h3=>?_⟩
 ·rw[hV i 0 (by omega)]; exact h.hdr i h1 h2
 ·obtain ⟨e,e1,e2⟩:=h.laid i h1 h2
  have:=gW hok h1
  exact ⟨e,e1,e2.ext fun j h3 h4=>hV i j (by omega)⟩
 ·rw[hV i j (by omega)]; exact h.tail i h1 h2 j h3 (by omega)
 ·rw[hV i j (by omega)] at h3 ⊢
  have:=h.old i j h1 (by omega) h3
  omega
theorem xZ.free {zs:List Seg} (h:xZ k s xs rs) (hl:zs.length=xs.length) (hst:∀ i,qE zs i≠0→qE xs i≠0∧zM zs i=zM xs i∧zI zs i=zI xs i):xZ k s zs rs :=
 ⟨fun i h1 h2=>by rw[(hst i h2).2.1]; exact h.hdr i (by omega) (hst i h2).1,fun i h1 h2=>by rw[(hst i h2).2.1,(hst i h2).2.2]; exact h.laid i (by omega) (hst i h2).1,fun i h1 h2 j h3 h4=>by rw[(hst i h2).2.1]; rw[(hst i h2).2.2] at h3; exact h.tail i (by omega) (hst i h2).1 j h3 h4,fun i j h1 h2 h3=>h.old i j (by omega) h2 h3⟩
theorem xZ.scan (h:xZ k s xs rs) (hok:qp s.b xs) {i:Nat} (hi:i<xs.length) (h0:qE xs i≠0) (hg:1≤zM xs i∧zM xs i≤18446744073709551615) :
 kR (xH (zi (zh k s i) 0 s.b.toNat) 0) i=zM xs i∧vU (zi (zh k s i) 0 s.b.toNat) (zM xs i) (zi (zh k s i) 0 s.b.toNat).length 1=rs i∧((gZ (zi (zh k s i) 0 s.b.toNat) (zM xs i) (zi (zh k s i) 0 s.b.toNat).length 1:Nat):Int)=zI xs i:=by
 obtain ⟨b,hb⟩:∃ b:Nat,s.b=b:=⟨s.b.toNat,by have hz:=hok.1; unfold qj at hz; omega⟩
 have hbb:24≤b∧b≤64:=by have hz:=hok.1; unfold qj at hz; omega
 have JE:xs.length≤16:=by have hz:=hok.1; unfold qj at hz; omega
 rw[show s.b.toNat=b by omega]
 have hV:∀ j,j<b→xH (zi (zh k s i) 0 b) j=zh k s i j:=fun j hj=>by
  unfold xH
  rw[if_pos (by rw[xS]; exact hj)]
  unfold zi
  simp[List.getD,List.getElem?_map,List.getElem?_range hj]
 have hlen:=xS (zh k s i) 0 b
 have hs:=sG (zM xs i) 0 [(i:Int) / 256,(i:Int)] (by omega) hg.2 (by omega) (by omega) (by simp)
 have hps:=Qy (zM xs i) 0 [(i:Int) / 256,(i:Int)] hg.1 hg.2 (by omega) (by omega) (by simp)
 obtain ⟨e,e1,e2⟩:=h.laid i hi h0
 have hle:=e2.le
 have hub:=gW hok hi
 refine ⟨?_,?_⟩
 ·rw[hV 0 (by omega),h.hdr i hi h0]
  unfold kR fD
  rw[hs.1,if_pos ⟨hps,rfl⟩]
 ·have hn:jN (xH (zi (zh k s i) 0 b)) (pz (zi (zh k s i) 0 b)) (zM xs i) e≠0:=by
   by_cases he:e<b
   ·exact Tg (by rw[hV e he]; exact h.tail i hi h0 e (by omega) (by omega))
   ·intro h9
    have:=(ZF h9).2
    have:=(ZF h9).1
    omega
  have h9:=WV (gen:=zM xs i) hg (by rw[hlen]; omega) (f:=b) (e2.ext (W:=xH (zi (zh k s i) 0 b)) fun j h3 h4=>hV j (by omega)) (by rw[hlen]; omega) hn (by rw[hlen]; omega)
  rw[hlen]
  exact ⟨h9.1,by rw[h9.2,e1]⟩
theorem AtR.same {a:Int × Int × Int} {bs bs':List Int} (h:AtR k s xs a bs) (h':AtR k s xs a bs') (hok:qp s.b xs) (hg:∀ i,i<xs.length→zI xs i≠0→1≤zM xs i∧zM xs i≤18446744073709551615):bs=bs':=by
 obtain ⟨h1,i,c,e,h2,h3,h4,h5⟩:=h
 obtain ⟨g1,i',c',e',g2,g3,g4,g5⟩:=h'
 rw[e] at e'
 injection e' with e1 e2
 injection e2 with e2 e3
 obtain rfl:i=i':=by omega
 obtain rfl:c=c':=by omega
 have hc:=Vy bs.length
 have hgi:=hg i h2 (by omega)
 have hub:=gW hok h2
 have q1:=lZ (V:=zh k s i) (E:=fun _=>0) (at_:=c) h1 h5 (fun j hj=>rfl) hgi (by omega)
 have q2:=lZ (V:=zh k s i) (E:=fun _=>0) (at_:=c) g1 g5 (fun j hj=>rfl) hgi (by omega)
 have e4:zD bs.length=zD bs'.length:=q1.2.1.symm.trans q2.2.1
 rw[← q1.2.2,← q2.2.2,e4]
theorem xZ.at (h:xZ k s xs rs) {i:Nat} (hi:i<xs.length) (h0:qE xs i≠0) {p:Nat × List Int} (hp:p∈rs i):AtR k s xs ((i:Int),zM xs i,(p.1:Int)) p.2:=by
 obtain ⟨e,e1,e2⟩:=h.laid i hi h0
 obtain ⟨g1,g2,g3,g4⟩:=e2.mem hp
 exact ⟨g1,i,p.1,rfl,hi,g2,by rw[e1]; omega,g4⟩
end
end
section
def zBa (xs:List Seg) (rs rs':Nat→List (Nat × List Int)) (i u:Nat) (bs:List Int):Prop:=(∀ q,q≠i→rs' q=rs q)∧rs' i=(if qE xs i=0 then [] else rs i)++[(u,bs)]
def TM (w:World) (X:Nat→Prop) (l p d n:Nat) (s:Sup) (t:Int) (k:Dk) (xs:List Seg) (pe:Nat) (bs:List Int) (e:Ending) (w':World):Prop :=
 Kept X w w'∧((kH s xs (zD bs.length)=none∧e=.returned (.tuple #[Sl (0,0,0),.int .i64 6])∧jJ w' X l p d n s t k xs pe) ∨
  ∃ i s1 xs1 t' k',kH s xs (zD bs.length)=some (i,s1,xs1)∧e=.returned (.tuple #[Sl ((i:Int),zM xs1 i,zI xs1 i),.int .i64 0])∧jJ w' X l p d n s1 t' k' (qL xs1 ((zD bs.length:Nat):Int)) (pe+17) ∧
   (s1=s∨s1=jR s)∧AtR k' s1 (qL xs1 ((zD bs.length:Nat):Int)) ((i:Int),zM xs1 i,zI xs1 i) bs ∧
   (∀ a bs',AtR k s xs a bs'→AtR k' s1 (qL xs1 ((zD bs.length:Nat):Int)) a bs'∧a≠((i:Int),zM xs1 i,zI xs1 i)) ∧
   (∀ rs,xZ k s xs rs→∃ (rs':Nat→List (Nat × List Int)) (u:Nat),zI xs1 i=u∧xZ k' s1 (qL xs1 ((zD bs.length:Nat):Int)) rs'∧zBa xs rs rs' i u bs) ∧
   ∀ q j:Nat,q≠i→(j:Int)<s.b→zh k' s1 q j=zh k s q j)
section
variable {n:Nat} {s:Sup} {k:Dk} {xs:List Seg}
theorem PD (hg:Good k) (hok:qp s.b xs) (hn:k.held.length=n) (hroom:2+s.a*s.b≤(n:Int)) (wG:(xs.length:Int)=s.a) {i:Nat} (ho:qO xs=(i:Nat)) {bs:List Int} (hc:1≤zD bs.length∧zD bs.length≤17) (hfit:((zD bs.length:Nat):Int)≤jB s.b xs)
 (q j:Nat) (hq:q≠i) (hj:(j:Int)<s.b):zh (iB k s xs i bs) s q j=zh k s q j:=by
 obtain ⟨o1,o2,o3,o4,o5,o6⟩:=gq hok ho
 obtain ⟨b,hb⟩:∃ b:Nat,s.b=b:=⟨s.b.toNat,by have hz:=hok.1; unfold qj at hz; omega⟩
 obtain ⟨u,hu⟩:∃ u:Nat,zI xs i=u:=⟨(zI xs i).toNat,by omega⟩
 have o7:2+xs.length*b≤n:=by
  rw[← wG,hb] at hroom
  have:((xs.length*b:Nat):Int)=(xs.length:Int)*(b:Int):=by push_cast; rfl
  omega
 rw[RZ (seg:=q) (j:=j) (bs:=bs) hg (a:=xs.length) (b:=b) (u:=u) (i:=i) wG.symm hb hu hn o7 o1 (by omega) (by omega),if_neg (fun h=>hq h.1)]
end
section
variable {w:World} {X:Nat→Prop} {l p d n pe:Nat} {s:Sup} {t:Int} {k:Dk} {xs:List Seg}
theorem rW (h:jJ w X l p d n s t k xs pe) (hX:∀ b,X b→b<w.heap.size) (hpe:pe≤900000) (hgm:s.g+1≤18446744073709551615) {k1 f x s1:Int} {A1 A2:Option Addr} {n1 c1 n2 c2:Nat} {us vs:List Int} (hm:May k1 f x s1 n1 n2) (hr:oJ f x s1)
 (hx:zW .u8 w (·<w.heap.size) A1 n1 us) (hy:zW .u8 w (·<w.heap.size) A2 n2 vs) (hn1:A1=none→c1=0) (hn2:A2=none→c2=0) (hbu:Bytes us) (hbv:Bytes vs) :
 Calls Tryz.prog 9 #[.pointer (some ⟨l,0,none⟩),.agg #[.int .i64 k1,.int .u32 f,.int .u32 x,.int .u64 s1,.slice A1 n1 c1,.slice A2 n2 c2]] w (TM w X l p d n s t k xs pe (qI k1 f x s1 us vs)):=by
 have yw:dz (qI k1 f x s1 us vs):=zEB (by rw[hx.1,hy.1]; exact hm) hr hbu hbv
 have hlen:(qI k1 f x s1 us vs).length=21+n1+n2:=by rw[dQ,hx.1,hy.1]
 refine (Fx h hX hpe hgm hm hr hx hy hn1 hn2 hbu hbv).mono ?_
 rintro e w' ⟨h3,hk⟩
 rw[← hlen] at h3
 generalize qI k1 f x s1 us vs=bs at *
 have hc:1≤zD bs.length∧zD bs.length≤17:=by have:=yw.len; unfold zD; omega
 have U9:k.held.length=n:=h.ok_k.heldLen
 rcases h3 with ⟨i,hi,hfit,rfl,iT⟩ | ⟨hno,hnx,rfl,iT⟩ | ⟨hno,i,hi,rfl,iT⟩
 ·obtain ⟨g1,g2⟩:=Ll h.good h.ok U9 h.room h.dims hi yw hfit
  obtain ⟨o1,o2,o3,o4,o5,o6⟩:=gq h.ok hi
  refine ⟨hk,.inr ⟨i,s,xs,t,_,?_,rfl,iT.pe_le (by omega),.inl rfl,g1,g2,fun rs hrs=>?_,fun q j hq hj=>?_⟩⟩
  ·unfold kH
   rw[if_pos hfit,hi]
   simp
  ·obtain ⟨u,hu⟩:∃ u:Nat,zI xs i=u:=⟨(zI xs i).toNat,by omega⟩
   exact ⟨_,u,hu,hrs.lay h.good h.ok h.top (by omega) U9 h.room h.dims hi hu yw hfit (by omega),fun q hq=>if_neg hq,by dsimp only; rw[if_pos rfl,if_neg (show qE xs i≠0 by rw[o6]; decide)]⟩
  ·exact PD h.good h.ok U9 h.room h.dims hi hc hfit q j hq hj
 ·refine ⟨hk,.inl ⟨?_,rfl,iT⟩⟩
  unfold kH
  rw[if_neg (by omega),if_pos hnx]
 ·obtain ⟨f1,f2,f3,f4⟩:=Yx h hi
  have hz:zL s.b xs=if jP s.b xs=0 then vN xs else xs:=rfl
  have hE:=aA h.ok hz h.top (by omega)
  obtain ⟨j,_,_,j3,_,_,j6,_,_,_,j10,_⟩:=gy hE
  obtain ⟨_,_,_,z4,_,z6,z7⟩:=wW h.ok hz
  have hgb:Good (vo k s t i):=(((h.good.put _ _).sync).put _ _).sync
  have hb:=h.may.2.2
  have hbl:(vo k s t i).held.length=n:=by
   unfold vo bT
   rw[((h.good.put _ _).sync.put _ _).held_sync,(h.good.put _ _).sync.held_put,(h.good.put _ _).held_sync,h.good.held_put,List.length_set,List.length_set]
   exact U9
  have hfit:((zD bs.length:Nat):Int)≤jB s.b (qC (zL s.b xs) (s.g+1)):=by rw[f4]; omega
  obtain ⟨g1,g2⟩:=Ll (s:=jR s) hgb j3 hbl h.room (by rw[j10,z6]; exact h.dims) f1 yw hfit
  obtain ⟨o1,o2,o3,o4,_,_⟩:=gq j3 f1
  rw[f2,f3] at g1 g2
  obtain ⟨_,_,_,i9,_,i10,i11⟩:=Wq hE
  rw[z4] at i10
  obtain rfl:i9=i:=by omega
  have zMc:qE xs i9=0:=(z7 i9).1.1 i11
  refine ⟨hk,.inr ⟨i9,jR s,qC (zL s.b xs) (s.g+1),qy t,_,?_,by rw[f2,f3],iT.pe_le (by omega),.inr rfl,by rw[f2,f3]; exact g1,fun a bs' ha=>?_,fun rs hrs=>?_,fun q j hq hj=>?_⟩⟩
  ·unfold kH
   rw[if_neg (by omega),if_neg (by omega),hi]
   simp
  ·rw[f2,f3]
   exact g2 a bs' (zHf h.good h.ok h.dims t hi hE ha)
  ·have hg0:0≤s.g:=Int.le_trans (Yy h.ok) h.top
   have h1:=hrs.beg h.good h.ok hg0 hgm U9 h.room h.dims t hi hE
   have h2:=h1.lay (s:=jR s) hgb j3 (by show y8 _≤s.g+1; omega) hgm hbl h.room (by rw[j10,z6]; exact h.dims) f1 (u:=1) f3 yw hfit (by omega)
   exact ⟨_,1,f3,h2,fun q hq=>by dsimp only; rw[if_neg hq,if_neg hq],by dsimp only; rw[if_pos rfl,if_pos rfl,if_pos zMc]⟩
  ·rw[PD (s:=jR s) hgb j3 hbl h.room (by rw[j10,z6]; exact h.dims) f1 hc hfit q j hq hj]
   exact Sk h.good (show s.b=((s.b.toNat:Nat):Int) by have:=h.ok.1; unfold qj at this; omega) t q j (by omega) (.inr hq)
end
end
section
attribute [local go_sem] Oper.semAt_some
abbrev pu0:Oper:=⟨some 21,.load 56 (.tmp 2),56,"store.go:70",#[],none⟩
abbrev pu1:Oper:=⟨some 22,.nilCheck (.tmp 21),0,"store.go:70",#[⟨0,.data⟩],none⟩
abbrev pu2:Oper:=⟨some 23,.fieldAddr 137 (.tmp 22) 0,0,"store.go:70",#[⟨1,.data⟩],none⟩
abbrev pu3:Oper:=⟨some 24,.load 134 (.tmp 23),134,"store.go:70",#[⟨2,.data⟩],none⟩
abbrev pu4:Oper:=⟨some 25,.fieldAddr 53 (.tmp 3) 0,0,"store.go:70",#[],none⟩
abbrev pu5:Oper:=⟨some 26,.load 31 (.tmp 25),31,"store.go:70",#[⟨4,.data⟩],none⟩
abbrev pu6:Oper:=⟨some 27,.call { callee:=.value (.func 72),args:=#[.tmp 24,.tmp 26],argTypes:=#[134,31] },155,"store.go:70",#[⟨3,.data⟩,⟨5,.data⟩],none⟩
abbrev MH:Oper:=⟨some 20,.move (.tmp 27),155,"store.go:70",#[⟨6,.data⟩],none⟩
abbrev pu8:Oper:=⟨some 28,.extract (.tmp 20) 0,154,"store.go:70",#[⟨7,.data⟩],none⟩
abbrev MG:Oper:=⟨some 29,.extract (.tmp 20) 1,36,"store.go:70",#[⟨7,.data⟩,{ on:=11,ground:=Go.Ground.gcOnly Go.Departure.lateStores }],none⟩
abbrev R8:Oper:=⟨some 6,.alloc 154,0,"store.go:70",#[],none⟩
abbrev R7:Oper:=⟨none,.store 154 (.tmp 6) (.tmp 28),0,"store.go:70",#[⟨10,.data⟩,⟨8,.data⟩,⟨6,.chain⟩,⟨0,.phase⟩,⟨1,.phase⟩,⟨2,.phase⟩,⟨3,.phase⟩,⟨4,.phase⟩,⟨5,.phase⟩,⟨6,.phase⟩,⟨7,.phase⟩,⟨8,.phase⟩,{ on:=9,ground:=Go.Ground.textOnly Go.Departure.lateStores },⟨10,.phase⟩],none⟩
abbrev zEQ:Oper:=⟨none,.store 36 (.tmp 4) (.tmp 29),0,"store.go:70",#[⟨9,.data⟩,⟨11,.chain⟩,⟨0,.phase⟩,⟨1,.phase⟩,⟨2,.phase⟩,⟨3,.phase⟩,⟨4,.phase⟩,⟨5,.phase⟩,⟨6,.phase⟩,⟨7,.phase⟩,⟨8,.phase⟩,⟨9,.phase⟩,⟨10,.phase⟩,⟨11,.phase⟩],none⟩
abbrev pw0:Oper:=⟨some 49,.load 56 (.tmp 2),56,"store.go:84",#[],none⟩
abbrev pw1:Oper:=⟨some 50,.nilCheck (.tmp 49),0,"store.go:84",#[⟨0,.data⟩],none⟩
abbrev pw2:Oper:=⟨some 51,.fieldAddr 137 (.tmp 50) 0,0,"store.go:84",#[⟨1,.data⟩],none⟩
abbrev pw3:Oper:=⟨some 52,.fieldAddr 134 (.tmp 51) 0,0,"store.go:84",#[⟨2,.data⟩],none⟩
abbrev pw4:Oper:=⟨some 53,.load 24 (.tmp 52),24,"store.go:84",#[⟨3,.data⟩],none⟩
abbrev pw5:Oper:=⟨some 54,.load 33 (.tmp 5),33,"store.go:84",#[],none⟩
abbrev pw6:Oper:=⟨some 55,.call { callee:=.value (.func 9),args:=#[.tmp 53,.tmp 54],argTypes:=#[24,33] },37,"store.go:84",#[⟨4,.data⟩,⟨5,.data⟩],none⟩
abbrev pw7:Oper:=⟨some 48,.move (.tmp 55),37,"store.go:84",#[⟨6,.data⟩],none⟩
abbrev pw8:Oper:=⟨some 56,.extract (.tmp 48) 0,35,"store.go:84",#[⟨7,.data⟩],none⟩
abbrev pw9:Oper:=⟨some 57,.extract (.tmp 48) 1,36,"store.go:84",#[⟨7,.data⟩,{ on:=10,ground:=Go.Ground.gcOnly Go.Departure.lateStores }],none⟩
abbrev zEK:Oper:=⟨none,.store 35 (.tmp 7) (.tmp 56),0,"store.go:84",#[⟨8,.data⟩,⟨6,.chain⟩,⟨0,.phase⟩,⟨1,.phase⟩,⟨2,.phase⟩,⟨3,.phase⟩,⟨4,.phase⟩,⟨5,.phase⟩,⟨6,.phase⟩,⟨7,.phase⟩,⟨8,.phase⟩,{ on:=9,ground:=Go.Ground.textOnly Go.Departure.lateStores }],none⟩
abbrev zMR:Oper:=⟨none,.store 36 (.tmp 4) (.tmp 57),0,"store.go:84",#[⟨9,.data⟩,⟨10,.chain⟩,⟨0,.phase⟩,⟨1,.phase⟩,⟨2,.phase⟩,⟨3,.phase⟩,⟨4,.phase⟩,⟨5,.phase⟩,⟨6,.phase⟩,⟨7,.phase⟩,⟨8,.phase⟩,⟨9,.phase⟩,⟨10,.phase⟩],none⟩
def Jl (w:World) (Y:Nat→Prop) (be l p d n:Nat) (s:Sup) (t:Int) (k:Dk) (xs:List Seg) (pe:Nat) (st:List zm) (us:List Int) (v6:Value) (wx:World):Prop :=
 ∃ g6 k' ev,v6=.pointer (some ⟨g6,0,none⟩)∧w.heap.size≤g6∧jJ wx (fun b=>Y b∨b=g6) l p d n s t k' xs pe∧k'.held=k.held∧Kept (fun b=>Y b∧b≠be) w wx∧z8 wx g6 154 ev∧z8 wx be 36 #[.int .i64 0]∧Jk st us ev
section
variable {w w':World} {X Y:Nat→Prop} {B:xu} {slots:Nat} {s:Sup} {xs:List Seg} {st:List zm} {bl:List (List Int)} {u:Bool} {A:Option Addr} {m c:Nat} {us:List Int} {k k':Dk} {l p d n pe:Nat} {t:Int}
theorem Sn.ent {e:Ending} (h:Sn w Y l p d n s t k xs pe st us e w'):∃ ev k',e=.returned (.tuple #[.agg ev,.int .i64 0])∧Jk st us ev∧jJ w' Y l p d n s t k' xs pe∧k'.held=k.held∧Kept Y w w':=by
 obtain ⟨⟨k',h1,h2⟩,h3,h4⟩:=h
 rcases h4 with ⟨h5,h6⟩ | ⟨q,b1,b2,h5,h6,_⟩
 ·exact ⟨_,k',h6,.inl ⟨h5,rfl⟩,h1,h2,h3⟩
 ·exact ⟨_,k',h6,.inr ⟨q,b1,b2,h5,rfl⟩,h1,h2,h3⟩
theorem Jl.fin {w3:World} {Y2:Nat→Prop} {g6 be:Nat} {ev cs:Array Value} (hY:∀ b,Y b→b<w.heap.size) (hbe:Y be) (hg:w.heap.size≤g6) (hY2:∀ b,Y b→Y2 b) (h6:Y2 g6) (hl:jJ w3 Y2 l p d n s t k' xs pe) (hk:k'.held=k.held) (hkp:Kept Y w w3) (hB:z8 w3 g6 154 cs) (hE:z8 w3 be 36 #[.int .i64 0]) (hev:Jk st us ev) :
 Jl w Y be l p d n s t k xs pe st us (.pointer (some ⟨g6,0,none⟩)) ((w3.setRow g6 ev).setCell ⟨be,0,none⟩ (.int .i64 0)):=by
 have hne:be≠g6:=fun e=>by have:=hY be hbe; omega
 have k1:Kept (fun b=>b≠g6) w3 (w3.setRow g6 ev):=(Kept.refl _ _).setRow (fun h=>h rfl) ev
 have k2:Kept (fun b=>b≠be) (w3.setRow g6 ev) ((w3.setRow g6 ev).setCell ⟨be,0,none⟩ (.int .i64 0)):=(Kept.refl _ _).setCell (p:=⟨be,0,none⟩) (fun h=>h rfl) _
 have k3:Kept (fun b=>b≠g6∧b≠be) w3 ((w3.setRow g6 ev).setCell ⟨be,0,none⟩ (.int .i64 0)):=(k1.mono (fun b h=>h.1)).trans k2 (fun b h=>h.2)
 refine ⟨g6,k',ev,rfl,hg,(hl.off k3 (fun b _ hn=>⟨fun e=>hn (e▸h6),fun e=>hn (e▸hY2 _ hbe)⟩)).less (fun b hb=>hb.elim (hY2 b) (fun e=>e▸h6)),hk,(hkp.mono (fun b h=>h.1)).trans k3 (fun b h=>⟨fun e=>by have:=hY b h.1; omega,h.2⟩),?_,?_,hev⟩
 ·exact z8.far (setRow_heap _ _ _ ev _ _ hB) (p:=⟨be,0,none⟩) (Ne.symm hne) _
 ·have h9:=(hE.kept k1 hne).set_ 0 (.int .i64 0)
  exact h9
theorem zT.logTo2 {S:Nat→Prop} {s1:Sup} {xs1:List Seg} {t1:Int} {k1:Dk} {fQ:Nat} (h:zT w X B slots s xs st bl u) (hk:Kept S w w') (hS:∀ b,B.own b→S b) (hX:∀ b,X b→Y b) (hY:∀ b,B.own b→¬ Y b) (hYl:∀ b,Y b→b<w'.heap.size) (hl:jJ w' (fun b=>Y b∨B.own b) B.l B.p B.d B.n s1 t1 k1 xs1 fQ) (hn:xs1.length=xs.length) (hi:yN k1 s1 xs1 st) :
 zT w' Y { B with t:=t1,k:=k1,pe:=fQ } slots s1 xs1 st bl u:=by
 obtain ⟨h1,h2,h3⟩:=h.own_kept hk hS
 exact ⟨h1,h2,h.num.trans hn.symm,h3,hl,hi,hY,hYl⟩
theorem EY (h:zT w X B slots s xs st bl u):Calls Tryz.prog 73 #[.pointer (some ⟨B.x,0,none⟩)] w fun e w'=>e=.returned (.int .i64 ((slots:Int)-(st.length:Nat)))∧Kept (fun _=>True) w w':=by
 have hl:=h.ix.len
 obtain ⟨c,L,fr,hx,hr,he⟩:=h.ix
 have hn:c 1=(st.length:Nat):=by
  rw[hr.n]
  have h1:=congrArg List.length he
  unfold gD at h1
  rw[List.length_map,List.length_map] at h1
  rw[h1]
 unfold gD at hl
 rw[List.length_map] at hl
 exact zCw hx hr.s0 hn (by omega)
structure QY (k:Dk) (s:Sup) (xs:List Seg) (k1:Dk) (s1:Sup) (ys xs1:List Seg) (i:Nat) (bs:List Int):Prop where
 hist:∀ rs,xZ k s xs rs→∃ (rs':Nat→List (Nat × List Int)) (u:Nat),zI ys i=u∧xZ k1 s1 xs1 rs'∧zBa xs rs rs' i u bs
 secs:∀ q j:Nat,q≠i→(j:Int)<s.b→zh k1 s1 q j=zh k s q j
 ats:∀ a bs',AtR k s xs a bs'→AtR k1 s1 xs1 a bs'
theorem QY.from {k k0 k1:Dk} {s s1:Sup} {xs ys xs1:List Seg} {i:Nat} {bs:List Int} (h:QY k0 s xs k1 s1 ys xs1 i bs) (hh:k0.held=k.held):QY k s xs k1 s1 ys xs1 i bs :=
 ⟨fun rs hrs=>h.hist rs (hrs.held hh),fun q j h1 h2=>(h.secs q j h1 h2).trans (kZ hh _),fun a b ha=>h.ats a b (ha.held hh)⟩
theorem QY.to {k k2 k1:Dk} {s s1:Sup} {xs ys xs1:List Seg} {i:Nat} {bs:List Int} (h:QY k s xs k1 s1 ys xs1 i bs) (hh:k2.held=k1.held):QY k s xs k2 s1 ys xs1 i bs :=
 ⟨fun rs hrs=>by
  obtain ⟨rs',u,g1,g2,g3⟩:=h.hist rs hrs
  exact ⟨rs',u,g1,g2.held hh,g3⟩,fun q j h1 h2=>(kZ hh _).trans (h.secs q j h1 h2),fun a b ha=>(h.ats a b ha).held hh⟩
theorem TM.told {bs:List Int} {e:Ending} (h:TM w Y l p d n s t k xs pe bs e w'):∃ a er s1 xs1 t1 k1 fQ,e=.returned (.tuple #[.agg #[.int .i64 a.1,.int .u64 a.2.1,.int .i64 a.2.2],.int .i64 er])∧Kept Y w w'∧jJ w' Y l p d n s1 t1 k1 xs1 fQ ∧
 ((kH s xs (zD bs.length)=none∧er=6∧s1=s∧xs1=xs∧t1=t∧k1=k∧fQ=pe) ∨
  (∃ i ys,kH s xs (zD bs.length)=some (i,s1,ys)∧er=0∧a=((i:Int),zM ys i,zI ys i)∧(s1=s∨s1=jR s)∧xs1=qL ys ((zD bs.length:Nat):Int)∧fQ=pe+17∧AtR k1 s1 xs1 a bs∧(∀ a' bs',AtR k s xs a' bs'→AtR k1 s1 xs1 a' bs'∧a'≠a)∧QY k s xs k1 s1 ys xs1 i bs)):=by
 obtain ⟨hk,h | ⟨i,s1,ys,t1,k1,h1,h2,h3,h4,h5,h6,h7,h8⟩⟩:=h
 ·exact ⟨(0,0,0),6,s,xs,t,k,pe,h.2.1,hk,h.2.2,.inl ⟨h.1,rfl,rfl,rfl,rfl,rfl,rfl⟩⟩
 ·exact ⟨_,0,s1,_,t1,k1,_,h2,hk,h3,.inr ⟨i,ys,h1,rfl,rfl,h4,rfl,rfl,h5,h6,⟨h7,h8,fun a b ha=>(h6 a b ha).1⟩⟩⟩
def vg (st:List zm) (us:List Int) (slots:Nat):Bool:=(jC st us).isNone&&decide (st.length=slots)
theorem Zr:vg st us slots=true↔(jC st us=none∧st.length=slots):=by
 unfold vg
 simp
def zNH (w : World) (X : Nat → Prop) (B : xu) (slots : Nat) (s : Sup) (xs : List Seg) (st : List zm) (bl : List (List Int)) (bs : List Int) (e : Ending) (w' : World) : Prop :=
 Kept X w w' ∧
 ((vg st (keyOf bs) slots=true∧e=.returned (.int .i64 6)∧∃ k',zT w' X { B with t:=B.t,k:=k',pe:=B.pe } slots s xs st bl false∧k'.held=B.k.held) ∨
  (vg st (keyOf bs) slots=false∧kH s xs (zD bs.length)=none∧e=.returned (.int .i64 6)∧∃ k',zT w' X { B with t:=B.t,k:=k',pe:=B.pe } slots s xs st bl false∧k'.held=B.k.held) ∨
  (vg st (keyOf bs) slots=false∧∃ i s1 xs1 t' k',kH s xs (zD bs.length)=some (i,s1,xs1)∧(s1=s∨s1=jR s)∧e=.returned (.int .i64 0) ∧
    zT w' X { B with t:=t',k:=k',pe:=B.pe+17 } slots s1 (qL xs1 ((zD bs.length:Nat):Int)) (qV st (keyOf bs)++[(((i:Int),zM xs1 i,zI xs1 i),bs)]) (rJ bl i (keyOf bs)) false∧QY B.k s xs k' s1 xs1 (qL xs1 ((zD bs.length:Nat):Int)) i bs))
theorem Jq (h:zT w X B slots s xs st bl false) {us vs:List Int} {A2:Option Addr} {n2 c2:Nat} {f0 x0 q0:Int} {dy:Bool} (hk:zW .u8 w X A m us) (hv:zW .u8 w X A2 n2 vs) (hb:Bytes us) (hbv:Bytes vs) (hnc:A=none→c=0) (fC:A2=none→c2=0)
 (hmay:May 1 f0 x0 q0 m n2) (hr:oJ f0 x0 q0) (hpe:B.pe≤900000) (hgm:s.g+1≤18446744073709551615) :
 Calls Tryz.prog 19 #[.pointer (some ⟨B.q,0,none⟩),Zi A m c A2 n2 c2 f0 x0 q0 dy] w (zNH w X B slots s xs st bl (qI 1 f0 x0 q0 us vs)):=by
 obtain ⟨w1,hw1⟩:∃ w1,w1=((w.alloc (.cells #[.pointer (some ⟨B.q,0,none⟩)] 56)).alloc (.cells #[.slice A m c,.slice A2 n2 c2,.int .u32 f0,.int .u32 x0,.int .u64 q0,.bool dy] 53)).alloc (.cells #[.int .i64 0] 36):=⟨_,rfl⟩
 have hb1:Below w.heap.size w w1:=by rw[hw1]; exact (((Below.refl _ w).alloc (nR _) _).alloc (by simp) _).alloc (by simp; omega) _
 have ql:=hI (show z8 w1 w.heap.size 56 #[.pointer (some ⟨B.q,0,none⟩)] by rw[hw1]; exact ((z8.new w _ _).alloc _).alloc _)
 have HI1:=hI (show z8 w1 (w.heap.size+1) 53 #[.slice A m c,.slice A2 n2 c2,.int .u32 f0,.int .u32 x0,.int .u64 q0,.bool dy] by rw[hw1]; exact (zY w _ _ _).alloc _)
 have yS:=hI (show z8 w1 (w.heap.size+1+1) 36 #[.int .i64 0] by rw[hw1]; exact jw w _ _ _ _)
 have HZ1:=hI (show w1.heap.size=w.heap.size+3 by rw[hw1]; simp)
 have xV:=hI h
 have HB1:=hI hb1
 have HK:=hI hk
 have HV:=hI hv
 have qm:=hI (And.intro hb hbv)
 have OI:=hI (And.intro hnc fC)
 have gN:=hI hmay
 have QB:=hI hr
 have sV:=hI (And.intro hpe hgm)
 have HM:=hI (show m≤250 by unfold May at hmay; omega)
 have HKEY:=hI (show keyOf (qI 1 f0 x0 q0 us vs)=us by
  have h9:=Jp (k:=1) (f:=f0) (x:=x0) (s:=q0) (xs:=us) (ys:=vs) (zs:=[]) (by have:=hk.1; unfold May at hmay; omega)
  rwa [List.append_nil] at h9)
 have zJv:=hI (show kindOf (qI 1 f0 x0 q0 us vs)=1 by
  have h9:=GN (k:=1) (f:=f0) (x:=x0) (s:=q0) (xs:=us) (ys:=vs) (zs:=[])
  rwa [List.append_nil] at h9)
 have HW1:=hI hw1
 clear hw1 hb1 h hk hv hb hbv hnc fC hmay hr hpe hgm
 go_enter_defers Tryz.func19,Tryz.ntmps19
 go_upto_region 1 with fail
 rw[← HW1.out]
 have i0:w1.cell? ⟨w.heap.size+1,0,none⟩=some (.slice A m c):=HI1.out.cell 0
 have i1:w1.cell? ⟨w.heap.size+1,1,none⟩=some (.slice A2 n2 c2):=HI1.out.cell 1
 have i2:w1.cell? ⟨w.heap.size+1,2,none⟩=some (.int .u32 f0):=HI1.out.cell 2
 have i3:w1.cell? ⟨w.heap.size+1,3,none⟩=some (.int .u32 x0):=HI1.out.cell 3
 have i4:w1.cell? ⟨w.heap.size+1,4,none⟩=some (.int .u64 q0):=HI1.out.cell 4
 have i5:w1.cell? ⟨w.heap.size+1,5,none⟩=some (.bool dy):=HI1.out.cell 5
 go_wp2_with fail
 refine (XO A m c A2 n2 c2 f0 x0 q0 dy w1).mono ?_
 rintro e w2 ⟨rfl,hb2⟩
 clear i0 i1 i2 i3 i4 i5
 obtain ⟨w3,hw3⟩:∃ w3,w3=w2.alloc (.cells #[.int .i64 1,.int .u32 f0,.int .u32 x0,.int .u64 q0,.slice A m c,.slice A2 n2 c2] 33):=⟨_,rfl⟩
 have hb3:Below w1.heap.size w1 w3:=by rw[hw3]; exact hb2.alloc hb2.size _
 have HR3:=hI (show z8 w3 w2.heap.size 33 #[.int .i64 1,.int .u32 f0,.int .u32 x0,.int .u64 q0,.slice A m c,.slice A2 n2 c2] by rw[hw3]; exact z8.new w2 _ _)
 have HB3:=hI hb3
 have HW3:=hI hw3
 have HZ2:=hI hb2.size
 have hs3:w3.cell? ⟨w.heap.size,0,none⟩=some (.pointer (some ⟨B.q,0,none⟩)):=(ql.out.below hb3 ql.out.lt).cell 0
 have r0:w3.cell? ⟨w2.heap.size,0,none⟩=some (.int .i64 1):=HR3.out.cell 0
 have r1:w3.cell? ⟨w2.heap.size,1,none⟩=some (.int .u32 f0):=HR3.out.cell 1
 have r2:w3.cell? ⟨w2.heap.size,2,none⟩=some (.int .u32 x0):=HR3.out.cell 2
 have r3:w3.cell? ⟨w2.heap.size,3,none⟩=some (.int .u64 q0):=HR3.out.cell 3
 have r4:w3.cell? ⟨w2.heap.size,4,none⟩=some (.slice A m c):=HR3.out.cell 4
 have r5:w3.cell? ⟨w2.heap.size,5,none⟩=some (.slice A2 n2 c2):=HR3.out.cell 5
 clear hb2 hw3 hb3
 go_upto_region 2 with fail
 rw[← HW3.out]
 go_wp2_with fail
 refine (Pf 1 f0 x0 q0 A A2 m c n2 c2 w3 gN.out).mono ?_
 rintro e w4 ⟨rfl,hb4⟩
 have zq:=hI (HB3.out.trans (hb4.mono HB3.out.size))
 have HR4:=hI (HR3.out.below hb4 HR3.out.lt)
 have JY:=hI (And.intro HR3.out.lt hb4.size)
 clear hb4 hs3 r0 r1 r2 r3 r4 r5
 have kM:=hI (xV.out.grow (HB1.out.trans (zq.out.mono HB1.out.size)))
 have yg:=hI (ql.out.below zq.out ql.out.lt)
 have HI4:=hI (HI1.out.below zq.out HI1.out.lt)
 have vQ:=hI (yS.out.below zq.out yS.out.lt)
 have hs4:w4.cell? ⟨w.heap.size,0,none⟩=some (.pointer (some ⟨B.q,0,none⟩)):=yg.out.cell 0
 go_wp2_with fail
 refine (vB kM.out).mono ?_
 rintro e w5 ⟨rfl,rfl⟩
 go_upto_region 8 with fail
 clear hs4
 go_cut [6] from 20 to 29 (fun v6 wx=>Jl w5 (fun b=>(X b∨(w.heap.size≤b∧b<w5.heap.size))∨B.own b) (w.heap.size+1+1) B.l B.p B.d B.n s B.t B.k xs B.pe st us v6 wx)
 case first J KK hJ bE =>
  have Xu:=hI (show B.q<w.heap.size from xV.out.own_lt (.inl rfl))
  have dY:=hI (show ∀ W,Kept (fun b=>((X b∨(w.heap.size≤b∧b<w5.heap.size))∨B.own b)∧b≠w.heap.size+1+1) w5 W→W.cell? ⟨w.heap.size,0,none⟩=some (.pointer (some ⟨B.q,0,none⟩))∧W.cell? ⟨B.q,0,none⟩=some (.pointer (some ⟨B.l,0,none⟩))∧W.cell? ⟨B.q,1,none⟩=some (.pointer (some ⟨B.x,0,none⟩))∧W.cell? ⟨w.heap.size+1,0,none⟩=some (.slice A m c) from fun W hW=>by
   obtain ⟨q0,q1,_,_⟩:=kM.out.cells
   have h1:=yg.out.lt
   have h2:=HI4.out.lt
   have h3:=Xu.out
   exact ⟨(yg.out.kept hW ⟨.inl (.inr ⟨by omega,by omega⟩),by omega⟩).cell 0,(hW.cell (p:=⟨B.q,0,none⟩) ⟨.inr (.inl rfl),(by omega:B.q≠_)⟩).trans q0,(hW.cell (p:=⟨B.q,1,none⟩) ⟨.inr (.inl rfl),(by omega:B.q≠_)⟩).trans q1,(HI4.out.kept hW ⟨.inl (.inr ⟨by omega,by omega⟩),by omega⟩).cell 0⟩)
  have UG:=kM.out.below ((Below.refl w5.heap.size w5).drew)
  have VF:=hI (show zW .u8 w5.drew (fun b=>(X b∨(w.heap.size≤b∧b<w5.heap.size))∨B.own b) A m us from ((HK.out.below (HB1.out.trans (zq.out.mono HB1.out.size)) xV.out.lt).below ((Below.refl w5.heap.size w5).drew) (fun b hb=>kM.out.lt b (.inl hb))).more (fun b hb=>.inl (.inl hb)))
  have jc:=hI UG
  have eG:=hI (show z8 w5.drew (w.heap.size+1+1) 36 #[.int .i64 0] from vQ.out.below ((Below.refl w5.heap.size w5).drew) vQ.out.lt)
  have yB:=hI (show ∀ b,((X b∨(w.heap.size≤b∧b<w5.heap.size))∨B.own b)→b<w5.heap.size from kM.out.ylt)
  have iw:=hI (show (X (w.heap.size+1+1)∨(w.heap.size≤w.heap.size+1+1∧w.heap.size+1+1<w5.heap.size))∨B.own (w.heap.size+1+1) from .inl (.inr ⟨by omega,vQ.out.lt⟩))
  clear UG
  refine wp_region_noPanic ?_
  refine zB.region (fun W=>Kept (fun b=>((X b∨(w.heap.size≤b∧b<w5.heap.size))∨B.own b)∧b≠w.heap.size+1+1) w5 W) [] (by kernel_rfl) ((Kept.refl _ _).drew) (fun hė=>?_)
  obtain ⟨vd,hvd⟩:∃ vd,vd=w5.drew:=⟨_,rfl⟩
  have HZD:=hI (show vd.heap.size=w5.heap.size by rw[hvd]; rfl)
  rw[← hvd] at VF jc eG hė ⊢
  have dI:=hI (show Kept (fun b=>(X b∨(w.heap.size≤b∧b<w5.heap.size))∨B.own b) w5 vd by rw[hvd]; exact (Kept.refl _ _).drew)
  clear hvd
  refine tK 0 pu0 (v:=?_) ?_ hė ?_
  rotate_left
  ·intro W hSW; have h9:=(dY.out W hSW).1; clear hSW; unfold pu0; go_simp; with_reducible rfl
  simp only[pu0,Act.put,sA,sZ,sS]
  refine tK 1 pu1 (v:=?_) ?_ hė ?_
  rotate_left
  ·intro W hSW; unfold pu1; go_simp; with_reducible rfl
  simp only[pu1,Act.put,sA,sZ,sS]
  refine tK 2 pu2 (v:=?_) ?_ hė ?_
  rotate_left
  ·intro W hSW; unfold pu2; go_simp; with_reducible rfl
  simp only[pu2,Act.put,sA,sZ,sS]
  refine tK 3 pu3 (v:=uf B) ?_ hė ?_
  ·intro W hSW; obtain ⟨_,h8,h9,_⟩:=dY.out W hSW; clear hSW; unfold pu3; go_simp
  simp only[pu3,Act.put,sA,sZ,sS]
  refine tK 4 pu4 (v:=?_) ?_ hė ?_
  rotate_left
  ·intro W hSW; unfold pu4; go_simp; with_reducible rfl
  simp only[pu4,Act.put,sA,sZ,sS]
  refine tK 5 pu5 (v:=?_) ?_ hė ?_
  rotate_left
  ·intro W hSW; have h9:=(dY.out W hSW).2.2.2; clear hSW; unfold pu5; go_simp; with_reducible rfl
  simp only[pu5,Act.put,sA,sZ,sS]
  refine zB.two (i:=6) (j:=10) (o:=pu6) (o':=R8) (by kernel_rfl) rfl rfl ?_ ?_
  ·intro K hK
   refine zN 72 #[.tmp 24,.tmp 26] #[134,31] rfl rfl Tryz.func72 rfl rfl [uf B,.slice A m c] rfl ((uo (c:=c) jc.out.log jc.out.ylt jc.out.ix (.inr (.inr (.inl rfl))) jc.out.inv VF.out qm.out.1 (by have:=HM.out; omega)).mono ?_)
   intro e w6 hlk
   obtain ⟨ev,k6,rfl,hev,iU,xU,yY⟩:=hlk.ent
   refine ⟨_,rfl,?_⟩
   simp only[pu6,Act.put,sA,sZ,sS]
   have sO:Kept (fun b=>((X b∨(w.heap.size≤b∧b<w5.heap.size))∨B.own b)∧b≠w.heap.size+1+1) w5 w6:=hė.trans yY (fun b h=>h.1)
   have pR:=hI hev
   have dJ:=hI iU
   have je:=hI xU
   have rO:=hI (dI.out.trans yY (fun b h=>h))
   have bL:=hI (eG.out.kept yY iw.out)
   clear hlk hev iU xU yY hė
   refine hU hK rfl _ _ sO (fun hė=>?_)
   clear hK K sO
   refine tK 7 MH (v:=?_) ?_ hė ?_
   rotate_left
   ·intro W hSW; unfold MH; go_simp; with_reducible rfl
   simp only[MH,Act.put,sA,sZ,sS]
   refine tK 8 pu8 (v:=?_) ?_ hė ?_
   rotate_left
   ·intro W hSW; unfold pu8; go_simp; with_reducible rfl
   simp only[pu8,Act.put,sA,sZ,sS]
   refine tK 9 MG (v:=?_) ?_ hė ?_
   rotate_left
   ·intro W hSW; unfold MG; go_simp; with_reducible rfl
   simp only[MG,Act.put,sA,sZ,sS]
   refine tO 10 R8 ?_
   intro K hK
   refine y9 154 rfl rfl jE lU ?_
   simp only[R8,Act.put,sA,sZ,sS]
   have hal:=(Below.refl w6.heap.size w6).alloc (nR _) (.cells jE 154)
   have JH:Kept (fun b=>((X b∨(w.heap.size≤b∧b<w5.heap.size))∨B.own b)∧b≠w.heap.size+1+1) w5 (w6.alloc (.cells jE 154)):=hė.trans (Kept.of_below (S:=fun b=>((X b∨(w.heap.size≤b∧b<w5.heap.size))∨B.own b)∧b≠w.heap.size+1+1) hal (fun b h=>nL (yB.out b h.1) hė.size)) (fun b h=>h)
   have Cq:=hI (dJ.out.grow hal)
   have Yl:=hI (rO.out.trans (Kept.of_below (S:=fun b=>(X b∨(w.heap.size≤b∧b<w5.heap.size))∨B.own b) hal (fun b h=>nL (yB.out b h) rO.out.size)) (fun b h=>h))
   have sj:=hI (bL.out.below hal bL.out.lt)
   have Jf:=hI (z8.new w6 154 jE)
   have gK:=hI rO.out.size
   have ig:=hI (show w6.heap.size<(w6.alloc (.cells jE 154)).heap.size by simp)
   clear hal
   generalize w6.heap.size=g6 at *
   generalize w6.alloc _=w7 at *
   refine hU hK rfl _ _ JH (fun hė=>?_)
   clear hK K JH
   refine tO 11 R7 ?_
   intro K hK
   refine jS (.tmp 6) (.tmp 28) 154 rfl rfl g6 ev rfl rfl 154 _ Jf.out (by rw[xE,pR.out.size.1]) (by rw[pR.out.size.1]; rfl) pR.out.size.2 ?_
   simp only[R7,Act.put,sA,sZ,sS]
   have kE:Kept (fun b=>b≠g6) w7 (w7.setRow g6 ev):=(Kept.refl _ _).setRow (fun h=>h rfl) ev
   have vZ:Kept (fun b=>((X b∨(w.heap.size≤b∧b<w5.heap.size))∨B.own b)∧b≠w.heap.size+1+1) w5 (w7.setRow g6 ev):=hė.trans kE (fun b h=>by have:=yB.out b h.1; have:=gK.out; omega)
   have gQ:=hI (sj.out.kept kE (by have:=yB.out _ iw.out; have:=gK.out; omega))
   refine hU hK rfl _ _ vZ (fun hė=>?_)
   clear hK K kE vZ
   refine tO 12 zEQ ?_
   intro K hK
   have e8:(w7.setRow g6 ev).cell? ⟨w.heap.size+1+1,0,none⟩=some (.int .i64 0):=gQ.out.cell 0
   have e9:=gQ.out.frozen 0
   go_simp
   clear e8 e9
   have bD:Kept (fun b=>((X b∨(w.heap.size≤b∧b<w5.heap.size))∨B.own b)∧b≠w.heap.size+1+1) w5 ((w7.setRow g6 ev).setCell ⟨w.heap.size+1+1,0,none⟩ (.int .i64 0)):=hė.setCell (p:=⟨w.heap.size+1+1,0,none⟩) (fun h=>h.2 rfl) _
   refine hK.out _ _ (fun _=>bD) (fun hė=>?_)
   clear hK K bD
   refine zB.done (by kernel_rfl) ?_ _
   refine bE _ _ (Met.intro (hJ _ _ ?_))
   (repeat apply Exists.intro)
   exact ⟨Jl.fin yB.out iw.out gK.out (fun b h=>.inl h) (.inr ⟨nR _,ig.out⟩) Cq.out je.out Yl.out Jf.out sj.out pR.out,rfl⟩
  ·intro K hK
   refine y9 154 rfl rfl jE lU ?_
   simp only[R8,Act.put,sA,sZ,sS]
   have hal:=(Below.refl vd.heap.size vd).alloc (nR _) (.cells jE 154)
   have sO:Kept (fun b=>((X b∨(w.heap.size≤b∧b<w5.heap.size))∨B.own b)∧b≠w.heap.size+1+1) w5 (vd.alloc (.cells jE 154)):=hė.trans (Kept.of_below (S:=fun b=>((X b∨(w.heap.size≤b∧b<w5.heap.size))∨B.own b)∧b≠w.heap.size+1+1) hal (fun b h=>nL (yB.out b h.1) hė.size)) (fun b h=>h)
   have dJ:=hI (jc.out.log.grow hal)
   have Qa:=hI (jc.out.ix.below hal jc.out.ix.lt)
   have rO:=hI (dI.out.trans (Kept.of_below (S:=fun b=>(X b∨(w.heap.size≤b∧b<w5.heap.size))∨B.own b) hal (fun b h=>nL (yB.out b h) dI.out.size)) (fun b h=>h))
   have bL:=hI (eG.out.below hal eG.out.lt)
   have zAd:=hI (VF.out.below hal (fun b h=>nL (yB.out b h) dI.out.size))
   have Qf:=hI (z8.new vd 154 jE)
   have gK:=hI dI.out.size
   have ig:=hI (show vd.heap.size<(vd.alloc (.cells jE 154)).heap.size by simp)
   have Yn:=hI jc.out.inv
   clear hal jc VF eG
   generalize vd.heap.size=g6 at *
   generalize vd.alloc _=w6 at *
   refine hU hK rfl _ _ sO (fun hė=>?_)
   clear hK K sO
   refine tO 6 pu6 ?_
   intro K hK
   refine zN 72 #[.tmp 24,.tmp 26] #[134,31] rfl rfl Tryz.func72 rfl rfl [uf B,.slice A m c] rfl ((uo (c:=c) dJ.out (fun b h=>by
    rcases h with h | h
    ·exact nL (yB.out b h) rO.out.size
    ·exact h.2) Qa.out (.inl (.inr (.inr (.inl rfl)))) Yn.out (zAd.out.more (fun b h=>.inl h)) qm.out.1 (by have:=HM.out; omega)).mono ?_)
   intro e w7 hlk
   obtain ⟨ev,k6,rfl,hev,U8,bg,mY⟩:=hlk.ent
   refine ⟨_,rfl,?_⟩
   simp only[pu6,Act.put,sA,sZ,sS]
   have JH:Kept (fun b=>((X b∨(w.heap.size≤b∧b<w5.heap.size))∨B.own b)∧b≠w.heap.size+1+1) w5 w7:=hė.trans mY (fun b h=>.inl h.1)
   have pR:=hI hev
   have Cq:=hI U8
   have je:=hI bg
   have Yl:=hI (rO.out.trans mY (fun b h=>.inl h))
   have sj:=hI (bL.out.kept mY (.inl iw.out))
   have Jf:=hI (Qf.out.kept mY (.inr ⟨nR _,ig.out⟩))
   clear hlk hev U8 bg mY hė Qf bL dJ
   refine hU hK rfl _ _ JH (fun hė=>?_)
   clear hK K JH
   refine tK 7 MH (v:=?_) ?_ hė ?_
   rotate_left
   ·intro W hSW; unfold MH; go_simp; with_reducible rfl
   simp only[MH,Act.put,sA,sZ,sS]
   refine tK 8 pu8 (v:=?_) ?_ hė ?_
   rotate_left
   ·intro W hSW; unfold pu8; go_simp; with_reducible rfl
   simp only[pu8,Act.put,sA,sZ,sS]
   refine tK 9 MG (v:=?_) ?_ hė ?_
   rotate_left
   ·intro W hSW; unfold MG; go_simp; with_reducible rfl
   simp only[MG,Act.put,sA,sZ,sS]
   refine tO 11 R7 ?_
   intro K hK
   refine jS (.tmp 6) (.tmp 28) 154 rfl rfl g6 ev rfl rfl 154 _ Jf.out (by rw[xE,pR.out.size.1]) (by rw[pR.out.size.1]; rfl) pR.out.size.2 ?_
   simp only[R7,Act.put,sA,sZ,sS]
   have kE:Kept (fun b=>b≠g6) w7 (w7.setRow g6 ev):=(Kept.refl _ _).setRow (fun h=>h rfl) ev
   have vZ:Kept (fun b=>((X b∨(w.heap.size≤b∧b<w5.heap.size))∨B.own b)∧b≠w.heap.size+1+1) w5 (w7.setRow g6 ev):=hė.trans kE (fun b h=>by have:=yB.out b h.1; have:=gK.out; omega)
   have gQ:=hI (sj.out.kept kE (by have:=yB.out _ iw.out; have:=gK.out; omega))
   refine hU hK rfl _ _ vZ (fun hė=>?_)
   clear hK K kE vZ
   refine tO 12 zEQ ?_
   intro K hK
   have e8:(w7.setRow g6 ev).cell? ⟨w.heap.size+1+1,0,none⟩=some (.int .i64 0):=gQ.out.cell 0
   have e9:=gQ.out.frozen 0
   go_simp
   clear e8 e9
   have bD:Kept (fun b=>((X b∨(w.heap.size≤b∧b<w5.heap.size))∨B.own b)∧b≠w.heap.size+1+1) w5 ((w7.setRow g6 ev).setCell ⟨w.heap.size+1+1,0,none⟩ (.int .i64 0)):=hė.setCell (p:=⟨w.heap.size+1+1,0,none⟩) (fun h=>h.2 rfl) _
   refine hK.out _ _ (fun _=>bD) (fun hė=>?_)
   clear hK K bD
   refine zB.done (by kernel_rfl) ?_ _
   refine bE _ _ (Met.intro (hJ _ _ ?_))
   (repeat apply Exists.intro)
   exact ⟨Jl.fin yB.out iw.out gK.out (fun b h=>.inl h) (.inr ⟨nR _,ig.out⟩) Cq.out je.out Yl.out Jf.out sj.out pR.out,rfl⟩
 case rest =>
  obtain ⟨g6,k6,ev,rfl,KY,iU,xU,yY,Yc,Dg,hev⟩:=hcut
  have HOL:=hI (show ∀ b,B.own b→b<w.heap.size from fun b hb=>xV.out.own_lt hb)
  have I6:=HB1.out.size
  have I5:=zq.out.size
  have UH:zT wc (fun b=>(X b∨(w.heap.size≤b∧b<w5.heap.size))∨b=g6) { B with t:=B.t,k:=k6,pe:=B.pe } slots s xs st bl false :=
   kM.out.logTo2 yY (fun b hb=>⟨.inr hb,by have:=HOL.out b hb; omega⟩) (fun b hb=>.inl hb) (fun b hb hx=>by
    have h1:=HOL.out b hb
    rcases hx with hx | hx
    ·exact kM.out.off b hb hx
    ·omega) (fun b hb=>by
    rcases hb with hb | hb
    ·exact nL (kM.out.lt b hb) yY.size
    ·rw[hb]; exact Yc.lt) (iU.less (fun b hb=>by
    rcases hb with (h | h) | h
    ·exact .inl (.inl h)
    ·exact .inr h
    ·exact .inl (.inr h))) rfl (kM.out.inv.held xU)
  have h1:=yg.out.lt
  have h2:=HI4.out.lt
  have h3:=vQ.out.lt
  have h4:=HR4.out.lt
  have h5:=HZ1.out
  have h6:=HZ2.out
  have vL:=hI (yg.out.kept yY ⟨.inl (.inr ⟨by omega,by omega⟩),by omega⟩)
  have Y3:=hI (HI4.out.kept yY ⟨.inl (.inr ⟨by omega,by omega⟩),by omega⟩)
  have pO:=hI (HR4.out.kept yY ⟨.inl (.inr ⟨by omega,by omega⟩),by omega⟩)
  have wm:=hI (show Kept X w wc from (Kept.of_below (HB1.out.trans (zq.out.mono HB1.out.size)) xV.out.lt).trans yY (fun b hb=>⟨.inl (.inl hb),by have:=xV.out.lt b hb; omega⟩))
  have qQ:=hI UH
  have WJ:=hI Yc
  have iH:=hI Dg
  have pR:=hI hev
  have Y4:=hI xU
  have Y6:=hI KY
  have Q9:=hI yY.size
  have bM:=hI (show w.heap.size+3≤w2.heap.size∧w2.heap.size<w5.heap.size by omega)
  clear UH Yc Dg hev xU KY yY iU h1 h2 h3 h4 h5 h6 I6 I5 yg HI4 vQ HR4 ql HI1 yS HR3
  have e0:wc.cell? ⟨w.heap.size+1+1,0,none⟩=some (.int .i64 0):=iH.out.cell 0
  go_upto_region 11 with fail
  clear e0
  go_cut [34] from 35 to 46 (fun t wx=>t=.bool (vg st us slots)∧Kept (fun _=>True) wc wx)
  case first J KK hJ bE =>
   by_cases hno:jC st us=none
   case neg =>
    have hf:vg st us slots=false:=by
     cases h:vg st us slots with
     | false=>rfl
     | true=>exact absurd (Zr.1 h).1 hno
    have n0:wc.cell? ⟨g6,0,none⟩=some (.bool true):=by
     rcases pR.out with ⟨h,_⟩ | ⟨q,b1,b2,_,h⟩
     ·exact absurd h hno
     ·have h9:=WJ.out
      rw[h] at h9
      exact h9.cell 0
    go_wp2_with fail
    go_meet
    case rel=>exact ⟨by rw[hf],Kept.refl _ _⟩
   case pos =>
    have zMt:ev=jE:=by
     rcases pR.out with ⟨_,h⟩ | ⟨q,b1,b2,h,_⟩
     ·exact h
     ·rw[hno] at h; cases h
    subst zMt
    have s0:wc.cell? ⟨w.heap.size,0,none⟩=some (.pointer (some ⟨B.q,0,none⟩)):=vL.out.cell 0
    have n0:wc.cell? ⟨g6,0,none⟩=some (.bool false):=WJ.out.cell 0
    have q1:wc.cell? ⟨B.q,1,none⟩=some (.pointer (some ⟨B.x,0,none⟩)):=qQ.out.cells.2.1
    have Pz:=hI (EY qQ.out)
    by_cases hfl:st.length=slots
    ·have hd:((slots:Int)-(st.length:Nat)==0)=true:=by
      rw[hfl]; simp
     have hf:vg st us slots=true:=Zr.2 ⟨hno,hfl⟩
     have HF:=hI hf
     clear hno hfl hf
     go_wp2_with fail
     refine Pz.out.mono ?_
     rintro e w6 ⟨rfl,hk⟩
     have bK:=hI hk
     clear hk Pz
     go_wp2_with fail
     go_meet
     case rel=>exact ⟨by rw[HF.out],bK.out⟩
    ·have hd:((slots:Int)-(st.length:Nat)==0)=false:=by
      have:(slots:Int)-(st.length:Nat)≠0:=by omega
      simpa using this
     have hf:vg st us slots=false:=by
      cases h:vg st us slots with
      | false=>rfl
      | true=>exact absurd (Zr.1 h).2 hfl
     have HF:=hI hf
     clear hno hfl hf
     go_wp2_with fail
     refine Pz.out.mono ?_
     rintro e w6 ⟨rfl,hk⟩
     have bK:=hI hk
     clear hk Pz
     go_wp2_with fail
     go_meet
     case rel=>exact ⟨by rw[HF.out],bK.out⟩
  case rest =>
   obtain ⟨rfl,pF⟩:=hcut
   have kL:=hI (qQ.out.offX pF (fun _ _ _=>trivial))
   have ah:=hI (vL.out.kept pF trivial)
   have Qg:=hI (Y3.out.kept pF trivial)
   have NH:=hI (pO.out.kept pF trivial)
   have TD:=hI (WJ.out.kept pF trivial)
   have QH:=hI (iH.out.kept pF trivial)
   have WI:=hI (wm.out.trans pF (fun _ _=>trivial))
   have oO:=hI (nT Q9.out pF.size)
   clear pF qQ vL Y3 pO WJ iH wm Q9
   have e0:wc.cell? ⟨w.heap.size+1+1,0,none⟩=some (.int .i64 0):=QH.out.cell 0
   have e9:=QH.out.frozen 0
   cases hf:vg st us slots with
   | true =>
    have HF:=hI hf
    clear hf
    go_wp2_with fail
    clear e0 e9
    have hkb:Kept (fun b=>b≠w.heap.size+1+1) wc (wc.setCell ⟨w.heap.size+1+1,0,none⟩ (.int .i64 6)):=(Kept.refl _ _).setCell (p:=⟨w.heap.size+1+1,0,none⟩) (fun h=>h rfl) _
    have hbx:=bM.out
    refine ⟨.int .i64 6,?_,WI.out.trans hkb (fun b hb=>by have:=xV.out.lt b hb; omega),.inl ⟨?_,rfl,k6,?_,Y4.out⟩⟩
    ·have c6:(wc.setCell ⟨w.heap.size+1+1,0,none⟩ (.int .i64 6)).cell? ⟨w.heap.size+1+1,0,none⟩=some (.int .i64 6):=(QH.out.set_ 0 (.int .i64 6)).cell 0
     simp[results,Tryz.f19,go_sem,c6]
    ·rw[HKEY.out]; exact HF.out
    ·exact (kL.out.offX hkb (fun b hb hn=>fun e=>hn (.inl (.inr ⟨by omega,by omega⟩)))).less (fun b hb=>.inl (.inl hb))
   | false =>
    have HF:=hI hf
    have aP:=uT Tryz.prog
    clear hf
    obtain ⟨w8,hw8⟩:∃ w8,w8=wc.alloc (.cells #[.int .i64 0,.int .u64 0,.int .i64 0] 35):=⟨_,rfl⟩
    have hal:Below wc.heap.size wc w8:=by rw[hw8]; exact (Below.refl _ wc).alloc (nR _) _
    have VO:=hI (show z8 w8 wc.heap.size 35 #[.int .i64 0,.int .u64 0,.int .i64 0] by rw[hw8]; exact z8.new wc _ _)
    have jA:=hI (kL.out.grow hal)
    have aZ:=hI (ah.out.below hal ah.out.lt)
    have nW:=hI (Qg.out.below hal Qg.out.lt)
    have bI:=hI (NH.out.below hal NH.out.lt)
    have zNw:=hI (TD.out.below hal TD.out.lt)
    have F3:=hI (QH.out.below hal QH.out.lt)
    have QC:=hI (WI.out.trans (Kept.of_below (S:=X) hal (fun b hb=>nL (xV.out.lt b hb) WI.out.size)) (fun b h=>h))
    have HZ8:=hI (show wc.heap.size<w8.heap.size by rw[hw8]; simp)
    have HGG:=hI TD.out.lt
    have nH:=hI hw8
    clear hal hw8 kL ah Qg NH TD QH WI
    go_upto_region 15 with fail
    rw[← nH.out]
    clear e0 e9 nH
    obtain ⟨X8,JG⟩:∃ X8:Nat→Prop,(fun b=>((X b∨(w.heap.size≤b∧b<w5.heap.size))∨b=g6)∨(wc.heap.size≤b∧b<w8.heap.size))=X8:=⟨_,rfl⟩
    rw[JG] at jA
    have hx0:∀ b,X b→X8 b:=fun b hb=>by rw[← JG]; exact .inl (.inl (.inl hb))
    have hbl:=bM.out
    have hz1:=HZ1.out
    have hz8:=HZ8.out
    have Xd:=oO.out
    have yR:=hI (show X8 w.heap.size∧X8 (w.heap.size+1)∧X8 (w.heap.size+1+1)∧X8 w2.heap.size∧X8 g6∧X8 wc.heap.size by
     rw[← JG]
     exact ⟨.inl (.inl (.inr ⟨by omega,by omega⟩)),.inl (.inl (.inr ⟨by omega,by omega⟩)),.inl (.inl (.inr ⟨by omega,by omega⟩)),.inl (.inl (.inr ⟨by omega,by omega⟩)),.inl (.inr rfl),.inr ⟨by omega,by omega⟩⟩)
    have HX0:=hI hx0
    have Xu:=hI (show B.q<w.heap.size from HOL.out _ (.inl rfl))
    clear JG hx0 hbl hz1 hz8 Xd
    have dY:=hI (show ∀ W,Kept (fun b=>(X8 b∨B.own b)∧b≠w.heap.size+1+1∧b≠wc.heap.size) w8 W→W.cell? ⟨w.heap.size,0,none⟩=some (.pointer (some ⟨B.q,0,none⟩))∧W.cell? ⟨B.q,0,none⟩=some (.pointer (some ⟨B.l,0,none⟩))∧z8 W w2.heap.size 33 #[.int .i64 1,.int .u32 f0,.int .u32 x0,.int .u64 q0,.slice A m c,.slice A2 n2 c2] from fun W hW=>by
     obtain ⟨q0,q1,_,_⟩:=jA.out.cells
     obtain ⟨i1,i2,i3,i4,i5,i6⟩:=yR.out
     have h3:=Xu.out
     have hbl:=bM.out
     have Xd:=oO.out
     exact ⟨(aZ.out.kept hW ⟨.inl i1,by omega,by omega⟩).cell 0,(hW.cell (p:=⟨B.q,0,none⟩) ⟨.inr (.inl rfl),(by omega:B.q≠_),(by omega:B.q≠_)⟩).trans q0,bI.out.kept hW ⟨.inl i4,by omega,by omega⟩⟩)
    have ak:=hI (HK.out.kept QC.out (fun b hb=>hb))
    have HRV:=hI (HV.out.kept QC.out (fun b hb=>hb))
    have yB:=hI (jA.out.ylt)
    refine wp_region_noPanic ?_
    refine zB.region (fun W=>Kept (fun b=>(X8 b∨B.own b)∧b≠w.heap.size+1+1∧b≠wc.heap.size) w8 W) [] (by kernel_rfl) ((Kept.refl _ _).drew) (fun hė=>?_)
    have hdr:=(Below.refl w8.heap.size w8).drew
    have NP:=hI (rW (jA.out.below hdr).log (jA.out.below hdr).ylt sV.out.1 sV.out.2 (c1:=c) (c2:=c2) gN.out QB.out
     ((ak.out.below hdr (fun b hb=>jA.out.lt b (HX0.out b hb))).more (fun b hb=>jA.out.lt b (HX0.out b hb))) ((HRV.out.below hdr (fun b hb=>jA.out.lt b (HX0.out b hb))).more (fun b hb=>jA.out.lt b (HX0.out b hb))) OI.out.1 OI.out.2 qm.out.1 qm.out.2)
    clear hdr
    refine tK 0 pw0 (v:=?_) ?_ hė ?_
    rotate_left
    ·intro W hSW; have h9:=(dY.out W hSW).1; clear hSW; unfold pw0; go_simp; with_reducible rfl
    simp only[pw0,Act.put,sA,sZ,sS]
    refine tK 1 pw1 (v:=?_) ?_ hė ?_
    rotate_left
    ·intro W hSW; unfold pw1; go_simp; with_reducible rfl
    simp only[pw1,Act.put,sA,sZ,sS]
    refine tK 2 pw2 (v:=?_) ?_ hė ?_
    rotate_left
    ·intro W hSW; unfold pw2; go_simp; with_reducible rfl
    simp only[pw2,Act.put,sA,sZ,sS]
    refine tK 3 pw3 (v:=?_) ?_ hė ?_
    rotate_left
    ·intro W hSW; unfold pw3; go_simp; with_reducible rfl
    simp only[pw3,Act.put,sA,sZ,sS]
    refine tK 4 pw4 (v:=?_) ?_ hė ?_
    rotate_left
    ·intro W hSW; have h9:=(dY.out W hSW).2.1; clear hSW; unfold pw4; go_simp; with_reducible rfl
    simp only[pw4,Act.put,sA,sZ,sS]
    refine tK 5 pw5 (v:=.agg #[.int .i64 1,.int .u32 f0,.int .u32 x0,.int .u64 q0,.slice A m c,.slice A2 n2 c2]) ?_ hė ?_
    ·intro W hSW; exact ZQ (.tmp 5) 33 rfl w2.heap.size rfl 33 [.int .i64 1,.int .u32 f0,.int .u32 x0,.int .u64 q0,.slice A m c,.slice A2 n2 c2] _ Tryz.underlying33 rfl zR (dY.out W hSW).2.2
    simp only[pw5,Act.put,sA,sZ,sS]
    refine tO 6 pw6 ?_
    intro K hK
    refine zN 9 #[.tmp 53,.tmp 54] #[24,33] rfl rfl Tryz.func9 rfl rfl [.pointer (some ⟨B.l,0,none⟩),.agg #[.int .i64 1,.int .u32 f0,.int .u32 x0,.int .u64 q0,.slice A m c,.slice A2 n2 c2]] rfl (NP.out.mono ?_)
    intro e w9 hap
    obtain ⟨a,er,s1,xs1,t1,k1,fQ,rfl,xI,sM,hcase⟩:=hap.told
    refine ⟨_,rfl,?_⟩
    simp only[pw6,Act.put,sA,sZ,sS]
    have bD:Kept (fun b=>(X8 b∨B.own b)∧b≠w.heap.size+1+1∧b≠wc.heap.size) w8 w9:=hė.trans xI (fun b h=>h.1)
    have bK:=hI (((Kept.refl (fun b=>X8 b∨B.own b) w8).drew).trans xI (fun b h=>h))
    have Co:=hI sM
    have HC:=hI hcase
    have YB:=hI (VO.out.kept bK.out (.inl yR.out.2.2.2.2.2))
    have ZA:=hI (F3.out.kept bK.out (.inl yR.out.2.2.1))
    clear hap xI sM hcase NP hė
    refine hU hK rfl _ _ bD (fun hė=>?_)
    clear hK K bD
    refine tK 7 pw7 (v:=?_) ?_ hė ?_
    rotate_left
    ·intro W hSW; unfold pw7; go_simp; with_reducible rfl
    simp only[pw7,Act.put,sA,sZ,sS]
    refine tK 8 pw8 (v:=?_) ?_ hė ?_
    rotate_left
    ·intro W hSW; unfold pw8; go_simp; with_reducible rfl
    simp only[pw8,Act.put,sA,sZ,sS]
    refine tK 9 pw9 (v:=?_) ?_ hė ?_
    rotate_left
    ·intro W hSW; unfold pw9; go_simp; with_reducible rfl
    simp only[pw9,Act.put,sA,sZ,sS]
    refine tO 10 zEK ?_
    intro K hK
    refine jS (.tmp 7) (.tmp 56) 35 rfl rfl wc.heap.size #[.int .i64 a.1,.int .u64 a.2.1,.int .i64 a.2.2] rfl rfl 35 _ YB.out kD rfl (by simp[Value.oneCell']) ?_
    simp only[zEK,Act.put,sA,sZ,sS]
    have hk10:Kept (fun b=>b≠wc.heap.size) w9 (w9.setRow wc.heap.size #[.int .i64 a.1,.int .u64 a.2.1,.int .i64 a.2.2]):=(Kept.refl _ _).setRow (fun h=>h rfl) _
    have rF:Kept (fun b=>(X8 b∨B.own b)∧b≠w.heap.size+1+1∧b≠wc.heap.size) w8 (w9.setRow wc.heap.size #[.int .i64 a.1,.int .u64 a.2.1,.int .i64 a.2.2]):=hė.trans hk10 (fun b h=>h.2.2)
    have hcb:wc.heap.size≠w.heap.size+1+1:=by have:=bM.out; have:=oO.out; omega
    have oh:=hI (ZA.out.kept hk10 (Ne.symm hcb))
    have iI:=hI (setRow_heap _ _ _ #[.int .i64 a.1,.int .u64 a.2.1,.int .i64 a.2.2] _ _ YB.out)
    have vM:=hI hk10
    obtain ⟨w10,vG⟩:∃ w10,w10=w9.setRow wc.heap.size #[.int .i64 a.1,.int .u64 a.2.1,.int .i64 a.2.2]:=⟨_,rfl⟩
    rw[← vG] at oh iI vM rF ⊢
    clear hk10 vG
    refine hU hK rfl _ _ rF (fun hė=>?_)
    clear hK K rF
    refine tO 11 zMR ?_
    intro K hK
    have e8:w10.cell? ⟨w.heap.size+1+1,0,none⟩=some (.int .i64 0):=oh.out.cell 0
    have e9:=oh.out.frozen 0
    go_simp
    clear e8 e9
    have Zo:Kept (fun b=>(X8 b∨B.own b)∧b≠w.heap.size+1+1∧b≠wc.heap.size) w8 (w10.setCell ⟨w.heap.size+1+1,0,none⟩ (.int .i64 er)):=hė.setCell (p:=⟨w.heap.size+1+1,0,none⟩) (fun h=>h.2.1 rfl) _
    refine hK.out _ _ (fun _=>Zo) (fun hė=>?_)
    clear hK K Zo
    refine zB.done (by kernel_rfl) ?_ _
    refine NoPanic.normal ?_
    obtain ⟨w11,wF⟩:∃ w11,w11=w10.setCell ⟨w.heap.size+1+1,0,none⟩ (.int .i64 er):=⟨_,rfl⟩
    have QE:=hI (show z8 w11 (w.heap.size+1+1) 36 #[.int .i64 er] by rw[wF]; exact oh.out.set_ 0 (.int .i64 er))
    have Jj:=hI (show z8 w11 wc.heap.size 35 #[.int .i64 a.1,.int .u64 a.2.1,.int .i64 a.2.2] by rw[wF]; exact z8.far iI.out (p:=⟨w.heap.size+1+1,0,none⟩) hcb _)
    have Ct:=hI (show Kept (fun b=>b≠wc.heap.size∧b≠w.heap.size+1+1) w9 w11 by rw[wF]; exact (vM.out.mono (fun b h=>h.1)).setCell (p:=⟨w.heap.size+1+1,0,none⟩) (fun h=>h.2 rfl) _)
    rw[← wF]
    clear wF oh iI vM ZA YB
    have e8:w11.cell? ⟨w.heap.size+1+1,0,none⟩=some (.int .i64 er):=QE.out.cell 0
    have e9:=QE.out.frozen 0
    go_wp2_with fail
    clear e8 e9
    obtain ⟨w12,dM⟩:∃ w12,w12=w11.setCell ⟨w.heap.size+1+1,0,none⟩ (.int .i64 er):=⟨_,rfl⟩
    have l5:=hI (show z8 w12 (w.heap.size+1+1) 36 #[.int .i64 er] by rw[dM]; exact QE.out.set_ 0 (.int .i64 er))
    have hcb:wc.heap.size≠w.heap.size+1+1:=by have:=bM.out; have:=oO.out; omega
    have WQ:=hI (show z8 w12 wc.heap.size 35 #[.int .i64 a.1,.int .u64 a.2.1,.int .i64 a.2.2] by rw[dM]; exact z8.far Jj.out (p:=⟨w.heap.size+1+1,0,none⟩) hcb _)
    have fE:=hI (show Kept (fun b=>b≠wc.heap.size∧b≠w.heap.size+1+1) w9 w12 by rw[dM]; exact Ct.out.setCell (p:=⟨w.heap.size+1+1,0,none⟩) (fun h=>h.2 rfl) _)
    rw[← dM]
    clear dM QE Jj Ct
    have hbl:=bM.out
    have Xd:=oO.out
    have hgg:=HGG.out
    have KY:=Y6.out
    obtain ⟨i1,i2,i3,i4,i5,i6⟩:=yR.out
    have kW:Kept (fun b=>(X8 b∨B.own b)∧b≠wc.heap.size∧b≠w.heap.size+1+1) w8 w12:=(bK.out.mono (fun b h=>h.1)).trans fE.out (fun b h=>h.2)
    have gM:=hI (aZ.out.kept kW ⟨.inl i1,by omega,by omega⟩)
    have zNj:=hI (nW.out.kept kW ⟨.inl i2,by omega,by omega⟩)
    have zKC:=hI (zNw.out.kept kW ⟨.inl i5,by omega,by omega⟩)
    have hkx:Kept X w w12:=QC.out.trans kW (fun b hb=>⟨.inl (HX0.out b hb),by have:=xV.out.lt b hb; omega,by have:=xV.out.lt b hb; omega⟩)
    have hl12:=Co.out.off fE.out (fun b _ hn=>⟨fun e=>hn (.inl (e▸i6)),fun e=>hn (.inl (e▸i3))⟩)
    have wG:xs1.length=xs.length:=by
     have h1:=hl12.dims
     have h2:=jA.out.log.dims
     rcases HC.out with ⟨_,_,e,_⟩ | ⟨_,_,_,_,_,e | e,_⟩
     ·rw[e] at h1; omega
     ·rw[e] at h1; omega
     ·rw[e] at h1
      have h3:(jR s).a=s.a:=rfl
      omega
    refine leaves_cons (f:=74) (args:=#[.pointer (some ⟨w.heap.size+1+1,0,none⟩),.pointer (some ⟨w.heap.size,0,none⟩),.pointer (some ⟨w.heap.size+1,0,none⟩),.pointer (some ⟨g6,0,none⟩),.pointer (some ⟨wc.heap.size,0,none⟩)]) (by simp) (by simp[go_sem]) ?_
    rcases HC.out with ⟨hno,rfl,rfl,rfl,rfl,rfl,rfl⟩ | ⟨i,ys,hsome,rfl,ha,hs1,hxs,JC,hat,hall,gB⟩
    ·refine (zCa _ _ _ _ l5.out (by decide)).mono ?_
     rintro e u' w13 ⟨rfl,rfl,rfl⟩
     have hm:=jA.out.logTo2 kW (fun b hb=>⟨.inr hb,by have:=HOL.out b hb; omega,by have:=HOL.out b hb; omega⟩) (fun b hb=>hb) jA.out.off (fun b hb=>nL (jA.out.lt b hb) kW.size) hl12 rfl jA.out.inv
     refine ⟨.int .i64 6,?_,hkx,.inr (.inl ⟨?_,hno,rfl,_,hm.less HX0.out,Y4.out⟩)⟩
     ·have c6:w13.cell? ⟨w.heap.size+1+1,0,none⟩=some (.int .i64 6):=l5.out.cell 0
      simp[results,Tryz.f19,go_sem,c6]
     ·rw[HKEY.out]; exact HF.out
    ·have hm:=jA.out.logTo2 kW (fun b hb=>⟨.inr hb,by have:=HOL.out b hb; omega,by have:=HOL.out b hb; omega⟩) (fun b hb=>hb) jA.out.off (fun b hb=>nL (jA.out.lt b hb) kW.size) hl12 wG (jA.out.inv.go (fun a' bs' h=>(hall a' bs' h).1))
     have hil:i<bl.length:=by
      obtain ⟨_,j,cc,e,h2,_⟩:=hat
      rw[ha] at e
      injection e with e1 _
      have:=jA.out.num
      omega
     have hfr:∀ p,p∈st→p.1≠a:=fun p hp=>(hall _ _ (jA.out.inv.here p hp)).2
     have hsl:(qV st us).length≠slots:=by
      have h9:=jA.out.ix.len
      unfold gD at h9
      rw[List.length_map] at h9
      by_cases hh:jC st us=none
      ·rw[Gi hh]
       intro e
       have:=Zr.2 ⟨hh,e⟩
       rw[HF.out] at this
       cases this
      ·have:=zEY hh
       omega
     rw[ha] at hat hfr
     have Ii:z8 w12 wc.heap.size 35 #[.int .i64 (i:Int),.int .u64 (zM ys i),.int .i64 (zI ys i)]:=by
      have h9:=WQ.out
      rw[ha] at h9
      exact h9
     have hrow:zW .u8 w12 X8 A m (keyOf (qI 1 f0 x0 q0 us vs)):=by
      rw[HKEY.out]
      exact (HK.out.kept hkx (fun b hb=>hb)).more HX0.out
     refine (zCZ (c:=c) hm (by rw[HKEY.out]; exact pR.out) l5.out gM.out zNj.out zKC.out Ii ⟨i1,i2,i6⟩ hil hrow (by rw[HKEY.out]; exact qm.out.1) (by have:=HM.out; omega) hat hfr zJv.out (by rw[HKEY.out]; exact hsl)).mono ?_
     rintro e u' w13 ⟨rfl,rfl,Vs,dO⟩
     subst hxs JC
     have hown:∀ b,X8 b→b<w12.heap.size∧¬ B.own b:=fun b hb=>⟨nL (jA.out.lt b hb) kW.size,fun e=>jA.out.off b e hb⟩
     refine ⟨.int .i64 0,?_,hkx.trans dO (fun b hb=>hown b (HX0.out b hb)),.inr (.inr ⟨?_,i,s1,ys,t1,k1,hsome,hs1,rfl,Vs.less HX0.out,gB.from Y4.out⟩)⟩
     ·have c6:w13.cell? ⟨w.heap.size+1+1,0,none⟩=some (.int .i64 0):=(l5.out.kept dO (hown _ i3)).cell 0
      simp[results,Tryz.f19,go_sem,c6]
     ·rw[HKEY.out]; exact HF.out
end
end
end Go.Proofs.YtdkbpchmnhbhcaaGreat
