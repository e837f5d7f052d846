/- Texts of StoreMoves, packed. -/
import Derived.Test.YtdkbpchmnhbhcaaGreatPackStoreMoves12
import Derived.Great.BuildSlice
import Derived.Laws.CopyRow
import Derived.Laws.CopyOwn
import Derived.OwnWalk
import Derived.Lib.Hide
import Derived.Deep.DeepCutAuto
set_option linter.unusedVariables false
set_option linter.unusedSimpArgs false
set_option maxRecDepth 100000
set_option maxHeartbeats 16000000
namespace Go.Proofs.YtdkbpchmnhbhcaaGreat
open Go.RowKit
end Go.Proofs.YtdkbpchmnhbhcaaGreat
namespace Go.Proofs.YtdkbpchmnhbhcaaGreat.PlM
open Go.RowKit
open Go.Proofs.YtdkbpchmnhbhcaaGreat
structure Pl where
 sg:Int
 g:Int
 sc:Int
 kd:Int
 fl:Int
 ex:Int
 sq:Int
 a:Option Addr
 n:Nat
 c:Nat
 b:Option Addr
 m:Nat
 d:Nat
abbrev ent0:Pl:=⟨0,0,0,0,0,0,0,none,0,0,none,0,0⟩
abbrev entV (e:Pl):List Value:=[.int .i64 e.sg,.int .u64 e.g,.int .i64 e.sc,.int .i64 e.kd,.int .u32 e.fl,.int .u32 e.ex,.int .u64 e.sq,.slice e.a e.n e.c,.slice e.b e.m e.d]
theorem ones_ent (s:Pl):∀ v∈entV s,v.oneCell'=true:=by
 intro v hv
 simp[entV] at hv
 rcases hv with rfl | rfl | rfl | rfl | rfl | rfl | rfl | rfl | rfl <;> rfl
abbrev RowE:=RowQ entV 9 ent0
def flatG (L:List Pl):List Value:=L.flatMap entV
theorem flatG_append (L M:List Pl):flatG (L++M)=flatG L++flatG M:=by simp[flatG]
theorem flatG_one (s:Pl):flatG [s]=entV s:=by simp[flatG]
theorem flatG_length (L:List Pl):(flatG L).length=L.length*9:=by
 induction L with
 | nil=>rfl
 | cons x r ih =>
  simp only[flatG,List.flatMap_cons,List.length_append,List.length_cons] at *
  rw[ih]
  simp only[entV,List.length_cons,List.length_nil]
  omega
theorem flatG_get:∀ (L:List Pl) (t:Nat),t<L.length*9→(flatG L)[t]? = (entV (L.getD (t / 9) ent0))[t % 9]?
 | [],t,h=>by simp at h
 | y :: L, t, h => by
  unfold flatG
  rw[List.flatMap_cons]
  by_cases h4:t<9
  ·rw[List.getElem?_append_left (by simpa using h4)]
   rw[show t / 9=0 by omega,show t % 9=t by omega]
   rfl
  ·have e:t-(entV y).length=t-9:=by simp
   rw[List.getElem?_append_right (by simp; omega),e]
   have ih:=flatG_get L (t-9) (by simp at h; omega)
   unfold flatG at ih
   rw[ih,show t / 9=(t-9) / 9+1 by omega,show t % 9=(t-9) % 9 by omega]
   rfl
theorem flatG_ones (L:List Pl):∀ v∈flatG L,v.oneCell'=true:=by
 intro v hv
 obtain ⟨s,_,h⟩:=List.mem_flatMap.1 hv
 exact ones_ent s v h
def ArrS (w:World) (g:Nat) (L:List Pl):Prop:=Blk w g 40 (flatG L).toArray
theorem row_of_flat {w:World} {g:Nat} {t:TypeId} {L:List Pl} {X:List Value} (h:Blk w g t (flatG L++X).toArray) {S:Nat→Prop} (hS:S g) {n:Nat} (hn:L.length=n):RowE w S (some ⟨g,0,none⟩) n L :=
 ⟨hn,fun _=>⟨g,0,rfl,hS,fun i hi j v hv=>by
  have hj:j<9:=by have:=(List.getElem?_eq_some_iff.1 hv).1; simpa using this
  show w.cell? ⟨g,0+i*9+j,none⟩=some v
  rw[h.cell,Nat.zero_add]
  have hlt:i*9+j<(flatG L).length:=by rw[flatG_length]; omega
  rw[List.getElem?_toArray,List.getElem?_append_left hlt,flatG_get L _ (by rw[flatG_length] at hlt; exact hlt),show (i*9+j) / 9=i by omega,show (i*9+j) % 9=j by omega]
  exact hv⟩⟩
theorem ArrS.row {w:World} {g:Nat} {L:List Pl} (h:ArrS w g L) {S:Nat→Prop} (hS:S g) {n:Nat} (hn:L.length=n):RowE w S (some ⟨g,0,none⟩) n L :=
 row_of_flat (X:=[]) (by simpa [ArrS] using h) hS hn
theorem RowE_src {w:World} {S:Nat→Prop} {A:Option Addr} {n:Nat} {xs:List Pl} (h:RowE w S A n xs) (hn:0<n) :
 ∃ ad,A=some ad∧∀ j v,(flatG xs)[j]? = some v→w.cell? (ad.add j)=some v:=by
 obtain ⟨b,off,e,_,hc⟩:=h.2 hn
 refine ⟨_,e,fun j v hv=>?_⟩
 have hj:j<xs.length*9:=by have:=(List.getElem?_eq_some_iff.1 hv).1; rwa [flatG_length] at this
 rw[flatG_get xs j hj] at hv
 have h1:=hc (j / 9) (by have:=h.1; omega) (j % 9) v hv
 rw[add_plain,show off+j=off+j / 9*9+j % 9 by omega]
 exact h1
theorem info_seg:(Tryz.prog.info? 40).map (fun i=>(i.zero,i.size,i.bytes))=some (some (.agg (entV ent0).toArray),9,96):=by kernel_rfl
theorem ArrS.setRow {w:World} {g:Nat} {L:List Pl} (h:ArrS w g L) (M:List Pl):ArrS (w.setRow g (flatG M).toArray) g M:=setRow_heap w g _ _ _ _ h
theorem ArrS.alloc {w:World} {g:Nat} {L:List Pl} (h:ArrS w g L) (o:Obj):ArrS (w.alloc o) g L:=Blk.alloc h o
theorem ArrS.below {w w':World} {g B:Nat} {L:List Pl} (h:ArrS w g L) (hb:Below B w w') (hg:g<B):ArrS w' g L:=Blk.below h hb hg
theorem run_append_rowZ (w:World) (ty:TypeId) (base:Nat) (v:Value) (n:Nat) (P:List Value) (hown:w.ownsRow base 40 9 v n P)
 (S:Nat→Prop) (A:Option Addr) (m c:Nat) (ys:List Pl) (hr:RowE w S A m ys) (hnil:A=none→c=0) (h63:n+m≤1000000) (hbase:base≤w.heap.size) :
 ∃ v' w',(Builtin.append_ #[28,28] ty #[v,.slice A m c]).run Tryz.prog w=.ok v' w'∧w'.ownsRow base 40 9 v' (n+m) (P++flatG ys)∧w.grownBy w' v.ownBlock∧(v'.ownBlock=v.ownBlock∨v'.ownBlock=some w.heap.size):=by
 obtain ⟨i0,hi,hz0,hz1,hz2⟩:=info_parts info_seg
 have hl:=hr.1
 rcases A with _ | ad
 ·have hm:m=0:=by
   rcases Nat.eq_zero_or_pos m with h0 | h0
   ·exact h0
   ·obtain ⟨_,_,h1,_⟩:=hr.2 h0
    cases h1
  subst hm
  have hn:ys=[]:=List.eq_nil_of_length_eq_zero hl
  subst hn
  rw[hnil rfl]
  exact ⟨v,w,run_append_owned_none (P:=Tryz.prog) (w:=w) base 28 ty 40 i0 9 Tryz.underlying28 hi v n P hown,by simpa [flatG] using hown,World.grownBy.refl w _,.inl rfl⟩
 ·obtain ⟨v',w',h1,h2,h3,_,h4⟩:=run_append_own_at (P:=Tryz.prog) w base 28 ty 40 i0 (.agg (entV ent0).toArray) 9 96 Tryz.underlying28 hi hz0 hz1 hz2 (by simp[Value.cells]) (by omega) v n P hown ad m c (flatG ys) (by rw[flatG_length,hl])
   (fun j u hu=>by
     have hm:0<m:=by
      rcases Nat.eq_zero_or_pos m with h0 | h0
      ·have:ys=[]:=List.eq_nil_of_length_eq_zero (by omega)
       subst this
       simp[flatG] at hu
      ·exact h0
     obtain ⟨ad',e,hc⟩:=RowE_src hr hm
     injection e with e
     subst e
     exact hc j u hu)
   (flatG_ones ys) (by unfold maxLen; omega) (by omega) hbase
  exact ⟨v',w',h1,h2,h3,h4⟩
theorem rowZ_own {w:World} {base:Nat} {v:Value} {n:Nat} {xs:List Pl} {P:List Value} (ho:w.ownsRow base 40 9 v n P) (hP:P=flatG xs) (hn:xs.length=n) :
 ∃ A cap,v=.slice A n cap∧n≤cap∧(A=none→cap=0)∧RowE w (fun b=>base≤b∧b<w.heap.size) A n xs:=by
 subst hP
 have hlt:=ho.lt
 rcases ho.2 with ⟨rfl,rfl⟩ | ⟨g,cap,cur,rfl,hg,hh,hnc,hc⟩
 ·exact ⟨none,0,rfl,by omega,fun _=>rfl,hn,fun h=>absurd h (by omega)⟩
 ·refine ⟨_,cap,rfl,hnc,(fun h=>by cases h),hn,fun _=>⟨g,0,rfl,⟨hg,(hlt g rfl).2⟩,fun i hi j v hv=>?_⟩⟩
  have hj:j<9:=by have:=(List.getElem?_eq_some_iff.1 hv).1; simpa using this
  have h1:=ho.cells (g:=g) rfl (i*9+j) v (by rw[flatG_get xs _ (by omega),show (i*9+j) / 9=i by omega,show (i*9+j) % 9=j by omega]; exact hv)
  rw[add_plain] at h1
  rw[Nat.add_assoc]
  exact h1
section
variable {w:World} {ops:Array Oper} {rest:List Oper} {o:Oper} {a:Act} {Q:Exit→Act→World→Prop}
theorem wpList_append_rowZ (s x:Operand) (ho:o.op=.call { callee:=.builtin .append,args:=#[s,x],argTypes:=#[28,28] }) (hgd:o.guard=none)
 (base:Nat) (v:Value) (n:Nat) (P:List Value) (hs:a.eval s=v) (hown:w.ownsRow base 40 9 v n P)
 (S:Nat→Prop) (A:Option Addr) (m c:Nat) (ys:List Pl) (hx:a.eval x=.slice A m c) (hr:RowE w S A m ys) (hnil:A=none→c=0) (h63:n+m≤1000000) (hbase:base≤w.heap.size)
 (h:∀ v' w',w'.ownsRow base 40 9 v' (n+m) (P++flatG ys)→w.grownBy w' v.ownBlock→(v'.ownBlock=v.ownBlock∨v'.ownBlock=some w.heap.size)→wpList Tryz.prog ops Q rest (a.put o.dst v') w') :
 wpList Tryz.prog ops Q (o::rest) a w:=by
 obtain ⟨v',w',hrun,h2,h3,h4⟩:=run_append_rowZ w o.type base v n P hown S A m c ys hr hnil h63 hbase
 refine wpList_plain hgd fun K hK=>?_
 unfold Oper.wp execOp
 simp only[ho,resolve,invoke,builtin,Sem.run_bind,Sem.run_pure,Result.andThen_ok,List.map_toArray,List.map_cons,List.map_nil,hs,hx,hrun]
 exact hK _ _ (h v' w' h2 h3 h4)
end
end Go.Proofs.YtdkbpchmnhbhcaaGreat.PlM

namespace Go.Proofs.YtdkbpchmnhbhcaaGreat
open Go.RowKit
section
structure LdAll (w:World) (gl gr n:Nat) (xss:List (List Int)):Prop where
 v:Blk w gl 178 #[.slice (some ⟨gr,0,none⟩) n n]
 row:RowK w (fun b=>b=gr) (some ⟨gr,0,none⟩) n xss
 lt:gr<w.heap.size
 len:xss.length=n
 secs:Secs xss
 byt:∀ i,Bytes (xss.getD i [])
 small:n≤80000
section
variable {w w':World} {gl gr n:Nat} {xss:List (List Int)}
theorem LdAll.below (h:LdAll w gl gr n xss) (hb:Below w.heap.size w w'):LdAll w' gl gr n xss :=
 ⟨h.v.below hb h.v.lt,h.row.below hb (fun b e=>by rw[e]; exact h.lt),nL h.lt hb.size,h.len,h.secs,h.byt,h.small⟩
theorem LdAll.off (h:LdAll w gl gr n xss):LdM gl (some ⟨gr,0,none⟩) n n xss (fun b=>b<w.heap.size∧b≠gl∧b≠gr) () w :=
 ⟨fun b hb=>hb.1,h.v,fun hb=>hb.2.1 rfl,h.row.more fun b e=>by rw[e]; exact ⟨h.lt,fun hb=>hb.2.2 rfl⟩⟩
def LdX (w0:World) (gl gr n:Nat) (xss:List (List Int)) (X:Nat→Prop) (st:Unit) (W:World):Prop :=
 LdM gl (some ⟨gr,0,none⟩) n n xss X st W∧¬ X gr∧W.heap[gl]? = w0.heap[gl]? ∧ W.heap[gr]? = w0.heap[gr]? ∧ gr<W.heap.size
theorem loadedX (h:LdAll w gl gr n xss) (B:Nat) (X0:Nat→Prop):HeldC 121 [.pointer (some ⟨gl,0,none⟩)] B X0 (ldV xss) (ldE xss) (fun (st:Unit) _=>st) (LdX w gl gr n xss):=by
 have H:=loaded_held (gl:=gl) (A:=some ⟨gr,0,none⟩) (c:=n) h.secs h.byt h.len (by have:=h.small; omega) B X0
 refine ⟨fun X st W i hr hi=>?_,fun X S st W W' hr hk hS=>?_,fun X st W hr=>H.lt X st W hr.1,fun X st W hr hx=>⟨H.back X st W hr.1 hx,fun e=>hr.2.1 (hx _ e),hr.2.2⟩,H.len,H.byt⟩
 ·refine (loaded1_any hr.1 h.secs (by have:=h.small; omega) i hi).mono ?_
  rintro e W' ⟨he,hb⟩
  refine ⟨?_,⟨hr.1.below hb,hr.2.1,(hb.block _ hr.1.v.lt).trans hr.2.2.1,(hb.block _ hr.2.2.2.2).trans hr.2.2.2.1,nL hr.2.2.2.2 hb.size⟩,Kept.of_below hb hr.1.lt⟩
  rw[he]
 ·have hs:∀ b,b<W.heap.size→¬ X b→S b:=fun b h1 h2=>Classical.byContradiction fun h3=>h2 (hS b h1 h3).1
  have hl:=hr.1.v.lt
  refine ⟨H.put X S st W W' hr.1 hk hS,fun e=>?_,(hk.block _ (hs _ hl hr.1.xv)).trans hr.2.2.1,(hk.block _ (hs _ hr.2.2.2.2 hr.2.1)).trans hr.2.2.2.1,nL hr.2.2.2.2 hk.size⟩
  rcases e with e | e
  ·exact hr.2.1 e
  ·have:=hr.2.2.2.2; omega
theorem LdAll.x (h:LdAll w gl gr n xss):LdX w gl gr n xss (fun b=>b<w.heap.size∧b≠gl∧b≠gr) () w :=
 ⟨h.off,fun e=>e.2.2 rfl,rfl,rfl,h.lt⟩
theorem below_x {X:Nat→Prop} (hr:LdX w gl gr n xss X () w') (hk:Kept (fun b=>b<w.heap.size∧b≠gl∧b≠gr) w w'):Below w.heap.size w w' :=
 ⟨hk.os,hk.tape,hk.output,hk.size,fun b hb=>by
  by_cases e:b=gl
  ·rw[e]; exact hr.2.2.1
  ·by_cases e2:b=gr
   ·rw[e2]; exact hr.2.2.2.1
   ·exact hk.block b ⟨hb,e,e2⟩⟩
theorem begun_all (h:LdAll w gl gr n xss) (seg:Nat) (hseg:seg≤15) :
 Calls Tryz.prog 54 #[.func (.func 121) #[] #[.pointer (some ⟨gl,0,none⟩)],.int .i64 seg] w fun e w'=>e=.returned (.int .u64 (begunG (ldV xss 0) seg))∧Below w.heap.size w w':=by
 refine (begun_loaded _ (loadedX h w.heap.size _) h.x seg hseg).mono ?_
 rintro e w' ⟨he,hr,hk⟩
 exact ⟨he,below_x hr hk⟩
def StandB (xss:List (List Int)) (gen:Int) (at_:Nat) (w:World) (e:Ending) (w':World):Prop :=
 Below w.heap.size w w' ∧
 ((standE (ldV xss) (ldE xss) gen at_ ≠ 0 ∧ e = .returned (.tuple #[.agg zeroC, .int .i64 0, .int .i64 (standE (ldV xss) (ldE xss) gen at_)])) ∨
  (standE (ldV xss) (ldE xss) gen at_=0∧∃ (xs:List Int) (b1 b2:Nat),xs=meants (secsAt (ldV xss) at_ (beginsN (ldV xss at_) gen at_))∧e=.returned (.tuple #[.agg (recT9 xs b1 b2),.int .i64 (beginsN (ldV xss at_) gen at_:Nat),.int .i64 0]) ∧
   w.heap.size≤b1∧w.heap.size≤b2∧b1≠b2∧ArrU w' b1 (keyOf xs)∧ArrU w' b2 (valOf xs)))
theorem stand_all9 (h:LdAll w gl gr n xss) (gen:Int) (at_:Nat) (hat:at_≤90000) :
 Calls Tryz.prog 55 #[.func (.func 121) #[] #[.pointer (some ⟨gl,0,none⟩)],.int .u64 gen,.int .i64 at_] w (StandB xss gen at_ w):=by
 refine (standing_loaded _ (loadedX h w.heap.size _) h.x gen at_ hat).mono ?_
 rintro e w' ⟨hr,hk,h1,h2⟩
 refine ⟨below_x hr hk,?_⟩
 by_cases e0:standE (ldV xss) (ldE xss) gen at_=0
 ·obtain ⟨xs,e1,b1,b2,e2,e3,e4,e5,e6,e7,_⟩:=h2 e0
  exact .inr ⟨e0,xs,b1,b2,e1,e2,e3,e4,e5,e6,e7⟩
 ·exact .inl ⟨e0,h1 e0⟩
end
noncomputable section
def scanL (xss:List (List Int)) (gen:Int):Nat→Nat→List (Nat × List Int)
 | 0,_=>[]
 | f+1,at_=>if standE (ldV xss) (ldE xss) gen at_=0 then (at_,meants (secsAt (ldV xss) at_ (beginsN (ldV xss at_) gen at_)))::scanL xss gen f (at_+beginsN (ldV xss at_) gen at_) else []
def scanU (xss:List (List Int)) (gen:Int):Nat→Nat→Nat
 | 0,at_=>at_
 | f+1,at_=>if standE (ldV xss) (ldE xss) gen at_=0 then scanU xss gen f (at_+beginsN (ldV xss at_) gen at_) else at_
end
section
variable {xss:List (List Int)} {gen:Int} {at_:Nat}
theorem ldE_zero {i:Nat}:ldE xss i=0↔i<xss.length:=by
 unfold ldE
 split
 ·exact ⟨fun _=>by assumption,fun _=>rfl⟩
 ·exact ⟨(fun h=>by cases h),fun h=>absurd h (by assumption)⟩
theorem stand_in (h:standE (ldV xss) (ldE xss) gen at_=0):1≤beginsN (ldV xss at_) gen at_∧at_+beginsN (ldV xss at_) gen at_≤xss.length:=by
 by_cases h1:ldE xss at_=0
 ·by_cases h2:beginsN (ldV xss at_) gen at_=0
  ·have:=(stand_none (V:=ldV xss) h1 h2).1; omega
  ·refine ⟨by omega,?_⟩
   by_cases h3:at_+beginsN (ldV xss at_) gen at_≤xss.length
   ·exact h3
   ·have h4:=ldE_zero.1 h1
    have h5:=(stand_bad (V:=ldV xss) (E:=ldE xss) (gen:=gen) (at_:=at_) (k:=xss.length-at_) h1 (by omega) (by omega) (fun q h5 h6=>ldE_zero.2 (by omega)) (fun h7=>by have:=ldE_zero.1 h7; omega)).1
    rw[h] at h5
    have h6:=ldE_zero.1 h5.symm
    omega
 ·have:=(stand_err (V:=ldV xss) (gen:=gen) h1).1
  omega
theorem scanU_end {f:Nat} (h:standE (ldV xss) (ldE xss) gen at_≠0):scanU xss gen f at_=at_:=by
 cases f with
 | zero=>rfl
 | succ f=>unfold scanU; rw[if_neg h]
theorem scanL_end {f:Nat} (h:standE (ldV xss) (ldE xss) gen at_≠0):scanL xss gen f at_=[]:=by
 cases f with
 | zero=>rfl
 | succ f=>unfold scanL; rw[if_neg h]
end
end
section
section
variable {xss:List (List Int)} {gen:Int} {at_ k:Nat}
theorem stand_not (h:beginsN (ldV xss at_) gen at_=0):standE (ldV xss) (ldE xss) gen at_≠0:=fun h2=>by
 have:=(stand_in h2).1
 omega
end
end
section
def Laid (V:Nat→List Int) (gen:Int):Nat→List (Nat × List Int)→Nat→Prop
 | c,[],e=>c=e
 | c,p::rs,e=>p.1=c∧RecOk p.2∧(∀ j,j<cntOf p.2.length→V (c+j)=packL gen ((c:Int)+j) (partOf p.2 j))∧Laid V gen (c+cntOf p.2.length) rs e
section
variable {V W:Nat→List Int} {gen:Int}
theorem Laid.le:∀ {rs:List (Nat × List Int)} {c e:Nat},Laid V gen c rs e→c≤e
 | [],_,_,h=>Nat.le_of_eq h
 | p::rs,c,e,⟨_,_,_,h⟩=>nT (Nat.le_add_right _ _) h.le
theorem Laid.ext:∀ {rs:List (Nat × List Int)} {c e:Nat},Laid V gen c rs e→(∀ j,c≤j→j<e→W j=V j)→Laid W gen c rs e
 | [],_,_,h,_=>h
 | p::rs,c,e,⟨h1,h2,h3,h4⟩,hw=>⟨h1,h2,fun j hj=>by
  have:=h4.le
  rw[hw (c+j) (by omega) (by omega)]
  exact h3 j hj,h4.ext (fun j h5 h6=>hw j (by omega) h6)⟩
theorem Laid.snoc:∀ {rs:List (Nat × List Int)} {c e:Nat} {bs:List Int},Laid V gen c rs e→RecOk bs→(∀ j,j<cntOf bs.length→V (e+j)=packL gen ((e:Int)+j) (partOf bs j))→Laid V gen c (rs++[(e,bs)]) (e+cntOf bs.length)
 | [],c,e,bs,h,hr,hv=>by
  have h:c=e:=h
  subst h
  exact ⟨rfl,hr,hv,rfl⟩
 | p::rs,c,e,bs,⟨h1,h2,h3,h4⟩,hr,hv=>⟨h1,h2,h3,h4.snoc hr hv⟩
theorem Laid.mem:∀ {rs:List (Nat × List Int)} {c e:Nat} {p:Nat × List Int},Laid V gen c rs e→p∈rs→RecOk p.2∧c≤p.1∧p.1+cntOf p.2.length≤e∧∀ j,j<cntOf p.2.length→V (p.1+j)=packL gen ((p.1:Int)+j) (partOf p.2 j)
 | q :: rs, c, e, p, ⟨h1, h2, h3, h4⟩, hp => by
  rcases List.mem_cons.1 hp with rfl | hp
  ·have:=h4.le
   subst h1
   exact ⟨h2,nR _,this,h3⟩
  ·obtain ⟨g1,g2,g3,g4⟩:=h4.mem hp
   exact ⟨g1,by omega,g3,g4⟩
theorem cnt_pos (n:Nat):1≤cntOf n:=by unfold cntOf; omega
theorem scan_laid {xss:List (List Int)} (hg:1≤gen∧gen≤18446744073709551615) (hx:xss.length≤80000):∀ {rs:List (Nat × List Int)} {c e f:Nat},Laid (ldV xss) gen c rs e→e≤xss.length→standE (ldV xss) (ldE xss) gen e≠0→xss.length≤c+f→scanL xss gen f c=rs∧scanU xss gen f c=e
 | [],c,e,f,h,_,hn,_=>by
  have h:c=e:=h
  subst h
  exact ⟨scanL_end hn,scanU_end hn⟩
 | p::rs,c,e,f,⟨h1,h2,h3,h4⟩,he,hn,hf=>by
  have hle:=h4.le
  have hc:=cnt_pos p.2.length
  obtain ⟨g1,g2,g3⟩:=rec_stands (E:=ldE xss) (at_:=c) h2 h3 (fun j hj=>ldE_zero.2 (by omega)) hg (by omega)
  obtain ⟨f',rfl⟩:∃ f',f=f'+1:=⟨f-1,by omega⟩
  have ih:=scan_laid hg hx h4 he hn (f:=f') (by omega)
  rw[scanL,scanU,if_pos g1,if_pos g1,g2,g3,ih.1,ih.2]
  obtain ⟨p1,p2⟩:=p
  have h1:p1=c:=h1
  subst h1
  exact ⟨rfl,rfl⟩
end
end
section
structure HistR (k:Dk) (s:Sup) (xs:List Seg) (rs:Nat→List (Nat × List Int)):Prop where
 hdr:∀ i,i<xs.length→stG xs i≠0→strV k s i 0=hdrL i (genG xs i)
 laid:∀ i,i<xs.length→stG xs i≠0→∃ e:Nat,usedG xs i=e∧Laid (strV k s i) (genG xs i) 1 (rs i) e
 tail:∀ i,i<xs.length→stG xs i≠0→∀ j:Nat,usedG xs i≤j→(j:Int)<s.b→beginsN (strV k s i j) (genG xs i) j=0
 old:∀ i j:Nat,i<xs.length→(j:Int)<s.b→stamped (strV k s i j)=true→genOf (strV k s i j)≤s.g
section
variable {k k':Dk} {s:Sup} {xs:List Seg} {rs:Nat→List (Nat × List Int)}
theorem HistR.held (h:HistR k s xs rs) (hk:k'.held=k.held):HistR k' s xs rs:=by
 have e:∀ i j,strV k' s i j=strV k s i j:=fun i j=>strV_held hk j
 have e2:∀ i,strV k' s i=strV k s i:=fun i=>funext (e i)
 exact ⟨fun i h1 h2=>by rw[e]; exact h.hdr i h1 h2,fun i h1 h2=>by rw[e2]; exact h.laid i h1 h2,fun i h1 h2 j h3 h4=>by rw[e]; exact h.tail i h1 h2 j h3 h4,fun i j h1 h2 h3=>by rw[e] at h3 ⊢; exact h.old i j h1 h2 h3⟩
theorem begins_other {ys:List Int} {g:Int} {at_:Int} (h:stamped ys=true→genOf ys<g):beginsN ys g at_=0:=by
 unfold beginsN
 rw[if_neg (fun h2=>by have:=h h2.1; omega)]
theorem st_set9 {xs:List Seg} {i j:Nat} {x:Seg} (hi:i<xs.length):stG (xs.set i x) j=if i=j then x.1 else stG xs j:=by
 unfold stG
 by_cases e:i=j
 ·subst e; simp[List.getD,hi]
 ·simp[List.getD,List.getElem?_set_ne e,e]
theorem part_le9 (bs:List Int) (j:Nat):(partOf bs j).length≤48:=by
 unfold partOf
 simp
 omega
theorem HistR.lay {n:Nat} (h:HistR k s xs rs) (hg:Good k) (hok:OkR s.b xs) (htop:topG xs≤s.g) (hgm:s.g≤18446744073709551615) (hn:k.held.length=n) (hroom:2+s.a*s.b≤(n:Int)) (hdim:(xs.length:Int)=s.a) {i u:Nat} (ho:opnR xs=(i:Nat)) (hu:usedG xs i=u) {bs2:List Int} (hr:RecOk bs2) (hfit:((cntOf bs2.length:Nat):Int)≤leftR s.b xs) (hgt:genG xs i≤topG xs) :
 HistR (layK k s xs i bs2) s (useX xs ((cntOf bs2.length:Nat):Int)) (fun q=>if q=i then rs i++[(u,bs2)] else rs q):=by
 obtain ⟨o1,o2,o3,o4,o5,o6⟩:=opn_bounds hok ho
 have hE:=use_zero hok (n:=((cntOf bs2.length:Nat):Int)) (by omega) (by omega) hfit
 obtain ⟨i2,u1,u2,u3,u4,u5,u6,u7,u8,u9,u10,u11⟩:=use_facts hE
 obtain rfl:i2=i:=by omega
 have hc2:1≤cntOf bs2.length:=cnt_pos _
 obtain ⟨b,hb⟩:∃ b:Nat,s.b=b:=⟨s.b.toNat,by have hz:=hok.1; unfold SizedR at hz; omega⟩
 have hroomN:2+xs.length*b≤n:=by
  rw[← hdim,hb] at hroom
  have:((xs.length*b:Nat):Int)=(xs.length:Int)*(b:Int):=by push_cast; rfl
  omega
 have hV:=fun seg j hj=>lay_V (seg:=seg) (j:=j) (bs:=bs2) hg (a:=xs.length) (b:=b) (u:=u) (i:=i2) hdim.symm hb hu hn hroomN u1 (by omega) hj
 have hu1:1≤u:=by omega
 have hg1:1≤genG xs i2:=by omega
 have hsti:stG xs i2≠0:=by rw[o6]; decide
 have hst:∀ q,stG (useX xs ((cntOf bs2.length:Nat):Int)) q≠0→stG xs q≠0:=fun q hq=>by
  rw[u10,st_set9 u1] at hq
  by_cases e:i2=q
  ·subst e; exact hsti
  ·rw[if_neg e] at hq; exact hq
 have hgen:∀ j,genG (useX xs ((cntOf bs2.length:Nat):Int)) j=genG xs j:=fun j=>by
  rw[u10,gen_set u1]
  by_cases e:i2=j
  ·subst e; rw[if_pos rfl]
  ·rw[if_neg e]
 have hus:∀ j,usedG (useX xs ((cntOf bs2.length:Nat):Int)) j=if i2=j then usedG xs i2+cntOf bs2.length else usedG xs j:=fun j=>by
  rw[u10,used_set9 u1]
 refine ⟨fun q h1 h2=>?_,fun q h1 h2=>?_,fun q h1 h2 j h3 h4=>?_,fun q j h1 h2 h3=>?_⟩
 ·rw[hV q 0 (by omega),if_neg (by omega),hgen]
  exact h.hdr q (by omega) (hst q h2)
 ·obtain ⟨e,e1,e2⟩:=h.laid q (by omega) (hst q h2)
  rw[hgen,hus]
  by_cases eq:i2=q
  ·subst eq
   rw[if_pos rfl,if_pos rfl]
   obtain rfl:e=u:=by omega
   refine ⟨e+cntOf bs2.length,by rw[hu]; push_cast; rfl,Laid.snoc (e2.ext fun j h3 h4=>?_) hr (fun j hj=>?_)⟩
   ·rw[hV i2 j (by omega),if_neg (by omega)]
   ·rw[hV i2 (e+j) (by omega),if_pos ⟨rfl,by omega,by omega⟩,show e+j-e=j by omega]
    push_cast
    rfl
  ·rw[if_neg eq,if_neg (fun e3=>eq e3.symm)]
   have hub:=used_le hok (show q<xs.length by omega)
   refine ⟨e,e1,e2.ext fun j h3 h4=>?_⟩
   rw[hV q j (by omega),if_neg (fun h5=>eq h5.1.symm)]
 ·rw[hus] at h3
  rw[hgen,hV q j (by omega)]
  by_cases eq:i2=q
  ·subst eq
   rw[if_pos rfl] at h3
   rw[if_neg (by omega)]
   exact h.tail i2 (by omega) hsti j (by omega) (by omega)
  ·rw[if_neg eq] at h3
   rw[if_neg (fun h5=>eq h5.1.symm)]
   exact h.tail q (by omega) (hst q h2) j h3 (by omega)
 ·rw[hV q j (by omega)] at h3 ⊢
  by_cases e:q=i2∧u≤j∧j<u+cntOf bs2.length
  ·rw[if_pos e]
   rw[(pack_said (genG xs i2) (j:Int) (partOf bs2 (j-u)) (by omega) (by omega) (by omega) (by have:=used_le hok (show i2<xs.length from u1); omega) (part_le9 _ _)).1]
   omega
  ·rw[if_neg e] at h3 ⊢
   exact h.old q j (by omega) h2 h3
theorem HistR.beg {n:Nat} (h:HistR k s xs rs) (hg:Good k) (hok:OkR s.b xs) (hg0:0≤s.g) (hgm:s.g+1≤18446744073709551615) (hn:k.held.length=n) (hroom:2+s.a*s.b≤(n:Int)) (hdim:(xs.length:Int)=s.a) (t:Int) {i:Nat} (hi:nxtR xs=(i:Nat)) (hE:openE s.b (sealedX s.b xs) (s.g+1)=0) :
 HistR (begK k s t i) (genS s) (openX (sealedX s.b xs) (s.g+1)) (fun q=>if q=i then [] else rs q):=by
 have hz:sealedX s.b xs=if sealE s.b xs=0 then sealX xs else xs:=rfl
 obtain ⟨z1,z2,z3,z4,z5,z6,z7⟩:=seal_facts hok hz
 obtain ⟨j,j1,j2,j3,j4,j5,j6,j7,j8,j9,j10,j11⟩:=open_facts hE
 obtain rfl:j=i:=by omega
 obtain ⟨b,hb⟩:∃ b:Nat,s.b=b:=⟨s.b.toNat,by have hz:=hok.1; unfold SizedR at hz; omega⟩
 have hb24:24≤b:=by have hz:=hok.1; unfold SizedR at hz; omega
 have hV:=fun seg q hq hq1=>beg_V (k:=k) (s:=s) (i:=j) hg hb t seg q hq hq1
 have hV0:strV (begK k s t j) (genS s) j 0=hdrL j (s.g+1):=by
  have hp2:(2+(j:Int)*s.b+((0:Nat):Int)).toNat=(2+(j:Int)*s.b).toNat:=by simp
  have hp1:(2+(j:Int)*s.b).toNat=2+(j*b+0):=by
   rw[hb]
   have h9:=pos_nat j b 0
   simpa using h9
  have hroomN:2+xs.length*b≤n:=by
   rw[← hdim,hb] at hroom
   have:((xs.length*b:Nat):Int)=(xs.length:Int)*(b:Int):=by push_cast; rfl
   omega
  have hin:=pos_in (p:=j) (i:=1) (b:=b) (a:=xs.length) (n:=n) (by omega) (by omega) hroomN
  unfold strV
  rw[if_pos (show ((0:Nat):Int)<(genS s).b by show ((0:Nat):Int)<s.b; omega)]
  show (begK k s t j).held.getD (2+(j:Int)*s.b+((0:Nat):Int)).toNat []=_
  rw[hp2,hp1]
  unfold begK setK
  rw[((hg.put _ _).sync.put _ _).held_sync,(hg.put _ _).sync.held_put,(hg.put _ _).held_sync,hg.held_put,hp1]
  simp only[List.getD]
  rw[List.getElem?_set_self (by rw[List.length_set,hn]; omega)]
  rfl
 have hst:∀ q,q≠j→stG (openX (sealedX s.b xs) (s.g+1)) q≠0→stG xs q≠0:=fun q hq h0 h1=>h0 (by
  rw[j11,st_set9 j1,if_neg (Ne.symm hq)]
  exact (z7 q).1.2 h1)
 have hgen:∀ q,q≠j→genG (openX (sealedX s.b xs) (s.g+1)) q=genG xs q:=fun q hq=>by
  rw[j11,gen_set j1,if_neg (Ne.symm hq)]; exact (z7 q).2.1
 have hus:∀ q,q≠j→usedG (openX (sealedX s.b xs) (s.g+1)) q=usedG xs q:=fun q hq=>by
  rw[j11,used_set9 j1,if_neg (Ne.symm hq)]; exact (z7 q).2.2
 refine ⟨fun q h1 h2=>?_,fun q h1 h2=>?_,fun q h1 h2 p h3 h4=>?_,fun q p h1 h2 h3=>?_⟩
 ·by_cases e:q=j
  ·subst e; rw[hV0,j7]
  ·rw[hV q 0 (by omega) (.inr e),hgen q e]
   exact h.hdr q (by omega) (hst q e h2)
 ·by_cases e:q=j
  ·subst e
   exact ⟨1,j8,by rw[if_pos rfl]; rfl⟩
  ·obtain ⟨e1,e2,e3⟩:=h.laid q (by omega) (hst q e h2)
   rw[hgen q e,hus q e,if_neg e]
   have hub:=used_le hok (show q<xs.length by omega)
   have he:=e3.le
   exact ⟨e1,e2,e3.ext fun p h3 h4=>hV q p (by omega) (.inr e)⟩
 ·have h4':(p:Int)<s.b:=h4
  by_cases e:q=j
  ·subst e
   rw[j8] at h3
   rw[hV q p (by omega) (.inl (by omega)),j7]
   exact begins_other fun h5=>by have:=h.old q p (by omega) h4' h5; omega
  ·rw[hus q e] at h3
   rw[hgen q e,hV q p (by omega) (.inr e)]
   exact h.tail q (by omega) (hst q e h2) p h3 h4'
 ·have h2':(p:Int)<s.b:=h2
  show _≤s.g+1
  by_cases e:q=j∧p=0
  ·obtain ⟨rfl,rfl⟩:=e
   rw[hV0]
   have:=(pack_said (s.g+1) 0 [(q:Int) / 256,(q:Int)] (by omega) hgm (by omega) (by omega) (by simp)).1
   unfold hdrL
   omega
  ·have e1:strV (begK k s t j) (genS s) q p=strV k s q p:=hV q p (by omega) (by omega)
   rw[e1] at h3 ⊢
   have:=h.old q p (by omega) h2' h3
   omega
end
end
section
attribute [local go_sem] Oper.semAt_some
abbrev zeroS9:Array Value:=#[.int .u64 0,.int .i64 0,.slice none 0 0]
theorem size_scan:(Tryz.prog.info? 42).map (·.size)=some 3:=by kernel_rfl
theorem one_zeroS9:zeroS9.all (·.oneCell')=true:=by simp[zeroS9,Value.oneCell']
end
section
attribute [local go_sem] Oper.semAt_some
structure Tl where
 at_:Nat
 bs:List Int
 b1:Nat
 b2:Nat
def Tl.two (t:Tl):Nat × List Int:=(t.at_,t.bs)
def plV (seg:Nat) (gen:Int) (t:Tl):PlM.Pl:=⟨(seg:Int),gen,(t.at_:Int),kindOf t.bs,flagsOf t.bs,expOf t.bs,seqOf t.bs,some ⟨t.b1,0,none⟩,klenOf t.bs,klenOf t.bs,some ⟨t.b2,0,none⟩,vlenOf t.bs,vlenOf t.bs⟩
abbrev scanC (g u:Int) (v:Value):Array Value:=#[.int .u64 g,.int .i64 u,v]
theorem size_pl9:(Tryz.prog.info? 40).map (·.size)=some 9:=by kernel_rfl
theorem size_adr9:(Tryz.prog.info? 35).map (·.size)=some 3:=by kernel_rfl
def sect9 (w:World) (g:Nat):Nat:=match w.cell? ⟨g,1,none⟩ with
 | some (.int _ i)=>i.toNat
 | _=>0
theorem sect9_eq {w:World} {g:Nat} {x v:Value} {a:Nat} (h:Blk w g 42 #[x,.int .i64 a,v]):sect9 w g=a:=by
 unfold sect9
 rw[show w.cell? ⟨g,1,none⟩=some (.int .i64 a) from h.cell 1]
 rfl
structure ToldS (w:World) (m:Nat) (seg:Nat) (gen:Int) (A:Option Addr) (c:Nat) (ts:List Tl):Prop where
 row:PlM.RowE w (fun b=>m≤b∧b<w.heap.size) A ts.length (ts.map (plV seg gen))
 cap:ts.length≤c
 nil:A=none→c=0
 ent:∀ t,t∈ts→m≤t.b1∧m≤t.b2∧ArrU w t.b1 (keyOf t.bs)∧ArrU w t.b2 (valOf t.bs)
def ScanX (w:World) (X:Nat→Prop) (p d n:Nat) (s:Sup) (t:Int) (k:Dk) (seg:Nat) (xss:List (List Int)) (e:Ending) (w':World):Prop :=
 ∃ k' A c ts gen used m,e=.returned (.tuple #[.agg (scanC gen used (.slice A ts.length c)),.int .i64 0])∧w.heap.size≤m∧StoS w' (fun b=>X b∨(m≤b∧b<w'.heap.size)) p d n s t k'∧Good k'∧k'.held=k.held∧k'.pend=k.pend∧Kept X w w' ∧
  gen=begunG (ldV xss 0) seg∧(gen=0→used=0∧ts=[]) ∧
  (gen≠0→used=(scanU xss gen xss.length 1:Nat)∧ts.map Tl.two=scanL xss gen xss.length 1)∧ToldS w' m seg gen A c ts
def ScanT (w:World) (X:Nat→Prop) (p d n:Nat) (s:Sup) (t:Int) (k:Dk) (seg:Nat):Ending→World→Prop:=ScanX w X p d n s t k seg (secsAt (strV k s seg) 0 s.b.toNat)
section
variable {w:World} {X:Nat→Prop} {p d n:Nat} {s:Sup} {t:Int} {k:Dk}
theorem scan_good (h:StoS w X p d n s t k) (hX:∀ b,X b→b<w.heap.size) (hma:s.May) (hg:Good k) (hok:k.Ok n) (seg:Nat) (hseg:(seg:Int)<s.a) (hroom:2+s.a*s.b≤(n:Int)) (hn:n≤2048) :
 Calls Tryz.prog 10 #[.pointer (some ⟨p,0,none⟩),.int .i64 seg] w (ScanT w X p d n s t k seg):=by
 have hs16:s.a≤16∧24≤s.b∧s.b≤64:=by have:=hma; unfold Sup.May MayS at this; omega
 obtain ⟨cn,hcn⟩:∃ cn:Nat,s.b=cn:=⟨s.b.toNat,by omega⟩
 have HCN:=hI hcn
 have hcn2:24≤cn∧cn≤64:=by omega
 clear hcn
 obtain ⟨w1,hw1⟩:∃ w1,w1=w.alloc (.cells zeroS9 42):=⟨_,rfl⟩
 have hb1:Below w.heap.size w w1:=by rw[hw1]; exact (Below.refl _ _).alloc (nR _) _
 have HR1:=hI (show Blk w1 w.heap.size 42 zeroS9 by rw[hw1]; exact Blk.new w _ _)
 have HS1:=hI (show StoS w1 (fun b=>X b∨(w.heap.size≤b∧b<w1.heap.size)) p d n s t k from StoreM.grow h hb1)
 have HB1:=hI hb1
 have HW1:=hI hw1
 have HX:=hI hX
 have HMA:=hI hma
 have HG:=hI hg
 have HOK:=hI hok
 clear hw1 hb1 h hX hma hg hok
 go_enter Tryz.func10,Tryz.ntmps10
 go_wp2_with fail
 go_step3
 rw[← HW1.out]
 go_wp2_with fail
 refine (sto_base HS1.out seg hseg hs16.1 (by omega)).mono ?_
 rintro e w2 ⟨rfl,rfl⟩
 go_wp2_with fail
 refine (stored_any HS1.out (fun b hb=>hb.elim (fun h=>nL (HX.out b h) HB1.out.size) (fun h=>h.2)) seg).mono ?_
 rintro e w3 ⟨⟨gx,gi,rfl,hsm⟩,hb3⟩
 have HSM:=hI hsm
 have HB3:=hI hb3
 clear hsm hb3
 go_wp2_with fail
 refine (get_any HSM.out.sto).mono ?_
 rintro e w4 ⟨rfl,hb4⟩
 have HSM:=hI (HSM.out.grow hb4)
 have HB4:=hI hb4
 clear hb4
 have hfld:=run_field1 s.a s.b s.g s.r s.v s.f w4
 go_wp2_with fail
 clear hfld
 rw[HCN.out]
 have HHC:=hI (stored_held (p:=p) (d:=d) (t:=t) (X0:=fun b=>((X b∨(w.heap.size≤b∧b<w2.heap.size))∨(w2.heap.size≤b∧b<w3.heap.size))∨(w3.heap.size≤b∧b<w4.heap.size)) HMA.out hseg hroom hn HOK.out w4.heap.size HSM.out.xx HSM.out.xi ⟨HSM.out.bx.lt,HSM.out.bi.lt⟩)
 refine (loaded_stored _ _ HHC.out ⟨HSM.out,HG.out,rfl,rfl⟩ cn (by omega)).mono ?_
 rintro e w5 (⟨gl,gr,rfl,hE,hld,hr,hk,hgl,hgr⟩ | ⟨j,hj,_,hne,_⟩)
 rotate_left
 ·exfalso
  unfold strE at hne
  rw[if_pos (by have:=HCN.out; omega)] at hne
  exact hne rfl
 have hbw4:Below w.heap.size w w4:=HB1.out.trans ((HB3.out.mono HB1.out.size).trans (HB4.out.mono (nT HB1.out.size HB3.out.size)))
 have HBW4:=hI hbw4
 have HK5:=hI (show Kept X w w5 from (Kept.of_below hbw4 HX.out).trans hk (fun b hb=>.inl (.inl (.inl hb))))
 have HR5:=hI (show Blk w5 w.heap.size 42 zeroS9 from ((HR1.out.below HB3.out HR1.out.lt).below HB4.out (nL HR1.out.lt HB3.out.size)).kept hk (.inl (.inl (.inr ⟨nR _,HR1.out.lt⟩))))
 have HS5:=hI (show StoS w5 (fun b=>X b∨b=w.heap.size) p d n s t _ from StoreM.kept (Z:=fun _=>True) hr.1.sto (Kept.refl _ _) (fun _ _ _=>trivial) (fun b _ hb=>hb.elim (fun h=>.inl (.inl (.inl h))) (fun h=>.inl (.inl (.inr (by rw[h]; exact ⟨nR _,HR1.out.lt⟩))))))
 have HG5:=hI hr.2
 have HLA5:=hI (show LdAll w5 gl gr cn (secsAt (strV k s seg) 0 cn) from by
  obtain ⟨b,off,e1,h2,h3⟩:=hld.row.2 (by omega)
  injection e1 with e1
  injection e1 with e2 e3
  subst e2 e3
  exact ⟨hld.v,⟨hld.row.1,fun _=>⟨gr,0,rfl,rfl,h3⟩⟩,h2.1,secsAt_length _ _ _,secsAt_secs HHC.out.len _ _,secsAt_bytes HHC.out.byt _ _,by omega⟩)
 have HSZ5:=hI (show w.heap.size≤w5.heap.size∧w.heap.size<w5.heap.size from ⟨HK5.out.size,HR5.out.lt⟩)
 clear hE hld hr hk hgl hgr hbw4 HR1 HSM HHC HB1 HB3 HB4 HW1
 obtain ⟨xss,hxss⟩:∃ xss,secsAt (strV k s seg) 0 cn=xss:=⟨_,rfl⟩
 have HT:=hI (show ∀ e w',ScanX w X p d n s t k seg xss e w'→ScanT w X p d n s t k seg e w' from fun e w' h=>by
  unfold ScanT
  rw[show s.b.toNat=cn from by rw[HCN.out]; rfl,hxss]
  exact h)
 rw[hxss] at HLA5
 clear hxss
 generalize stR (fun k i=>strK k s i) k 0 cn=k5 at *
 obtain ⟨w6,hw6⟩:∃ w6,w6=w5.alloc (.cells zeroS9 42):=⟨_,rfl⟩
 have hb6:Below w5.heap.size w5 w6:=by rw[hw6]; exact (Below.refl _ _).alloc (nR _) _
 have HO6:=hI (show Blk w6 w5.heap.size 42 zeroS9 by rw[hw6]; exact Blk.new w5 _ _)
 have HB6:=hI hb6
 have HLA6:=hI (HLA5.out.below hb6)
 have HW6:=hI hw6
 clear hw6 hb6
 go_upto_region 8 with fail
 rw[← HW6.out]
 go_wp2_with fail
 refine (begun_all HLA6.out seg (by omega)).mono ?_
 rintro e w7 ⟨rfl,hb7⟩
 have HO7:=hI (HO6.out.below hb7 HO6.out.lt)
 have HLA7:=hI (HLA6.out.below hb7)
 have HB7:=hI (HB6.out.trans (hb7.mono HB6.out.size))
 clear hb7 HO6 HLA6 HB6
 obtain ⟨gen,hgen⟩:∃ gen,begunG (ldV xss 0) seg=gen:=⟨_,rfl⟩
 rw[hgen]
 have HGEN:=hI hgen.symm
 clear hgen
 obtain ⟨ob,hob⟩:∃ ob,w5.heap.size=ob:=⟨_,rfl⟩
 rw[hob] at HO7
 rw[hob]
 have HOB:=hI hob
 clear hob
 have o0:w7.cell? ⟨ob,0,none⟩=some (.int .u64 0):=HO7.out.cell 0
 have f0:=HO7.out.frozen 0
 obtain ⟨w8,hw8⟩:∃ w8,w8=w7.setCell ⟨ob,0,none⟩ (.int .u64 gen):=⟨_,rfl⟩
 have HO8:=hI (show Blk w8 ob 42 (scanC gen 0 (.slice none 0 0)) by rw[hw8]; exact HO7.out.set_ 0 (.int .u64 gen))
 have HB8:=hI (show Below w5.heap.size w5 w8 by rw[hw8]; exact HB7.out.setCell (p:=⟨ob,0,none⟩) (by have:=HOB.out; show w5.heap.size≤ob; omega) (.int .u64 gen))
 have HLA8:=hI (HLA5.out.below HB8.out)
 have HW8:=hI hw8.symm
 clear hw8 HLA7 HB7
 go_upto_region 9 with fail
 rw[HW8.out]
 clear o0 f0 HO7 HW8
 have HR8:=hI (HR5.out.below HB8.out HR5.out.lt)
 have HFIN:=hI (show ∀ (W:World) (c6:Array Value),Below w5.heap.size w5 W→∃ k',StoS (W.setRow w.heap.size c6) (fun b=>X b∨(w5.heap.size≤b∧b<(W.setRow w.heap.size c6).heap.size)) p d n s t k'∧Good k'∧(k'.held=k.held∧k'.pend=k.pend)∧Kept X w (W.setRow w.heap.size c6) from fun W c6 hW=>by
  have hkr:Kept (fun b=>b≠w.heap.size) W (W.setRow w.heap.size c6):=(Kept.refl _ W).setRow (fun h=>h rfl) c6
  refine ⟨k5,?_,HG5.out.1,HG5.out.2,(HK5.out.trans (Kept.of_below (S:=X) hW (fun b h=>by have:=HX.out b h; have:=HSZ5.out; omega)) (fun b h=>h)).trans hkr (fun b h=>by have:=HX.out b h; omega)⟩
  have h1:=StoreM.grow HS5.out hW
  refine StoreM.kept (Z:=fun b=>b≠w.heap.size) h1 hkr (fun b hb hx e=>hx (.inl (.inr e))) (fun b hb hx=>?_)
  rcases hx with hx | hx
  ·exact .inl (.inl hx)
  ·exact .inr ⟨hx.1,hb⟩)
 by_cases hg0:gen=0
 ·subst hg0
  have o0:w8.cell? ⟨ob,0,none⟩=some (.int .u64 0):=HO8.out.cell 0
  go_wp2_with (first | (with_reducible refine halt_end ?_) | (refine wpList_load_rowB (.tmp 10) 42 rfl rfl ob rfl 42 (scanC 0 0 (.slice none 0 0)).toList _ Tryz.underlying42 rfl size_scan HO8.out ?_) | (refine wpList_store_rowB (.tmp 4) (.tmp 46) 42 rfl rfl w.heap.size zeroS9 rfl rfl 42 _ HR8.out size_scan rfl one_zeroS9 ?_))
  rw[Exit.noGoto_ret]
  obtain ⟨k',g1,g2,g3,g4⟩:=HFIN.out w8 zeroS9 HB8.out
  exact bodyPost_ret (results_row2 rfl _ _ w.heap.size 42 zeroS9 _ rfl (setRow_heap _ _ _ zeroS9 _ _ HR8.out) Tryz.underlying42 rfl size_scan) rfl (HT.out _ _ ⟨k',none,0,[],0,0,_,rfl,HSZ5.out.1,g1,g2,g3.1,g3.2,g4,HGEN.out,fun _=>⟨rfl,rfl⟩,fun h=>absurd rfl h,⟨⟨rfl,fun h=>absurd h (by simp)⟩,nR _,fun _=>rfl,fun t ht=>by simp at ht⟩⟩)
 ·have hg0b:(gen==0)=false:=by simpa using hg0
  have o0:w8.cell? ⟨ob,0,none⟩=some (.int .u64 gen):=HO8.out.cell 0
  have o1:w8.cell? ⟨ob,1,none⟩=some (.int .i64 0):=HO8.out.cell 1
  have f1:=HO8.out.frozen 1
  obtain ⟨w9,hw9⟩:∃ w9,w9=w8.setCell ⟨ob,1,none⟩ (.int .i64 1):=⟨_,rfl⟩
  have HO9:=hI (show Blk w9 ob 42 (scanC gen 1 (.slice none 0 0)) by rw[hw9]; exact HO8.out.set_ 1 (.int .i64 1))
  have HB9:=hI (show Below w5.heap.size w5 w9 by rw[hw9]; exact HB8.out.setCell (p:=⟨ob,1,none⟩) (by have:=HOB.out; show w5.heap.size≤ob; omega) (.int .i64 1))
  have HW9:=hI hw9.symm
  clear hw9
  go_wp2_with fail
  rw[HW9.out]
  clear o0 o1 f1 HO8 HB8 HLA8 HR8 HW9 hg0b
  have HLN:=hI HLA5.out.len
  go_step3
  go_wp2_with fail
  go_loopw [48] (fun _ W=>∃ (at_ f:Nat) (v:Value) (ts:List Tl),Blk W ob 42 (scanC gen at_ v)∧W.ownsRow w5.heap.size 40 9 v ts.length (PlM.flatG (ts.map (plV seg gen)))∧Below w5.heap.size w5 W ∧
   (ts.map Tl.two++scanL xss gen f at_=scanL xss gen xss.length 1∧scanU xss gen f at_=scanU xss gen xss.length 1)∧(1≤at_∧at_≤xss.length∧xss.length≤at_+f∧ts.length≤at_) ∧
   ∀ t,t∈ts→w5.heap.size≤t.b1∧w5.heap.size≤t.b2∧ArrU W t.b1 (keyOf t.bs)∧ArrU W t.b2 (valOf t.bs)) (fun _ W=>cn-sect9 W ob)
  case atStart=>exact ⟨1,xss.length,_,[],HO9.out,⟨rfl,.inl ⟨rfl,rfl⟩⟩,HB9.out,⟨rfl,rfl⟩,by have:=HLN.out; simp only[List.length_nil]; omega,fun t ht=>by simp at ht⟩
  case round =>
  clear HO9 HB9
  obtain ⟨at_,f,v,ts,ho,hown,hb,hsc,hin,hent⟩:=hrel
  have HO:=hI ho
  have HOW:=hI hown
  have HB:=hI hb
  have HSC:=hI hsc
  have HIN:=hI hin
  have HEN:=hI hent
  have HAT:=hI (sect9_eq HO.out)
  have hat:=HIN.out
  have hln:=HLN.out
  have HST:=hI (stand_all9 (HLA5.out.below HB.out) gen at_ (by omega))
  have o0:wr.cell? ⟨ob,0,none⟩=some (.int .u64 gen):=HO.out.cell 0
  have o1:wr.cell? ⟨ob,1,none⟩=some (.int .i64 at_):=HO.out.cell 1
  clear ho hown hb hsc hin hent hat hln
  go_wp2_with fail
  refine HST.out.mono ?_
  rintro e w10 ⟨hb10,hst⟩
  clear o0 o1 HST
  rcases hst with ⟨hne,rfl⟩ | ⟨he0,xs,b1,b2,hxs,rfl,hb1,hb2,hbb,ha1,ha2⟩
  ·-- none stands there: what was found is told
   obtain ⟨se,hse⟩:∃ se,standE (ldV xss) (ldE xss) gen at_=se:=⟨_,rfl⟩
   have HSE:=hI hse
   rw[hse] at hne ⊢
   have hneb:(se==0)=false:=by simpa using hne
   have HNE:=hI hne
   clear hse hne
   obtain ⟨w11,hw11⟩:∃ w11,w11=(w10.alloc (.cells zeroC 33)).setRow w10.heap.size zeroC:=⟨_,rfl⟩
   have hb11:Below w10.heap.size w10 w11:=by rw[hw11]; exact below_setRow ((Below.refl _ _).alloc (nR _) _) (nR _) _
   have hb11w:Below wr.heap.size wr w11:=hb10.trans (hb11.mono hb10.size)
   have HO11:=hI (HO.out.below hb11w HO.out.lt)
   have HB11:=hI (HB.out.trans (hb11w.mono HB.out.size))
   have HR11:=hI (HR5.out.below HB11.out HR5.out.lt)
   have HOW11:=hI (own_below HOW.out hb11w)
   have HEN11:=hI (fun t (ht:t∈ts)=>by
    obtain ⟨g1,g2,g3,g4⟩:=HEN.out t ht
    exact (show w5.heap.size≤t.b1∧w5.heap.size≤t.b2∧ArrU w11 t.b1 (keyOf t.bs)∧ArrU w11 t.b2 (valOf t.bs) from ⟨g1,g2,Blk.below g3 hb11w (Blk.lt g3),Blk.below g4 hb11w (Blk.lt g4)⟩))
   have HW11:=hI hw11.symm
   clear hb10 hb11 hb11w hw11
   obtain ⟨A,cap,rfl,hcap,hnil,hrow⟩:=PlM.rowZ_own HOW11.out rfl (by simp)
   have HROW:=hI (And.intro hcap (And.intro hnil hrow))
   clear hcap hnil hrow
   go_wp2_with (first
    | (with_reducible refine halt_end ?_)
    | (refine wpList_store_rowB (.tmp 11) (.tmp 55) 33 rfl rfl w10.heap.size zeroC rfl rfl 33 _ (Blk.new w10 _ _) size_rec rfl one_zero ?_; rw[HW11.out])
    | (refine wpList_load_rowB (.tmp 10) 42 rfl rfl ob rfl 42 (scanC gen at_ (.slice A ts.length cap)).toList _ Tryz.underlying42 rfl size_scan HO11.out ?_)
    | (refine wpList_store_rowB (.tmp 4) (.tmp 80) 42 rfl rfl w.heap.size (scanC gen at_ (.slice A ts.length cap)) rfl rfl 42 _ HR11.out size_scan rfl (by simp[Value.oneCell']) ?_))
   rw[Exit.noGoto_ret]
   obtain ⟨k',g1,g2,g3,g4⟩:=HFIN.out w11 (scanC gen at_ (.slice A ts.length cap)) HB11.out
   have hkr:Kept (fun b=>b≠w.heap.size) w11 (w11.setRow w.heap.size (scanC gen at_ (.slice A ts.length cap))):=(Kept.refl _ _).setRow (fun h=>h rfl) _
   have hszs:w11.heap.size≤(w11.setRow w.heap.size (scanC gen at_ (.slice A ts.length cap))).heap.size:=hkr.size
   have hw5:=HSZ5.out.2
   have hst:standE (ldV xss) (ldE xss) gen at_≠0:=by rw[HSE.out]; exact HNE.out
   refine bodyPost_ret (results_row2 rfl _ _ w.heap.size 42 (scanC gen at_ (.slice A ts.length cap)) _ rfl (setRow_heap _ _ _ _ _ _ HR11.out) Tryz.underlying42 rfl size_scan) rfl (HT.out _ _ ⟨k',A,cap,ts,gen,at_,_,rfl,HSZ5.out.1,g1,g2,g3.1,g3.2,g4,HGEN.out,fun h=>absurd h hg0,fun _=>⟨?_,?_⟩,⟨?_,HROW.out.1,HROW.out.2.1,fun t ht=>?_⟩⟩)
   ·rw[← HSC.out.2,scanU_end hst]
   ·rw[← HSC.out.1,scanL_end hst,List.append_nil]
   ·exact (HROW.out.2.2.kept hkr (fun b hb=>by omega)).more (fun b hb=>⟨hb.1,nL hb.2 hszs⟩)
   ·obtain ⟨g5,g6,g7,g8⟩:=HEN11.out t ht
    exact ⟨g5,g6,Blk.kept g7 hkr (by omega),Blk.kept g8 hkr (by omega)⟩
  ·-- one stands there
   have hin2:=stand_in he0
   obtain ⟨cc,hcc⟩:∃ cc,beginsN (ldV xss at_) gen at_=cc:=⟨_,rfl⟩
   have HE0:=hI he0
   have HCC:=hI hcc
   have HXS:=hI hxs
   rw[hcc] at hin2 ⊢
   have HIN2:=hI hin2
   have HBB:=hI (And.intro hb1 hb2)
   clear hxs hcc he0 hbb
   obtain ⟨w11,hw11⟩:∃ w11,w11=(w10.alloc (.cells zeroC 33)).setRow w10.heap.size (recT9 xs b1 b2):=⟨_,rfl⟩
   have hb11:Below w10.heap.size w10 w11:=by rw[hw11]; exact below_setRow ((Below.refl _ _).alloc (nR _) _) (nR _) _
   have HRC11:=hI (show Blk w11 w10.heap.size 33 (recT9 xs b1 b2) by rw[hw11]; exact setRow_heap _ _ _ _ _ _ (Blk.new w10 _ _))
   have HW11:=hI hw11.symm
   obtain ⟨w12,hw12⟩:∃ w12,w12=w11.alloc (.cells #[.int .i64 (seg:Nat),.int .u64 gen,.int .i64 at_] 35):=⟨_,rfl⟩
   have hb12:Below w11.heap.size w11 w12:=by rw[hw12]; exact (Below.refl _ _).alloc (nR _) _
   have HAD12:=hI (show Blk w12 w11.heap.size 35 #[.int .i64 (seg:Nat),.int .u64 gen,.int .i64 at_] by rw[hw12]; exact Blk.new w11 _ _)
   have HRC12:=hI (HRC11.out.below hb12 HRC11.out.lt)
   have HW12:=hI hw12.symm
   obtain ⟨w13,hw13⟩:∃ w13,w13=w12.alloc (.cells #[.int .i64 (seg:Nat),.int .u64 gen,.int .i64 at_,.int .i64 (kindOf xs),.int .u32 (flagsOf xs),.int .u32 (expOf xs),.int .u64 (seqOf xs),.slice (some ⟨b1,0,none⟩) (klenOf xs) (klenOf xs),.slice (some ⟨b2,0,none⟩) (vlenOf xs) (vlenOf xs)] 40):=⟨_,rfl⟩
   have hb13:Below w12.heap.size w12 w13:=by rw[hw13]; exact (Below.refl _ _).alloc (nR _) _
   have HL13:=hI (show PlM.RowE w13 (fun _=>True) (some ⟨w12.heap.size,0,none⟩) 1 [plV seg gen ⟨at_,xs,b1,b2⟩] from PlM.row_of_flat (X:=[]) (g:=w12.heap.size) (t:=40) (by rw[hw13,List.append_nil,PlM.flatG_one]; exact Blk.new w12 _ _) trivial rfl)
   have HW13:=hI hw13.symm
   have hbr11:Below wr.heap.size wr w11:=hb10.trans (hb11.mono hb10.size)
   have hbr12:Below wr.heap.size wr w12:=hbr11.trans (hb12.mono hbr11.size)
   have hbr13:Below wr.heap.size wr w13:=hbr12.trans (hb13.mono hbr12.size)
   have hb10_13:Below w10.heap.size w10 w13:=hb11.trans ((hb12.mono hb11.size).trans (hb13.mono (nT hb11.size hb12.size)))
   have HO11:=hI (HO.out.below hbr11 HO.out.lt)
   have HO12:=hI (HO.out.below hbr12 HO.out.lt)
   have HO13:=hI (HO.out.below hbr13 HO.out.lt)
   have HB13:=hI (HB.out.trans (hbr13.mono HB.out.size))
   have HOW13:=hI (own_below HOW.out hbr13)
   have HEN13:=hI (show ∀ t,t∈ts++[⟨at_,xs,b1,b2⟩]→w5.heap.size≤t.b1∧w5.heap.size≤t.b2∧ArrU w13 t.b1 (keyOf t.bs)∧ArrU w13 t.b2 (valOf t.bs) from fun t ht=>by
    rcases List.mem_append.1 ht with ht | ht
    ·obtain ⟨g1,g2,g3,g4⟩:=HEN.out t ht
     exact ⟨g1,g2,Blk.below g3 hbr13 (Blk.lt g3),Blk.below g4 hbr13 (Blk.lt g4)⟩
    ·rw[List.mem_singleton.1 ht]
     exact ⟨nT HB.out.size hb1,nT HB.out.size hb2,Blk.below ha1 hb10_13 (Blk.lt ha1),Blk.below ha2 hb10_13 (Blk.lt ha2)⟩)
   have o0:w11.cell? ⟨ob,0,none⟩=some (.int .u64 gen):=HO11.out.cell 0
   have o1:w11.cell? ⟨ob,1,none⟩=some (.int .i64 at_):=HO11.out.cell 1
   have o2:w12.cell? ⟨ob,2,none⟩=some v:=HO12.out.cell 2
   clear hb1 hb2 ha1 ha2 hb10 hb11 hw11 hb12 hw12 hb13 hw13 hbr11 hbr12 hbr13 hb10_13 HOW HEN HO
   go_upto_region 16 with (refine wpList_store_rowB (.tmp 11) (.tmp 55) 33 rfl rfl w10.heap.size (recT9 xs b1 b2) rfl rfl 33 _ (Blk.new w10 _ _) size_rec rfl (one_rec _ _ _ _ _ _ _ _ _ _) ?_; rw[HW11.out])
   rw[HW12.out]
   clear o0 o1
   have HTL:=hI (show ts.length+1≤1000000 by have h1:=HIN.out; have h2:=HLN.out; omega)
   go_upto_region 17 with (first
    | (refine wpList_load_rowB (.tmp 14) 35 rfl rfl w11.heap.size rfl 35 [.int .i64 (seg:Nat),.int .u64 gen,.int .i64 at_] _ Tryz.underlying35 rfl size_adr9 HAD12.out ?_)
    | (refine wpList_load_rowB (.tmp 11) 33 rfl rfl w10.heap.size rfl 33 (recT9 xs b1 b2).toList _ Tryz.underlying33 rfl size_rec HRC12.out ?_)
    | (rw[HW13.out]; refine PlM.wpList_append_rowZ (.tmp 68) (.tmp 72) rfl rfl w5.heap.size v ts.length _ rfl HOW13.out _ _ 1 1 [plV seg gen ⟨at_,xs,b1,b2⟩] rfl HL13.out (fun h=>by cases h) HTL.out HB13.out.size ?_; intro v14 w14 hown hgrow hv14; obtain ⟨A14,c14,rfl⟩:=ownsRow_slice hown; have HO14:=hI (blk_past HO13.out HOW13.out (by decide) hgrow); have q14:w14.cell? ⟨ob,2,none⟩=some v:=HO14.out.cell 2; have f14:=HO14.out.frozen 2))
   clear o2 q14 f14
   have HB14:=hI (below_append HB13.out HOW13.out (nR _) HB13.out.size hgrow)
   have HEN14:=hI (show ∀ t,t∈ts++[⟨at_,xs,b1,b2⟩]→w5.heap.size≤t.b1∧w5.heap.size≤t.b2∧ArrU w14 t.b1 (keyOf t.bs)∧ArrU w14 t.b2 (valOf t.bs) from fun t ht=>by
    obtain ⟨g1,g2,g3,g4⟩:=HEN13.out t ht
    exact ⟨g1,g2,blk_past g3 HOW13.out (by decide) hgrow,blk_past g4 HOW13.out (by decide) hgrow⟩)
   obtain ⟨w15,hw15⟩:∃ w15,w15=w14.setCell ⟨ob,2,none⟩ (.slice A14 (ts.length+1) c14):=⟨_,rfl⟩
   have hk15:Kept (fun b=>b≠ob) w14 w15:=by rw[hw15]; exact (Kept.refl _ _).setCell (p:=⟨ob,2,none⟩) (fun h=>h rfl) _
   have HO15:=hI (show Blk w15 ob 42 (scanC gen at_ (.slice A14 (ts.length+1) c14)) by rw[hw15]; exact HO14.out.set_ 2 (.slice A14 (ts.length+1) c14))
   have HOW15:=hI (show w15.ownsRow w5.heap.size 40 9 (.slice A14 (ts.length+1) c14) (ts.length+1) _ by rw[hw15]; exact own_past hown HO14.out (by decide) 2 (.slice A14 (ts.length+1) c14))
   have HEN15:=hI (show ∀ t,t∈ts++[⟨at_,xs,b1,b2⟩]→w5.heap.size≤t.b1∧w5.heap.size≤t.b2∧ArrU w15 t.b1 (keyOf t.bs)∧ArrU w15 t.b2 (valOf t.bs) from fun t ht=>by
    obtain ⟨g1,g2,g3,g4⟩:=HEN14.out t ht
    have e1:ArrU w14 t.b1 (keyOf t.bs):=g3
    have e2:ArrU w14 t.b2 (valOf t.bs):=g4
    exact ⟨g1,g2,Blk.kept e1 hk15 (Blk.ne_ e1 HO14.out (by decide)),Blk.kept e2 hk15 (Blk.ne_ e2 HO14.out (by decide))⟩)
   have HB15:=hI (show Below w5.heap.size w5 w15 by rw[hw15]; exact HB14.out.setCell (p:=⟨ob,2,none⟩) (by have:=HOB.out; show w5.heap.size≤ob; omega) (.slice A14 (ts.length+1) c14))
   have HW15:=hI hw15.symm
   rw[HW15.out]
   clear hw15 hk15 hown hgrow hv14
   have o1:w15.cell? ⟨ob,1,none⟩=some (.int .i64 at_):=HO15.out.cell 1
   have f1:=HO15.out.frozen 1
   have HO16:=hI (show Blk (w15.setCell ⟨ob,1,none⟩ (.int .i64 ((at_:Int)+cc))) ob 42 (scanC gen ((at_+cc:Nat):Int) (.slice A14 (ts.length+1) c14)) from HO15.out.set_ 1 (.int .i64 ((at_+cc:Nat):Int)))
   have HOW16:=hI (own_past HOW15.out HO15.out (by decide) 1 (.int .i64 ((at_:Int)+cc)))
   have hk16:Kept (fun b=>b≠ob) w15 (w15.setCell ⟨ob,1,none⟩ (.int .i64 ((at_:Int)+cc))):=(Kept.refl _ _).setCell (p:=⟨ob,1,none⟩) (fun h=>h rfl) _
   have HEN16:=hI (show ∀ t,t∈ts++[⟨at_,xs,b1,b2⟩]→w5.heap.size≤t.b1∧w5.heap.size≤t.b2∧ArrU (w15.setCell ⟨ob,1,none⟩ (.int .i64 ((at_:Int)+cc))) t.b1 (keyOf t.bs)∧ArrU (w15.setCell ⟨ob,1,none⟩ (.int .i64 ((at_:Int)+cc))) t.b2 (valOf t.bs) from fun t ht=>by
    obtain ⟨g1,g2,g3,g4⟩:=HEN15.out t ht
    have e1:ArrU w15 t.b1 (keyOf t.bs):=g3
    have e2:ArrU w15 t.b2 (valOf t.bs):=g4
    exact ⟨g1,g2,Blk.kept e1 hk16 (Blk.ne_ e1 HO15.out (by decide)),Blk.kept e2 hk16 (Blk.ne_ e2 HO15.out (by decide))⟩)
   have HB16:=hI (HB15.out.setCell (p:=⟨ob,1,none⟩) (by have:=HOB.out; show w5.heap.size≤ob; omega) (.int .i64 ((at_:Int)+cc)))
   clear hk16
   have hin:=HIN.out
   have hin2:=HIN2.out
   have hln:=HLN.out
   have hf1:1≤f:=by omega
   obtain ⟨f',rfl⟩:=Nat.exists_eq_add_of_le' hf1
   clear hf1
   have HNX:=hI (show 1≤at_+cc∧at_+cc≤xss.length∧xss.length≤at_+cc+f'∧(ts++[(⟨at_,xs,b1,b2⟩:Tl)]).length≤at_+cc by simp only[List.length_append,List.length_cons,List.length_nil]; omega)
   have HME:=hI (show cn-(at_+cc)<cn-at_ by omega)
   have hwr:wrap64 ((at_:Int)+cc)=(at_:Int)+cc:=IntWalk.wrap64_in _ (by omega)
   go_wp2_with fail
   have hL:scanL xss gen (f'+1) at_=(at_,xs)::scanL xss gen f' (at_+cc):=by rw[scanL,if_pos HE0.out,HXS.out,HCC.out]
   have hU:scanU xss gen (f'+1) at_=scanU xss gen f' (at_+cc):=by rw[scanU,if_pos HE0.out,HCC.out]
   have h1:=HSC.out.1
   have h2:=HSC.out.2
   rw[hL] at h1
   rw[hU] at h2
   go_roundw
   case rel =>
    refine ⟨at_+cc,f',_,ts++[⟨at_,xs,b1,b2⟩],HO16.out,?_,HB16.out,⟨?_,h2⟩,?_,HEN16.out⟩
    ·have h9:=HOW16.out
     rw[show (ts++[(⟨at_,xs,b1,b2⟩:Tl)]).length=ts.length+1 by simp,List.map_append,PlM.flatG_append]
     exact h9
    ·rw[List.map_append,List.append_assoc]
     exact h1
    ·exact HNX.out
   case measure =>
    rw[HAT.out,sect9_eq HO16.out]
    exact HME.out
end
end
section
theorem noughts_not:stamped (noughts 64)=false:=by decide +kernel
section
variable {k k':Dk} {s:Sup} {xs:List Seg} {rs:Nat→List (Nat × List Int)}
theorem HistR.start (hst:∀ i,i<xs.length→stG xs i=0) (hV:∀ i j:Nat,i<xs.length→(j:Int)<s.b→strV k s i j=noughts 64):HistR k s xs (fun _=>[]) :=
 ⟨fun i h1 h2=>absurd (hst i h1) h2,fun i h1 h2=>absurd (hst i h1) h2,fun i h1 h2=>absurd (hst i h1) h2,fun i j h1 h2 h3=>by rw[hV i j h1 h2,noughts_not] at h3; cases h3⟩
theorem HistR.known {s':Sup} (h:HistR k s xs rs) (hb:s'.b=s.b) (hg:s.g≤s'.g) (hV:∀ i j:Nat,(j:Int)<s.b→strV k' s' i j=strV k s i j) (hok:OkR s.b xs):HistR k' s' xs rs:=by
 have hb24:24≤s.b:=by have hz:=hok.1; unfold SizedR at hz; omega
 refine ⟨fun i h1 h2=>?_,fun i h1 h2=>?_,fun i h1 h2 j h3 h4=>?_,fun i j h1 h2 h3=>?_⟩
 ·rw[hV i 0 (by omega)]; exact h.hdr i h1 h2
 ·obtain ⟨e,e1,e2⟩:=h.laid i h1 h2
  have:=used_le hok h1
  exact ⟨e,e1,e2.ext fun j h3 h4=>hV i j (by omega)⟩
 ·rw[hV i j (by omega)]; exact h.tail i h1 h2 j h3 (by omega)
 ·rw[hV i j (by omega)] at h3 ⊢
  have:=h.old i j h1 (by omega) h3
  omega
theorem HistR.free {zs:List Seg} (h:HistR k s xs rs) (hl:zs.length=xs.length) (hst:∀ i,stG zs i≠0→stG xs i≠0∧genG zs i=genG xs i∧usedG zs i=usedG xs i):HistR k s zs rs :=
 ⟨fun i h1 h2=>by rw[(hst i h2).2.1]; exact h.hdr i (by omega) (hst i h2).1,fun i h1 h2=>by rw[(hst i h2).2.1,(hst i h2).2.2]; exact h.laid i (by omega) (hst i h2).1,fun i h1 h2 j h3 h4=>by rw[(hst i h2).2.1]; rw[(hst i h2).2.2] at h3; exact h.tail i (by omega) (hst i h2).1 j h3 h4,fun i j h1 h2 h3=>h.old i j (by omega) h2 h3⟩
theorem HistR.scan (h:HistR k s xs rs) (hok:OkR s.b xs) {i:Nat} (hi:i<xs.length) (h0:stG xs i≠0) (hg:1≤genG xs i∧genG xs i≤18446744073709551615) :
 begunG (ldV (secsAt (strV k s i) 0 s.b.toNat) 0) i=genG xs i∧scanL (secsAt (strV k s i) 0 s.b.toNat) (genG xs i) (secsAt (strV k s i) 0 s.b.toNat).length 1=rs i∧((scanU (secsAt (strV k s i) 0 s.b.toNat) (genG xs i) (secsAt (strV k s i) 0 s.b.toNat).length 1:Nat):Int)=usedG xs i:=by
 obtain ⟨b,hb⟩:∃ b:Nat,s.b=b:=⟨s.b.toNat,by have hz:=hok.1; unfold SizedR at hz; omega⟩
 have hbb:24≤b∧b≤64:=by have hz:=hok.1; unfold SizedR at hz; omega
 have hl16:xs.length≤16:=by have hz:=hok.1; unfold SizedR at hz; omega
 rw[show s.b.toNat=b by omega]
 have hV:∀ j,j<b→ldV (secsAt (strV k s i) 0 b) j=strV k s i j:=fun j hj=>by
  unfold ldV
  rw[if_pos (by rw[secsAt_length]; exact hj)]
  unfold secsAt
  simp[List.getD,List.getElem?_map,List.getElem?_range hj]
 have hlen:=secsAt_length (strV k s i) 0 b
 have hs:=pack_said (genG xs i) 0 [(i:Int) / 256,(i:Int)] (by omega) hg.2 (by omega) (by omega) (by simp)
 have hps:=pack_stamped (genG xs i) 0 [(i:Int) / 256,(i:Int)] hg.1 hg.2 (by omega) (by omega) (by simp)
 obtain ⟨e,e1,e2⟩:=h.laid i hi h0
 have hle:=e2.le
 have hub:=used_le hok hi
 refine ⟨?_,?_⟩
 ·rw[hV 0 (by omega),h.hdr i hi h0]
  unfold begunG hdrL
  rw[hs.1,if_pos ⟨hps,rfl⟩]
 ·have hn:standE (ldV (secsAt (strV k s i) 0 b)) (ldE (secsAt (strV k s i) 0 b)) (genG xs i) e≠0:=by
   by_cases he:e<b
   ·exact stand_not (by rw[hV e he]; exact h.tail i hi h0 e (by omega) (by omega))
   ·intro h9
    have:=(stand_in h9).2
    have:=(stand_in h9).1
    omega
  have h9:=scan_laid (gen:=genG xs i) hg (by rw[hlen]; omega) (f:=b) (e2.ext (W:=ldV (secsAt (strV k s i) 0 b)) fun j h3 h4=>hV j (by omega)) (by rw[hlen]; omega) hn (by rw[hlen]; omega)
  rw[hlen]
  exact ⟨h9.1,by rw[h9.2,e1]⟩
theorem AtR.same {a:Int × Int × Int} {bs bs':List Int} (h:AtR k s xs a bs) (h':AtR k s xs a bs') (hok:OkR s.b xs) (hg:∀ i,i<xs.length→usedG xs i≠0→1≤genG xs i∧genG xs i≤18446744073709551615):bs=bs':=by
 obtain ⟨h1,i,c,e,h2,h3,h4,h5⟩:=h
 obtain ⟨g1,i',c',e',g2,g3,g4,g5⟩:=h'
 rw[e] at e'
 injection e' with e1 e2
 injection e2 with e2 e3
 obtain rfl:i=i':=by omega
 obtain rfl:c=c':=by omega
 have hc:=cnt_pos bs.length
 have hgi:=hg i h2 (by omega)
 have hub:=used_le hok h2
 have q1:=rec_stands (V:=strV k s i) (E:=fun _=>0) (at_:=c) h1 h5 (fun j hj=>rfl) hgi (by omega)
 have q2:=rec_stands (V:=strV k s i) (E:=fun _=>0) (at_:=c) g1 g5 (fun j hj=>rfl) hgi (by omega)
 have e4:cntOf bs.length=cntOf bs'.length:=q1.2.1.symm.trans q2.2.1
 rw[← q1.2.2,← q2.2.2,e4]
theorem HistR.at (h:HistR k s xs rs) {i:Nat} (hi:i<xs.length) (h0:stG xs i≠0) {p:Nat × List Int} (hp:p∈rs i):AtR k s xs ((i:Int),genG xs i,(p.1:Int)) p.2:=by
 obtain ⟨e,e1,e2⟩:=h.laid i hi h0
 obtain ⟨g1,g2,g3,g4⟩:=e2.mem hp
 exact ⟨g1,i,p.1,rfl,hi,g2,by rw[e1]; omega,g4⟩
end
end
section
def MoreH (xs:List Seg) (rs rs':Nat→List (Nat × List Int)) (i u:Nat) (bs:List Int):Prop:=(∀ q,q≠i→rs' q=rs q)∧rs' i=(if stG xs i=0 then [] else rs i)++[(u,bs)]
def AppHs (w:World) (X:Nat→Prop) (l p d n:Nat) (s:Sup) (t:Int) (k:Dk) (xs:List Seg) (pe:Nat) (bs:List Int) (e:Ending) (w':World):Prop :=
 Kept X w w'∧((appR s xs (cntOf bs.length)=none∧e=.returned (.tuple #[adrW (0,0,0),.int .i64 6])∧LgM w' X l p d n s t k xs pe) ∨
  ∃ i s1 xs1 t' k',appR s xs (cntOf bs.length)=some (i,s1,xs1)∧e=.returned (.tuple #[adrW ((i:Int),genG xs1 i,usedG xs1 i),.int .i64 0])∧LgM w' X l p d n s1 t' k' (useX xs1 ((cntOf bs.length:Nat):Int)) (pe+17) ∧
   (s1=s∨s1=genS s)∧AtR k' s1 (useX xs1 ((cntOf bs.length:Nat):Int)) ((i:Int),genG xs1 i,usedG xs1 i) bs ∧
   (∀ a bs',AtR k s xs a bs'→AtR k' s1 (useX xs1 ((cntOf bs.length:Nat):Int)) a bs'∧a≠((i:Int),genG xs1 i,usedG xs1 i)) ∧
   (∀ rs,HistR k s xs rs→∃ (rs':Nat→List (Nat × List Int)) (u:Nat),usedG xs1 i=u∧HistR k' s1 (useX xs1 ((cntOf bs.length:Nat):Int)) rs'∧MoreH xs rs rs' i u bs) ∧
   ∀ q j:Nat,q≠i→(j:Int)<s.b→strV k' s1 q j=strV k s q j)
section
variable {n:Nat} {s:Sup} {k:Dk} {xs:List Seg}
theorem lay_other (hg:Good k) (hok:OkR s.b xs) (hn:k.held.length=n) (hroom:2+s.a*s.b≤(n:Int)) (hdim:(xs.length:Int)=s.a) {i:Nat} (ho:opnR xs=(i:Nat)) {bs:List Int} (hc:1≤cntOf bs.length∧cntOf bs.length≤17) (hfit:((cntOf bs.length:Nat):Int)≤leftR s.b xs)
 (q j:Nat) (hq:q≠i) (hj:(j:Int)<s.b):strV (layK k s xs i bs) s q j=strV k s q j:=by
 obtain ⟨o1,o2,o3,o4,o5,o6⟩:=opn_bounds hok ho
 obtain ⟨b,hb⟩:∃ b:Nat,s.b=b:=⟨s.b.toNat,by have hz:=hok.1; unfold SizedR at hz; omega⟩
 obtain ⟨u,hu⟩:∃ u:Nat,usedG xs i=u:=⟨(usedG xs i).toNat,by omega⟩
 have hroomN:2+xs.length*b≤n:=by
  rw[← hdim,hb] at hroom
  have:((xs.length*b:Nat):Int)=(xs.length:Int)*(b:Int):=by push_cast; rfl
  omega
 rw[lay_V (seg:=q) (j:=j) (bs:=bs) hg (a:=xs.length) (b:=b) (u:=u) (i:=i) hdim.symm hb hu hn hroomN o1 (by omega) (by omega),if_neg (fun h=>hq h.1)]
end
section
variable {w:World} {X:Nat→Prop} {l p d n pe:Nat} {s:Sup} {t:Int} {k:Dk} {xs:List Seg}
theorem append_hist (h:LgM w X l p d n s t k xs pe) (hX:∀ b,X b→b<w.heap.size) (hpe:pe≤900000) (hgm:s.g+1≤18446744073709551615) {k1 f x s1:Int} {A1 A2:Option Addr} {n1 c1 n2 c2:Nat} {us vs:List Int} (hm:May k1 f x s1 n1 n2) (hr:Rng f x s1)
 (hx:RowI .u8 w (·<w.heap.size) A1 n1 us) (hy:RowI .u8 w (·<w.heap.size) A2 n2 vs) (hn1:A1=none→c1=0) (hn2:A2=none→c2=0) (hbu:Bytes us) (hbv:Bytes vs) :
 Calls Tryz.prog 9 #[.pointer (some ⟨l,0,none⟩),.agg #[.int .i64 k1,.int .u32 f,.int .u32 x,.int .u64 s1,.slice A1 n1 c1,.slice A2 n2 c2]] w (AppHs w X l p d n s t k xs pe (recB k1 f x s1 us vs)):=by
 have hrok:RecOk (recB k1 f x s1 us vs):=rec_ok (by rw[hx.1,hy.1]; exact hm) hr hbu hbv
 have hlen:(recB k1 f x s1 us vs).length=21+n1+n2:=by rw[recB_length,hx.1,hy.1]
 refine (append_good h hX hpe hgm hm hr hx hy hn1 hn2 hbu hbv).mono ?_
 rintro e w' ⟨h3,hk⟩
 rw[← hlen] at h3
 generalize recB k1 f x s1 us vs=bs at *
 have hc:1≤cntOf bs.length∧cntOf bs.length≤17:=by have:=hrok.len; unfold cntOf; omega
 have hhl:k.held.length=n:=h.ok_k.heldLen
 rcases h3 with ⟨i,hi,hfit,rfl,hlg⟩ | ⟨hno,hnx,rfl,hlg⟩ | ⟨hno,i,hi,rfl,hlg⟩
 ·obtain ⟨g1,g2⟩:=lay_at h.good h.ok hhl h.room h.dims hi hrok hfit
  obtain ⟨o1,o2,o3,o4,o5,o6⟩:=opn_bounds h.ok hi
  refine ⟨hk,.inr ⟨i,s,xs,t,_,?_,rfl,hlg.pe_le (by omega),.inl rfl,g1,g2,fun rs hrs=>?_,fun q j hq hj=>?_⟩⟩
  ·unfold appR
   rw[if_pos hfit,hi]
   simp
  ·obtain ⟨u,hu⟩:∃ u:Nat,usedG xs i=u:=⟨(usedG xs i).toNat,by omega⟩
   exact ⟨_,u,hu,hrs.lay h.good h.ok h.top (by omega) hhl h.room h.dims hi hu hrok hfit (by omega),fun q hq=>if_neg hq,by dsimp only; rw[if_pos rfl,if_neg (show stG xs i≠0 by rw[o6]; decide)]⟩
  ·exact lay_other h.good h.ok hhl h.room h.dims hi hc hfit q j hq hj
 ·refine ⟨hk,.inl ⟨?_,rfl,hlg⟩⟩
  unfold appR
  rw[if_neg (by omega),if_pos hnx]
 ·obtain ⟨f1,f2,f3,f4⟩:=turn_facts h hi
  have hz:sealedX s.b xs=if sealE s.b xs=0 then sealX xs else xs:=rfl
  have hE:=turn_open h.ok hz h.top (by omega)
  obtain ⟨j,_,_,j3,_,_,j6,_,_,_,j10,_⟩:=open_facts hE
  obtain ⟨_,_,_,z4,_,z6,z7⟩:=seal_facts h.ok hz
  have hgb:Good (begK k s t i):=(((h.good.put _ _).sync).put _ _).sync
  have hb:=h.may.2.2
  have hbl:(begK k s t i).held.length=n:=by
   unfold begK setK
   rw[((h.good.put _ _).sync.put _ _).held_sync,(h.good.put _ _).sync.held_put,(h.good.put _ _).held_sync,h.good.held_put,List.length_set,List.length_set]
   exact hhl
  have hfit:((cntOf bs.length:Nat):Int)≤leftR s.b (openX (sealedX s.b xs) (s.g+1)):=by rw[f4]; omega
  obtain ⟨g1,g2⟩:=lay_at (s:=genS s) hgb j3 hbl h.room (by rw[j10,z6]; exact h.dims) f1 hrok hfit
  obtain ⟨o1,o2,o3,o4,_,_⟩:=opn_bounds j3 f1
  rw[f2,f3] at g1 g2
  obtain ⟨_,_,_,i9,_,i10,i11⟩:=open_zero hE
  rw[z4] at i10
  obtain rfl:i9=i:=by omega
  have hst0:stG xs i9=0:=(z7 i9).1.1 i11
  refine ⟨hk,.inr ⟨i9,genS s,openX (sealedX s.b xs) (s.g+1),nxt t,_,?_,by rw[f2,f3],hlg.pe_le (by omega),.inr rfl,by rw[f2,f3]; exact g1,fun a bs' ha=>?_,fun rs hrs=>?_,fun q j hq hj=>?_⟩⟩
  ·unfold appR
   rw[if_neg (by omega),if_neg (by omega),hi]
   simp
  ·rw[f2,f3]
   exact g2 a bs' (beg_at h.good h.ok h.dims t hi hE ha)
  ·have hg0:0≤s.g:=Int.le_trans (top_nonneg h.ok) h.top
   have h1:=hrs.beg h.good h.ok hg0 hgm hhl h.room h.dims t hi hE
   have h2:=h1.lay (s:=genS s) hgb j3 (by show topG _≤s.g+1; omega) hgm hbl h.room (by rw[j10,z6]; exact h.dims) f1 (u:=1) f3 hrok hfit (by omega)
   exact ⟨_,1,f3,h2,fun q hq=>by dsimp only; rw[if_neg hq,if_neg hq],by dsimp only; rw[if_pos rfl,if_pos rfl,if_pos hst0]⟩
  ·rw[lay_other (s:=genS s) hgb j3 hbl h.room (by rw[j10,z6]; exact h.dims) f1 hc hfit q j hq hj]
   exact beg_V h.good (show s.b=((s.b.toNat:Nat):Int) by have:=h.ok.1; unfold SizedR at this; omega) t q j (by omega) (.inr hq)
end
end
section
attribute [local go_sem] Oper.semAt_some
abbrev pu0:Oper:=⟨some 21,.load 56 (.tmp 2),56,"store.go:70",#[],none⟩
abbrev pu1:Oper:=⟨some 22,.nilCheck (.tmp 21),0,"store.go:70",#[⟨0,.data⟩],none⟩
abbrev pu2:Oper:=⟨some 23,.fieldAddr 137 (.tmp 22) 0,0,"store.go:70",#[⟨1,.data⟩],none⟩
abbrev pu3:Oper:=⟨some 24,.load 134 (.tmp 23),134,"store.go:70",#[⟨2,.data⟩],none⟩
abbrev pu4:Oper:=⟨some 25,.fieldAddr 53 (.tmp 3) 0,0,"store.go:70",#[],none⟩
abbrev pu5:Oper:=⟨some 26,.load 31 (.tmp 25),31,"store.go:70",#[⟨4,.data⟩],none⟩
abbrev pu6:Oper:=⟨some 27,.call { callee:=.value (.func 72),args:=#[.tmp 24,.tmp 26],argTypes:=#[134,31] },155,"store.go:70",#[⟨3,.data⟩,⟨5,.data⟩],none⟩
abbrev pu7:Oper:=⟨some 20,.move (.tmp 27),155,"store.go:70",#[⟨6,.data⟩],none⟩
abbrev pu8:Oper:=⟨some 28,.extract (.tmp 20) 0,154,"store.go:70",#[⟨7,.data⟩],none⟩
abbrev pu9:Oper:=⟨some 29,.extract (.tmp 20) 1,36,"store.go:70",#[⟨7,.data⟩,{ on:=11,ground:=Go.Ground.gcOnly Go.Departure.lateStores }],none⟩
abbrev pu10:Oper:=⟨some 6,.alloc 154,0,"store.go:70",#[],none⟩
abbrev pu11:Oper:=⟨none,.store 154 (.tmp 6) (.tmp 28),0,"store.go:70",#[⟨10,.data⟩,⟨8,.data⟩,⟨6,.chain⟩,⟨0,.phase⟩,⟨1,.phase⟩,⟨2,.phase⟩,⟨3,.phase⟩,⟨4,.phase⟩,⟨5,.phase⟩,⟨6,.phase⟩,⟨7,.phase⟩,⟨8,.phase⟩,{ on:=9,ground:=Go.Ground.textOnly Go.Departure.lateStores },⟨10,.phase⟩],none⟩
abbrev pu12:Oper:=⟨none,.store 36 (.tmp 4) (.tmp 29),0,"store.go:70",#[⟨9,.data⟩,⟨11,.chain⟩,⟨0,.phase⟩,⟨1,.phase⟩,⟨2,.phase⟩,⟨3,.phase⟩,⟨4,.phase⟩,⟨5,.phase⟩,⟨6,.phase⟩,⟨7,.phase⟩,⟨8,.phase⟩,⟨9,.phase⟩,⟨10,.phase⟩,⟨11,.phase⟩],none⟩
abbrev pw0:Oper:=⟨some 49,.load 56 (.tmp 2),56,"store.go:84",#[],none⟩
abbrev pw1:Oper:=⟨some 50,.nilCheck (.tmp 49),0,"store.go:84",#[⟨0,.data⟩],none⟩
abbrev pw2:Oper:=⟨some 51,.fieldAddr 137 (.tmp 50) 0,0,"store.go:84",#[⟨1,.data⟩],none⟩
abbrev pw3:Oper:=⟨some 52,.fieldAddr 134 (.tmp 51) 0,0,"store.go:84",#[⟨2,.data⟩],none⟩
abbrev pw4:Oper:=⟨some 53,.load 24 (.tmp 52),24,"store.go:84",#[⟨3,.data⟩],none⟩
abbrev pw5:Oper:=⟨some 54,.load 33 (.tmp 5),33,"store.go:84",#[],none⟩
abbrev pw6:Oper:=⟨some 55,.call { callee:=.value (.func 9),args:=#[.tmp 53,.tmp 54],argTypes:=#[24,33] },37,"store.go:84",#[⟨4,.data⟩,⟨5,.data⟩],none⟩
abbrev pw7:Oper:=⟨some 48,.move (.tmp 55),37,"store.go:84",#[⟨6,.data⟩],none⟩
abbrev pw8:Oper:=⟨some 56,.extract (.tmp 48) 0,35,"store.go:84",#[⟨7,.data⟩],none⟩
abbrev pw9:Oper:=⟨some 57,.extract (.tmp 48) 1,36,"store.go:84",#[⟨7,.data⟩,{ on:=10,ground:=Go.Ground.gcOnly Go.Departure.lateStores }],none⟩
abbrev pw10:Oper:=⟨none,.store 35 (.tmp 7) (.tmp 56),0,"store.go:84",#[⟨8,.data⟩,⟨6,.chain⟩,⟨0,.phase⟩,⟨1,.phase⟩,⟨2,.phase⟩,⟨3,.phase⟩,⟨4,.phase⟩,⟨5,.phase⟩,⟨6,.phase⟩,⟨7,.phase⟩,⟨8,.phase⟩,{ on:=9,ground:=Go.Ground.textOnly Go.Departure.lateStores }],none⟩
abbrev pw11:Oper:=⟨none,.store 36 (.tmp 4) (.tmp 57),0,"store.go:84",#[⟨9,.data⟩,⟨10,.chain⟩,⟨0,.phase⟩,⟨1,.phase⟩,⟨2,.phase⟩,⟨3,.phase⟩,⟨4,.phase⟩,⟨5,.phase⟩,⟨6,.phase⟩,⟨7,.phase⟩,⟨8,.phase⟩,⟨9,.phase⟩,⟨10,.phase⟩],none⟩
def ElkC (w:World) (Y:Nat→Prop) (be l p d n:Nat) (s:Sup) (t:Int) (k:Dk) (xs:List Seg) (pe:Nat) (st:List EntS) (us:List Int) (v6:Value) (wx:World):Prop :=
 ∃ g6 k' ev,v6=.pointer (some ⟨g6,0,none⟩)∧w.heap.size≤g6∧LgM wx (fun b=>Y b∨b=g6) l p d n s t k' xs pe∧k'.held=k.held∧Kept (fun b=>Y b∧b≠be) w wx∧Blk wx g6 154 ev∧Blk wx be 36 #[.int .i64 0]∧EntV st us ev
section
variable {w w':World} {X Y:Nat→Prop} {B:StB} {slots:Nat} {s:Sup} {xs:List Seg} {st:List EntS} {bl:List (List Int)} {u:Bool} {A:Option Addr} {m c:Nat} {us:List Int} {k k':Dk} {l p d n pe:Nat} {t:Int}
theorem LookT.ent {e:Ending} (h:LookT w Y l p d n s t k xs pe st us e w'):∃ ev k',e=.returned (.tuple #[.agg ev,.int .i64 0])∧EntV st us ev∧LgM w' Y l p d n s t k' xs pe∧k'.held=k.held∧Kept Y w w':=by
 obtain ⟨⟨k',h1,h2⟩,h3,h4⟩:=h
 rcases h4 with ⟨h5,h6⟩ | ⟨q,b1,b2,h5,h6,_⟩
 ·exact ⟨_,k',h6,.inl ⟨h5,rfl⟩,h1,h2,h3⟩
 ·exact ⟨_,k',h6,.inr ⟨q,b1,b2,h5,rfl⟩,h1,h2,h3⟩
theorem ElkC.fin {w3:World} {Y2:Nat→Prop} {g6 be:Nat} {ev cs:Array Value} (hY:∀ b,Y b→b<w.heap.size) (hbe:Y be) (hg:w.heap.size≤g6) (hY2:∀ b,Y b→Y2 b) (h6:Y2 g6) (hl:LgM w3 Y2 l p d n s t k' xs pe) (hk:k'.held=k.held) (hkp:Kept Y w w3) (hB:Blk w3 g6 154 cs) (hE:Blk w3 be 36 #[.int .i64 0]) (hev:EntV st us ev) :
 ElkC w Y be l p d n s t k xs pe st us (.pointer (some ⟨g6,0,none⟩)) ((w3.setRow g6 ev).setCell ⟨be,0,none⟩ (.int .i64 0)):=by
 have hne:be≠g6:=fun e=>by have:=hY be hbe; omega
 have k1:Kept (fun b=>b≠g6) w3 (w3.setRow g6 ev):=(Kept.refl _ _).setRow (fun h=>h rfl) ev
 have k2:Kept (fun b=>b≠be) (w3.setRow g6 ev) ((w3.setRow g6 ev).setCell ⟨be,0,none⟩ (.int .i64 0)):=(Kept.refl _ _).setCell (p:=⟨be,0,none⟩) (fun h=>h rfl) _
 have k3:Kept (fun b=>b≠g6∧b≠be) w3 ((w3.setRow g6 ev).setCell ⟨be,0,none⟩ (.int .i64 0)):=(k1.mono (fun b h=>h.1)).trans k2 (fun b h=>h.2)
 refine ⟨g6,k',ev,rfl,hg,(hl.off k3 (fun b _ hn=>⟨fun e=>hn (e▸h6),fun e=>hn (e▸hY2 _ hbe)⟩)).less (fun b hb=>hb.elim (hY2 b) (fun e=>e▸h6)),hk,(hkp.mono (fun b h=>h.1)).trans k3 (fun b h=>⟨fun e=>by have:=hY b h.1; omega,h.2⟩),?_,?_,hev⟩
 ·exact Blk.far (setRow_heap _ _ _ ev _ _ hB) (p:=⟨be,0,none⟩) (Ne.symm hne) _
 ·have h9:=(hE.kept k1 hne).set_ 0 (.int .i64 0)
  exact h9
theorem StoM2.logTo2 {S:Nat→Prop} {s1:Sup} {xs1:List Seg} {t1:Int} {k1:Dk} {pe1:Nat} (h:StoM2 w X B slots s xs st bl u) (hk:Kept S w w') (hS:∀ b,B.own b→S b) (hX:∀ b,X b→Y b) (hY:∀ b,B.own b→¬ Y b) (hYl:∀ b,Y b→b<w'.heap.size) (hl:LgM w' (fun b=>Y b∨B.own b) B.l B.p B.d B.n s1 t1 k1 xs1 pe1) (hn:xs1.length=xs.length) (hi:InvS k1 s1 xs1 st) :
 StoM2 w' Y { B with t:=t1,k:=k1,pe:=pe1 } slots s1 xs1 st bl u:=by
 obtain ⟨h1,h2,h3⟩:=h.own_kept hk hS
 exact ⟨h1,h2,h.num.trans hn.symm,h3,hl,hi,hY,hYl⟩
theorem left_s14 (h:StoM2 w X B slots s xs st bl u):Calls Tryz.prog 73 #[.pointer (some ⟨B.x,0,none⟩)] w fun e w'=>e=.returned (.int .i64 ((slots:Int)-(st.length:Nat)))∧Kept (fun _=>True) w w':=by
 have hl:=h.ix.len
 obtain ⟨c,L,fr,hx,hr,he⟩:=h.ix
 have hn:c 1=(st.length:Nat):=by
  rw[hr.n]
  have h1:=congrArg List.length he
  unfold esS at h1
  rw[List.length_map,List.length_map] at h1
  rw[h1]
 unfold esS at hl
 rw[List.length_map] at hl
 exact left_ix hx hr.s0 hn (by omega)
structure HsT (k:Dk) (s:Sup) (xs:List Seg) (k1:Dk) (s1:Sup) (ys xs1:List Seg) (i:Nat) (bs:List Int):Prop where
 hist:∀ rs,HistR k s xs rs→∃ (rs':Nat→List (Nat × List Int)) (u:Nat),usedG ys i=u∧HistR k1 s1 xs1 rs'∧MoreH xs rs rs' i u bs
 secs:∀ q j:Nat,q≠i→(j:Int)<s.b→strV k1 s1 q j=strV k s q j
 ats:∀ a bs',AtR k s xs a bs'→AtR k1 s1 xs1 a bs'
theorem HsT.from {k k0 k1:Dk} {s s1:Sup} {xs ys xs1:List Seg} {i:Nat} {bs:List Int} (h:HsT k0 s xs k1 s1 ys xs1 i bs) (hh:k0.held=k.held):HsT k s xs k1 s1 ys xs1 i bs :=
 ⟨fun rs hrs=>h.hist rs (hrs.held hh),fun q j h1 h2=>(h.secs q j h1 h2).trans (strV_held hh _),fun a b ha=>h.ats a b (ha.held hh)⟩
theorem HsT.to {k k2 k1:Dk} {s s1:Sup} {xs ys xs1:List Seg} {i:Nat} {bs:List Int} (h:HsT k s xs k1 s1 ys xs1 i bs) (hh:k2.held=k1.held):HsT k s xs k2 s1 ys xs1 i bs :=
 ⟨fun rs hrs=>by
  obtain ⟨rs',u,g1,g2,g3⟩:=h.hist rs hrs
  exact ⟨rs',u,g1,g2.held hh,g3⟩,fun q j h1 h2=>(strV_held hh _).trans (h.secs q j h1 h2),fun a b ha=>(h.ats a b ha).held hh⟩
theorem AppHs.told {bs:List Int} {e:Ending} (h:AppHs w Y l p d n s t k xs pe bs e w'):∃ a er s1 xs1 t1 k1 pe1,e=.returned (.tuple #[.agg #[.int .i64 a.1,.int .u64 a.2.1,.int .i64 a.2.2],.int .i64 er])∧Kept Y w w'∧LgM w' Y l p d n s1 t1 k1 xs1 pe1 ∧
 ((appR s xs (cntOf bs.length)=none∧er=6∧s1=s∧xs1=xs∧t1=t∧k1=k∧pe1=pe) ∨
  (∃ i ys,appR s xs (cntOf bs.length)=some (i,s1,ys)∧er=0∧a=((i:Int),genG ys i,usedG ys i)∧(s1=s∨s1=genS s)∧xs1=useX ys ((cntOf bs.length:Nat):Int)∧pe1=pe+17∧AtR k1 s1 xs1 a bs∧(∀ a' bs',AtR k s xs a' bs'→AtR k1 s1 xs1 a' bs'∧a'≠a)∧HsT k s xs k1 s1 ys xs1 i bs)):=by
 obtain ⟨hk,h | ⟨i,s1,ys,t1,k1,h1,h2,h3,h4,h5,h6,h7,h8⟩⟩:=h
 ·exact ⟨(0,0,0),6,s,xs,t,k,pe,h.2.1,hk,h.2.2,.inl ⟨h.1,rfl,rfl,rfl,rfl,rfl,rfl⟩⟩
 ·exact ⟨_,0,s1,_,t1,k1,_,h2,hk,h3,.inr ⟨i,ys,h1,rfl,rfl,h4,rfl,rfl,h5,h6,⟨h7,h8,fun a b ha=>(h6 a b ha).1⟩⟩⟩
def fullS (st:List EntS) (us:List Int) (slots:Nat):Bool:=(hasS st us).isNone&&decide (st.length=slots)
theorem full_iff:fullS st us slots=true↔(hasS st us=none∧st.length=slots):=by
 unfold fullS
 simp
def PutT (w : World) (X : Nat → Prop) (B : StB) (slots : Nat) (s : Sup) (xs : List Seg) (st : List EntS) (bl : List (List Int)) (bs : List Int) (e : Ending) (w' : World) : Prop :=
 Kept X w w' ∧
 ((fullS st (keyOf bs) slots=true∧e=.returned (.int .i64 6)∧∃ k',StoM2 w' X { B with t:=B.t,k:=k',pe:=B.pe } slots s xs st bl false∧k'.held=B.k.held) ∨
  (fullS st (keyOf bs) slots=false∧appR s xs (cntOf bs.length)=none∧e=.returned (.int .i64 6)∧∃ k',StoM2 w' X { B with t:=B.t,k:=k',pe:=B.pe } slots s xs st bl false∧k'.held=B.k.held) ∨
  (fullS st (keyOf bs) slots=false∧∃ i s1 xs1 t' k',appR s xs (cntOf bs.length)=some (i,s1,xs1)∧(s1=s∨s1=genS s)∧e=.returned (.int .i64 0) ∧
    StoM2 w' X { B with t:=t',k:=k',pe:=B.pe+17 } slots s1 (useX xs1 ((cntOf bs.length:Nat):Int)) (outS st (keyOf bs)++[(((i:Int),genG xs1 i,usedG xs1 i),bs)]) (addB bl i (keyOf bs)) false∧HsT B.k s xs k' s1 xs1 (useX xs1 ((cntOf bs.length:Nat):Int)) i bs))
theorem put_s14 (h:StoM2 w X B slots s xs st bl false) {us vs:List Int} {A2:Option Addr} {n2 c2:Nat} {f0 x0 q0:Int} {dy:Bool} (hk:RowI .u8 w X A m us) (hv:RowI .u8 w X A2 n2 vs) (hb:Bytes us) (hbv:Bytes vs) (hnc:A=none→c=0) (hnc2:A2=none→c2=0)
 (hmay:May 1 f0 x0 q0 m n2) (hr:Rng f0 x0 q0) (hpe:B.pe≤900000) (hgm:s.g+1≤18446744073709551615) :
 Calls Tryz.prog 19 #[.pointer (some ⟨B.q,0,none⟩),itmV A m c A2 n2 c2 f0 x0 q0 dy] w (PutT w X B slots s xs st bl (recB 1 f0 x0 q0 us vs)):=by
 obtain ⟨w1,hw1⟩:∃ w1,w1=((w.alloc (.cells #[.pointer (some ⟨B.q,0,none⟩)] 56)).alloc (.cells #[.slice A m c,.slice A2 n2 c2,.int .u32 f0,.int .u32 x0,.int .u64 q0,.bool dy] 53)).alloc (.cells #[.int .i64 0] 36):=⟨_,rfl⟩
 have hb1:Below w.heap.size w w1:=by rw[hw1]; exact (((Below.refl _ w).alloc (nR _) _).alloc (by simp) _).alloc (by simp; omega) _
 have HS1:=hI (show Blk w1 w.heap.size 56 #[.pointer (some ⟨B.q,0,none⟩)] by rw[hw1]; exact ((Blk.new w _ _).alloc _).alloc _)
 have HI1:=hI (show Blk w1 (w.heap.size+1) 53 #[.slice A m c,.slice A2 n2 c2,.int .u32 f0,.int .u32 x0,.int .u64 q0,.bool dy] by rw[hw1]; exact (blk_new2 w _ _ _).alloc _)
 have HE1:=hI (show Blk w1 (w.heap.size+1+1) 36 #[.int .i64 0] by rw[hw1]; exact blk_new3 w _ _ _ _)
 have HZ1:=hI (show w1.heap.size=w.heap.size+3 by rw[hw1]; simp)
 have HM0:=hI h
 have HB1:=hI hb1
 have HK:=hI hk
 have HV:=hI hv
 have HBY:=hI (And.intro hb hbv)
 have HNC:=hI (And.intro hnc hnc2)
 have HMAY:=hI hmay
 have HRNG:=hI hr
 have HPE:=hI (And.intro hpe hgm)
 have HM:=hI (show m≤250 by unfold May at hmay; omega)
 have HKEY:=hI (show keyOf (recB 1 f0 x0 q0 us vs)=us by
  have h9:=rec_key (k:=1) (f:=f0) (x:=x0) (s:=q0) (xs:=us) (ys:=vs) (zs:=[]) (by have:=hk.1; unfold May at hmay; omega)
  rwa [List.append_nil] at h9)
 have HKIND:=hI (show kindOf (recB 1 f0 x0 q0 us vs)=1 by
  have h9:=rec_kind (k:=1) (f:=f0) (x:=x0) (s:=q0) (xs:=us) (ys:=vs) (zs:=[])
  rwa [List.append_nil] at h9)
 have HW1:=hI hw1
 clear hw1 hb1 h hk hv hb hbv hnc hnc2 hmay hr hpe hgm
 go_enter_defers Tryz.func19,Tryz.ntmps19
 go_upto_region 1 with fail
 rw[← HW1.out]
 have i0:w1.cell? ⟨w.heap.size+1,0,none⟩=some (.slice A m c):=HI1.out.cell 0
 have i1:w1.cell? ⟨w.heap.size+1,1,none⟩=some (.slice A2 n2 c2):=HI1.out.cell 1
 have i2:w1.cell? ⟨w.heap.size+1,2,none⟩=some (.int .u32 f0):=HI1.out.cell 2
 have i3:w1.cell? ⟨w.heap.size+1,3,none⟩=some (.int .u32 x0):=HI1.out.cell 3
 have i4:w1.cell? ⟨w.heap.size+1,4,none⟩=some (.int .u64 q0):=HI1.out.cell 4
 have i5:w1.cell? ⟨w.heap.size+1,5,none⟩=some (.bool dy):=HI1.out.cell 5
 go_wp2_with fail
 refine (recordOf_ok A m c A2 n2 c2 f0 x0 q0 dy w1).mono ?_
 rintro e w2 ⟨rfl,hb2⟩
 clear i0 i1 i2 i3 i4 i5
 obtain ⟨w3,hw3⟩:∃ w3,w3=w2.alloc (.cells #[.int .i64 1,.int .u32 f0,.int .u32 x0,.int .u64 q0,.slice A m c,.slice A2 n2 c2] 33):=⟨_,rfl⟩
 have hb3:Below w1.heap.size w1 w3:=by rw[hw3]; exact hb2.alloc hb2.size _
 have HR3:=hI (show Blk w3 w2.heap.size 33 #[.int .i64 1,.int .u32 f0,.int .u32 x0,.int .u64 q0,.slice A m c,.slice A2 n2 c2] by rw[hw3]; exact Blk.new w2 _ _)
 have HB3:=hI hb3
 have HW3:=hI hw3
 have HZ2:=hI hb2.size
 have hs3:w3.cell? ⟨w.heap.size,0,none⟩=some (.pointer (some ⟨B.q,0,none⟩)):=(HS1.out.below hb3 HS1.out.lt).cell 0
 have r0:w3.cell? ⟨w2.heap.size,0,none⟩=some (.int .i64 1):=HR3.out.cell 0
 have r1:w3.cell? ⟨w2.heap.size,1,none⟩=some (.int .u32 f0):=HR3.out.cell 1
 have r2:w3.cell? ⟨w2.heap.size,2,none⟩=some (.int .u32 x0):=HR3.out.cell 2
 have r3:w3.cell? ⟨w2.heap.size,3,none⟩=some (.int .u64 q0):=HR3.out.cell 3
 have r4:w3.cell? ⟨w2.heap.size,4,none⟩=some (.slice A m c):=HR3.out.cell 4
 have r5:w3.cell? ⟨w2.heap.size,5,none⟩=some (.slice A2 n2 c2):=HR3.out.cell 5
 clear hb2 hw3 hb3
 go_upto_region 2 with fail
 rw[← HW3.out]
 go_wp2_with fail
 refine (check_yes 1 f0 x0 q0 A A2 m c n2 c2 w3 HMAY.out).mono ?_
 rintro e w4 ⟨rfl,hb4⟩
 have HB4:=hI (HB3.out.trans (hb4.mono HB3.out.size))
 have HR4:=hI (HR3.out.below hb4 HR3.out.lt)
 have HZ4:=hI (And.intro HR3.out.lt hb4.size)
 clear hb4 hs3 r0 r1 r2 r3 r4 r5
 have HM4:=hI (HM0.out.grow (HB1.out.trans (HB4.out.mono HB1.out.size)))
 have HS4:=hI (HS1.out.below HB4.out HS1.out.lt)
 have HI4:=hI (HI1.out.below HB4.out HI1.out.lt)
 have HE4:=hI (HE1.out.below HB4.out HE1.out.lt)
 have hs4:w4.cell? ⟨w.heap.size,0,none⟩=some (.pointer (some ⟨B.q,0,none⟩)):=HS4.out.cell 0
 go_wp2_with fail
 refine (degraded_ok HM4.out).mono ?_
 rintro e w5 ⟨rfl,rfl⟩
 go_upto_region 8 with fail
 clear hs4
 go_cut [6] from 20 to 29 (fun v6 wx=>ElkC w5 (fun b=>(X b∨(w.heap.size≤b∧b<w5.heap.size))∨B.own b) (w.heap.size+1+1) B.l B.p B.d B.n s B.t B.k xs B.pe st us v6 wx)
 case first J KK hJ hKK =>
  have HQL:=hI (show B.q<w.heap.size from HM0.out.own_lt (.inl rfl))
  have HSS:=hI (show ∀ W,Kept (fun b=>((X b∨(w.heap.size≤b∧b<w5.heap.size))∨B.own b)∧b≠w.heap.size+1+1) w5 W→W.cell? ⟨w.heap.size,0,none⟩=some (.pointer (some ⟨B.q,0,none⟩))∧W.cell? ⟨B.q,0,none⟩=some (.pointer (some ⟨B.l,0,none⟩))∧W.cell? ⟨B.q,1,none⟩=some (.pointer (some ⟨B.x,0,none⟩))∧W.cell? ⟨w.heap.size+1,0,none⟩=some (.slice A m c) from fun W hW=>by
   obtain ⟨q0,q1,_,_⟩:=HM4.out.cells
   have h1:=HS4.out.lt
   have h2:=HI4.out.lt
   have h3:=HQL.out
   exact ⟨(HS4.out.kept hW ⟨.inl (.inr ⟨by omega,by omega⟩),by omega⟩).cell 0,(hW.cell (p:=⟨B.q,0,none⟩) ⟨.inr (.inl rfl),(by omega:B.q≠_)⟩).trans q0,(hW.cell (p:=⟨B.q,1,none⟩) ⟨.inr (.inl rfl),(by omega:B.q≠_)⟩).trans q1,(HI4.out.kept hW ⟨.inl (.inr ⟨by omega,by omega⟩),by omega⟩).cell 0⟩)
  have hMd:=HM4.out.below ((Below.refl w5.heap.size w5).drew)
  have HKd:=hI (show RowI .u8 w5.drew (fun b=>(X b∨(w.heap.size≤b∧b<w5.heap.size))∨B.own b) A m us from ((HK.out.below (HB1.out.trans (HB4.out.mono HB1.out.size)) HM0.out.lt).below ((Below.refl w5.heap.size w5).drew) (fun b hb=>HM4.out.lt b (.inl hb))).more (fun b hb=>.inl (.inl hb)))
  have HMD:=hI hMd
  have HED:=hI (show Blk w5.drew (w.heap.size+1+1) 36 #[.int .i64 0] from HE4.out.below ((Below.refl w5.heap.size w5).drew) HE4.out.lt)
  have HYL:=hI (show ∀ b,((X b∨(w.heap.size≤b∧b<w5.heap.size))∨B.own b)→b<w5.heap.size from HM4.out.ylt)
  have HYE:=hI (show (X (w.heap.size+1+1)∨(w.heap.size≤w.heap.size+1+1∧w.heap.size+1+1<w5.heap.size))∨B.own (w.heap.size+1+1) from .inl (.inr ⟨by omega,HE4.out.lt⟩))
  clear hMd
  refine wp_region_noPanic ?_
  refine Tillst.region (fun W=>Kept (fun b=>((X b∨(w.heap.size≤b∧b<w5.heap.size))∨B.own b)∧b≠w.heap.size+1+1) w5 W) [] (by kernel_rfl) ((Kept.refl _ _).drew) (fun hė=>?_)
  obtain ⟨vd,hvd⟩:∃ vd,vd=w5.drew:=⟨_,rfl⟩
  have HZD:=hI (show vd.heap.size=w5.heap.size by rw[hvd]; rfl)
  rw[← hvd] at HKd HMD HED hė ⊢
  have HVD:=hI (show Kept (fun b=>(X b∨(w.heap.size≤b∧b<w5.heap.size))∨B.own b) w5 vd by rw[hvd]; exact (Kept.refl _ _).drew)
  clear hvd
  refine tK 0 pu0 (v:=?_) ?_ hė ?_
  rotate_left
  ·intro W hSW; have h9:=(HSS.out W hSW).1; clear hSW; unfold pu0; go_simp; with_reducible rfl
  simp only[pu0,Act.put,sA,sZ,sS]
  refine tK 1 pu1 (v:=?_) ?_ hė ?_
  rotate_left
  ·intro W hSW; unfold pu1; go_simp; with_reducible rfl
  simp only[pu1,Act.put,sA,sZ,sS]
  refine tK 2 pu2 (v:=?_) ?_ hė ?_
  rotate_left
  ·intro W hSW; unfold pu2; go_simp; with_reducible rfl
  simp only[pu2,Act.put,sA,sZ,sS]
  refine tK 3 pu3 (v:=shV B) ?_ hė ?_
  ·intro W hSW; obtain ⟨_,h8,h9,_⟩:=HSS.out W hSW; clear hSW; unfold pu3; go_simp
  simp only[pu3,Act.put,sA,sZ,sS]
  refine tK 4 pu4 (v:=?_) ?_ hė ?_
  rotate_left
  ·intro W hSW; unfold pu4; go_simp; with_reducible rfl
  simp only[pu4,Act.put,sA,sZ,sS]
  refine tK 5 pu5 (v:=?_) ?_ hė ?_
  rotate_left
  ·intro W hSW; have h9:=(HSS.out W hSW).2.2.2; clear hSW; unfold pu5; go_simp; with_reducible rfl
  simp only[pu5,Act.put,sA,sZ,sS]
  refine Tillst.two (i:=6) (j:=10) (o:=pu6) (o':=pu10) (by kernel_rfl) rfl rfl ?_ ?_
  ·intro K hK
   refine step_call 72 #[.tmp 24,.tmp 26] #[134,31] rfl rfl Tryz.func72 rfl rfl [shV B,.slice A m c] rfl ((look_any (c:=c) HMD.out.log HMD.out.ylt HMD.out.ix (.inr (.inr (.inl rfl))) HMD.out.inv HKd.out HBY.out.1 (by have:=HM.out; omega)).mono ?_)
   intro e w6 hlk
   obtain ⟨ev,k6,rfl,hev,hl6,hk6,hkp6⟩:=hlk.ent
   refine ⟨_,rfl,?_⟩
   simp only[pu6,Act.put,sA,sZ,sS]
   have hS6:Kept (fun b=>((X b∨(w.heap.size≤b∧b<w5.heap.size))∨B.own b)∧b≠w.heap.size+1+1) w5 w6:=hė.trans hkp6 (fun b h=>h.1)
   have HEV:=hI hev
   have HL6:=hI hl6
   have HK6:=hI hk6
   have HKP6:=hI (HVD.out.trans hkp6 (fun b h=>h))
   have HE6:=hI (HED.out.kept hkp6 HYE.out)
   clear hlk hev hl6 hk6 hkp6 hė
   refine hK.out _ _ (fun _=>hS6) (fun hė=>?_)
   replace hė:=hė (by decide)
   clear hK K hS6
   refine tK 7 pu7 (v:=?_) ?_ hė ?_
   rotate_left
   ·intro W hSW; unfold pu7; go_simp; with_reducible rfl
   simp only[pu7,Act.put,sA,sZ,sS]
   refine tK 8 pu8 (v:=?_) ?_ hė ?_
   rotate_left
   ·intro W hSW; unfold pu8; go_simp; with_reducible rfl
   simp only[pu8,Act.put,sA,sZ,sS]
   refine tK 9 pu9 (v:=?_) ?_ hė ?_
   rotate_left
   ·intro W hSW; unfold pu9; go_simp; with_reducible rfl
   simp only[pu9,Act.put,sA,sZ,sS]
   refine tO 10 pu10 ?_
   intro K hK
   refine step_alloc14 154 rfl rfl ent0C zero_entry ?_
   simp only[pu10,Act.put,sA,sZ,sS]
   have hal:=(Below.refl w6.heap.size w6).alloc (nR _) (.cells ent0C 154)
   have hS7:Kept (fun b=>((X b∨(w.heap.size≤b∧b<w5.heap.size))∨B.own b)∧b≠w.heap.size+1+1) w5 (w6.alloc (.cells ent0C 154)):=hė.trans (Kept.of_below (S:=fun b=>((X b∨(w.heap.size≤b∧b<w5.heap.size))∨B.own b)∧b≠w.heap.size+1+1) hal (fun b h=>nL (HYL.out b h.1) hė.size)) (fun b h=>h)
   have HL7:=hI (HL6.out.grow hal)
   have HKP7:=hI (HKP6.out.trans (Kept.of_below (S:=fun b=>(X b∨(w.heap.size≤b∧b<w5.heap.size))∨B.own b) hal (fun b h=>nL (HYL.out b h) HKP6.out.size)) (fun b h=>h))
   have HE7:=hI (HE6.out.below hal HE6.out.lt)
   have HN7:=hI (Blk.new w6 154 ent0C)
   have HZ6:=hI HKP6.out.size
   have HZ7:=hI (show w6.heap.size<(w6.alloc (.cells ent0C 154)).heap.size by simp)
   clear hal
   generalize w6.heap.size=g6 at *
   generalize w6.alloc _=w7 at *
   refine hK.out _ _ (fun _=>hS7) (fun hė=>?_)
   replace hė:=hė (by decide)
   clear hK K hS7
   refine tO 11 pu11 ?_
   intro K hK
   refine step_store14 (.tmp 6) (.tmp 28) 154 rfl rfl g6 ev rfl rfl 154 _ HN7.out (by rw[size_entry,HEV.out.size.1]) (by rw[HEV.out.size.1]; rfl) HEV.out.size.2 ?_
   simp only[pu11,Act.put,sA,sZ,sS]
   have hk8:Kept (fun b=>b≠g6) w7 (w7.setRow g6 ev):=(Kept.refl _ _).setRow (fun h=>h rfl) ev
   have hS8:Kept (fun b=>((X b∨(w.heap.size≤b∧b<w5.heap.size))∨B.own b)∧b≠w.heap.size+1+1) w5 (w7.setRow g6 ev):=hė.trans hk8 (fun b h=>by have:=HYL.out b h.1; have:=HZ6.out; omega)
   have HE8:=hI (HE7.out.kept hk8 (by have:=HYL.out _ HYE.out; have:=HZ6.out; omega))
   refine hK.out _ _ (fun _=>hS8) (fun hė=>?_)
   replace hė:=hė (by decide)
   clear hK K hk8 hS8
   refine tO 12 pu12 ?_
   intro K hK
   have e8:(w7.setRow g6 ev).cell? ⟨w.heap.size+1+1,0,none⟩=some (.int .i64 0):=HE8.out.cell 0
   have e9:=HE8.out.frozen 0
   go_simp
   clear e8 e9
   have hS9:Kept (fun b=>((X b∨(w.heap.size≤b∧b<w5.heap.size))∨B.own b)∧b≠w.heap.size+1+1) w5 ((w7.setRow g6 ev).setCell ⟨w.heap.size+1+1,0,none⟩ (.int .i64 0)):=hė.setCell (p:=⟨w.heap.size+1+1,0,none⟩) (fun h=>h.2 rfl) _
   refine hK.out _ _ (fun _=>hS9) (fun hė=>?_)
   clear hK K hS9
   refine Tillst.done (by kernel_rfl) ?_ _
   refine hKK _ _ (Met.intro (hJ _ _ ?_))
   (repeat apply Exists.intro)
   exact ⟨ElkC.fin HYL.out HYE.out HZ6.out (fun b h=>.inl h) (.inr ⟨nR _,HZ7.out⟩) HL7.out HK6.out HKP7.out HN7.out HE7.out HEV.out,rfl⟩
  ·intro K hK
   refine step_alloc14 154 rfl rfl ent0C zero_entry ?_
   simp only[pu10,Act.put,sA,sZ,sS]
   have hal:=(Below.refl vd.heap.size vd).alloc (nR _) (.cells ent0C 154)
   have hS6:Kept (fun b=>((X b∨(w.heap.size≤b∧b<w5.heap.size))∨B.own b)∧b≠w.heap.size+1+1) w5 (vd.alloc (.cells ent0C 154)):=hė.trans (Kept.of_below (S:=fun b=>((X b∨(w.heap.size≤b∧b<w5.heap.size))∨B.own b)∧b≠w.heap.size+1+1) hal (fun b h=>nL (HYL.out b h.1) hė.size)) (fun b h=>h)
   have HL6:=hI (HMD.out.log.grow hal)
   have HX6:=hI (HMD.out.ix.below hal HMD.out.ix.lt)
   have HKP6:=hI (HVD.out.trans (Kept.of_below (S:=fun b=>(X b∨(w.heap.size≤b∧b<w5.heap.size))∨B.own b) hal (fun b h=>nL (HYL.out b h) HVD.out.size)) (fun b h=>h))
   have HE6:=hI (HED.out.below hal HED.out.lt)
   have HKR6:=hI (HKd.out.below hal (fun b h=>nL (HYL.out b h) HVD.out.size))
   have HN6:=hI (Blk.new vd 154 ent0C)
   have HZ6:=hI HVD.out.size
   have HZ7:=hI (show vd.heap.size<(vd.alloc (.cells ent0C 154)).heap.size by simp)
   have HINV:=hI HMD.out.inv
   clear hal HMD HKd HED
   generalize vd.heap.size=g6 at *
   generalize vd.alloc _=w6 at *
   refine hK.out _ _ (fun _=>hS6) (fun hė=>?_)
   replace hė:=hė (by decide)
   clear hK K hS6
   refine tO 6 pu6 ?_
   intro K hK
   refine step_call 72 #[.tmp 24,.tmp 26] #[134,31] rfl rfl Tryz.func72 rfl rfl [shV B,.slice A m c] rfl ((look_any (c:=c) HL6.out (fun b h=>by
    rcases h with h | h
    ·exact nL (HYL.out b h) HKP6.out.size
    ·exact h.2) HX6.out (.inl (.inr (.inr (.inl rfl)))) HINV.out (HKR6.out.more (fun b h=>.inl h)) HBY.out.1 (by have:=HM.out; omega)).mono ?_)
   intro e w7 hlk
   obtain ⟨ev,k6,rfl,hev,hl7,hk7,hkp7⟩:=hlk.ent
   refine ⟨_,rfl,?_⟩
   simp only[pu6,Act.put,sA,sZ,sS]
   have hS7:Kept (fun b=>((X b∨(w.heap.size≤b∧b<w5.heap.size))∨B.own b)∧b≠w.heap.size+1+1) w5 w7:=hė.trans hkp7 (fun b h=>.inl h.1)
   have HEV:=hI hev
   have HL7:=hI hl7
   have HK6:=hI hk7
   have HKP7:=hI (HKP6.out.trans hkp7 (fun b h=>.inl h))
   have HE7:=hI (HE6.out.kept hkp7 (.inl HYE.out))
   have HN7:=hI (HN6.out.kept hkp7 (.inr ⟨nR _,HZ7.out⟩))
   clear hlk hev hl7 hk7 hkp7 hė HN6 HE6 HL6
   refine hK.out _ _ (fun _=>hS7) (fun hė=>?_)
   replace hė:=hė (by decide)
   clear hK K hS7
   refine tK 7 pu7 (v:=?_) ?_ hė ?_
   rotate_left
   ·intro W hSW; unfold pu7; go_simp; with_reducible rfl
   simp only[pu7,Act.put,sA,sZ,sS]
   refine tK 8 pu8 (v:=?_) ?_ hė ?_
   rotate_left
   ·intro W hSW; unfold pu8; go_simp; with_reducible rfl
   simp only[pu8,Act.put,sA,sZ,sS]
   refine tK 9 pu9 (v:=?_) ?_ hė ?_
   rotate_left
   ·intro W hSW; unfold pu9; go_simp; with_reducible rfl
   simp only[pu9,Act.put,sA,sZ,sS]
   refine tO 11 pu11 ?_
   intro K hK
   refine step_store14 (.tmp 6) (.tmp 28) 154 rfl rfl g6 ev rfl rfl 154 _ HN7.out (by rw[size_entry,HEV.out.size.1]) (by rw[HEV.out.size.1]; rfl) HEV.out.size.2 ?_
   simp only[pu11,Act.put,sA,sZ,sS]
   have hk8:Kept (fun b=>b≠g6) w7 (w7.setRow g6 ev):=(Kept.refl _ _).setRow (fun h=>h rfl) ev
   have hS8:Kept (fun b=>((X b∨(w.heap.size≤b∧b<w5.heap.size))∨B.own b)∧b≠w.heap.size+1+1) w5 (w7.setRow g6 ev):=hė.trans hk8 (fun b h=>by have:=HYL.out b h.1; have:=HZ6.out; omega)
   have HE8:=hI (HE7.out.kept hk8 (by have:=HYL.out _ HYE.out; have:=HZ6.out; omega))
   refine hK.out _ _ (fun _=>hS8) (fun hė=>?_)
   replace hė:=hė (by decide)
   clear hK K hk8 hS8
   refine tO 12 pu12 ?_
   intro K hK
   have e8:(w7.setRow g6 ev).cell? ⟨w.heap.size+1+1,0,none⟩=some (.int .i64 0):=HE8.out.cell 0
   have e9:=HE8.out.frozen 0
   go_simp
   clear e8 e9
   have hS9:Kept (fun b=>((X b∨(w.heap.size≤b∧b<w5.heap.size))∨B.own b)∧b≠w.heap.size+1+1) w5 ((w7.setRow g6 ev).setCell ⟨w.heap.size+1+1,0,none⟩ (.int .i64 0)):=hė.setCell (p:=⟨w.heap.size+1+1,0,none⟩) (fun h=>h.2 rfl) _
   refine hK.out _ _ (fun _=>hS9) (fun hė=>?_)
   clear hK K hS9
   refine Tillst.done (by kernel_rfl) ?_ _
   refine hKK _ _ (Met.intro (hJ _ _ ?_))
   (repeat apply Exists.intro)
   exact ⟨ElkC.fin HYL.out HYE.out HZ6.out (fun b h=>.inl h) (.inr ⟨nR _,HZ7.out⟩) HL7.out HK6.out HKP7.out HN7.out HE7.out HEV.out,rfl⟩
 case rest =>
  obtain ⟨g6,k6,ev,rfl,hg6,hl6,hk6,hkp6,hen6,hbe6,hev⟩:=hcut
  have HOL:=hI (show ∀ b,B.own b→b<w.heap.size from fun b hb=>HM0.out.own_lt hb)
  have hw45:=HB1.out.size
  have hw55:=HB4.out.size
  have hM6:StoM2 wc (fun b=>(X b∨(w.heap.size≤b∧b<w5.heap.size))∨b=g6) { B with t:=B.t,k:=k6,pe:=B.pe } slots s xs st bl false :=
   HM4.out.logTo2 hkp6 (fun b hb=>⟨.inr hb,by have:=HOL.out b hb; omega⟩) (fun b hb=>.inl hb) (fun b hb hx=>by
    have h1:=HOL.out b hb
    rcases hx with hx | hx
    ·exact HM4.out.off b hb hx
    ·omega) (fun b hb=>by
    rcases hb with hb | hb
    ·exact nL (HM4.out.lt b hb) hkp6.size
    ·rw[hb]; exact hen6.lt) (hl6.less (fun b hb=>by
    rcases hb with (h | h) | h
    ·exact .inl (.inl h)
    ·exact .inr h
    ·exact .inl (.inr h))) rfl (HM4.out.inv.held hk6)
  have h1:=HS4.out.lt
  have h2:=HI4.out.lt
  have h3:=HE4.out.lt
  have h4:=HR4.out.lt
  have h5:=HZ1.out
  have h6:=HZ2.out
  have HS6:=hI (HS4.out.kept hkp6 ⟨.inl (.inr ⟨by omega,by omega⟩),by omega⟩)
  have HI6:=hI (HI4.out.kept hkp6 ⟨.inl (.inr ⟨by omega,by omega⟩),by omega⟩)
  have HR6:=hI (HR4.out.kept hkp6 ⟨.inl (.inr ⟨by omega,by omega⟩),by omega⟩)
  have HKX6:=hI (show Kept X w wc from (Kept.of_below (HB1.out.trans (HB4.out.mono HB1.out.size)) HM0.out.lt).trans hkp6 (fun b hb=>⟨.inl (.inl hb),by have:=HM0.out.lt b hb; omega⟩))
  have HM6:=hI hM6
  have HEN6:=hI hen6
  have HBE6:=hI hbe6
  have HEV:=hI hev
  have HH6:=hI hk6
  have HG6:=hI hg6
  have HSZ6:=hI hkp6.size
  have HBL:=hI (show w.heap.size+3≤w2.heap.size∧w2.heap.size<w5.heap.size by omega)
  clear hM6 hen6 hbe6 hev hk6 hg6 hkp6 hl6 h1 h2 h3 h4 h5 h6 hw45 hw55 HS4 HI4 HE4 HR4 HS1 HI1 HE1 HR3
  have e0:wc.cell? ⟨w.heap.size+1+1,0,none⟩=some (.int .i64 0):=HBE6.out.cell 0
  go_upto_region 11 with fail
  clear e0
  go_cut [34] from 35 to 46 (fun t wx=>t=.bool (fullS st us slots)∧Kept (fun _=>True) wc wx)
  case first J KK hJ hKK =>
   by_cases hno:hasS st us=none
   case neg =>
    have hf:fullS st us slots=false:=by
     cases h:fullS st us slots with
     | false=>rfl
     | true=>exact absurd (full_iff.1 h).1 hno
    have n0:wc.cell? ⟨g6,0,none⟩=some (.bool true):=by
     rcases HEV.out with ⟨h,_⟩ | ⟨q,b1,b2,_,h⟩
     ·exact absurd h hno
     ·have h9:=HEN6.out
      rw[h] at h9
      exact h9.cell 0
    go_wp2_with fail
    go_meet
    case rel=>exact ⟨by rw[hf],Kept.refl _ _⟩
   case pos =>
    have hev0:ev=ent0C:=by
     rcases HEV.out with ⟨_,h⟩ | ⟨q,b1,b2,h,_⟩
     ·exact h
     ·rw[hno] at h; cases h
    subst hev0
    have s0:wc.cell? ⟨w.heap.size,0,none⟩=some (.pointer (some ⟨B.q,0,none⟩)):=HS6.out.cell 0
    have n0:wc.cell? ⟨g6,0,none⟩=some (.bool false):=HEN6.out.cell 0
    have q1:wc.cell? ⟨B.q,1,none⟩=some (.pointer (some ⟨B.x,0,none⟩)):=HM6.out.cells.2.1
    have HLF:=hI (left_s14 HM6.out)
    by_cases hfl:st.length=slots
    ·have hd:((slots:Int)-(st.length:Nat)==0)=true:=by
      rw[hfl]; simp
     have hf:fullS st us slots=true:=full_iff.2 ⟨hno,hfl⟩
     have HF:=hI hf
     clear hno hfl hf
     go_wp2_with fail
     refine HLF.out.mono ?_
     rintro e w6 ⟨rfl,hk⟩
     have HK9:=hI hk
     clear hk HLF
     go_wp2_with fail
     go_meet
     case rel=>exact ⟨by rw[HF.out],HK9.out⟩
    ·have hd:((slots:Int)-(st.length:Nat)==0)=false:=by
      have:(slots:Int)-(st.length:Nat)≠0:=by omega
      simpa using this
     have hf:fullS st us slots=false:=by
      cases h:fullS st us slots with
      | false=>rfl
      | true=>exact absurd (full_iff.1 h).2 hfl
     have HF:=hI hf
     clear hno hfl hf
     go_wp2_with fail
     refine HLF.out.mono ?_
     rintro e w6 ⟨rfl,hk⟩
     have HK9:=hI hk
     clear hk HLF
     go_wp2_with fail
     go_meet
     case rel=>exact ⟨by rw[HF.out],HK9.out⟩
  case rest =>
   obtain ⟨rfl,hkw⟩:=hcut
   have HM7:=hI (HM6.out.offX hkw (fun _ _ _=>trivial))
   have HS7:=hI (HS6.out.kept hkw trivial)
   have HI7:=hI (HI6.out.kept hkw trivial)
   have HR7:=hI (HR6.out.kept hkw trivial)
   have HEN7:=hI (HEN6.out.kept hkw trivial)
   have HBE7:=hI (HBE6.out.kept hkw trivial)
   have HKX7:=hI (HKX6.out.trans hkw (fun _ _=>trivial))
   have HSZ7:=hI (nT HSZ6.out hkw.size)
   clear hkw HM6 HS6 HI6 HR6 HEN6 HBE6 HKX6 HSZ6
   have e0:wc.cell? ⟨w.heap.size+1+1,0,none⟩=some (.int .i64 0):=HBE7.out.cell 0
   have e9:=HBE7.out.frozen 0
   cases hf:fullS st us slots with
   | true =>
    have HF:=hI hf
    clear hf
    go_wp2_with fail
    clear e0 e9
    have hkb:Kept (fun b=>b≠w.heap.size+1+1) wc (wc.setCell ⟨w.heap.size+1+1,0,none⟩ (.int .i64 6)):=(Kept.refl _ _).setCell (p:=⟨w.heap.size+1+1,0,none⟩) (fun h=>h rfl) _
    have hbx:=HBL.out
    refine ⟨.int .i64 6,?_,HKX7.out.trans hkb (fun b hb=>by have:=HM0.out.lt b hb; omega),.inl ⟨?_,rfl,k6,?_,HH6.out⟩⟩
    ·have c6:(wc.setCell ⟨w.heap.size+1+1,0,none⟩ (.int .i64 6)).cell? ⟨w.heap.size+1+1,0,none⟩=some (.int .i64 6):=(HBE7.out.set_ 0 (.int .i64 6)).cell 0
     simp[results,Tryz.f19,go_sem,c6]
    ·rw[HKEY.out]; exact HF.out
    ·exact (HM7.out.offX hkb (fun b hb hn=>fun e=>hn (.inl (.inr ⟨by omega,by omega⟩)))).less (fun b hb=>.inl (.inl hb))
   | false =>
    have HF:=hI hf
    have hmf:∀ (fn:Fn) (first cap:Array Value) (w:World),(Instr.makeFunc fn first cap).run Tryz.prog w=.ok (.func fn first cap) w:=fun _ _ _ _=>rfl
    clear hf
    obtain ⟨w8,hw8⟩:∃ w8,w8=wc.alloc (.cells #[.int .i64 0,.int .u64 0,.int .i64 0] 35):=⟨_,rfl⟩
    have hal:Below wc.heap.size wc w8:=by rw[hw8]; exact (Below.refl _ wc).alloc (nR _) _
    have HA8:=hI (show Blk w8 wc.heap.size 35 #[.int .i64 0,.int .u64 0,.int .i64 0] by rw[hw8]; exact Blk.new wc _ _)
    have HM8:=hI (HM7.out.grow hal)
    have HS8:=hI (HS7.out.below hal HS7.out.lt)
    have HI8:=hI (HI7.out.below hal HI7.out.lt)
    have HR8:=hI (HR7.out.below hal HR7.out.lt)
    have HEN8:=hI (HEN7.out.below hal HEN7.out.lt)
    have HBE8:=hI (HBE7.out.below hal HBE7.out.lt)
    have HKX8:=hI (HKX7.out.trans (Kept.of_below (S:=X) hal (fun b hb=>nL (HM0.out.lt b hb) HKX7.out.size)) (fun b h=>h))
    have HZ8:=hI (show wc.heap.size<w8.heap.size by rw[hw8]; simp)
    have HGG:=hI HEN7.out.lt
    have HW8:=hI hw8
    clear hal hw8 HM7 HS7 HI7 HR7 HEN7 HBE7 HKX7
    go_upto_region 15 with fail
    rw[← HW8.out]
    clear e0 e9 HW8
    obtain ⟨X8,hX8⟩:∃ X8:Nat→Prop,(fun b=>((X b∨(w.heap.size≤b∧b<w5.heap.size))∨b=g6)∨(wc.heap.size≤b∧b<w8.heap.size))=X8:=⟨_,rfl⟩
    rw[hX8] at HM8
    have hx0:∀ b,X b→X8 b:=fun b hb=>by rw[← hX8]; exact .inl (.inl (.inl hb))
    have hbl:=HBL.out
    have hz1:=HZ1.out
    have hz8:=HZ8.out
    have hz7:=HSZ7.out
    have HIN:=hI (show X8 w.heap.size∧X8 (w.heap.size+1)∧X8 (w.heap.size+1+1)∧X8 w2.heap.size∧X8 g6∧X8 wc.heap.size by
     rw[← hX8]
     exact ⟨.inl (.inl (.inr ⟨by omega,by omega⟩)),.inl (.inl (.inr ⟨by omega,by omega⟩)),.inl (.inl (.inr ⟨by omega,by omega⟩)),.inl (.inl (.inr ⟨by omega,by omega⟩)),.inl (.inr rfl),.inr ⟨by omega,by omega⟩⟩)
    have HX0:=hI hx0
    have HQL:=hI (show B.q<w.heap.size from HOL.out _ (.inl rfl))
    clear hX8 hx0 hbl hz1 hz8 hz7
    have HSS:=hI (show ∀ W,Kept (fun b=>(X8 b∨B.own b)∧b≠w.heap.size+1+1∧b≠wc.heap.size) w8 W→W.cell? ⟨w.heap.size,0,none⟩=some (.pointer (some ⟨B.q,0,none⟩))∧W.cell? ⟨B.q,0,none⟩=some (.pointer (some ⟨B.l,0,none⟩))∧Blk W w2.heap.size 33 #[.int .i64 1,.int .u32 f0,.int .u32 x0,.int .u64 q0,.slice A m c,.slice A2 n2 c2] from fun W hW=>by
     obtain ⟨q0,q1,_,_⟩:=HM8.out.cells
     obtain ⟨i1,i2,i3,i4,i5,i6⟩:=HIN.out
     have h3:=HQL.out
     have hbl:=HBL.out
     have hz7:=HSZ7.out
     exact ⟨(HS8.out.kept hW ⟨.inl i1,by omega,by omega⟩).cell 0,(hW.cell (p:=⟨B.q,0,none⟩) ⟨.inr (.inl rfl),(by omega:B.q≠_),(by omega:B.q≠_)⟩).trans q0,HR8.out.kept hW ⟨.inl i4,by omega,by omega⟩⟩)
    have HRK:=hI (HK.out.kept HKX8.out (fun b hb=>hb))
    have HRV:=hI (HV.out.kept HKX8.out (fun b hb=>hb))
    have HYL:=hI (HM8.out.ylt)
    refine wp_region_noPanic ?_
    refine Tillst.region (fun W=>Kept (fun b=>(X8 b∨B.own b)∧b≠w.heap.size+1+1∧b≠wc.heap.size) w8 W) [] (by kernel_rfl) ((Kept.refl _ _).drew) (fun hė=>?_)
    have hdr:=(Below.refl w8.heap.size w8).drew
    have HAP:=hI (append_hist (HM8.out.below hdr).log (HM8.out.below hdr).ylt HPE.out.1 HPE.out.2 (c1:=c) (c2:=c2) HMAY.out HRNG.out
     ((HRK.out.below hdr (fun b hb=>HM8.out.lt b (HX0.out b hb))).more (fun b hb=>HM8.out.lt b (HX0.out b hb))) ((HRV.out.below hdr (fun b hb=>HM8.out.lt b (HX0.out b hb))).more (fun b hb=>HM8.out.lt b (HX0.out b hb))) HNC.out.1 HNC.out.2 HBY.out.1 HBY.out.2)
    clear hdr
    refine tK 0 pw0 (v:=?_) ?_ hė ?_
    rotate_left
    ·intro W hSW; have h9:=(HSS.out W hSW).1; clear hSW; unfold pw0; go_simp; with_reducible rfl
    simp only[pw0,Act.put,sA,sZ,sS]
    refine tK 1 pw1 (v:=?_) ?_ hė ?_
    rotate_left
    ·intro W hSW; unfold pw1; go_simp; with_reducible rfl
    simp only[pw1,Act.put,sA,sZ,sS]
    refine tK 2 pw2 (v:=?_) ?_ hė ?_
    rotate_left
    ·intro W hSW; unfold pw2; go_simp; with_reducible rfl
    simp only[pw2,Act.put,sA,sZ,sS]
    refine tK 3 pw3 (v:=?_) ?_ hė ?_
    rotate_left
    ·intro W hSW; unfold pw3; go_simp; with_reducible rfl
    simp only[pw3,Act.put,sA,sZ,sS]
    refine tK 4 pw4 (v:=?_) ?_ hė ?_
    rotate_left
    ·intro W hSW; have h9:=(HSS.out W hSW).2.1; clear hSW; unfold pw4; go_simp; with_reducible rfl
    simp only[pw4,Act.put,sA,sZ,sS]
    refine tK 5 pw5 (v:=.agg #[.int .i64 1,.int .u32 f0,.int .u32 x0,.int .u64 q0,.slice A m c,.slice A2 n2 c2]) ?_ hė ?_
    ·intro W hSW; exact row_runs (.tmp 5) 33 rfl w2.heap.size rfl 33 [.int .i64 1,.int .u32 f0,.int .u32 x0,.int .u64 q0,.slice A m c,.slice A2 n2 c2] _ Tryz.underlying33 rfl size_rec (HSS.out W hSW).2.2
    simp only[pw5,Act.put,sA,sZ,sS]
    refine tO 6 pw6 ?_
    intro K hK
    refine step_call 9 #[.tmp 53,.tmp 54] #[24,33] rfl rfl Tryz.func9 rfl rfl [.pointer (some ⟨B.l,0,none⟩),.agg #[.int .i64 1,.int .u32 f0,.int .u32 x0,.int .u64 q0,.slice A m c,.slice A2 n2 c2]] rfl (HAP.out.mono ?_)
    intro e w9 hap
    obtain ⟨a,er,s1,xs1,t1,k1,pe1,rfl,hk9,hl9,hcase⟩:=hap.told
    refine ⟨_,rfl,?_⟩
    simp only[pw6,Act.put,sA,sZ,sS]
    have hS9:Kept (fun b=>(X8 b∨B.own b)∧b≠w.heap.size+1+1∧b≠wc.heap.size) w8 w9:=hė.trans hk9 (fun b h=>h.1)
    have HK9:=hI (((Kept.refl (fun b=>X8 b∨B.own b) w8).drew).trans hk9 (fun b h=>h))
    have HL9:=hI hl9
    have HC:=hI hcase
    have HA9:=hI (HA8.out.kept HK9.out (.inl HIN.out.2.2.2.2.2))
    have HE9:=hI (HBE8.out.kept HK9.out (.inl HIN.out.2.2.1))
    clear hap hk9 hl9 hcase HAP hė
    refine hK.out _ _ (fun _=>hS9) (fun hė=>?_)
    replace hė:=hė (by decide)
    clear hK K hS9
    refine tK 7 pw7 (v:=?_) ?_ hė ?_
    rotate_left
    ·intro W hSW; unfold pw7; go_simp; with_reducible rfl
    simp only[pw7,Act.put,sA,sZ,sS]
    refine tK 8 pw8 (v:=?_) ?_ hė ?_
    rotate_left
    ·intro W hSW; unfold pw8; go_simp; with_reducible rfl
    simp only[pw8,Act.put,sA,sZ,sS]
    refine tK 9 pw9 (v:=?_) ?_ hė ?_
    rotate_left
    ·intro W hSW; unfold pw9; go_simp; with_reducible rfl
    simp only[pw9,Act.put,sA,sZ,sS]
    refine tO 10 pw10 ?_
    intro K hK
    refine step_store14 (.tmp 7) (.tmp 56) 35 rfl rfl wc.heap.size #[.int .i64 a.1,.int .u64 a.2.1,.int .i64 a.2.2] rfl rfl 35 _ HA9.out size_addr rfl (by simp[Value.oneCell']) ?_
    simp only[pw10,Act.put,sA,sZ,sS]
    have hk10:Kept (fun b=>b≠wc.heap.size) w9 (w9.setRow wc.heap.size #[.int .i64 a.1,.int .u64 a.2.1,.int .i64 a.2.2]):=(Kept.refl _ _).setRow (fun h=>h rfl) _
    have hS10:Kept (fun b=>(X8 b∨B.own b)∧b≠w.heap.size+1+1∧b≠wc.heap.size) w8 (w9.setRow wc.heap.size #[.int .i64 a.1,.int .u64 a.2.1,.int .i64 a.2.2]):=hė.trans hk10 (fun b h=>h.2.2)
    have hcb:wc.heap.size≠w.heap.size+1+1:=by have:=HBL.out; have:=HSZ7.out; omega
    have HE10:=hI (HE9.out.kept hk10 (Ne.symm hcb))
    have HA10:=hI (setRow_heap _ _ _ #[.int .i64 a.1,.int .u64 a.2.1,.int .i64 a.2.2] _ _ HA9.out)
    have HK10:=hI hk10
    obtain ⟨w10,hw10⟩:∃ w10,w10=w9.setRow wc.heap.size #[.int .i64 a.1,.int .u64 a.2.1,.int .i64 a.2.2]:=⟨_,rfl⟩
    rw[← hw10] at HE10 HA10 HK10 hS10 ⊢
    clear hk10 hw10
    refine hK.out _ _ (fun _=>hS10) (fun hė=>?_)
    replace hė:=hė (by decide)
    clear hK K hS10
    refine tO 11 pw11 ?_
    intro K hK
    have e8:w10.cell? ⟨w.heap.size+1+1,0,none⟩=some (.int .i64 0):=HE10.out.cell 0
    have e9:=HE10.out.frozen 0
    go_simp
    clear e8 e9
    have hS11:Kept (fun b=>(X8 b∨B.own b)∧b≠w.heap.size+1+1∧b≠wc.heap.size) w8 (w10.setCell ⟨w.heap.size+1+1,0,none⟩ (.int .i64 er)):=hė.setCell (p:=⟨w.heap.size+1+1,0,none⟩) (fun h=>h.2.1 rfl) _
    refine hK.out _ _ (fun _=>hS11) (fun hė=>?_)
    clear hK K hS11
    refine Tillst.done (by kernel_rfl) ?_ _
    refine NoPanic.normal ?_
    obtain ⟨w11,hw11⟩:∃ w11,w11=w10.setCell ⟨w.heap.size+1+1,0,none⟩ (.int .i64 er):=⟨_,rfl⟩
    have HE11:=hI (show Blk w11 (w.heap.size+1+1) 36 #[.int .i64 er] by rw[hw11]; exact HE10.out.set_ 0 (.int .i64 er))
    have HA11:=hI (show Blk w11 wc.heap.size 35 #[.int .i64 a.1,.int .u64 a.2.1,.int .i64 a.2.2] by rw[hw11]; exact Blk.far HA10.out (p:=⟨w.heap.size+1+1,0,none⟩) hcb _)
    have HK11:=hI (show Kept (fun b=>b≠wc.heap.size∧b≠w.heap.size+1+1) w9 w11 by rw[hw11]; exact (HK10.out.mono (fun b h=>h.1)).setCell (p:=⟨w.heap.size+1+1,0,none⟩) (fun h=>h.2 rfl) _)
    rw[← hw11]
    clear hw11 HE10 HA10 HK10 HE9 HA9
    have e8:w11.cell? ⟨w.heap.size+1+1,0,none⟩=some (.int .i64 er):=HE11.out.cell 0
    have e9:=HE11.out.frozen 0
    go_wp2_with fail
    clear e8 e9
    obtain ⟨w12,hw12⟩:∃ w12,w12=w11.setCell ⟨w.heap.size+1+1,0,none⟩ (.int .i64 er):=⟨_,rfl⟩
    have HE12:=hI (show Blk w12 (w.heap.size+1+1) 36 #[.int .i64 er] by rw[hw12]; exact HE11.out.set_ 0 (.int .i64 er))
    have hcb:wc.heap.size≠w.heap.size+1+1:=by have:=HBL.out; have:=HSZ7.out; omega
    have HA12:=hI (show Blk w12 wc.heap.size 35 #[.int .i64 a.1,.int .u64 a.2.1,.int .i64 a.2.2] by rw[hw12]; exact Blk.far HA11.out (p:=⟨w.heap.size+1+1,0,none⟩) hcb _)
    have HK12:=hI (show Kept (fun b=>b≠wc.heap.size∧b≠w.heap.size+1+1) w9 w12 by rw[hw12]; exact HK11.out.setCell (p:=⟨w.heap.size+1+1,0,none⟩) (fun h=>h.2 rfl) _)
    rw[← hw12]
    clear hw12 HE11 HA11 HK11
    have hbl:=HBL.out
    have hz7:=HSZ7.out
    have hgg:=HGG.out
    have hg6:=HG6.out
    obtain ⟨i1,i2,i3,i4,i5,i6⟩:=HIN.out
    have hk812:Kept (fun b=>(X8 b∨B.own b)∧b≠wc.heap.size∧b≠w.heap.size+1+1) w8 w12:=(HK9.out.mono (fun b h=>h.1)).trans HK12.out (fun b h=>h.2)
    have HS12:=hI (HS8.out.kept hk812 ⟨.inl i1,by omega,by omega⟩)
    have HI12:=hI (HI8.out.kept hk812 ⟨.inl i2,by omega,by omega⟩)
    have HEN12:=hI (HEN8.out.kept hk812 ⟨.inl i5,by omega,by omega⟩)
    have hkx:Kept X w w12:=HKX8.out.trans hk812 (fun b hb=>⟨.inl (HX0.out b hb),by have:=HM0.out.lt b hb; omega,by have:=HM0.out.lt b hb; omega⟩)
    have hl12:=HL9.out.off HK12.out (fun b _ hn=>⟨fun e=>hn (.inl (e▸i6)),fun e=>hn (.inl (e▸i3))⟩)
    have hdim:xs1.length=xs.length:=by
     have h1:=hl12.dims
     have h2:=HM8.out.log.dims
     rcases HC.out with ⟨_,_,e,_⟩ | ⟨_,_,_,_,_,e | e,_⟩
     ·rw[e] at h1; omega
     ·rw[e] at h1; omega
     ·rw[e] at h1
      have h3:(genS s).a=s.a:=rfl
      omega
    refine leaves_cons (f:=74) (args:=#[.pointer (some ⟨w.heap.size+1+1,0,none⟩),.pointer (some ⟨w.heap.size,0,none⟩),.pointer (some ⟨w.heap.size+1,0,none⟩),.pointer (some ⟨g6,0,none⟩),.pointer (some ⟨wc.heap.size,0,none⟩)]) (by simp) (by simp[go_sem]) ?_
    rcases HC.out with ⟨hno,rfl,rfl,rfl,rfl,rfl,rfl⟩ | ⟨i,ys,hsome,rfl,ha,hs1,hxs,hpe1,hat,hall,hhs⟩
    ·refine (putD_no _ _ _ _ HE12.out (by decide)).mono ?_
     rintro e u' w13 ⟨rfl,rfl,rfl⟩
     have hm:=HM8.out.logTo2 hk812 (fun b hb=>⟨.inr hb,by have:=HOL.out b hb; omega,by have:=HOL.out b hb; omega⟩) (fun b hb=>hb) HM8.out.off (fun b hb=>nL (HM8.out.lt b hb) hk812.size) hl12 rfl HM8.out.inv
     refine ⟨.int .i64 6,?_,hkx,.inr (.inl ⟨?_,hno,rfl,_,hm.less HX0.out,HH6.out⟩)⟩
     ·have c6:w13.cell? ⟨w.heap.size+1+1,0,none⟩=some (.int .i64 6):=HE12.out.cell 0
      simp[results,Tryz.f19,go_sem,c6]
     ·rw[HKEY.out]; exact HF.out
    ·have hm:=HM8.out.logTo2 hk812 (fun b hb=>⟨.inr hb,by have:=HOL.out b hb; omega,by have:=HOL.out b hb; omega⟩) (fun b hb=>hb) HM8.out.off (fun b hb=>nL (HM8.out.lt b hb) hk812.size) hl12 hdim (HM8.out.inv.go (fun a' bs' h=>(hall a' bs' h).1))
     have hil:i<bl.length:=by
      obtain ⟨_,j,cc,e,h2,_⟩:=hat
      rw[ha] at e
      injection e with e1 _
      have:=HM8.out.num
      omega
     have hfr:∀ p,p∈st→p.1≠a:=fun p hp=>(hall _ _ (HM8.out.inv.here p hp)).2
     have hsl:(outS st us).length≠slots:=by
      have h9:=HM8.out.ix.len
      unfold esS at h9
      rw[List.length_map] at h9
      by_cases hh:hasS st us=none
      ·rw[out_none hh]
       intro e
       have:=full_iff.2 ⟨hh,e⟩
       rw[HF.out] at this
       cases this
      ·have:=out_lt hh
       omega
     rw[ha] at hat hfr
     have hA12:Blk w12 wc.heap.size 35 #[.int .i64 (i:Int),.int .u64 (genG ys i),.int .i64 (usedG ys i)]:=by
      have h9:=HA12.out
      rw[ha] at h9
      exact h9
     have hrow:RowI .u8 w12 X8 A m (keyOf (recB 1 f0 x0 q0 us vs)):=by
      rw[HKEY.out]
      exact (HK.out.kept hkx (fun b hb=>hb)).more HX0.out
     refine (putD_ok (c:=c) hm (by rw[HKEY.out]; exact HEV.out) HE12.out HS12.out HI12.out HEN12.out hA12 ⟨i1,i2,i6⟩ hil hrow (by rw[HKEY.out]; exact HBY.out.1) (by have:=HM.out; omega) hat hfr HKIND.out (by rw[HKEY.out]; exact hsl)).mono ?_
     rintro e u' w13 ⟨rfl,rfl,hm13,hk13⟩
     subst hxs hpe1
     have hown:∀ b,X8 b→b<w12.heap.size∧¬ B.own b:=fun b hb=>⟨nL (HM8.out.lt b hb) hk812.size,fun e=>HM8.out.off b e hb⟩
     refine ⟨.int .i64 0,?_,hkx.trans hk13 (fun b hb=>hown b (HX0.out b hb)),.inr (.inr ⟨?_,i,s1,ys,t1,k1,hsome,hs1,rfl,hm13.less HX0.out,hhs.from HH6.out⟩)⟩
     ·have c6:w13.cell? ⟨w.heap.size+1+1,0,none⟩=some (.int .i64 0):=(HE12.out.kept hk13 (hown _ i3)).cell 0
      simp[results,Tryz.f19,go_sem,c6]
     ·rw[HKEY.out]; exact HF.out
end
end
end Go.Proofs.YtdkbpchmnhbhcaaGreat
