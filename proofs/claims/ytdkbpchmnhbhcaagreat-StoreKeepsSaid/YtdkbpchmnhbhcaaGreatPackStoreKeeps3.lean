/- Texts of StoreKeeps, packed. -/
import Derived.Test.YtdkbpchmnhbhcaaGreatPackStoreKeeps2
import Derived.Lib.SlBytesConst
import Derived.OrdersHeld
import Derived.Deep.RegionHeld3
import Derived.Deep.QuietTactic
import Derived.BigQuiet
import Derived.Sort.QuietIn
import Derived.OwnWalkIn
import Derived.Deep.DeepCutAuto
set_option linter.unusedVariables false
set_option linter.unusedSimpArgs false
set_option maxRecDepth 100000
set_option maxHeartbeats 16000000
namespace Go.Proofs.YtdkbpchmnhbhcaaGreat
open Go.RowKit
section
def iW (h c:Int):Int:=IntKind.u64.wrap (bits .xor .u64 h c*1099511628211)
def yV (h:Int) (l:List Int):Int:=l.foldl iW h
theorem Dl (h:Int) (l:List Int) (c:Int):yV h (l++[c])=iW (yV h l) c:=by simp[yV]
theorem Ik (h:Int) (xs:List Int) (k:Nat) (hk:k<xs.length) :
 yV h (xs.take (k+1))=IntKind.u64.wrap (bits .xor .u64 (yV h (xs.take k)) (xs[k]?.getD 0)*1099511628211):=by
 rw[bR xs k hk,Dl]; rfl
theorem NZ (h:Int) (A:Option Addr) (n cap:Nat) (xs:List Int) (B:Nat) (w:World) (hx:Row .u8 w B A n xs) (hb:Bytes xs) (hn:n≤9223372036854775807) :
 Calls Tryz.prog 141 #[.int .u64 h,.slice A n cap] w fun e w'=>e=.returned (.int .u64 (yV h xs))∧w=w':=by
 have hlen:=hx.1
 go_enter Tryz.func141,Tryz.ntmps141
 go_wp2
 go_loop [0,8] (fun v i=>∃ k:Nat,k≤n∧i=.int .i64 k∧v=.int .u64 (yV h (xs.take k))) (fun _ i=>n-(intOf i).toNat)
 case atStart=>exact ⟨0,by omega,rfl,rfl⟩
 case round =>
  obtain ⟨k,hk,rfl,rfl⟩:=hrel
  by_cases hlt:k<n
  ·obtain ⟨b,off,rfl,_,hc⟩:=hx.2 (by omega)
   have hcell:=hc k hlt
   have hr:0≤xs[k]?.getD 0∧xs[k]?.getD 0≤255:=by simpa [List.getD] using hb k
   have hs:=hI (Ik h xs k (by omega))
   clear hc hb hx hlen
   go_wp2
   go_round
   case rel=>exact ⟨k+1,by omega,by go_num,by rw[hs.out]⟩
   case measure=>simp[intOf]; omega
  ·clear hx hb
   go_wp2
   go_ret
   exact ⟨pV (by rw[List.take_of_length_le (by omega)]),rfl⟩
theorem Il (h:Int) (s:ByteArray) (k:Nat) (hk:k<s.size) :
 yV h ((nums s).take (k+1))=IntKind.u64.wrap (bits .xor .u64 (yV h ((nums s).take k)) (s[k].toNat:Int)*1099511628211):=by
 rw[bR _ k (by rw[nums_length]; exact hk),Dl,YR s k hk]; rfl
theorem FD (h:Int) (s:ByteArray) (w:World) (hn:s.size≤9223372036854775807) :
 Calls Tryz.prog 197 #[.int .u64 h,.string s] w fun e w'=>e=.returned (.int .u64 (yV h (nums s)))∧w=w':=by
 go_enter Tryz.func197,Tryz.ntmps197
 go_wp2
 go_loop [0,8] (fun v i=>∃ k:Nat,k≤s.size∧i=.int .i64 k∧v=.int .u64 (yV h ((nums s).take k))) (fun _ i=>s.size-(intOf i).toNat)
 case atStart=>exact ⟨0,by omega,rfl,rfl⟩
 case round =>
  obtain ⟨k,hk,rfl,rfl⟩:=hrel
  by_cases hlt:k<s.size
  ·have hs:=hI (Il h s k hlt)
   have hr:0≤(s[k].toNat:Int)∧(s[k].toNat:Int)≤255:=by have:=s[k].toNat_lt; omega
   go_wp2
   go_round
   case rel=>exact ⟨k+1,by omega,by go_num,by rw[hs.out]⟩
   case measure=>simp[intOf]; omega
  ·go_wp2
   go_ret
   exact ⟨pV (by rw[List.take_of_length_le (by rw[nums_length]; omega)]),rfl⟩
def start:Int:=14695981039346656037
theorem Ye (A:Option Addr) (n cap:Nat) (xs:List Int) (B:Nat) (w:World) (hx:Row .u8 w B A n xs) (hb:Bytes xs) (hn:n≤9223372036854775807) :
 Calls Tryz.prog 80 #[.slice A n cap] w fun e w'=>e=.returned (.int .u64 (yV start xs))∧w=w':=by
 go_enter Tryz.func80,Tryz.ntmps80
 go_wp2_with (go_at_call 141; refine (NZ _ A n cap xs B _ hx hb hn).mono ?_; rintro e w' ⟨rfl,rfl⟩)
 go_ret
 exact ⟨rfl,rfl⟩
theorem Zt (h:Int) (l:List Int) (h0:0≤h∧h<18446744073709551616):0≤yV h l∧yV h l<18446744073709551616:=by
 induction l generalizing h with
 | nil=>exact h0
 | cons c l ih =>
  show 0≤yV (iW h c) l∧yV (iW h c) l<18446744073709551616
  refine ih _ ?_
  unfold iW
  rw[IntKind.wrap_u64]
  omega
end
section
theorem KA (w:World) (xs:List Int) (m:Nat × Nat) (n:Nat) (hn:xs.length=n) {S:Nat→Prop} (hs:S w.heap.size):zW .u8 (w.alloc (.cells (xs.map (Value.int .u8)).toArray 5 m)) S (some ⟨w.heap.size,0,none⟩) n xs:=by
 subst hn
 refine ⟨rfl,fun _=>⟨w.heap.size,0,rfl,hs,fun j hj=>?_⟩⟩
 rw[World.cell?_alloc_mark]
 simp[List.getD,List.getElem?_eq_getElem hj]
end
section
section
variable {P:Program} {ops:Array Oper} {Q:Exit→Act→World→Prop} {md:Region.Mode} {S:World→Prop} {st:List Nat}
def zB (P:Program) (md:Region.Mode) (ops:Array Oper) (Q:Exit→Act→World→Prop) (S:World→Prop) (st:List Nat):Nat→Array Bool→Act→World→Prop
 | 0,l,a,w=>Region.ready md ops l=[]∧Q .normal a w
 | k+1,l,a,w=>(Region.ready md ops l=[]→Q .normal a w)∧∀ i∈Region.ready md ops l,wpOp P ops Q i (fun b v=>(st.contains i=false→S v)∧zB P md ops Q S st k (l.setIfInBounds i true) b v) a w
theorem zB.any:∀ (k:Nat) (l:Array Bool) (a:Act) (w:World),zB P md ops Q S st k l a w→wpAny P md ops Q k l a w
 | 0,_,_,_,h=>h
 | k+1,_,_,_,h=>⟨h.1,fun i hi=>wpOp_mono (fun b v g=>zB.any k _ b v g.2) (h.2 i hi)⟩
def waitsFor (md:Region.Mode) (ops:Array Oper) (st:List Nat) (i:Nat):Bool:=st.all fun s=>match ops[s]? with | some o=>o.after.any fun e=>Region.binds md e&&e.on==i | none=>false
theorem Aq {l:Array Bool} {i s:Nat} (hw:waitsFor md ops st i=true) (hun:l.getD i false=false) (hs:s∈st):s ∉ Region.ready md ops l:=by
 intro h
 obtain ⟨_,o,ho,hall⟩:=mem_ready.1 h
 unfold waitsFor at hw
 have hw:=List.all_eq_true.1 hw s hs
 simp only[ho] at hw
 obtain ⟨e,he,hb⟩:=Array.any_eq_true'.1 hw
 rw[Bool.and_eq_true,beq_iff_eq] at hb
 have:=hall e he hb.1
 rw[hb.2,hun] at this
 cases this
theorem dP {l:Array Bool} {i:Nat} (h:i∈Region.ready md ops l):l.getD i false=false:=by
 have h0:=(mem_ready.1 h).1
 rcases Nat.lt_or_ge i l.size with h' | h'
 ·simpa [h'] using h0
 ·simp[Array.getElem?_eq_none h'] at h0
theorem zB.first {i:Nat} {oi:Oper} {v:Value} (hi:ops[i]? = some oi) (hsel:∀ (j:Nat) (o:Oper) cs b,ops[j]? = some o→o.op≠.select cs b) (hQ:∀ c a w,Q (.panic c) (a.put oi.dst v) w→Q (.panic c) a w)
 (hw:waitsFor md ops st i=true):∀ (k:Nat) (l:Array Bool) (a:Act) (w:World),
  (∀ j oj,ops[j]? = some oj→j≠i→l.getD j true=false→(∀ e∈oj.after,Region.binds md e=true→e.on≠i)→oi.apart ops oj=true) →
  i∈Region.ready md ops l→YieldsIf P ops S oi v a→S w→zB P md ops Q S st k (l.setIfInBounds i true) (a.put oi.dst v) w→zB P md ops Q S st (k+1) l a w:=by
 intro k
 induction k with
 | zero =>
  intro l a w _ hr hy hS H
  refine ⟨fun h=>(by rw[h] at hr; cases hr),fun j hj=>?_⟩
  by_cases e:j=i
  ·rw[e]
   exact hy.wpOp hi hS ⟨fun _=>hS,H⟩
  ·have:=ready_mono hj e
   rw[H.1] at this
   cases this
 | succ k ih =>
  intro l a w hfree hr hy hS H
  have hun:=dP hr
  refine ⟨fun h=>(by rw[h] at hr; cases hr),fun j hj=>?_⟩
  by_cases e:j=i
  ·rw[e]
   exact hy.wpOp hi hS ⟨fun _=>hS,H⟩
  have IV:st.contains j=false:=by
   rcases h:st.contains j with _ | _
   ·rfl
   ·exact absurd hj (Aq hw hun (by simpa using h))
  obtain ⟨hjun,oj,hoj,hall⟩:=mem_ready.1 hj
  have hno:∀ e∈oj.after,Region.binds md e=true→e.on≠i:=fun e he hb heq=>by
   have:=hall e he hb
   rw[heq,hun] at this
   cases this
  have hput:=wpOp_putIf hoj (hfree j oj hoj e hjun hno) (fun cs b=>hsel i oi cs b hi) (fun cs b=>hsel j oj cs b hoj) hQ hy (H.2 j (ready_mono hj e))
  refine wpOp_mono (fun b u g=>?_) hput
  have UF:=g.2.1 IV
  refine ⟨fun _=>UF,ih (l.setIfInBounds j true) b u (fun m om hm U4 JD DW=>?_) (ready_mono hr (Ne.symm e)) g.1 UF ?_⟩
  ·refine hfree m om hm U4 ?_ DW
   by_cases hjm:j=m
   ·rw[← hjm]; exact hjun
   ·rw[getD_set_ne true hjm] at JD; exact JD
  ·rw[Array.setIfInBounds_comm _ _ e]
   exact g.2.2
theorem zB.take {i:Nat} {oi:Oper} {v:Value} {k:Nat} {l:Array Bool} {a:Act} {w:World} (hi:ops[i]? = some oi) (hs:Region.noSelect ops=true) (hf:Region.free md ops l i=true) (hr:(Region.ready md ops l).contains i=true)
 (hw:waitsFor md ops st i=true) (hQ:∀ c a w,Q (.panic c) (a.put oi.dst v) w→Q (.panic c) a w) (hg:Region.wanted oi (yielded ops a.tmps)=true) (hy:∀ w,S w→(execOp a.eval oi).run P w=.ok (.value v) w) (hS:S w)
 (h:zB P md ops Q S st k (l.setIfInBounds i true) (a.put oi.dst v) w):zB P md ops Q S st (k+1) l a w :=
 zB.first hi (Region.noSelect_spec hs) hQ hw k l a w (Region.free_spec hi hf) (by simpa using hr) (.inl ⟨hg,hy⟩) hS h
theorem zB.done {l:Array Bool} {a:Act} {w:World} (hr:Region.ready md ops l=[]) (h:Q .normal a w):∀ k,zB P md ops Q S st k l a w
 | 0=>⟨hr,h⟩
 | _+1=>⟨fun _=>h,by rw[hr]; simp⟩
theorem zB.step {i:Nat} {o:Oper} {k:Nat} {l:Array Bool} {a:Act} {w:World} (ho:ops[i]? = some o) {K0:Act→World→Prop}
 (h:∀ K:Act→World→Prop,(∀ b v,K0 b v→K b v)→if Region.wanted o (yielded ops a.tmps)=true then Oper.wp P o a w K Q else K (a.put o.dst undef) w):wpOp P ops Q i K0 a w:=by
 have:=h K0 (fun _ _ g=>g)
 unfold wpOp
 simp only[ho]
 split
 ·rename_i hw
  rw[if_pos hw] at this
  exact .inl this
 ·rename_i hw
  rw[if_neg hw] at this
  exact this
theorem zB.one {i:Nat} {o:Oper} {k:Nat} {l:Array Bool} {a:Act} {w:World} (hr:Region.ready md ops l=[i]) (ho:ops[i]? = some o)
 (h:∀ K:Act→World→Prop,Shut (∀ b v,(st.contains i=false→S v)→((st.contains i=false→S v)→zB P md ops Q S st k (l.setIfInBounds i true) b v)→K b v)→if Region.wanted o (yielded ops a.tmps)=true then Oper.wp P o a w K Q else K (a.put o.dst undef) w) :
 zB P md ops Q S st (k+1) l a w:=by
 refine ⟨fun e=>(by rw[hr] at e; cases e),fun j hj=>?_⟩
 rw[hr] at hj
 obtain rfl:j=i:=by simpa using hj
 exact zB.step (k:=k) (l:=l) ho fun K hK=>h K fun b v h1 h2=>hK b v ⟨h1,h2 h1⟩
theorem zB.two {i j:Nat} {o o':Oper} {k:Nat} {l:Array Bool} {a:Act} {w:World} (hr:Region.ready md ops l=[i,j]) (ho:ops[i]? = some o) (ho':ops[j]? = some o')
 (h:∀ K:Act→World→Prop,Shut (∀ b v,(st.contains i=false→S v)→((st.contains i=false→S v)→zB P md ops Q S st k (l.setIfInBounds i true) b v)→K b v)→if Region.wanted o (yielded ops a.tmps)=true then Oper.wp P o a w K Q else K (a.put o.dst undef) w)
 (h':∀ K:Act→World→Prop,Shut (∀ b v,(st.contains j=false→S v)→((st.contains j=false→S v)→zB P md ops Q S st k (l.setIfInBounds j true) b v)→K b v)→if Region.wanted o' (yielded ops a.tmps)=true then Oper.wp P o' a w K Q else K (a.put o'.dst undef) w) :
 zB P md ops Q S st (k+1) l a w:=by
 refine ⟨fun e=>(by rw[hr] at e; cases e),fun m hm=>?_⟩
 rw[hr] at hm
 rcases List.mem_cons.1 hm with e | hm
 ·rw[e]
  exact zB.step (k:=k) (l:=l) ho fun K hK=>h K fun b v h1 h2=>hK b v ⟨h1,h2 h1⟩
 ·obtain rfl:m=j:=by simpa using hm
  exact zB.step (k:=k) (l:=l) ho' fun K hK=>h' K fun b v h1 h2=>hK b v ⟨h1,h2 h1⟩
theorem zB.region {id:Nat} {a:Act} {w:World} (S:World→Prop) (st:List Nat) (hm:P.follows .mixedOrders=true) (hS:S w.drew) (h:S w.drew→zB P .any ops Q S st ops.size (Array.replicate ops.size false) a w.drew):(Code.region id ops true).wp P Q a w :=
 wp_region_any hm (zB.any _ _ _ _ (h hS))
end
section
variable {P:Program} {ops:Array Oper} {Q:Exit→Act→World→Prop} {md:Region.Mode} {S:World→Prop} {st:List Nat}
theorem tK (i:Nat) (oi:Oper) {v:Value} {k:Nat} {l:Array Bool} {a:Act} {w:World}
 (hy:∀ w,S w→(execOp a.eval oi).run P w=.ok (.value v) w) (hS:S w)
 (h:zB P md ops Q S st k (l.setIfInBounds i true) (a.put oi.dst v) w) (hi:ops[i]? = some oi:=by exact rfl) (hb:(Region.noSelect ops&&Region.free md ops l i&&(Region.ready md ops l).contains i&&waitsFor md ops st i)=true:=by kernel_rfl)
 (hg:Region.wanted oi (yielded ops a.tmps)=true:=by rfl) (hQ:∀ c a w,Q (.panic c) (a.put oi.dst v) w→Q (.panic c) a w:=by exact fun _ _ _ h=>h):zB P md ops Q S st (k+1) l a w:=by
 simp only[Bool.and_eq_true] at hb
 exact zB.take hi hb.1.1.1 hb.1.1.2 hb.1.2 hb.2 hQ hg hy hS h
theorem tO (i:Nat) (o:Oper) {k:Nat} {l:Array Bool} {a:Act} {w:World}
 (h:∀ K:Act→World→Prop,Shut (∀ b v,(st.contains i=false→S v)→((st.contains i=false→S v)→zB P md ops Q S st k (l.setIfInBounds i true) b v)→K b v)→if Region.wanted o (yielded ops a.tmps)=true then Oper.wp P o a w K Q else K (a.put o.dst undef) w)
 (hr:Region.ready md ops l=[i]:=by kernel_rfl) (ho:ops[i]? = some o:=by exact rfl):zB P md ops Q S st (k+1) l a w:=zB.one hr ho h
theorem hU {i k:Nat} {l:Array Bool} {K:Act→World→Prop} (hK:Shut (∀ b v,(st.contains i=false→S v)→((st.contains i=false→S v)→zB P md ops Q S st k (l.setIfInBounds i true) b v)→K b v)) (hd:st.contains i=false) (b:Act) (v:World) (h1:S v) (h2:S v→zB P md ops Q S st k (l.setIfInBounds i true) b v):K b v:=hK.out b v (fun _=>h1) (fun h=>h2 (h hd))
end
end
section
section
variable {P:Program} {ops:Array Oper} {C:World→Prop} {rest:List Oper} {o:Oper} {a:Act} {Q:Act→Prop}
theorem Fp {id:Nat} {l:List Oper} {Q:Exit→Act→World→Prop} {a:Act} {w:World} (C:World→Prop) (hm:P.follows .mixedOrders=true) (hB:Region.lexB .any l.toArray=true) (hC:C w.drew)
 (h:wpQuiet P l.toArray C (fun a'=>∀ w',C w'→Q .normal a' w') l a):(Code.region id l.toArray true).wp P Q a w :=
 wp_region_quiet (C:=C) hm hB hC (by simpa using h)
theorem WA (v:Value) (hgd:Region.wanted o (yielded ops a.tmps)=true) (h:∀ W,C W→(execOp a.eval o).run P W=.ok (.value v) W) (hk:wpQuiet P ops C Q rest (a.put o.dst v)):wpQuiet P ops C Q (o::rest) a :=
 BigFrame.wpQuiet_want hgd fun K hK=>⟨v,fun W hW=>by unfold Oper.quietAt; rw[h W hW]; exact ⟨rfl,rfl⟩,hK _ hk⟩
theorem BX (x:Operand) (ty:TypeId) (ho:o.op=.load ty x) (hgd:Region.wanted o (yielded ops a.tmps)=true) (b:Nat) (hx:a.eval x=.pointer (some ⟨b,0,none⟩))
 (t:TypeId) (cs:List Value) (d:TypeDesc) (hu:P.underlying ty=some d) (hd:d.isRow=true) (hi:(P.info? ty).map (·.size)=some cs.length) (hc:∀ W,C W→z8 W b t cs.toArray)
 (h:wpQuiet P ops C Q rest (a.put o.dst (.agg cs.toArray))):wpQuiet P ops C Q (o::rest) a :=
 WA (.agg cs.toArray) hgd (fun W hW=>by
  have hr:=run_loadAt_mid (P:=P) W b 0 ty cs d (hc W hW).rangeL hu hd hi
  unfold execOp
  simp only[ho,hx,Sem.run_bind,hr,Result.andThen_ok,Sem.run_pure]) h
theorem W9 (x:Operand) (ty:TypeId) (ho:o.op=.load ty x) (hgd:Region.wanted o (yielded ops a.tmps)=true) (p:Addr) (hx:a.eval x=.pointer (some p)) (v:Value)
 (hr:∀ W,W.cell? p=some v→(Instr.loadAt ty (.pointer (some p))).run P W=.ok v W) (hc:∀ W,C W→W.cell? p=some v)
 (h:wpQuiet P ops C Q rest (a.put o.dst v)):wpQuiet P ops C Q (o::rest) a :=
 WA v hgd (fun W hW=>by
  have hr:=hr W (hc W hW)
  unfold execOp
  simp only[ho,hx,Sem.run_bind,hr,Result.andThen_ok,Sem.run_pure]) h
theorem l9 {P:Program} {f:FuncId} {fn:Func} (hf:P.funcs[f]? = some fn) (hn:(fn.name == "runtime.NumGoroutine")=false) (hb:fn.body.isNone=false) (args:Array Value) (W:World) :
 (callFunc f args).run P W=.ok (.enter f args) W:=by
 have hn':fn.name ≠ "runtime.NumGoroutine" := by simpa using hn
 have hb':fn.body≠none:=by intro h; rw[h] at hb; cases hb
 unfold callFunc
 simp[Sem.run_bind,run_program,hf,hn',hb']
theorem Uk (f:FuncId) (xs:Array Operand) (ts:Array TypeId) (ho:o.op=.call { callee:=.value (.func f),args:=xs,argTypes:=ts }) (hgd:Region.wanted o (yielded ops a.tmps)=true)
 {fn:Func} (hf:P.funcs[f]? = some fn) (hn:(fn.name == "runtime.NumGoroutine") = false) (hb : fn.body.isNone = false)
 (v:Value) (vs:List Value) (hxs:xs.toList.map a.eval=vs) (h:∀ W,C W→Calls P f vs.toArray W fun e W'=>e=.returned v∧C W')
 (hk:wpQuiet P ops C Q rest (a.put o.dst v)):wpQuiet P ops C Q (o::rest) a :=
 BigFrame.wpQuiet_want hgd fun K hK=>⟨v,fun W hW=>by
  have:=h W hW
  have e:(xs.map a.eval)=(xs.toList.map a.eval).toArray:=by cases xs; simp
  have hc:=l9 (P:=P) hf hn hb vs.toArray W
  unfold Oper.quietAt execOp
  simp only[ho,resolve,e,hxs]
  simp[go_sem,invoke,Act.eval,Oper.quietUpon,hc]
  simpa using this,hK _ hk⟩
end
end
section
section
variable {P:Program} {w:World} {o:Oper} {a:Act} {Q:Exit→Act→World→Prop} {K:Act→World→Prop} {E:Prop} {ops:Array Oper}
theorem qw (x:Operand) (ty:TypeId) (ho:o.op=.load ty x) (b off:Nat) (hx:a.eval x=.pointer (some ⟨b,off,none⟩)) (cs:List Value) (d:TypeDesc) (hu:P.underlying ty=some d) (hd:d.isRow=true)
 (hi:(P.info? ty).map (·.size)=some cs.length) (hc:w.rangeAt b off cs):(execOp a.eval o).run P w=.ok (.value (.agg cs.toArray)) w:=by
 have hr:=run_loadAt_mid (P:=P) w b off ty cs d hc hu hd hi
 unfold execOp
 simp only[ho,hx,Sem.run_bind,hr,Result.andThen_ok,Sem.run_pure]
theorem Km (ty:TypeId) (parts:Array (Nat × Operand)) (ho:o.op=.build ty parts) (vs:List (Nat × Value)) (hv:(parts.map fun (i,x)=>(i,a.eval x)).toList=vs) (cells:Array Value) (hb:P.built ty vs=some cells) :
 (execOp a.eval o).run P w=.ok (.value (.agg cells)) w:=by
 have:=run_build (P:=P) w ty (parts.map fun (i,x)=>(i,a.eval x)) cells (by rw[hv]; exact hb)
 unfold execOp
 simp only[ho,Sem.run_bind,this,Result.andThen_ok,Sem.run_pure]
theorem aB (x y:Operand) (ty:TypeId) (ho:o.op=.store ty x y) (hgd:Region.wanted o (yielded ops a.tmps)=true) (p:Addr) (v:Value) (hx:a.eval x=.pointer (some p)) (hy:a.eval y=v)
 (hr:(Instr.storeAt ty (.pointer (some p)) v).run P w=.ok () (w.setCell p v)) (h:K (a.put o.dst undef) (w.setCell p v)):if Region.wanted o (yielded ops a.tmps)=true then Oper.wp P o a w K Q else E:=by
 rw[if_pos hgd]
 unfold Oper.wp execOp
 simp only[ho,hx,hy,hr,Sem.run_bind,Result.andThen_ok]
 exact h
theorem zN (f:FuncId) (xs:Array Operand) (ts:Array TypeId) (ho:o.op=.call { callee:=.value (.func f),args:=xs,argTypes:=ts }) (hgd:Region.wanted o (yielded ops a.tmps)=true)
 {fn:Func} (hf:P.funcs[f]? = some fn) (hn:(fn.name == "runtime.NumGoroutine")=false) (hb:fn.body.isNone=false)
 (vs:List Value) (hxs:xs.toList.map a.eval=vs) (h:Calls P f vs.toArray w fun e w'=>∃ v,e=.returned v∧K (a.put o.dst v) w') :
 if Region.wanted o (yielded ops a.tmps)=true then Oper.wp P o a w K Q else E:=by
 have e:(xs.map a.eval)=(xs.toList.map a.eval).toArray:=by cases xs; simp
 have hc:=l9 (P:=P) hf hn hb vs.toArray w
 rw[if_pos hgd]
 unfold Oper.wp execOp
 simp only[ho,resolve,e,hxs]
 simp[go_sem,invoke,Act.eval,hc]
 refine Calls.mono (by simpa using h) fun e w' hh=>?_
 obtain ⟨v,rfl,hk⟩:=hh
 exact hk
theorem qg (v:Value) (hgd:Region.wanted o (yielded ops a.tmps)=true) (hr:(execOp a.eval o).run P w=.ok (.value v) w) (h:K (a.put o.dst v) w):if Region.wanted o (yielded ops a.tmps)=true then Oper.wp P o a w K Q else E:=by
 rw[if_pos hgd]
 unfold Oper.wp
 rw[hr]
 exact h
end
theorem XP {w w':World} {b off B:Nat} {cs:List Value} (h:w.rangeAt b off cs) (hb:Below B w w') (hB:b<B):w'.rangeAt b off cs :=
 fun j v hv=>(hb.cell (p:=⟨b,off+j,none⟩) hB).trans (h j v hv)
end
section
theorem Gy {s t:ByteArray} (h:nums s=nums t):s=t:=by
 have hl:s.size=t.size:=by rw[← nums_length s,h,nums_length]
 apply ByteArray.ext
 apply Array.ext hl
 intro i h1 h2
 have g1:=YR s i h1
 have g2:=YR t i h2
 rw[h,g2] at g1
 have:t[i].toNat=s[i].toNat:=by omega
 exact (UInt8.toNat_inj.1 this).symm
theorem JO (A A':Option Addr) (n c c':Nat) (xs:List Int) (S S':Nat→Prop) (w:World) (hx:zW .u8 w S A n xs) (hx':zW .u8 w S' A' n xs) (hS:∀ b,S b→b<w.heap.size) (hS':∀ b,S' b→b<w.heap.size) (hb:Bytes xs) :
 Calls Tryz.prog 40 #[.slice A n c,.slice A' n c'] w fun e w'=>e=.returned (.bool true)∧w=w':=by
 obtain ⟨s,hs,hns⟩:=pX (P:=Tryz.prog) w 31 9 5 Tryz.underlying31 Tryz.underlying5 Tryz.underlying9 c (hx.more (T:=(·<w.heap.size)) hS).toRow hb
 obtain ⟨t,ht,hnt⟩:=pX (P:=Tryz.prog) w 31 9 5 Tryz.underlying31 Tryz.underlying5 Tryz.underlying9 c' (hx'.more (T:=(·<w.heap.size)) hS').toRow hb
 obtain rfl:s=t:=Gy (hns.trans hnt.symm)
 clear hns hnt hx hx'
 go_enter Tryz.func40,Tryz.ntmps40
 go_wp2
 go_ret
 exact ⟨rfl,rfl⟩
end
section
theorem fU (w:World) (g:Nat) (u0 u1 u2 u3 u4 u5:Value) {p:Addr} (h:p.block≠g):((((((w.setCell ⟨g,0,none⟩ u0).setCell ⟨g,1,none⟩ u1).setCell ⟨g,2,none⟩ u2).setCell ⟨g,3,none⟩ u3).setCell ⟨g,4,none⟩ u4).setCell ⟨g,5,none⟩ u5).cell? p=w.cell? p:=by
 have key:∀ (w:World) (i:Nat) (u:Value),(w.setCell ⟨g,i,none⟩ u).cell? p=w.cell? p:=fun w i u=>World.cell?_setCell_other _ _ _ _ (by rintro rfl; exact h rfl)
 rw[key,key,key,key,key,key]
theorem z8.set6 {w:World} {g:Nat} {t:TypeId} {a0 a1 a2 a3 a4 a5:Value} (h:z8 w g t #[a0,a1,a2,a3,a4,a5]) (u0 u1 u2 u3 u4 u5:Value) :
 z8 ((((((w.setCell ⟨g,0,none⟩ u0).setCell ⟨g,1,none⟩ u1).setCell ⟨g,2,none⟩ u2).setCell ⟨g,3,none⟩ u3).setCell ⟨g,4,none⟩ u4).setCell ⟨g,5,none⟩ u5) g t #[u0,u1,u2,u3,u4,u5]:=(((((h.set_ 0 u0).set_ 1 u1).set_ 2 u2).set_ 3 u3).set_ 4 u4).set_ 5 u5
theorem z8.far6 {w:World} {g g':Nat} {t:TypeId} {cs:Array Value} (h:z8 w g' t cs) (hne:g'≠g) (u0 u1 u2 u3 u4 u5:Value) :
 z8 ((((((w.setCell ⟨g,0,none⟩ u0).setCell ⟨g,1,none⟩ u1).setCell ⟨g,2,none⟩ u2).setCell ⟨g,3,none⟩ u3).setCell ⟨g,4,none⟩ u4).setCell ⟨g,5,none⟩ u5) g' t cs:=(((((h.far hne u0).far hne u1).far hne u2).far hne u3).far hne u4).far hne u5
theorem Sg {B:Nat} {a w:World} (h:Below B a w) {g:Nat} (hg:B≤g) (u0 u1 u2 u3 u4 u5:Value) :
 Below B a ((((((w.setCell ⟨g,0,none⟩ u0).setCell ⟨g,1,none⟩ u1).setCell ⟨g,2,none⟩ u2).setCell ⟨g,3,none⟩ u3).setCell ⟨g,4,none⟩ u4).setCell ⟨g,5,none⟩ u5):=(((((h.setCell hg u0).setCell hg u1).setCell hg u2).setCell hg u3).setCell hg u4).setCell hg u5
end
section
section
variable {F:Fence} {n:Nat} {P:Program} {md:Region.Mode} {ops:Array Oper} {C:World→Prop}
theorem LB {o:Oper} {a:Act} {K:Act→Prop} {K':Act→World→Prop} {Q':Exit→Act→World→Prop} {w:World} (hnd:∀ c,o.op≠.defer c) (hw:C w) (h:∀ a w',C w'→K a→K' a w')
 (ha:o.askedIn F P a C) (hh:o.quietIn F n P a C K):o.wpIn F n P a w K' Q':=by
 obtain ⟨v,h1,h2⟩:=hh
 have h3:=h1 w hw
 unfold Oper.quietAtIn at h3
 unfold Oper.wpIn
 refine ⟨ha w hw,?_⟩
 rw[Oper.semAt_plain F _ _ hnd]
 generalize (execOp a.eval o).run P w=r at *
 cases r with
 | ok x w' =>
  cases x <;> simp only[Oper.quietUponIn] at h3 <;> simp only[Oper.uponIn]
  case value u =>
   obtain ⟨e1,e2⟩:=h3
   rw[e1,e2]
   exact h _ _ hw h2
  case skip =>
   obtain ⟨e1,e2⟩:=h3
   rw[e1,← e2]
   exact h _ _ hw h2
  case enter f args =>
   obtain ⟨e1,hd,hc⟩:=h3
   rw[e1]
   exact ⟨hd,hc.mono fun e w'' ⟨he,hw''⟩=>by subst he; exact h _ _ hw'' h2⟩
 | halt x w'=>simp only[Oper.quietUponIn] at h3
theorem LC {i:Nat} {a:Act} {K:Act→Prop} {K':Act→World→Prop} {Q':Exit→Act→World→Prop} {w:World} (hnd:∀ (i:Nat) (o:Oper),ops[i]? = some o→∀ c,o.op≠.defer c) (hC:C w) (h:∀ a w',C w'→K a→K' a w')
 (hh:qOpIn F n P ops C i K a):wpOpIn F n P ops Q' i K' a w:=by
 unfold qOpIn at hh
 unfold wpOpIn
 split
 ·rename_i ho; simp only[ho] at hh; exact h _ _ hC hh
 ·rename_i o ho
  simp only[ho] at hh
  obtain ⟨ha,hh⟩:=hh
  split
  ·rename_i hw; simp only[hw,if_true] at hh; exact LB (hnd _ _ ho) hC h ha hh
  ·rename_i hw; simp only[hw] at hh; exact ⟨ha w hC,h _ _ hC hh⟩
theorem KI {Q:Act→Prop} {Q':Exit→Act→World→Prop} (hnd:∀ (i:Nat) (o:Oper),ops[i]? = some o→∀ c,o.op≠.defer c) (hQ:∀ a w,C w→Q a→Q' .normal a w):∀ (fuel:Nat) (listed:Array Bool) (a:Act) (w:World),C w →
 wpAnyQIn F n P md ops C Q fuel listed a→wpAnyIn F n P md ops Q' fuel listed a w
 | 0,_,_,_,hw,h=>⟨h.1,hQ _ _ hw h.2⟩
 | fuel+1,_,_,_,hw,h=>⟨fun h0=>hQ _ _ hw (h.1 h0),fun i hi=>LC hnd hw (fun a' w' hw'=>KI hnd hQ fuel _ a' w' hw') (h.2 i hi)⟩
def uR (o:Oper):Bool:=match o.op with
 | .defer _=>false
 | _=>true
theorem XW {l:List Oper} (h:l.all uR=true) (i:Nat) (o:Oper) (ho:l.toArray[i]? = some o) (c:Call):o.op≠.defer c:=fun e=>by
 have h1:o∈l:=by
  have:=Array.mem_of_getElem? ho
  simpa using this
 have h2:=List.all_eq_true.1 h o h1
 unfold uR at h2
 rw[e] at h2
 cases h2
theorem BO {id:Nat} {Q:Exit→Act→World→Prop} {a:Act} {w:World} {l:List Oper} (hnd:l.all uR=true) (hm:P.follows .mixedOrders=true) (hB:Region.lexB .any l.toArray=true)
 (h:wpQuietIn F n P l.toArray (fun w'=>∃ n,w'=w.drewN n) (fun a'=>∀ w',(∃ n,w'=w.drewN n)→Q .normal a' w') l a):(Code.region id l.toArray true).wpIn F n P Q a w:=by
 simp only[Region.lexB,Bool.and_eq_true] at hB
 refine wpIn_region_any hm (KI (C:=fun w'=>∃ n,w'=w.drewN n) (Q:=fun a'=>∀ w',(∃ n,w'=w.drewN n)→Q .normal a' w') (XW hnd) (fun _ w' hw' h=>h w' hw') _ _ _ _ ⟨1,rfl⟩ ?_)
 have:=wpAnyQIn_lex (F:=F) (n:=n) (C:=fun w'=>∃ n,w'=w.drewN n) (md:=.any) hB.1 l.toArray.toList 0 (Array.replicate l.toArray.size false) a (by simp) (by simpa using hB.2) (by simpa using h)
 simpa using this
end
end
section
def CO (xs:List Int):Prop:=∀ j,0≤xs.getD j 0∧xs.getD j 0≤18446744073709551615
theorem CO.take {xs:List Int} (h:CO xs) (n:Nat):CO (xs.take n):=by
 intro j
 by_cases hj:j<n
 ·have:=h j
  simpa [List.getD,List.getElem?_take,hj] using this
 ·simp[List.getD,List.getElem?_take,hj]
end
section
def Vw (g p f g' p':Int):Bool:=decide (0<p'∧g=g'∧p=p'-1∧f=48)
theorem Fa (g p f g' p' f':Int) (w:World) (hp:0≤p') (hp2:p'≤4294967295) (hf:0≤f) (hf2:f≤65535) :
 Calls Tryz.prog 177 #[.agg #[.int .u64 g,.int .u32 p,.int .i64 f],.agg #[.int .u64 g',.int .u32 p',.int .i64 f']] w fun e w'=>e=.returned (.bool (Vw g p f g' p'))∧Below w.heap.size w w':=by
 by_cases h:0<p'
 ·have h1:1≤p':=by omega
  go_enter Tryz.func177,Tryz.ntmps177
  go_wp2
  all_goals
   go_ret
   refine ⟨bV ?_,(((Below.refl _ _).alloc (nR _) _).alloc (by simp) _).alloc (by simp; omega) _⟩
   simp[Vw, *]
 ·have h1:p'=0:=by omega
  subst h1
  go_enter Tryz.func177,Tryz.ntmps177
  go_wp2
  go_ret
  refine ⟨bV ?_,(((Below.refl _ _).alloc (nR _) _).alloc (by simp) _).alloc (by simp; omega) _⟩
  simp[Vw]
end
section
def RY (xs ys:List Int):Bool:=Vw (qD xs) (posOf xs) (qJ xs) (qD ys) (posOf ys)
def uS (xss:List (List Int)) (i:Nat):Prop:=stamped (xss.getD i [])=true∧(0<i→RY (xss.getD (i-1) []) (xss.getD i [])=true)
def Chain (xss:List (List Int)):Prop:=∀ i,i<xss.length→uS xss i
def qW (xss:List (List Int)):List Int:=(xss.map zS).flatten
theorem eu (xss:List (List Int)) (k:Nat) (h:k<xss.length):qW (xss.take (k+1))=qW (xss.take k)++zS (xss.getD k []):=by
 unfold qW
 rw[List.take_succ_eq_append_getElem h,List.map_append,List.flatten_append]
 simp[List.getD,List.getElem?_eq_getElem h]
theorem QL (xss:List (List Int)) (k:Nat) (h:k≤xss.length):(qW (xss.take k)).length≤48*k:=by
 induction k with
 | zero=>simp[qW]
 | succ k ih =>
  rw[eu xss k (by omega),List.length_append]
  have:=ih (by omega)
  have:=nu (xss.getD k [])
  omega
def N8 (w:World) (e:Ending) (w':World):Prop:=e=.returned (.tuple #[.slice none 0 0,.int .i64 150])∧Below w.heap.size w w'
def vE (xss:List (List Int)) (k:Nat):Array Value:=if k=0 then #[.int .u64 0,.int .u32 0,.int .i64 0] else #[.int .u64 (qD (xss.getD (k-1) [])),.int .u32 (posOf (xss.getD (k-1) [])),.int .i64 (qJ (xss.getD (k-1) []))]
structure iZ (xss:List (List Int)) (w wr:World) (o:Value) (k:Nat):Prop where
 own:wr.ownsRow (w.heap.size+1) 5 1 o (qW (xss.take k)).length ((qW (xss.take k)).map (Value.int .u8))
 st:z8 wr w.heap.size 203 (vE xss k)
 bel:Below w.heap.size w wr
 chain:∀ i,i<k→uS xss i
theorem Wx {xss:List (List Int)} {k:Nat} (hk:k<xss.length) (h:¬ uS xss k):¬ (1≤xss.length∧Chain xss):=fun hc=>h (hc.2 k hk)
theorem iZ.next {xss:List (List Int)} {w wr w4 w5:World} {o v':Value} {k:Nat} {xs:List Int} (h:iZ xss w wr o k) (hk:k<xss.length) (hxs:xs=xss.getD k []) (hc:uS xss k)
 (hb4:Below wr.heap.size wr w4) (hown:w5.ownsRow (w.heap.size+1) 5 1 v' ((qW (xss.take k)).length+(zS xs).length) ((qW (xss.take k)).map (Value.int .u8)++(zS xs).map (Value.int .u8))) (hg:w4.grownBy w5 o.ownBlock) :
 iZ xss w (((w5.setCell ⟨w.heap.size,0,none⟩ (.int .u64 (qD xs))).setCell ⟨w.heap.size,1,none⟩ (.int .u32 (posOf xs))).setCell ⟨w.heap.size,2,none⟩ (.int .i64 (qJ xs))) v' (k+1):=by
 have hst:z8 w5 w.heap.size 203 (vE xss k):=(h.st.below hb4 h.st.lt).grown hg (fun e=>by have:=h.own.lt _ e.symm; omega)
 have hst':∃ a0 a1 a2:Value,vE xss k=#[a0,a1,a2]:=by unfold vE; split <;> exact ⟨_,_,_,rfl⟩
 obtain ⟨a0,a1,a2,ha⟩:=hst'
 rw[ha] at hst
 refine ⟨?_,?_,?_,?_⟩
 ·have e:=eu xss k hk
  rw[← hxs] at e
  rw[e,List.length_append,List.map_append]
  exact Ai hown (fun e=>by have:=hown.lt _ e; omega) _ _ _
 ·have e:vE xss (k+1)=#[.int .u64 (qD xs),.int .u32 (posOf xs),.int .i64 (qJ xs)]:=by
   unfold vE
   rw[if_neg (by omega),show k+1-1=k by omega,← hxs]
  rw[e]
  exact hst.set3 _ _ _
 ·refine nD (((h.bel.trans (hb4.mono h.bel.size))).grown hg (nT h.bel.size hb4.size) (fun g hg=>by have:=h.own.lt g hg; omega)) (nR _) _ _ _
 ·intro i hi
  by_cases e:i=k
  ·subst e; exact hc
  ·exact h.chain i (by omega)
end
section
theorem RG {xs:List Int} (h:Bytes xs) (k:Nat):Bytes (partOf xs k):=jW h (48*k) 48
theorem LK (xs:List Int) (k:Nat) (h:k+1<zD xs.length):(partOf xs k).length=48:=by
 unfold zD at h
 simp[partOf]
 omega
theorem lV {gen pos:Int} {xs:List Int} (hg:1≤gen) (hg2:gen≤18446744073709551615) (hp:0≤pos) (k:Nat) (hk:k<zD xs.length) (hpk:pos+k≤4294967295) :
 qD ((qh gen pos xs).getD k [])=gen∧posOf ((qh gen pos xs).getD k [])=pos+k∧qJ ((qh gen pos xs).getD k [])=(partOf xs k).length∧zS ((qh gen pos xs).getD k [])=partOf xs k∧stamped ((qh gen pos xs).getD k [])=true:=by
 rw[sD gen pos xs k hk]
 obtain ⟨h1,h2,h3,h4⟩:=sG gen (pos+k) (partOf xs k) (by omega) hg2 (by omega) hpk (Jr xs k)
 exact ⟨h1,h2,h3,h4,Qy gen (pos+k) (partOf xs k) hg hg2 (by omega) hpk (Jr xs k)⟩
theorem FJ {gen pos:Int} {xs:List Int} (hb:Bytes xs) (i:Nat):Bytes ((qh gen pos xs).getD i []):=by
 by_cases h:i<zD xs.length
 ·rw[sD gen pos xs i h]
  exact KJ _ _ _ (RG hb i)
 ·have:(qh gen pos xs).getD i []=[]:=by simp[List.getD,List.getElem?_eq_none (show (qh gen pos xs).length≤i by rw[yA]; omega)]
  rw[this]
  intro j
  simp
theorem FI {gen pos:Int} {xs:List Int} (hg:1≤gen) (hg2:gen≤18446744073709551615) (hp:0≤pos) (h:pos+zD xs.length≤4294967296):Chain (qh gen pos xs):=by
 intro i hi
 rw[yA] at hi
 have h1:=lV (xs:=xs) hg hg2 hp i hi (by omega)
 refine ⟨h1.2.2.2.2,fun h0=>?_⟩
 obtain ⟨j,rfl⟩:∃ j,i=j+1:=⟨i-1,by omega⟩
 have h2:=lV (xs:=xs) hg hg2 hp j (by omega) (by omega)
 have hf:=LK xs j hi
 simp only[RY,Vw,decide_eq_true_eq,Nat.add_sub_cancel]
 rw[h1.1,h1.2.1,h2.1,h2.2.1,h2.2.2.1,hf]
 omega
theorem Qr {gen pos:Int} {xs:List Int} (hg:1≤gen) (hg2:gen≤18446744073709551615) (hp:0≤pos) (h:pos+zD xs.length≤4294967296):qW (qh gen pos xs)=xs:=by
 have key:∀ k,k≤zD xs.length→qW ((qh gen pos xs).take k)=xs.take (48*k):=by
  intro k
  induction k with
  | zero=>intro _; simp[qW]
  | succ k ih =>
   intro hk
   have h1:=lV (xs:=xs) hg hg2 hp k (by omega) (by omega)
   rw[eu _ k (by rw[yA]; omega),ih (by omega),h1.2.2.2.1]
   unfold partOf
   rw[show 48*(k+1)=48*k+48 by omega,List.take_add]
 have:=key (zD xs.length) (nR _)
 rw[List.take_of_length_le (by rw[yA]; exact nR _),List.take_of_length_le (by unfold zD; omega)] at this
 exact this
end
section
theorem RowK.tail {w:World} {S:Nat→Prop} {g n:Nat} {xss:List (List Int)} (h:RowK w S (some ⟨g,0,none⟩) n xss) (k:Nat) (hk:k<n):RowK w S (some ⟨g,k*64,none⟩) (n-k) (xss.drop k):=by
 have hl:=h.1
 refine ⟨by simp; omega,fun h0=>?_⟩
 obtain ⟨b,off,e,hb,hc⟩:=h.2 (by omega)
 injection e with e
 injection e with e1 e2 _
 subst e1 e2
 refine ⟨g,k*64,rfl,hb,fun i hi=>?_⟩
 have:(xss.drop k).getD i []=xss.getD (k+i) []:=by simp[List.getD,List.getElem?_drop]
 rw[this,show k*64+i*64=0+(k+i)*64 by omega]
 exact hc (k+i) (by omega)
end
section
theorem Fg {L:List (List Int)} (h:qY L) (k:Nat) (hk:k<L.length) (ys:List Int) (hy:ys.length=64):(flat L).take (k*64)++ys++(flat L).drop (k*64+64)=flat (L.set k ys):=by
 have hc:=YU k hk
 have hl:=jl (h.take k)
 have hg:=h.get k hk
 rw[List.length_take,Nat.min_eq_left (by omega)] at hl
 have e:L.set k ys=L.take k++[ys]++L.drop (k+1):=by
  rw[List.set_eq_take_append_cons_drop,if_pos hk,List.append_assoc,List.singleton_append]
 rw[e]
 conv=>lhs; rw[hc]
 rw[jm,jm,yJ,jm,jm,yJ]
 generalize L.getD k []=zs at *
 generalize flat (L.take k)=us at *
 generalize flat (L.drop (k+1))=vs at *
 rw[List.append_assoc us zs vs,List.take_append,List.take_of_length_le (by omega),List.drop_append,hl]
 simp[show k*64+64-k*64=64 by omega,hl,hg,List.drop_append]
end
section
section
variable {P:Program} {w:World} {ops:Array Oper} {o:Oper} {a:Act} {Q:Exit→Act→World→Prop} {K:Act→World→Prop} {E:Prop}
theorem yL (x y:Operand) (ty:TypeId) (ho:o.op=.store ty x y) (hgd:Region.wanted o (yielded ops a.tmps)=true) (g:Nat) (cs:Array Value) (hx:a.eval x=.pointer (some ⟨g,0,none⟩)) (hy:a.eval y=.agg cs)
 (t:TypeId) (cs0:Array Value) (hg:z8 w g t cs0) (hi:(P.info? ty).map (·.size)=some cs.size) (hl:cs0.size=cs.size) (hone:cs.all (·.oneCell')=true)
 (h:K (a.put o.dst undef) (w.setRow g cs)):if Region.wanted o (yielded ops a.tmps)=true then Oper.wp P o a w K Q else E:=by
 rw[if_pos hgd]
 exact wp_store_row ty x y ho g cs hx hy t cs0 hg hi hl hone h
theorem ZQ {o:Oper} {a:Act} {W:World} (x:Operand) (ty:TypeId) (ho:o.op=.load ty x) (b:Nat) (hx:a.eval x=.pointer (some ⟨b,0,none⟩))
 (t:TypeId) (cs:List Value) (d:TypeDesc) (hu:P.underlying ty=some d) (hd:d.isRow=true) (hi:(P.info? ty).map (·.size)=some cs.length) (hc:z8 W b t cs.toArray) :
 (execOp a.eval o).run P W=.ok (.value (.agg cs.toArray)) W:=by
 have hr:=run_loadAt_mid (P:=P) W b 0 ty cs d hc.rangeL hu hd hi
 unfold execOp
 simp only[ho,hx,Sem.run_bind,hr,Result.andThen_ok,Sem.run_pure]
end
end
section
theorem aC:(Tryz.prog.info? 121).map (·.size)=some 6:=by kernel_rfl
theorem zR:(Tryz.prog.info? 33).map (·.size)=some 6:=by kernel_rfl
abbrev mg (k f x s n m:Int):Array Value:=#[.int .i64 k,.int .u32 f,.int .u32 x,.int .u64 s,.int .i64 n,.int .i64 m]
abbrev recC (k f x s:Int) (A:Option Addr) (n c:Nat) (A':Option Addr) (n' c':Nat):Array Value:=#[.int .i64 k,.int .u32 f,.int .u32 x,.int .u64 s,.slice A n c,.slice A' n' c']
theorem Ao (k f x s n m:Int):(mg k f x s n m).all (·.oneCell')=true:=by simp[mg,Value.oneCell']
theorem ni (k f x s:Int) (A:Option Addr) (n c:Nat) (A':Option Addr) (n' c':Nat):(recC k f x s A n c A' n' c').all (·.oneCell')=true:=by simp[recC,Value.oneCell']
theorem uE (k f x s:Int) (A A':Option Addr) (n c n' c':Nat) (w:World) :
 Calls Tryz.prog 56 #[.agg #[.int .i64 k,.int .u32 f,.int .u32 x,.int .u64 s,.slice A n c,.slice A' n' c']] w fun e w' =>
  e=.returned (.agg #[.int .i64 k,.int .u32 f,.int .u32 x,.int .u64 s,.int .i64 n,.int .i64 n'])∧Below w.heap.size w w':=by
 go_enter Tryz.func56,Tryz.ntmps56
 go_wp2_with (with_reducible refine zJ ?_)
 have hg:z8 ((w.alloc (.cells (recC k f x s A n c A' n' c') 33)).alloc (.cells (mg k f x s n n') 121)) (w.heap.size+1) 121 (mg k f x s n n'):=by
  exact zY w _ _ _
 exact Halt.ret (jF rfl _ _ (w.heap.size+1) 121 (mg k f x s n n') _ rfl hg Tryz.underlying121 rfl aC) rfl
  ⟨rfl,((Below.refl _ _).alloc (nR _) _).alloc (by simp) _⟩
def May (k f x s:Int) (n m:Nat):Prop:=s≠0∧1≤n∧n≤250∧m≤512∧(k=1∨k=2∧f=0∧x=0∧m=0)
instance zNE (k f x s:Int) (n m:Nat):Decidable (May k f x s n m):=by unfold May; infer_instance
theorem Jw (k f x s:Int) (n m:Nat) (w:World) (h:May k f x s n m) :
 Calls Tryz.prog 113 #[.agg #[.int .i64 k,.int .u32 f,.int .u32 x,.int .u64 s,.int .i64 n,.int .i64 m]] w fun e w'=>e=.returned (.bool true)∧Below w.heap.size w w':=by
 obtain ⟨h1,h2,h3,h4,h5⟩:=h
 have d1:(s==0)=false:=by simpa using h1
 have d2:decide ((n:Int)<1)=false:=by simp; omega
 have d3:decide ((250:Int)<n)=false:=by simp; omega
 have d4:decide ((512:Int)<m)=false:=by simp; omega
 rcases h5 with rfl | ⟨rfl,rfl,rfl,rfl⟩
 ·go_enter Tryz.func113,Tryz.ntmps113
  go_wp2
  go_ret
  exact ⟨rfl,(Below.refl _ _).alloc (nR _) _⟩
 ·go_enter Tryz.func113,Tryz.ntmps113
  go_wp2
  go_ret
  exact ⟨rfl,(Below.refl _ _).alloc (nR _) _⟩
theorem Lc (k f x s:Int) (n m:Nat) (w:World) (h:¬ May k f x s n m) :
 Calls Tryz.prog 113 #[.agg #[.int .i64 k,.int .u32 f,.int .u32 x,.int .u64 s,.int .i64 n,.int .i64 m]] w fun e w'=>e=.returned (.bool false)∧Below w.heap.size w w':=by
 unfold May at h
 by_cases h1:s=0
 ·subst h1
  clear h
  go_enter Tryz.func113,Tryz.ntmps113
  go_wp2
  go_ret
  exact ⟨rfl,(Below.refl _ _).alloc (nR _) _⟩
 have d1:(s==0)=false:=by simpa using h1
 by_cases h2:1≤n
 case neg =>
  have d2:decide ((n:Int)<1)=true:=by simp; omega
  clear h h2
  go_enter Tryz.func113,Tryz.ntmps113
  go_wp2
  go_ret
  exact ⟨rfl,(Below.refl _ _).alloc (nR _) _⟩
 have d2:decide ((n:Int)<1)=false:=by simp; omega
 by_cases h3:n≤250
 case neg =>
  have d3:decide ((250:Int)<n)=true:=by simp; omega
  clear h h3
  go_enter Tryz.func113,Tryz.ntmps113
  go_wp2
  go_ret
  exact ⟨rfl,(Below.refl _ _).alloc (nR _) _⟩
 have d3:decide ((250:Int)<n)=false:=by simp; omega
 by_cases h4:m≤512
 case neg =>
  have d4:decide ((512:Int)<m)=true:=by simp; omega
  clear h h4
  go_enter Tryz.func113,Tryz.ntmps113
  go_wp2
  go_ret
  exact ⟨rfl,(Below.refl _ _).alloc (nR _) _⟩
 have d4:decide ((512:Int)<m)=false:=by simp; omega
 have h5:k≠1:=fun e=>h ⟨h1,h2,h3,h4,.inl e⟩
 have d5:(k==1)=false:=by simpa using h5
 by_cases h6:k=2
 case neg =>
  have d6:(k==2)=false:=by simpa using h6
  clear h h6 h5 h1
  go_enter Tryz.func113,Tryz.ntmps113
  go_wp2
  go_ret
  exact ⟨rfl,(Below.refl _ _).alloc (nR _) _⟩
 subst h6
 clear d5 h5
 by_cases h7:f=0
 case neg =>
  have d7:(f==0)=false:=by simpa using h7
  clear h h7 h1
  go_enter Tryz.func113,Tryz.ntmps113
  go_wp2
  go_ret
  exact ⟨rfl,(Below.refl _ _).alloc (nR _) _⟩
 subst h7
 by_cases h8:x=0
 case neg =>
  have d8:(x==0)=false:=by simpa using h8
  clear h h8 h1
  go_enter Tryz.func113,Tryz.ntmps113
  go_wp2
  go_ret
  exact ⟨rfl,(Below.refl _ _).alloc (nR _) _⟩
 subst h8
 have h9:m≠0:=fun e=>h ⟨h1,h2,h3,h4,.inr ⟨rfl,rfl,rfl,e⟩⟩
 have d9:((m:Int)==0)=false:=by simp; omega
 clear h h9 h1
 go_enter Tryz.func113,Tryz.ntmps113
 go_wp2
 go_ret
 exact ⟨rfl,(Below.refl _ _).alloc (nR _) _⟩
theorem G5 (k f x s:Int) (n m:Nat) (w:World) (hn:n≤250) (hm:m≤512) :
 Calls Tryz.prog 167 #[.agg #[.int .i64 k,.int .u32 f,.int .u32 x,.int .u64 s,.int .i64 n,.int .i64 m]] w fun e w'=>e=.returned (.int .i64 ((21+n+m:Nat):Int))∧Below w.heap.size w w':=by
 go_enter Tryz.func167,Tryz.ntmps167
 go_wp2
 go_ret
 exact ⟨pV (by omega),(Below.refl _ _).alloc (nR _) _⟩
end
section
structure oJ (f x s:Int):Prop where
 f0:0≤f
 f1:f≤4294967295
 x0:0≤x
 x1:x≤4294967295
 s0:0≤s
 s1:s≤18446744073709551615
def Zl (k f x s n m:Int):List Int:=[k]++beBytes f 4++beBytes x 4++beBytes s 8++beBytes n 2++beBytes m 2
theorem o9 (k f x s n m:Int):(Zl k f x s n m).length=21:=by simp[Zl,beBytes_length]
theorem SC (k f x s:Int) (n m:Nat) (w:World) (hk:k=1∨k=2) (hr:oJ f x s) (hn:n≤250) (hm:m≤512) :
 Calls Tryz.prog 114 #[.agg #[.int .i64 k,.int .u32 f,.int .u32 x,.int .u64 s,.int .i64 n,.int .i64 m]] w fun e w'=>∃ g,e=.returned (.slice (some ⟨g,0,none⟩) 21 21)∧w.heap.size≤g∧zn w' g (Zl k f x s n m)∧Below w.heap.size w w':=by
 have HR:=hI hr
 have hk0:0≤k∧k≤255:=by omega
 clear hr hk
 go_enter Tryz.func114,Tryz.ntmps114
 go_wp2_with fail
 generalize hw1:(w.alloc _).alloc _=w1
 have mF:=hI (show z8 w1 w.heap.size 121 (mg k f x s n m) by rw[← hw1]; exact (z8.new w _ _).alloc _)
 have HA1:=hI (show zn w1 (w.heap.size+1) [k] by rw[← hw1]; exact zY w _ 5 #[.int .u8 k])
 have HB1:=hI (show Below w.heap.size w w1 by rw[← hw1]; exact ((Below.refl _ _).alloc (nR _) _).alloc (by simp) _)
 have ql:=hI (show w1.heap.size=w.heap.size+2 by rw[← hw1]; simp)
 clear hw1
 refine (Qx (some ⟨w.heap.size+1,0,none⟩) 1 1 ([k]) (·=w.heap.size+1) f w1 (HA1.out.rowN 0 (by simp[beBytes_length]) rfl) (fun b h=>by subst h; exact HA1.out.lt) (by omega) HR.out.f0 HR.out.f1).mono ?_
 rintro e w2 ⟨rfl,ha,hb⟩
 have HA2:=hI ha
 have HG2:=hI (mF.out.below hb mF.out.lt)
 have HB2:=hI (HB1.out.trans (hb.mono HB1.out.size))
 have hcell:=HG2.out.cell 2
 simp only[List.getElem?_toArray,List.getElem?_cons_zero,List.getElem?_cons_succ] at hcell
 clear ha hb
 go_wp2_with fail
 clear hcell
 refine (Qx (some ⟨w1.heap.size,0,none⟩) 5 5 ([k]++beBytes f 4) (·=w1.heap.size) x w2 (HA2.out.rowN 0 (by simp[beBytes_length]) rfl) (fun b h=>by subst h; exact HA2.out.lt) (by omega) HR.out.x0 HR.out.x1).mono ?_
 rintro e w3 ⟨rfl,ha,hb⟩
 have yt:=hI ha
 have mE:=hI (HG2.out.below hb HG2.out.lt)
 have HB3:=hI (HB2.out.trans (hb.mono HB2.out.size))
 have hcell:=mE.out.cell 3
 simp only[List.getElem?_toArray,List.getElem?_cons_zero,List.getElem?_cons_succ] at hcell
 clear ha hb
 go_wp2_with fail
 clear hcell
 refine (wN (some ⟨w2.heap.size,0,none⟩) 9 9 ([k]++beBytes f 4++beBytes x 4) (·=w2.heap.size) s w3 (yt.out.rowN 0 (by simp[beBytes_length]) rfl) (fun b h=>by subst h; exact yt.out.lt) (by omega) HR.out.s0 HR.out.s1).mono ?_
 rintro e w4 ⟨rfl,ha,hb⟩
 have lS:=hI ha
 have oZ:=hI (mE.out.below hb mE.out.lt)
 have zq:=hI (HB3.out.trans (hb.mono HB3.out.size))
 have hcell:=oZ.out.cell 4
 simp only[List.getElem?_toArray,List.getElem?_cons_zero,List.getElem?_cons_succ] at hcell
 clear ha hb
 go_wp2_with fail
 clear hcell
 refine (fP (some ⟨w3.heap.size,0,none⟩) 17 17 ([k]++beBytes f 4++beBytes x 4++beBytes s 8) (·=w3.heap.size) n w4 (lS.out.rowN 0 (by simp[beBytes_length]) rfl) (fun b h=>by subst h; exact lS.out.lt) (by omega) (by omega) (by omega)).mono ?_
 rintro e w5 ⟨rfl,ha,hb⟩
 have mI:=hI ha
 have mD:=hI (oZ.out.below hb oZ.out.lt)
 have qM:=hI (zq.out.trans (hb.mono zq.out.size))
 have hcell:=mD.out.cell 5
 simp only[List.getElem?_toArray,List.getElem?_cons_zero,List.getElem?_cons_succ] at hcell
 clear ha hb
 go_wp2_with fail
 clear hcell
 refine (fP (some ⟨w4.heap.size,0,none⟩) 19 19 ([k]++beBytes f 4++beBytes x 4++beBytes s 8++beBytes n 2) (·=w4.heap.size) m w5 (mI.out.rowN 0 (by simp[beBytes_length]) rfl) (fun b h=>by subst h; exact mI.out.lt) (by omega) (by omega) (by omega)).mono ?_
 rintro e w6 ⟨rfl,ha,hb⟩
 have gU:=hI ha
 have Y6:=hI (mD.out.below hb mD.out.lt)
 have qK:=hI (qM.out.trans (hb.mono qM.out.size))
 clear ha hb
 go_wp2_with fail
 go_ret
 exact ⟨w5.heap.size,rfl,qM.out.size,gU.out,qK.out⟩
end
section
theorem Pf (k f x s:Int) (A A':Option Addr) (n c n' c':Nat) (w:World) (h:May k f x s n n') :
 Calls Tryz.prog 71 #[.agg #[.int .i64 k,.int .u32 f,.int .u32 x,.int .u64 s,.slice A n c,.slice A' n' c']] w fun e w'=>e=.returned (.int .i64 0)∧Below w.heap.size w w':=by
 have HM:=hI h
 clear h
 go_enter Tryz.func71,Tryz.ntmps71
 go_wp2_with fail
 refine (uE k f x s A A' n c n' c' _).mono ?_
 rintro e w1 ⟨rfl,hb⟩
 have HB1:=hI (((Below.refl w.heap.size w).alloc (nR _) _).trans (hb.mono (by simp)))
 clear hb
 go_wp2_with fail
 refine (Jw k f x s n n' _ HM.out).mono ?_
 rintro e w2 ⟨rfl,hb⟩
 have HB2:=hI (HB1.out.trans (hb.mono HB1.out.size))
 clear hb
 go_wp2_with fail
 go_ret
 exact ⟨rfl,HB2.out⟩
theorem Du (k f x s:Int) (A A':Option Addr) (n c n' c':Nat) (w:World) (h:¬ May k f x s n n') :
 Calls Tryz.prog 71 #[.agg #[.int .i64 k,.int .u32 f,.int .u32 x,.int .u64 s,.slice A n c,.slice A' n' c']] w fun e w'=>e=.returned (.int .i64 160)∧Below w.heap.size w w':=by
 have HM:=hI h
 clear h
 go_enter Tryz.func71,Tryz.ntmps71
 go_wp2_with fail
 refine (uE k f x s A A' n c n' c' _).mono ?_
 rintro e w1 ⟨rfl,hb⟩
 have HB1:=hI (((Below.refl w.heap.size w).alloc (nR _) _).trans (hb.mono (by simp)))
 clear hb
 go_wp2_with fail
 refine (Lc k f x s n n' _ HM.out).mono ?_
 rintro e w2 ⟨rfl,hb⟩
 have HB2:=hI (HB1.out.trans (hb.mono HB1.out.size))
 clear hb
 go_wp2_with fail
 go_ret
 exact ⟨rfl,HB2.out⟩
theorem AO (k f x s:Int) (A A':Option Addr) (n c n' c':Nat) (w:World) (h:May k f x s n n') :
 Calls Tryz.prog 115 #[.agg #[.int .i64 k,.int .u32 f,.int .u32 x,.int .u64 s,.slice A n c,.slice A' n' c']] w fun e w'=>e=.returned (.int .i64 ((21+n+n':Nat):Int))∧Below w.heap.size w w':=by
 have HM:=hI h
 clear h
 go_enter Tryz.func115,Tryz.ntmps115
 go_wp2_with fail
 refine (uE k f x s A A' n c n' c' _).mono ?_
 rintro e w1 ⟨rfl,hb⟩
 have HB1:=hI (((Below.refl w.heap.size w).alloc (nR _) _).trans (hb.mono (by simp)))
 clear hb
 go_wp2_with fail
 refine (Jw k f x s n n' _ HM.out).mono ?_
 rintro e w2 ⟨rfl,hb⟩
 have hg:z8 w2 w1.heap.size 121 (mg k f x s n n'):=(z8.new w1 _ _).below hb (by simp)
 have HB2:=hI ((HB1.out.alloc HB1.out.size _).trans (hb.mono (by have:=HB1.out.size; simp; omega)))
 have c0:=hg.cell 0
 have c1:=hg.cell 1
 have c2:=hg.cell 2
 have c3:=hg.cell 3
 have c4:=hg.cell 4
 have c5:=hg.cell 5
 simp only[List.getElem?_toArray,List.getElem?_cons_zero,List.getElem?_cons_succ] at c0 c1 c2 c3 c4 c5
 clear hb hg
 go_wp2_with fail
 refine (G5 k f x s n n' _ HM.out.2.2.1 HM.out.2.2.2.1).mono ?_
 rintro e w3 ⟨rfl,hb⟩
 have HB3:=hI (HB2.out.trans (hb.mono HB2.out.size))
 clear hb
 clear c0 c1 c2 c3 c4 c5
 go_wp2_with fail
 go_ret
 exact ⟨rfl,HB3.out⟩
end
section
def qI (k f x s:Int) (xs ys:List Int):List Int:=Zl k f x s xs.length ys.length++xs++ys
theorem dQ (k f x s:Int) (xs ys:List Int):(qI k f x s xs ys).length=21+xs.length+ys.length:=by simp[qI,o9]; omega
def zDS (ys:List Int) (w:World) (e:Ending) (w':World):Prop :=
 ∃ v,e=.returned (.tuple #[v,.int .i64 0])∧w'.ownsRow w.heap.size 5 1 v ys.length (ys.map (Value.int .u8))∧Below w.heap.size w w'
theorem SS (k f x s:Int) (A A':Option Addr) (n c n' c':Nat) (xs ys:List Int) (S:Nat→Prop) (w:World) (h:May k f x s n n') (hr:oJ f x s)
 (hx:zW .u8 w S A n xs) (hy:zW .u8 w S A' n' ys) (hS:∀ b,S b→b<w.heap.size) (hnA:A=none→c=0) (zMj:A'=none→c'=0) :
 Calls Tryz.prog 45 #[.agg #[.int .i64 k,.int .u32 f,.int .u32 x,.int .u64 s,.slice A n c,.slice A' n' c']] w (zDS (qI k f x s xs ys) w):=by
 obtain ⟨i0,hi,hz0,hz1,hz2⟩:=info_parts rC
 have HM:=hI h
 have HR:=hI hr
 have HX:=hI hx
 have HY:=hI hy
 have hn:=h.2.2.1
 have hm:=h.2.2.2.1
 clear h hr hx hy
 go_enter Tryz.func45,Tryz.ntmps45
 go_wp2_with fail
 refine (uE k f x s A A' n c n' c' _).mono ?_
 rintro e w1 ⟨rfl,hb⟩
 have mF:=hI (show z8 w1 w.heap.size 33 (recC k f x s A n c A' n' c') from (z8.new w _ _).below hb (by simp))
 have HB1:=hI (((Below.refl w.heap.size w).alloc (nR _) _).trans (hb.mono (by simp)))
 clear hb
 go_wp2_with fail
 refine (Jw k f x s n n' _ HM.out).mono ?_
 rintro e w2 ⟨rfl,hb⟩
 have hg:z8 w2 w1.heap.size 121 (mg k f x s n n'):=(z8.new w1 _ _).below hb (by simp)
 have HG2:=hI (show z8 w2 w.heap.size 33 (recC k f x s A n c A' n' c') from (mF.out.alloc _).below hb (by have:=mF.out.lt; simp; omega))
 have HB2:=hI ((HB1.out.alloc HB1.out.size _).trans (hb.mono (by have:=HB1.out.size; simp; omega)))
 have c0:=hg.cell 0
 have c1:=hg.cell 1
 have c2:=hg.cell 2
 have c3:=hg.cell 3
 have c4:=hg.cell 4
 have c5:=hg.cell 5
 simp only[List.getElem?_toArray,List.getElem?_cons_zero,List.getElem?_cons_succ] at c0 c1 c2 c3 c4 c5
 clear hb hg
 go_wp2_with fail
 refine (SC k f x s n n' _ (by have:=HM.out.2.2.2.2; omega) HR.out hn hm).mono ?_
 rintro e w3 ⟨g,rfl,hg,ha,hb⟩
 have mE:=hI (HG2.out.below hb HG2.out.lt)
 have HB3:=hI (HB2.out.trans (hb.mono HB2.out.size))
 have HO3:=hI (ha.owns hg (o9 _ _ _ _ _ _) rfl (by unfold maxLen; omega))
 have CX:=hI (HX.out.below HB3.out hS)
 have yG:=hI hb.size
 have hcell:=mE.out.cell 4
 simp only[List.getElem?_toArray,List.getElem?_cons_zero,List.getElem?_cons_succ] at hcell
 clear hb ha hg c0 c1 c2 c3 c4 c5
 go_wp2_with (first
  | (at_builtin; refine kC rfl (.tmp 13) (.tmp 15) 31 rfl w2.heap.size 5 i0 (.int .u8 0) 1 Tryz.underlying31 hi hz0 hz1 hz2 rfl (fun _=>rfl) _ 21 _ rfl HO3.out S A n c xs rfl CX.out hnA (by unfold maxLen; omega) (by omega) yG.out ?_; intro v4 w4 zBN Db zJX; have av:=hI zBN; have zq:=hI ((Below.refl w2.heap.size w3).grown Db yG.out (fun k hk=>(HO3.out.lt k hk).1)); have zGq:=(mE.out.grown Db (fun e=>by have:=(HO3.out.lt _ e.symm).1; have:=HG2.out.lt; omega)).cell 5; have nQ:=hI (HY.out.below (HB3.out.trans (zq.out.mono HB2.out.size)) hS); simp only[List.getElem?_toArray,List.getElem?_cons_zero,List.getElem?_cons_succ] at zGq; clear zBN Db zJX)
  | (at_builtin; refine kC rfl (.tmp 17) (.tmp 19) 31 rfl w2.heap.size 5 i0 (.int .u8 0) 1 Tryz.underlying31 hi hz0 hz1 hz2 rfl (fun _=>rfl) _ (21+n) _ rfl av.out S A' n' c' ys rfl nQ.out zMj (by unfold maxLen; omega) (by omega) (nT yG.out zq.out.size) ?_; intro v5 w5 hown5 UA hblk5; have lJ:=hI hown5; have qM:=hI (zq.out.grown UA (nT yG.out zq.out.size) (fun k hk=>(av.out.lt k hk).1)); clear hown5 UA hblk5))
 go_ret2
 refine ⟨v5,rfl,?_,HB3.out.trans (qM.out.mono HB2.out.size)⟩
 have h5:=Gg lJ.out HB2.out.size
 rw[← List.map_append,← List.map_append] at h5
 rw[dQ,HX.out.1,HY.out.1]
 unfold qI
 rw[HX.out.1,HY.out.1]
 exact h5
end
section
theorem zJQ (w:World) (r g:Nat) (xs:List Int) (pos:Nat) (h:Rd w r g xs pos 0) (hn:1≤xs.length-pos) (hb:Bytes xs) :
 Calls Tryz.prog 206 #[.pointer (some ⟨r,0,none⟩)] w fun e w' =>
  e=.returned (.int .u8 (numOf ((xs.drop pos).take 1)))∧Rd w' r g xs (pos+1) 0∧Kept (fun b=>b<w.heap.size∧b≠r) w w':=by
 have H:=hI h
 have HB:=hI hb
 have hl:((xs.drop pos).take 1).length=1:=by simp; omega
 have hbt:Bytes ((xs.drop pos).take 1):=by
  have:Bytes (xs.drop pos):=fun j=>by have:=hb (pos+j); simpa [List.getD,List.getElem?_drop] using this
  exact this.take 1
 have hv:=jT _ hbt
 rw[hl] at hv
 have hv1:numOf ((xs.drop pos).take 1)<256:=hv.2
 have hv0:=hv.1
 clear h hb hbt hv hl
 go_enter Tryz.func206,Tryz.ntmps206
 go_wp2_with (go_at_call 216; refine (aH _ r g xs pos 1 H.out hn (by omega) HB.out).mono ?_; rintro e w1 ⟨rfl,hrd,hk⟩; have HD:=hI hrd; have HK:=hI hk; clear hrd hk)
 go_ret
 exact ⟨pV (by omega),HD.out,HK.out⟩
theorem dR {xs:List Int} (hb:Bytes xs) (i n:Nat):0≤numOf ((xs.drop i).take n)∧numOf ((xs.drop i).take n)<((256 ^ n:Nat):Int):=by
 have hd:Bytes ((xs.drop i).take n):=by
  have:Bytes (xs.drop i):=fun j=>by have:=hb (i+j); simpa [List.getD,List.getElem?_drop] using this
  exact this.take n
 have h:=jT _ hd
 have h2:((xs.drop i).take n).length≤n:=by simp; omega
 have h3:(256 ^ ((xs.drop i).take n).length:Nat)≤256 ^ n:=Nat.pow_le_pow_right (by omega) h2
 exact ⟨h.1,by omega⟩
def kindOf (xs:List Int):Int:=numOf (xs.take 1)
def flagsOf (xs:List Int):Int:=numOf ((xs.drop 1).take 4)
def qA (xs:List Int):Int:=numOf ((xs.drop 5).take 4)
def zo (xs:List Int):Int:=numOf ((xs.drop 9).take 8)
def zH (xs:List Int):Nat:=(numOf ((xs.drop 17).take 2)).toNat
def zO (xs:List Int):Nat:=(numOf ((xs.drop 19).take 2)).toNat
theorem Ms {xs:List Int} (hb:Bytes xs):numOf ((xs.drop 17).take 2)=(zH xs:Int):=by have:=(dR hb 17 2).1; unfold zH; omega
theorem M5 {xs:List Int} (hb:Bytes xs):numOf ((xs.drop 19).take 2)=(zO xs:Int):=by have:=(dR hb 19 2).1; unfold zO; omega
theorem zCz {xs:List Int} (hb:Bytes xs):zH xs<65536:=by have:=(dR hb 17 2).2; unfold zH; omega
theorem zCN {xs:List Int} (hb:Bytes xs):zO xs<65536:=by have:=(dR hb 19 2).2; unfold zO; omega
structure rM (w wi:World) (r g:Nat) (xs:List Int) (pos:Nat) (cs:Array Value):Prop where
 rd:Rd wi r g xs pos 0
 lo:r<w.heap.size
 lo':g<w.heap.size
 res:z8 wi w.heap.size 121 #[.int .i64 0,.int .u32 0,.int .u32 0,.int .u64 0,.int .i64 0,.int .i64 0]
 st:z8 wi (w.heap.size+1) 121 cs
 kept:Kept (fun b=>b<w.heap.size∧b≠r) w wi
theorem rM.read {w wi w':World} {r g:Nat} {xs:List Int} {pos pos':Nat} {cs:Array Value} (h:rM w wi r g xs pos cs) (hr:Rd w' r g xs pos' 0) (hk:Kept (fun b=>b<wi.heap.size∧b≠r) wi w'):rM w w' r g xs pos' cs :=
 ⟨hr,h.lo,h.lo',h.res.kept hk ⟨h.res.lt,by have:=h.lo; omega⟩,h.st.kept hk ⟨h.st.lt,by have:=h.lo; omega⟩,h.kept.trans hk fun b hb=>⟨nL hb.1 h.kept.size,hb.2⟩⟩
theorem rM.set {w wi:World} {r g:Nat} {xs:List Int} {pos:Nat} {cs cs':Array Value} (h:rM w wi r g xs pos cs) (i:Nat) (u:Value) (hu:cs.setIfInBounds i u=cs') :
 rM w (wi.setCell ⟨w.heap.size+1,i,none⟩ u) r g xs pos cs' :=
 ⟨h.rd.far (by have:=h.lo; show w.heap.size+1≠r; omega) (by have:=h.lo'; show w.heap.size+1≠g; omega) u,h.lo,h.lo',h.res.far (by show w.heap.size≠w.heap.size+1; omega) u,hu▸h.st.set_ i u,h.kept.setCell (by show ¬ (w.heap.size+1<w.heap.size∧w.heap.size+1≠r); omega) u⟩
def zAP (xs:List Int) (r g:Nat) (w:World) (e:Ending) (w':World):Prop :=
 e=.returned (.agg #[.int .i64 (kindOf xs),.int .u32 (flagsOf xs),.int .u32 (qA xs),.int .u64 (zo xs),.int .i64 (zH xs),.int .i64 (zO xs)]) ∧
  Rd w' r g xs 21 0∧Kept (fun b=>b<w.heap.size∧b≠r) w w'
theorem eY (xs:List Int) (w:World) (r g:Nat) (h:Rd w r g xs 0 0) (hl:21≤xs.length) (hb:Bytes xs) (hr:r<w.heap.size) (hg:g<w.heap.size) :
 Calls Tryz.prog 179 #[.pointer (some ⟨r,0,none⟩)] w (zAP xs r g w):=by
 have qm:=hI hb
 have jg:=hI h
 have kE:=dR hb 0 1
 rw[List.drop_zero] at kE
 have hk0:0≤kindOf xs:=kE.1
 have hk1:kindOf xs<256:=kE.2
 have hkl:=zCz hb
 have hvl:=zCN hb
 clear hb h kE
 go_enter Tryz.func179,Tryz.ntmps179
 go_wp2_with fail
 generalize hw1:(w.alloc _).alloc _=w1
 have QZ:=hI (show rM w w1 r g xs 0 #[.int .i64 0,.int .u32 0,.int .u32 0,.int .u64 0,.int .i64 0,.int .i64 0] by
  rw[← hw1]
  have hk:Kept (fun b=>b<w.heap.size) w ((w.alloc (.cells #[.int .i64 0,.int .u32 0,.int .u32 0,.int .u64 0,.int .i64 0,.int .i64 0] 121)).alloc (.cells #[.int .i64 0,.int .u32 0,.int .u32 0,.int .u64 0,.int .i64 0,.int .i64 0] 121)) :=
   ((Kept.refl _ w).alloc (fun b h=>h) _).alloc (fun b h=>by simp; omega) _
  exact ⟨jg.out.kept hk hr hg,hr,hg,(z8.new w _ _).alloc _,zY w _ _ _,hk.mono fun b h=>h.1⟩)
 clear hw1
 refine (zJQ _ r g xs 0 QZ.out.rd (by omega) qm.out).mono ?_
 rintro e w2 ⟨rfl,hrd,hk⟩
 rw[List.drop_zero,show numOf (xs.take 1)=kindOf xs from rfl]
 have Xt:=hI ((QZ.out.read hrd hk).set 0 (.int .i64 (kindOf xs)) rfl)
 have hc:=(QZ.out.read hrd hk).st.cell 0
 have hf:=(QZ.out.read hrd hk).st.frozen 0
 clear hrd hk
 go_wp2_with fail
 clear hc hf
 refine (Br _ r g xs 1 Xt.out.rd (by omega) qm.out).mono ?_
 rintro e w3 ⟨rfl,hrd,hk⟩
 rw[show numOf ((xs.drop 1).take 4)=flagsOf xs from rfl]
 have V7:=hI ((Xt.out.read hrd hk).set 1 (.int .u32 (flagsOf xs)) rfl)
 have hc:=(Xt.out.read hrd hk).st.cell 1
 have hf:=(Xt.out.read hrd hk).st.frozen 1
 clear hrd hk
 go_wp2_with fail
 clear hc hf
 refine (Br _ r g xs 5 V7.out.rd (by omega) qm.out).mono ?_
 rintro e w4 ⟨rfl,hrd,hk⟩
 rw[show numOf ((xs.drop 5).take 4)=qA xs from rfl]
 have iy:=hI ((V7.out.read hrd hk).set 2 (.int .u32 (qA xs)) rfl)
 have hc:=(V7.out.read hrd hk).st.cell 2
 have hf:=(V7.out.read hrd hk).st.frozen 2
 clear hrd hk
 go_wp2_with fail
 clear hc hf
 refine (TU _ r g xs 9 iy.out.rd (by omega) qm.out).mono ?_
 rintro e w5 ⟨rfl,hrd,hk⟩
 rw[show numOf ((xs.drop 9).take 8)=zo xs from rfl]
 have V6:=hI ((iy.out.read hrd hk).set 3 (.int .u64 (zo xs)) rfl)
 have hc:=(iy.out.read hrd hk).st.cell 3
 have hf:=(iy.out.read hrd hk).st.frozen 3
 clear hrd hk
 go_wp2_with fail
 clear hc hf
 refine (Yw _ r g xs 17 V6.out.rd (by omega) qm.out).mono ?_
 rintro e w6 ⟨rfl,hrd,hk⟩
 rw[Ms qm.out]
 have CW:=hI ((V6.out.read hrd hk).set 4 (.int .i64 (zH xs)) rfl)
 have hc:=(V6.out.read hrd hk).st.cell 4
 have hf:=(V6.out.read hrd hk).st.frozen 4
 clear hrd hk
 go_wp2_with fail
 clear hc hf
 refine (Yw _ r g xs 19 CW.out.rd (by omega) qm.out).mono ?_
 rintro e w7 ⟨rfl,hrd,hk⟩
 rw[M5 qm.out]
 have pI:=hI ((CW.out.read hrd hk).set 5 (.int .i64 (zO xs)) rfl)
 have hc:=(CW.out.read hrd hk).st.cell 5
 have hf:=(CW.out.read hrd hk).st.frozen 5
 clear hrd hk
 go_wp2_with (first
  | (refine zV (.tmp 3) 121 rfl rfl (w.heap.size+1) rfl 121 [.int .i64 (kindOf xs),.int .u32 (flagsOf xs),.int .u32 (qA xs),.int .u64 (zo xs),.int .i64 (zH xs),.int .i64 (zO xs)] _ Tryz.underlying121 rfl aC pI.out.st ?_)
  | (refine zF (.tmp 2) (.tmp 25) 121 rfl rfl w.heap.size #[.int .i64 (kindOf xs),.int .u32 (flagsOf xs),.int .u32 (qA xs),.int .u64 (zo xs),.int .i64 (zH xs),.int .i64 (zO xs)] rfl rfl 121 _ pI.out.res aC rfl (Ao _ _ _ _ _ _) ?_)
  | (with_reducible refine zJ ?_))
 have hst:=setRow_heap _ _ _ (mg (kindOf xs) (flagsOf xs) (qA xs) (zo xs) (zH xs) (zO xs)) _ _ pI.out.res
 refine Halt.ret (jF rfl _ _ w.heap.size 121 (mg (kindOf xs) (flagsOf xs) (qA xs) (zo xs) (zH xs) (zO xs)) _ rfl hst Tryz.underlying121 rfl aC) rfl ⟨rfl,?_,?_⟩
 ·exact pI.out.rd.kept ((Kept.refl (fun b=>b<w.heap.size) _).setRow (by show ¬ w.heap.size<w.heap.size; omega) _) pI.out.lo pI.out.lo'
 ·exact pI.out.kept.setRow (by show ¬ (w.heap.size<w.heap.size∧w.heap.size≠r); omega) _
end
section
theorem bS {α:Type} (xs:List α) (m i n:Nat) (h:i+n≤m):((xs.take m).drop i).take n=(xs.drop i).take n:=by
 rw[List.drop_take,List.take_take,Nat.min_eq_left (by omega)]
theorem aK (xs:List Int) (m:Nat) (h:21≤m):kindOf (xs.take m)=kindOf xs:=by unfold kindOf; rw[List.take_take,Nat.min_eq_left (by omega)]
theorem uJ (xs:List Int) (m:Nat) (h:21≤m):flagsOf (xs.take m)=flagsOf xs:=by unfold flagsOf; rw[bS _ _ _ _ (by omega)]
theorem Zu (xs:List Int) (m:Nat) (h:21≤m):qA (xs.take m)=qA xs:=by unfold qA; rw[bS _ _ _ _ (by omega)]
theorem ZH (xs:List Int) (m:Nat) (h:21≤m):zo (xs.take m)=zo xs:=by unfold zo; rw[bS _ _ _ _ (by omega)]
theorem sK (xs:List Int) (m:Nat) (h:21≤m):zH (xs.take m)=zH xs:=by unfold zH; rw[bS _ _ _ _ (by omega)]
theorem ru (xs:List Int) (m:Nat) (h:21≤m):zO (xs.take m)=zO xs:=by unfold zO; rw[bS _ _ _ _ (by omega)]
def vK (xs:List Int):Prop:=May (kindOf xs) (flagsOf xs) (qA xs) (zo xs) (zH xs) (zO xs)
instance zND (xs:List Int):Decidable (vK xs):=by unfold vK; infer_instance
def jU (xs:List Int):Nat:=21+zH xs+zO xs
theorem KO (A:Option Addr) (n c:Nat) (w:World) (hn:n<21) :
 Calls Tryz.prog 176 #[.slice A n c] w fun e w'=>e=.returned (.tuple #[.int .i64 0,.int .i64 9])∧Below w.heap.size w w':=by
 go_enter Tryz.func176,Tryz.ntmps176
 go_wp2_with fail
 go_ret2
 exact ⟨rfl,Below.refl _ _⟩
theorem Gz (A:Option Addr) (n c:Nat) (xs:List Int) (S:Nat→Prop) (w:World) (hx:zW .u8 w S A n xs) (hS:∀ b,S b→b<w.heap.size) (hb:Bytes xs) (hn:21≤n) (hc:n≤c) (hm:¬ vK xs) :
 Calls Tryz.prog 176 #[.slice A n c] w fun e w'=>e=.returned (.tuple #[.int .i64 0,.int .i64 160])∧Below w.heap.size w w':=by
 obtain ⟨b0,o0,rfl,hb0,hc0⟩:=hx.2 (by omega)
 have hl:=hx.1
 have HX:=hI (hx.take 21 hn)
 have qm:=hI (hb.take 21)
 have HM:=hI hm
 have h1:¬ ((n:Int)<21):=by omega
 have h2:(21:Int)≤c:=by omega
 clear hx hb hm hb0 hc0
 go_enter Tryz.func176,Tryz.ntmps176
 go_wp2_with fail
 refine (ZV _ 21 c (xs.take 21) S w HX.out hS (by omega)).mono ?_
 rintro e w2 ⟨r,rfl,hr,hrd,hb⟩
 have HB2:=hI hb
 have HD2:=hI hrd
 clear hb hrd
 go_wp2_with fail
 refine (eY (xs.take 21) w2 r w.heap.size HD2.out (by simp; omega) qm.out HD2.out.blk.lt HD2.out.arr.lt).mono ?_
 rintro e w3 ⟨rfl,hrd,hk⟩
 rw[aK _ _ (by omega),uJ _ _ (by omega),Zu _ _ (by omega),ZH _ _ (by omega),sK _ _ (by omega),ru _ _ (by omega)]
 have HB3:=hI (HB2.out.trans (hk.to_below (B:=w.heap.size) fun b hb=>⟨by have:=HB2.out.size; omega,by omega⟩))
 clear hrd hk
 go_wp2_with fail
 refine (Lc _ _ _ _ _ _ _ HM.out).mono ?_
 rintro e w4 ⟨rfl,hb⟩
 have zq:=hI ((HB3.out.alloc HB3.out.size _).trans (hb.mono (by have:=HB3.out.size; simp; omega)))
 clear hb
 go_wp2_with fail
 go_ret2
 exact ⟨rfl,zq.out⟩
theorem Vf (A:Option Addr) (n c:Nat) (xs:List Int) (S:Nat→Prop) (w:World) (hx:zW .u8 w S A n xs) (hS:∀ b,S b→b<w.heap.size) (hb:Bytes xs) (hn:21≤n) (hc:n≤c) (hm:vK xs) :
 Calls Tryz.prog 176 #[.slice A n c] w fun e w'=>e=.returned (.tuple #[.int .i64 ((jU xs:Nat):Int),.int .i64 0])∧Below w.heap.size w w':=by
 obtain ⟨b0,o0,rfl,hb0,hc0⟩:=hx.2 (by omega)
 have hl:=hx.1
 have HX:=hI (hx.take 21 hn)
 have qm:=hI (hb.take 21)
 have HM:=hI hm
 have h1:¬ ((n:Int)<21):=by omega
 have h2:(21:Int)≤c:=by omega
 clear hx hb hm hb0 hc0
 go_enter Tryz.func176,Tryz.ntmps176
 go_wp2_with fail
 refine (ZV _ 21 c (xs.take 21) S w HX.out hS (by omega)).mono ?_
 rintro e w2 ⟨r,rfl,hr,hrd,hb⟩
 have HB2:=hI hb
 have HD2:=hI hrd
 clear hb hrd
 go_wp2_with fail
 refine (eY (xs.take 21) w2 r w.heap.size HD2.out (by simp; omega) qm.out HD2.out.blk.lt HD2.out.arr.lt).mono ?_
 rintro e w3 ⟨rfl,hrd,hk⟩
 rw[aK _ _ (by omega),uJ _ _ (by omega),Zu _ _ (by omega),ZH _ _ (by omega),sK _ _ (by omega),ru _ _ (by omega)]
 have HB3:=hI (HB2.out.trans (hk.to_below (B:=w.heap.size) fun b hb=>⟨by have:=HB2.out.size; omega,by omega⟩))
 clear hrd hk
 go_wp2_with fail
 refine (Jw _ _ _ _ _ _ _ HM.out).mono ?_
 rintro e w4 ⟨rfl,hb⟩
 have hg:z8 w4 w3.heap.size 121 (mg (kindOf xs) (flagsOf xs) (qA xs) (zo xs) (zH xs) (zO xs)):=(z8.new w3 _ _).below hb (by simp)
 have zq:=hI ((HB3.out.alloc HB3.out.size _).trans (hb.mono (by have:=HB3.out.size; simp; omega)))
 have c0:=hg.cell 0
 have c1:=hg.cell 1
 have c2:=hg.cell 2
 have c3:=hg.cell 3
 have c4:=hg.cell 4
 have c5:=hg.cell 5
 simp only[List.getElem?_toArray,List.getElem?_cons_zero,List.getElem?_cons_succ] at c0 c1 c2 c3 c4 c5
 clear hb hg
 go_wp2_with fail
 refine (G5 _ _ _ _ _ _ _ HM.out.2.2.1 HM.out.2.2.2.1).mono ?_
 rintro e w5 ⟨rfl,hb⟩
 have qM:=hI (zq.out.trans (hb.mono zq.out.size))
 clear hb c0 c1 c2 c3 c4 c5
 go_wp2_with fail
 go_ret2
 exact ⟨rfl,qM.out⟩
end
section
abbrev zP:Array Value:=#[.int .i64 0,.int .u32 0,.int .u32 0,.int .u64 0,.slice none 0 0,.slice none 0 0]
theorem xC:zP.all (·.oneCell')=true:=by simp[zP,Value.oneCell']
theorem Ud (A:Option Addr) (n c:Nat) (w:World) (hn:n<21) :
 Calls Tryz.prog 129 #[.slice A n c] w fun e w'=>e=.returned (.tuple #[.agg #[.int .i64 0,.int .u32 0,.int .u32 0,.int .u64 0,.slice none 0 0,.slice none 0 0],.int .i64 0,.int .i64 9])∧Below w.heap.size w w':=by
 go_enter Tryz.func129,Tryz.ntmps129
 go_wp2_with fail
 refine (KO A n c _ hn).mono ?_
 rintro e w1 ⟨rfl,hb⟩
 have HB1:=hI (((Below.refl w.heap.size w).alloc (nR _) _).trans (hb.mono (by simp)))
 have hres:=(z8.new w 33 zP).below hb (by simp)
 have jq:=hI hres
 clear hb hres
 go_wp2_with (first
  | (refine zF (.tmp 2) (.tmp 17) 33 rfl rfl w.heap.size zP rfl rfl 33 _ jq.out zR rfl xC ?_)
  | (with_reducible refine zJ ?_))
 exact Halt.ret (zw (p:=2) (u:=3) (v:=4) rfl _ _ w.heap.size 33 zP _ rfl (setRow_heap _ _ _ zP _ _ jq.out) Tryz.underlying33 rfl zR) rfl ⟨rfl,below_setRow HB1.out (nR _) _⟩
theorem zDK (A:Option Addr) (n c:Nat) (xs:List Int) (S:Nat→Prop) (w:World) (hx:zW .u8 w S A n xs) (hS:∀ b,S b→b<w.heap.size) (hb:Bytes xs) (hn:21≤n) (hc:n≤c) (hm:¬ vK xs) :
 Calls Tryz.prog 129 #[.slice A n c] w fun e w'=>e=.returned (.tuple #[.agg #[.int .i64 0,.int .u32 0,.int .u32 0,.int .u64 0,.slice none 0 0,.slice none 0 0],.int .i64 0,.int .i64 160])∧Below w.heap.size w w':=by
 have HX:=hI (hx.keep (w':=w.alloc (.cells zP 33)) fun p hp=>World.cell?_alloc_lt w _ p (hS _ hp))
 clear hx
 go_enter Tryz.func129,Tryz.ntmps129
 go_wp2_with fail
 refine (Gz A n c xs S _ HX.out (fun b h=>by have:=hS b h; simp; omega) hb hn hc hm).mono ?_
 rintro e w1 ⟨rfl,hb⟩
 have HB1:=hI (((Below.refl w.heap.size w).alloc (nR _) _).trans (hb.mono (by simp)))
 have hres:=(z8.new w 33 zP).below hb (by simp)
 have jq:=hI hres
 clear hb hres
 go_wp2_with (first
  | (refine zF (.tmp 2) (.tmp 17) 33 rfl rfl w.heap.size zP rfl rfl 33 _ jq.out zR rfl xC ?_)
  | (with_reducible refine zJ ?_))
 exact Halt.ret (zw (p:=2) (u:=3) (v:=4) rfl _ _ w.heap.size 33 zP _ rfl (setRow_heap _ _ _ zP _ _ jq.out) Tryz.underlying33 rfl zR) rfl ⟨rfl,below_setRow HB1.out (nR _) _⟩
theorem zDJ (A:Option Addr) (n c:Nat) (xs:List Int) (S:Nat→Prop) (w:World) (hx:zW .u8 w S A n xs) (hS:∀ b,S b→b<w.heap.size) (hb:Bytes xs) (hn:21≤n) (hc:n≤c) (hm:vK xs) (hlt:n<jU xs) :
 Calls Tryz.prog 129 #[.slice A n c] w fun e w'=>e=.returned (.tuple #[.agg #[.int .i64 0,.int .u32 0,.int .u32 0,.int .u64 0,.slice none 0 0,.slice none 0 0],.int .i64 0,.int .i64 9])∧Below w.heap.size w w':=by
 have HX:=hI (hx.keep (w':=w.alloc (.cells zP 33)) fun p hp=>World.cell?_alloc_lt w _ p (hS _ hp))
 clear hx
 go_enter Tryz.func129,Tryz.ntmps129
 go_wp2_with fail
 refine (Vf A n c xs S _ HX.out (fun b h=>by have:=hS b h; simp; omega) hb hn hc hm).mono ?_
 rintro e w1 ⟨rfl,hb⟩
 have HB1:=hI (((Below.refl w.heap.size w).alloc (nR _) _).trans (hb.mono (by simp)))
 have hres:=(z8.new w 33 zP).below hb (by simp)
 have jq:=hI hres
 have hlt':decide ((n:Int)<(jU xs:Int))=true:=by simp; omega
 generalize jU xs=nd at *
 clear hb hres
 go_wp2_with (first
  | (refine zF (.tmp 2) (.tmp 24) 33 rfl rfl w.heap.size zP rfl rfl 33 _ jq.out zR rfl xC ?_)
  | (with_reducible refine zJ ?_))
 exact Halt.ret (zw (p:=2) (u:=3) (v:=4) rfl _ _ w.heap.size 33 zP _ rfl (setRow_heap _ _ _ zP _ _ jq.out) Tryz.underlying33 rfl zR) rfl ⟨rfl,below_setRow HB1.out (nR _) _⟩
theorem L9 (w:World) (r g:Nat) (xs:List Int) (pos n:Nat) (h:Rd w r g xs pos 0) (hn:n≤xs.length-pos) :
 Calls Tryz.prog 180 #[.pointer (some ⟨r,0,none⟩),.int .i64 n] w fun e w'=>∃ b,e=.returned (.slice (some ⟨b,0,none⟩) n n)∧w.heap.size≤b ∧
  zn w' b ((xs.drop pos).take n)∧Rd w' r g xs (pos+n) 0∧Kept (fun b=>b<w.heap.size∧b≠r) w w':=by
 have H:=hI h
 have hx:=h.2.2.2.2
 clear h
 go_enter Tryz.func180,Tryz.ntmps180
 go_wp2_with (first
  | (go_at_call 207; refine (VT _ r g xs pos n H.out hn).mono ?_; rintro e w1 ⟨A,c,rfl,hr,hrd,hk⟩; have HR:=hI hr; have HD:=hI hrd; have HK:=hI hk; clear hr hrd hk)
  | (go_at_call 205; refine (aR A n c _ (·=g) _ HR.out (fun b e=>by rw[e]; exact HD.out.arr.lt) (by omega)).mono ?_; rintro e w2 ⟨rfl,ha,hb⟩; have HA:=hI ha; have HB:=hI hb; clear ha hb))
 go_ret
 exact ⟨_,rfl,HK.out.size,HA.out,HD.out.kept (Kept.of_below (S:=fun b=>b<w1.heap.size) HB.out (fun b h=>h)) HD.out.blk.lt HD.out.arr.lt,HK.out.below HB.out (fun b h=>nL h.1 HK.out.size)⟩
def keyOf (xs:List Int):List Int:=(xs.drop 21).take (zH xs)
def valOf (xs:List Int):List Int:=(xs.drop (21+zH xs)).take (zO xs)
structure Dec (w wi:World) (r g q:Nat) (zs:List Int) (pos:Nat) (cs:Array Value):Prop where
 rd:Rd wi r g zs pos 0
 lo:w.heap.size<r
 res:z8 wi w.heap.size 33 zP
 hd:z8 wi q 121 cs
 far:q≠r∧q≠w.heap.size
 bel:Below w.heap.size w wi
theorem Dec.drew {w wi:World} {r g q:Nat} {zs:List Int} {pos:Nat} {cs:Array Value} (h:Dec w wi r g q zs pos cs):Dec w wi.drew r g q zs pos cs:=⟨h.rd.drewN 1,h.lo,h.res,h.hd,h.far,h.bel.drew⟩
theorem Dec.read {w wi w':World} {r g q:Nat} {zs:List Int} {pos pos':Nat} {cs:Array Value} (h:Dec w wi r g q zs pos cs) (hr:Rd w' r g zs pos' 0) (hk:Kept (fun b=>b<wi.heap.size∧b≠r) wi w'):Dec w w' r g q zs pos' cs :=
 ⟨hr,h.lo,h.res.kept hk ⟨h.res.lt,by have:=h.lo; omega⟩,h.hd.kept hk ⟨h.hd.lt,h.far.1⟩,h.far,h.bel.trans (hk.to_below fun b hb=>⟨nL hb h.bel.size,by have:=h.lo; omega⟩)⟩
def zDT (xs:List Int) (w:World) (e:Ending) (w':World):Prop :=
 ∃ b1 b2,e=.returned (.tuple #[.agg #[.int .i64 (kindOf xs),.int .u32 (flagsOf xs),.int .u32 (qA xs),.int .u64 (zo xs),.slice (some ⟨b1,0,none⟩) (zH xs) (zH xs),.slice (some ⟨b2,0,none⟩) (zO xs) (zO xs)],.int .i64 ((jU xs:Nat):Int),.int .i64 0]) ∧
  w.heap.size≤b1∧w.heap.size≤b2∧b1≠b2∧zn w' b1 (keyOf xs)∧zn w' b2 (valOf xs)∧Below w.heap.size w w'
theorem Ue (A:Option Addr) (n c:Nat) (xs:List Int) (S:Nat→Prop) (w:World) (hx:zW .u8 w S A n xs) (hS:∀ b,S b→b<w.heap.size) (hb:Bytes xs) (hn:21≤n) (hc:n≤c) (hm:vK xs) (hle:jU xs≤n) :
 Calls Tryz.prog 129 #[.slice A n c] w (zDT xs w):=by
 obtain ⟨b0,o0,rfl,hb0,hc0⟩:=hx.2 (by omega)
 have hl:=hx.1
 have HX:=hI (hx.keep (w':=w.alloc (.cells zP 33)) fun p hp=>World.cell?_alloc_lt w _ p (hS _ hp))
 have qm:=hI hb
 have hn1:=hm.2.2.1
 have hn2:=hm.2.2.2.1
 have KX:jU xs=21+zH xs+zO xs:=rfl
 clear hx hb hb0 hc0
 go_enter Tryz.func129,Tryz.ntmps129
 go_wp2_with fail
 refine (Vf _ n c xs S _ HX.out (fun b h=>by have:=hS b h; simp; omega) qm.out hn hc hm).mono ?_
 rintro e w1 ⟨rfl,hb⟩
 have HB1:=hI (((Below.refl w.heap.size w).alloc (nR _) _).trans (hb.mono (by simp)))
 have pJ:=hI (HX.out.below hb (fun b h=>by have:=hS b h; simp; omega))
 have jq:=hI ((z8.new w 33 zP).below hb (by simp))
 have hlt1:w.heap.size<w1.heap.size:=jq.out.lt
 have zIl:=hI hlt1
 clear hb
 have hlt':decide ((n:Int)<(jU xs:Int))=false:=by simp; omega
 have hle0:(0:Int)≤(jU xs:Int):=by omega
 have zQL:(jU xs:Int)≤c:=by omega
 have oU:=hI KX
 clear KX
 generalize hnd:jU xs=nd at *
 have Xw:=hI hnd
 clear hnd
 go_wp2_with fail
 refine (ZV _ nd c (xs.take nd) S w1 (pJ.out.take nd hle) (fun b h=>by have:=hS b h; omega) (by have:=oU.out; omega)).mono ?_
 rintro e w2 ⟨r,rfl,hr,hrd,hb⟩
 have HB2:=hI (HB1.out.trans (hb.mono HB1.out.size))
 have zBk:=hI (jq.out.below hb zIl.out)
 have HD2:=hI hrd
 have OO:=hI (show w.heap.size<r by omega)
 clear hb hrd
 go_wp2_with fail
 refine (eY (xs.take nd) w2 r w1.heap.size HD2.out (by have:=oU.out; simp; omega) (qm.out.take nd) HD2.out.blk.lt HD2.out.arr.lt).mono ?_
 rintro e w3 ⟨rfl,hrd,hk⟩
 rw[aK _ _ (by have:=oU.out; omega),uJ _ _ (by have:=oU.out; omega),Zu _ _ (by have:=oU.out; omega),ZH _ _ (by have:=oU.out; omega),sK _ _ (by have:=oU.out; omega),ru _ _ (by have:=oU.out; omega)]
 have HB3:=hI (HB2.out.trans (hk.to_below (B:=w.heap.size) fun b hb=>⟨by have:=HB2.out.size; omega,by have:=OO.out; omega⟩))
 have zBj:=hI (zBk.out.kept hk ⟨zBk.out.lt,by have:=OO.out; omega⟩)
 have HD3:=hI hrd
 clear hrd hk
 obtain ⟨w4,hw4⟩:∃ w4,w4=w3.alloc (.cells #[.int .i64 (kindOf xs),.int .u32 (flagsOf xs),.int .u32 (qA xs),.int .u64 (zo xs),.int .i64 (zH xs),.int .i64 (zO xs)] 121):=⟨_,rfl⟩
 have HY:=hI (show Dec w w4 r w1.heap.size w3.heap.size (xs.take nd) 21 #[.int .i64 (kindOf xs),.int .u32 (flagsOf xs),.int .u32 (qA xs),.int .u64 (zo xs),.int .i64 (zH xs),.int .i64 (zO xs)] by
  rw[hw4]
  have hk:Kept (fun b=>b<w3.heap.size) w3 (w3.alloc (.cells #[.int .i64 (kindOf xs),.int .u32 (flagsOf xs),.int .u32 (qA xs),.int .u64 (zo xs),.int .i64 (zH xs),.int .i64 (zO xs)] 121)):=(Kept.refl _ w3).alloc (fun b h=>h) _
  exact ⟨HD3.out.kept hk HD3.out.blk.lt HD3.out.arr.lt,OO.out,zBj.out.alloc _,z8.new w3 _ _,⟨by have:=HD3.out.blk.lt; omega,by have:=HB3.out.size; have:=zBj.out.lt; omega⟩,HB3.out.alloc HB3.out.size _⟩)
 have nI:=hI hw4
 clear hw4
 have hcap1:zH xs≤(xs.take nd).length-21:=by have:=oU.out; simp; omega
 have hcap2:zO xs≤(xs.take nd).length-(21+zH xs):=by have:=oU.out; simp; omega
 have zNz:=hI hcap1
 have zNy:=hI hcap2
 have jh:=hI (show ((xs.take nd).drop 21).take (zH xs)=keyOf xs from bS _ _ _ _ (by have:=oU.out; omega))
 have yI:=hI (show ((xs.take nd).drop (21+zH xs)).take (zO xs)=valOf xs from bS _ _ _ _ (by have:=oU.out; omega))
 clear hcap1 hcap2
 go_wp2_with fail
 rw[← nI.out]
 have HY:=hI HY.out.drew
 have gL:=HY
 have c0:=HY.out.hd.cell 0
 have c1:=HY.out.hd.cell 1
 have c2:=HY.out.hd.cell 2
 have c3:=HY.out.hd.cell 3
 have c4:=HY.out.hd.cell 4
 have c5:=HY.out.hd.cell 5
 simp only[List.getElem?_toArray,List.getElem?_cons_zero,List.getElem?_cons_succ] at c0 c1 c2 c3 c4 c5
 go_region_held3 (fun W=>W.cell? ⟨w3.heap.size,0,none⟩=some (.int .i64 (kindOf xs))∧W.cell? ⟨w3.heap.size,1,none⟩=some (.int .u32 (flagsOf xs))∧W.cell? ⟨w3.heap.size,2,none⟩=some (.int .u32 (qA xs))∧W.cell? ⟨w3.heap.size,3,none⟩=some (.int .u64 (zo xs))∧W.cell? ⟨w3.heap.size,4,none⟩=some (.int .i64 (zH xs))∧W.cell? ⟨w3.heap.size,5,none⟩=some (.int .i64 (zO xs)))
  (first | with_reducible exact ⟨c0,c1,c2,c3,c4,c5⟩ | with_reducible exact ⟨e0,e1,e2,e3,e4,e5⟩)
  (first
    | (go_at_call 180; with_reducible refine (L9 _ r w1.heap.size (xs.take nd) 21 (zH xs) ?_ ?_).mono ?_; exact HY.out.rd; exact zNz.out; rintro e w5 ⟨b5,rfl,hb5,dU,hrd,hk⟩; rw[jh.out] at dU; have mI:=hI dU; have qM:=hI (nT HY.out.bel.size hb5); have HY:=hI (HY.out.read hrd hk); have HN5:=hI (show b5≠r∧b5≠w.heap.size from ⟨by have h:=gL.out.rd.blk.lt; omega,by have h:=gL.out.res.lt; omega⟩); clear dU hb5 hrd hk; have c0:=HY.out.hd.cell 0; have c1:=HY.out.hd.cell 1; have c2:=HY.out.hd.cell 2; have c3:=HY.out.hd.cell 3; have c4:=HY.out.hd.cell 4; have c5:=HY.out.hd.cell 5; simp only[List.getElem?_toArray,List.getElem?_cons_zero,List.getElem?_cons_succ] at c0 c1 c2 c3 c4 c5)
    | (go_at_call 180; with_reducible refine (L9 _ r w1.heap.size (xs.take nd) (21+zH xs) (zO xs) ?_ ?_).mono ?_; exact HY.out.rd; exact zNy.out; rintro e w6 ⟨b6,rfl,hb6,ha6,hrd,hk⟩; rw[yI.out] at ha6; have gU:=hI ha6; have qK:=hI (nT HY.out.bel.size hb6); have Qf:=hI (show b6≠b5∧b6≠w.heap.size from ⟨by have h:=mI.out.lt; omega,by have h:=HY.out.res.lt; omega⟩); have zOG:=hI (mI.out.kept hk ⟨mI.out.lt,HN5.out.1⟩); have HY:=hI (HY.out.read hrd hk); clear ha6 hb6 hrd hk; have c0:=HY.out.hd.cell 0; have c1:=HY.out.hd.cell 1; have c2:=HY.out.hd.cell 2; have c3:=HY.out.hd.cell 3; have c4:=HY.out.hd.cell 4; have c5:=HY.out.hd.cell 5; simp only[List.getElem?_toArray,List.getElem?_cons_zero,List.getElem?_cons_succ] at c0 c1 c2 c3 c4 c5; have z0:=HY.out.res.cell 0; have y0:=HY.out.res.frozen 0; have z1:=HY.out.res.cell 1; have y1:=HY.out.res.frozen 1; have z2:=HY.out.res.cell 2; have y2:=HY.out.res.frozen 2; have z3:=HY.out.res.cell 3; have y3:=HY.out.res.frozen 3; have z4:=HY.out.res.cell 4; have y4:=HY.out.res.frozen 4; have z5:=HY.out.res.cell 5; have y5:=HY.out.res.frozen 5; simp only[List.getElem?_toArray,List.getElem?_cons_zero,List.getElem?_cons_succ] at z0 z1 z2 z3 z4 z5; have e0:=(fU w6 w.heap.size (.int .i64 (kindOf xs)) (.int .u32 (flagsOf xs)) (.int .u32 (qA xs)) (.int .u64 (zo xs)) (.slice (some ⟨b5,0,none⟩) (zH xs) (zH xs)) (.slice (some ⟨b6,0,none⟩) (zO xs) (zO xs)) (p:=⟨w3.heap.size,0,none⟩) HY.out.far.2).trans c0; have e1:=(fU w6 w.heap.size (.int .i64 (kindOf xs)) (.int .u32 (flagsOf xs)) (.int .u32 (qA xs)) (.int .u64 (zo xs)) (.slice (some ⟨b5,0,none⟩) (zH xs) (zH xs)) (.slice (some ⟨b6,0,none⟩) (zO xs) (zO xs)) (p:=⟨w3.heap.size,1,none⟩) HY.out.far.2).trans c1; have e2:=(fU w6 w.heap.size (.int .i64 (kindOf xs)) (.int .u32 (flagsOf xs)) (.int .u32 (qA xs)) (.int .u64 (zo xs)) (.slice (some ⟨b5,0,none⟩) (zH xs) (zH xs)) (.slice (some ⟨b6,0,none⟩) (zO xs) (zO xs)) (p:=⟨w3.heap.size,2,none⟩) HY.out.far.2).trans c2; have e3:=(fU w6 w.heap.size (.int .i64 (kindOf xs)) (.int .u32 (flagsOf xs)) (.int .u32 (qA xs)) (.int .u64 (zo xs)) (.slice (some ⟨b5,0,none⟩) (zH xs) (zH xs)) (.slice (some ⟨b6,0,none⟩) (zO xs) (zO xs)) (p:=⟨w3.heap.size,3,none⟩) HY.out.far.2).trans c3; have e4:=(fU w6 w.heap.size (.int .i64 (kindOf xs)) (.int .u32 (flagsOf xs)) (.int .u32 (qA xs)) (.int .u64 (zo xs)) (.slice (some ⟨b5,0,none⟩) (zH xs) (zH xs)) (.slice (some ⟨b6,0,none⟩) (zO xs) (zO xs)) (p:=⟨w3.heap.size,4,none⟩) HY.out.far.2).trans c4; have e5:=(fU w6 w.heap.size (.int .i64 (kindOf xs)) (.int .u32 (flagsOf xs)) (.int .u32 (qA xs)) (.int .u64 (zo xs)) (.slice (some ⟨b5,0,none⟩) (zH xs) (zH xs)) (.slice (some ⟨b6,0,none⟩) (zO xs) (zO xs)) (p:=⟨w3.heap.size,5,none⟩) HY.out.far.2).trans c5))
 clear c0 c1 c2 c3 c4 c5 e0 e1 e2 e3 e4 e5 z0 z1 z2 z3 z4 z5 y0 y1 y2 y3 y4 y5
 go_wp2_with (with_reducible refine zJ ?_)
 have hz:=HY.out.res.set6 (.int .i64 (kindOf xs)) (.int .u32 (flagsOf xs)) (.int .u32 (qA xs)) (.int .u64 (zo xs)) (.slice (some ⟨b5,0,none⟩) (zH xs) (zH xs)) (.slice (some ⟨b6,0,none⟩) (zO xs) (zO xs))
 refine Halt.ret (zw (p:=2) (u:=3) (v:=4) rfl _ _ w.heap.size 33 _ _ rfl hz Tryz.underlying33 rfl zR) rfl ⟨b5,b6,?_,qM.out,qK.out,Qf.out.1.symm,z8.far6 zOG.out HN5.out.2 _ _ _ _ _ _,z8.far6 gU.out Qf.out.2 _ _ _ _ _ _,Sg HY.out.bel (nR _) _ _ _ _ _ _⟩
 rw[Xw.out]
 rfl
end
section
theorem KH {k f x s:Int} {xs ys:List Int} (hk:0≤k∧k≤255) (hx:Bytes xs) (hy:Bytes ys):Bytes (qI k f x s xs ys):=by
 unfold qI Zl
 refine bytes_append (bytes_append (bytes_append (bytes_append (bytes_append (bytes_append (bytes_append ?_ (qc _ _)) (qc _ _)) (qc _ _)) (qc _ _)) (qc _ _)) hx) hy
 intro j
 match j with
 | 0=>simpa using hk
 | (j+1)=>simp
section
variable {k f x s:Int} {xs ys zs:List Int}
theorem fO:qI k f x s xs ys++zs=[k]++(beBytes f 4++(beBytes x 4++(beBytes s 8++(beBytes xs.length 2++(beBytes ys.length 2++(xs++(ys++zs))))))):=by
 simp[qI,Zl]
theorem ku {α:Type} (a b:List α) (n m:Nat) (h:a.length=n):(a++b).drop (n+m)=b.drop m:=by
 rw[← h,List.drop_append,List.drop_eq_nil_of_le (by omega)]
 simp
theorem GN:kindOf (qI k f x s xs ys++zs)=k:=by
 unfold kindOf
 rw[fO,List.take_left' (by rfl)]
 simp[numOf]
theorem Wh (hf:0≤f) (hf':f≤4294967295):flagsOf (qI k f x s xs ys++zs)=f:=by
 unfold flagsOf
 rw[fO,List.drop_left' (by rfl),List.take_left' (beBytes_length _ _),sI 4 _ hf (by simp; omega)]
theorem MF (hx:0≤x) (hx':x≤4294967295):qA (qI k f x s xs ys++zs)=x:=by
 unfold qA
 rw[fO,ku [k] _ 1 4 rfl,List.drop_left' (beBytes_length _ _),List.take_left' (beBytes_length _ _),sI 4 _ hx (by simp; omega)]
theorem ME (hs:0≤s) (hs':s≤18446744073709551615):zo (qI k f x s xs ys++zs)=s:=by
 unfold zo
 rw[fO,ku [k] _ 1 8 rfl,ku _ _ 4 4 (beBytes_length _ _),List.drop_left' (beBytes_length _ _),List.take_left' (beBytes_length _ _),sI 8 _ hs (by simp; omega)]
theorem ug (h:xs.length≤65535):zH (qI k f x s xs ys++zs)=xs.length:=by
 unfold zH
 rw[fO,ku [k] _ 1 16 rfl,ku _ _ 4 12 (beBytes_length _ _),ku _ _ 4 8 (beBytes_length _ _),List.drop_left' (beBytes_length _ _),List.take_left' (beBytes_length _ _),sI 2 _ (by omega) (by simp; omega)]
 omega
theorem ZT (h:ys.length≤65535):zO (qI k f x s xs ys++zs)=ys.length:=by
 unfold zO
 rw[fO,ku [k] _ 1 18 rfl,ku _ _ 4 14 (beBytes_length _ _),ku _ _ 4 10 (beBytes_length _ _),ku _ _ 8 2 (beBytes_length _ _),List.drop_left' (beBytes_length _ _),List.take_left' (beBytes_length _ _),sI 2 _ (by omega) (by simp; omega)]
 omega
theorem GR:(qI k f x s xs ys++zs).drop 21=xs++(ys++zs):=by
 unfold qI
 rw[List.append_assoc,List.append_assoc,List.drop_left' (o9 _ _ _ _ _ _)]
theorem Jp (h:xs.length≤65535):keyOf (qI k f x s xs ys++zs)=xs:=by
 unfold keyOf
 rw[ug h,GR,List.take_left' rfl]
theorem zCW (h:xs.length≤65535) (h':ys.length≤65535):valOf (qI k f x s xs ys++zs)=ys:=by
 unfold valOf
 rw[ug h,ZT h',← List.drop_drop,GR,List.drop_left' rfl,List.take_left' rfl]
end
theorem GU {L:List Int} (hb:Bytes L) (hl:jU L≤L.length):qI (kindOf L) (flagsOf L) (qA L) (zo L) (keyOf L) (valOf L)=L.take (jU L):=by
 have KX:jU L=21+zH L+zO L:=rfl
 have hkl:(keyOf L).length=zH L:=by unfold keyOf; simp; omega
 have hvl:(valOf L).length=zO L:=by unfold valOf; simp; omega
 have hpart:∀ i n,i+n≤L.length→beBytes (numOf ((L.drop i).take n)) n=(L.drop i).take n:=fun i n h=>zHg n _ (jW hb i n) (by simp; omega)
 have hk1:[kindOf L]=(L.drop 0).take 1:=by
  have h1:(L.drop 0).take 1=[L.getD 0 0]:=by
   match L,hl,KX with
   | a::r,_,_=>simp
   | [],h,h'=>simp at h; omega
  have h2:kindOf L=L.getD 0 0:=by
   have:kindOf L=numOf ((L.drop 0).take 1):=rfl
   rw[this,h1]
   simp[numOf]
  rw[h2,h1]
 have join:∀ i n m,(L.drop i).take n++(L.drop (i+n)).take m=(L.drop i).take (n+m):=by
  intro i n m
  rw[← List.drop_drop,← List.take_add]
 unfold qI Zl
 rw[hkl,hvl,← Ms hb,← M5 hb,hk1]
 unfold flagsOf qA zo
 rw[hpart 1 4 (by omega),hpart 5 4 (by omega),hpart 9 8 (by omega),hpart 17 2 (by omega),hpart 19 2 (by omega)]
 have j1:=join 0 1 4
 have j2:=join 0 5 4
 have j3:=join 0 9 8
 have j4:=join 0 17 2
 have j5:=join 0 19 2
 have j6:=join 0 21 (zH L)
 have j7:=join 0 (21+zH L) (zO L)
 simp only[Nat.zero_add,Nat.reduceAdd] at j1 j2 j3 j4 j5 j6 j7
 unfold keyOf valOf
 rw[j1,j2,j3,j4,j5,j6,j7,KX]
 simp
end
section
def XF (xs:List Int) (n:Nat):Prop:=21≤n∧vK xs∧jU xs≤n
instance zJc (xs:List Int) (n:Nat):Decidable (XF xs n):=by unfold XF; infer_instance
def dx (xs:List Int) (n:Nat):Int:=if 21≤n∧¬ vK xs then 160 else 9
theorem Xk (xs:List Int) (n:Nat):dx xs n=9∨dx xs n=160:=by unfold dx; split <;> simp
theorem Xj {xs:List Int} {n:Nat} (h:n<21):dx xs n=9:=if_neg (by omega)
theorem Pb {xs:List Int} {n:Nat} (h:21≤n) (hm:¬ vK xs):dx xs n=160:=if_pos ⟨h,hm⟩
theorem Ub {xs:List Int} {n:Nat} (hm:vK xs):dx xs n=9:=if_neg fun h=>h.2 hm
theorem Uf (A:Option Addr) (n c:Nat) (xs:List Int) (S:Nat→Prop) (w:World) (hx:zW .u8 w S A n xs) (hS:∀ b,S b→b<w.heap.size) (hb:Bytes xs) (hc:n≤c) (h:¬ XF xs n) :
 Calls Tryz.prog 129 #[.slice A n c] w fun e w'=>e=.returned (.tuple #[.agg #[.int .i64 0,.int .u32 0,.int .u32 0,.int .u64 0,.slice none 0 0,.slice none 0 0],.int .i64 0,.int .i64 (dx xs n)])∧Below w.heap.size w w':=by
 by_cases h1:n<21
 ·rw[Xj h1]
  exact Ud A n c w h1
 by_cases h2:vK xs
 ·rw[Ub h2]
  exact zDJ A n c xs S w hx hS hb (by omega) hc h2 (by rcases Nat.lt_or_ge n (jU xs) with h3 | h3; exact h3; exact absurd ⟨by omega,h2,h3⟩ h)
 ·rw[Pb (by omega) h2]
  exact zDK A n c xs S w hx hS hb (by omega) hc h2
end
section
structure Src (xs:List Int) (b0 o0 n:Nat) (w W:World):Prop where
 cell:∀ j,j<n→W.cell? ⟨b0,o0+j,none⟩=some (.int .u8 (xs.getD j 0))
 len:xs.length=n
 lt:b0<w.heap.size
 bel:Below w.heap.size w W
section
variable {xs:List Int} {b0 o0 n:Nat} {w W W':World}
theorem Src.drew (h:Src xs b0 o0 n w W):Src xs b0 o0 n w W.drew:=⟨h.cell,h.len,h.lt,h.bel.drew⟩
theorem Src.below (h:Src xs b0 o0 n w W) (hb:Below W.heap.size W W'):Src xs b0 o0 n w W':=⟨fun j hj=>(hb.cell (nL h.lt h.bel.size)).trans (h.cell j hj),h.len,h.lt,h.bel.trans (hb.mono h.bel.size)⟩
theorem Src.alloc (h:Src xs b0 o0 n w W) (o:Obj):Src xs b0 o0 n w (W.alloc o):=h.below ((Below.refl _ _).alloc (nR _) _)
theorem Src.setCell (h:Src xs b0 o0 n w W) {p:Addr} (hp:w.heap.size≤p.block) (u:Value):Src xs b0 o0 n w (W.setCell p u) :=
 ⟨fun j hj=>(World.cell?_setCell_other _ _ _ _ (by rintro rfl; have:=h.lt; simp at hp; omega)).trans (h.cell j hj),h.len,h.lt,h.bel.setCell hp u⟩
end
end
section
def rT (xs:List Int) (n:Nat):Nat:=if 21≤n∧vK xs then jU xs else 0
def aI (xs:List Int) (n:Nat):Int:=if 21≤n∧vK xs then 0 else dx xs n
theorem E8 (A:Option Addr) (n c:Nat) (xs:List Int) (S:Nat→Prop) (w:World) (hx:zW .u8 w S A n xs) (hS:∀ b,S b→b<w.heap.size) (hb:Bytes xs) (hc:n≤c) :
 Calls Tryz.prog 176 #[.slice A n c] w fun e w'=>e=.returned (.tuple #[.int .i64 ((rT xs n:Nat):Int),.int .i64 (aI xs n)])∧Below w.heap.size w w':=by
 by_cases h1:n<21
 ·rw[show rT xs n=0 from if_neg (by omega),show aI xs n=dx xs n from if_neg (by omega),Xj h1]
  exact KO A n c w h1
 by_cases h2:vK xs
 ·rw[show rT xs n=jU xs from if_pos ⟨by omega,h2⟩,show aI xs n=0 from if_pos ⟨by omega,h2⟩]
  exact Vf A n c xs S w hx hS hb (by omega) hc h2
 ·rw[show rT xs n=0 from if_neg fun h=>h2 h.2,show aI xs n=dx xs n from if_neg fun h=>h2 h.2,Pb (by omega) h2]
  exact Gz A n c xs S w hx hS hb (by omega) hc h2
end
section
theorem Wv (s:ByteArray):nums s=s.toList.map fun c=>(c.toNat:Int):=by rw[ByteArray.toList_eq]; rfl
theorem Oz {s t:ByteArray} {xs ys:List Int} (h1:nums s=xs) (h2:nums t=ys) (h:xs≠ys):(s.toList==t.toList)=false:=by
 rw[beq_eq_false_iff_ne]
 intro e
 apply h
 rw[← h1,← h2,Wv,Wv,e]
theorem Iq (A A':Option Addr) (n n' c c':Nat) (xs ys:List Int) (S S':Nat→Prop) (w:World) (hx:zW .u8 w S A n xs) (hx':zW .u8 w S' A' n' ys) (hS:∀ b,S b→b<w.heap.size) (hS':∀ b,S' b→b<w.heap.size) (hb:Bytes xs) (hb':Bytes ys) (hne:xs≠ys) :
 Calls Tryz.prog 40 #[.slice A n c,.slice A' n' c'] w fun e w'=>e=.returned (.bool false)∧w=w':=by
 obtain ⟨s,hs,hns⟩:=pX (P:=Tryz.prog) w 31 9 5 Tryz.underlying31 Tryz.underlying5 Tryz.underlying9 c (hx.more (T:=(·<w.heap.size)) hS).toRow hb
 obtain ⟨t,ht,hnt⟩:=pX (P:=Tryz.prog) w 31 9 5 Tryz.underlying31 Tryz.underlying5 Tryz.underlying9 c' (hx'.more (T:=(·<w.heap.size)) hS').toRow hb'
 have hst:(s.toList==t.toList)=false:=Oz hns hnt hne
 clear hns hnt hx hx'
 go_enter Tryz.func40,Tryz.ntmps40
 go_wp2
 go_ret
 exact ⟨rfl,rfl⟩
end
section
theorem zCR (A:Option Addr) (n c:Nat) (s:Int) (w:World) (h:¬ May 2 0 0 s n 0) :
 Calls Tryz.prog 90 #[.slice A n c,.int .u64 s] w fun e w'=>e=.returned (.tuple #[.agg #[.int .i64 0,.int .u32 0,.int .u32 0,.int .u64 0,.slice none 0 0,.slice none 0 0],.int .i64 160])∧Below w.heap.size w w':=by
 have HM:=hI h
 clear h
 go_enter Tryz.func90,Tryz.ntmps90
 go_wp2_with fail
 refine (Du 2 0 0 s A none n c 0 0 _ HM.out).mono ?_
 rintro e w1 ⟨rfl,hb⟩
 have HB1:=hI ((((Below.refl w.heap.size w).alloc (nR _) _).alloc (by simp) _).trans (hb.mono (by simp; omega)))
 have jq:=hI (((z8.new w 33 zP).alloc (.cells (recC 2 0 0 s A n c none 0 0) 33)).below hb (by simp; omega))
 clear hb
 go_wp2_with (first
  | (refine zF (.tmp 4) (.tmp 15) 33 rfl rfl w.heap.size zP rfl rfl 33 _ jq.out zR rfl xC ?_)
  | (with_reducible refine zJ ?_))
 exact Halt.ret (zy (p:=4) (u:=5) rfl _ _ w.heap.size 33 zP _ rfl (setRow_heap _ _ _ zP _ _ jq.out) Tryz.underlying33 rfl zR) rfl ⟨rfl,below_setRow HB1.out (nR _) _⟩
def zAK (s:Int) (xs:List Int) (w:World) (e:Ending) (w':World):Prop :=
 ∃ g,e=.returned (.tuple #[.agg #[.int .i64 2,.int .u32 0,.int .u32 0,.int .u64 s,.slice (some ⟨g,0,none⟩) xs.length xs.length,.slice none 0 0],.int .i64 0])∧w.heap.size≤g∧zn w' g xs∧Below w.heap.size w w'
theorem Ox (A:Option Addr) (n c:Nat) (xs:List Int) (s:Int) (S:Nat→Prop) (w:World) (hx:zW .u8 w S A n xs) (hS:∀ b,S b→b<w.heap.size) (h:May 2 0 0 s n 0) :
 Calls Tryz.prog 90 #[.slice A n c,.int .u64 s] w (zAK s xs w):=by
 have hn1:=h.2.1
 have hn2:=h.2.2.1
 have hmk:=fun u:World=>run_make_row' (P:=Tryz.prog) 31 5 (.int .u8 0) 1 Tryz.underlying31 rC rfl .i64 .i64 n (by omega) (by omega) u
 have HM:=hI h
 have HX:=hI hx
 have eB:=hI hx.1
 clear h hx
 go_enter Tryz.func90,Tryz.ntmps90
 go_wp2_with fail
 generalize hw1:(w.alloc _).alloc _=w1
 have HB1:=hI (show Below w.heap.size w w1 by rw[← hw1]; exact ((Below.refl _ _).alloc (nR _) _).alloc (by simp) _)
 have HZ1:=hI (show z8 w1 w.heap.size 33 zP by rw[← hw1]; exact (z8.new w _ _).alloc _)
 have HR1:=hI (show z8 w1 (w.heap.size+1) 33 (recC 2 0 0 s A n c none 0 0) by rw[← hw1]; exact zY w _ _ _)
 clear hw1
 refine (Pf 2 0 0 s A none n c 0 0 _ HM.out).mono ?_
 rintro e w2 ⟨rfl,hb⟩
 have HB2:=hI (HB1.out.trans (hb.mono HB1.out.size))
 have HZ2:=hI (HZ1.out.below hb HZ1.out.lt)
 have HR2:=hI (HR1.out.below hb HR1.out.lt)
 clear hb
 have hr3:=HR2.out.alloc (.cells (madeCells #[.int .u8 0] n) 5)
 have q0:=hr3.cell 4
 have q1:=hr3.frozen 4
 simp only[List.getElem?_toArray,List.getElem?_cons_zero,List.getElem?_cons_succ] at q0
 have hr4:z8 _ (w.heap.size+1) 33 (recC 2 0 0 s (some ⟨w2.heap.size,0,none⟩) n n none 0 0):=hr3.set_ 4 (.slice (some ⟨w2.heap.size,0,none⟩) n n)
 have q4:=hr4.cell 4
 simp only[List.getElem?_toArray,List.getElem?_cons_zero,List.getElem?_cons_succ] at q4
 have hne:w2.heap.size≠w.heap.size+1:=by have:=HR2.out.lt; omega
 have U6:qF (Value.int .u8) ((w2.alloc (.cells (madeCells #[.int .u8 0] n) 5)).setCell ⟨w.heap.size+1,4,none⟩ (.slice (some ⟨w2.heap.size,0,none⟩) n n)) w2.heap.size 5 (List.replicate n 0):=z8.far (qF.made (mk:=Value.int .u8) w2 0 n 5) hne _
 have hb4:Below w.heap.size w ((w2.alloc (.cells (madeCells #[.int .u8 0] n) 5)).setCell ⟨w.heap.size+1,4,none⟩ (.slice (some ⟨w2.heap.size,0,none⟩) n n)):=(HB2.out.alloc HB2.out.size _).setCell (by show w.heap.size≤w.heap.size+1; omega) _
 have DL:z8 ((w2.alloc (.cells (madeCells #[.int .u8 0] n) 5)).setCell ⟨w.heap.size+1,4,none⟩ (.slice (some ⟨w2.heap.size,0,none⟩) n n)) w.heap.size 33 zP:=(HZ2.out.alloc _).far (by show w.heap.size≠w.heap.size+1; omega) _
 have hx4:=HX.out.below hb4 hS
 have hk4:Kept (fun b=>b<w2.heap.size) w2 _:=(Kept.refl _ w2)
 have HR4:=hI hr4
 have kM:=hI U6
 have zq:=hI hb4
 have JY:=hI DL
 have nQ:=hI hx4
 have h1:=hI (show (xs.map (Value.int .u8)).length=Nat.min n n by rw[List.length_map,eB.out]; exact (Nat.min_self n).symm)
 have h3:=hI (show 0+(xs.map (Value.int .u8)).length≤((List.replicate n (0:Int)).map (Value.int .u8)).length by simp[eB.out])
 have h4:=hI (show ((List.replicate n (0:Int)).map (Value.int .u8)).length=(xs.map (Value.int .u8)).length by simp[eB.out])
 have HS2:=hI (show w.heap.size≤w2.heap.size from HB2.out.size)
 have VE:=hI hne
 have qd:=hI (show w.heap.size+1<w2.heap.size from HR2.out.lt)
 clear hr3 hr4 U6 hb4 DL hx4 hk4 hne
 go_wp2_with (first
  | (refine wpList_copy_splice rfl (.tmp 22) (.tmp 23) 31 31 rfl 5 Tryz.underlying31 fM _ _ _ _ _ _ rfl rfl w2.heap.size 0 ((List.replicate n (0:Int)).map (Value.int .u8)) 5 kM.out (xs.map (Value.int .u8)) h1.out (fun hp=>⟨rfl,ng nQ.out (by have:=eB.out; simpa [this] using hp)⟩) h3.out (uj xs) w2.heap.size _ (Below.refl _ _) (nR _) ?_; intro w5 hg hb; rw[K4 _ _ h4.out] at hg; have mI:=hI (show zn w5 w2.heap.size xs from hg); have oP:=hI (HR4.out.below hb qd.out); have xK:=hI (JY.out.below hb (by have:=qd.out; omega)); have qM:=hI (zq.out.trans (hb.mono HS2.out)); clear hg hb)
  | (refine zV (.tmp 6) 33 rfl rfl (w.heap.size+1) rfl 33 [.int .i64 2,.int .u32 0,.int .u32 0,.int .u64 s,.slice (some ⟨w2.heap.size,0,none⟩) n n,.slice none 0 0] _ Tryz.underlying33 rfl zR oP.out ?_)
  | (refine zF (.tmp 4) (.tmp 25) 33 rfl rfl w.heap.size (recC 2 0 0 s (some ⟨w2.heap.size,0,none⟩) n n none 0 0) rfl rfl 33 _ xK.out zR rfl (ni _ _ _ _ _ _ _ _ _ _) ?_)
  | (with_reducible refine zJ ?_))
 have hst:=setRow_heap _ _ _ (recC 2 0 0 s (some ⟨w2.heap.size,0,none⟩) n n none 0 0) _ _ xK.out
 refine Halt.ret (zy (p:=4) (u:=5) rfl _ _ w.heap.size 33 (recC 2 0 0 s (some ⟨w2.heap.size,0,none⟩) n n none 0 0) _ rfl hst Tryz.underlying33 rfl zR) rfl ⟨w2.heap.size,?_,HS2.out,?_,below_setRow qM.out (nR _) _⟩
 ·rw[eB.out]
  rfl
 ·exact z8.kept (S:=fun b=>b≠w.heap.size) mI.out ((Kept.refl _ _).setRow (fun h=>h rfl) _) (by have:=qd.out; omega)
end
section
abbrev qR (a b g r v f:Int):Array Value:=#[.int .i64 a,.int .i64 b,.int .u64 g,.int .u64 r,.int .u64 v,.int .u64 f]
abbrev qx (a b g r v f t:Int):Array Value:=#[.int .i64 a,.int .i64 b,.int .u64 g,.int .u64 r,.int .u64 v,.int .u64 f,.int .u64 t]
theorem uZ:(Tryz.prog.info? 115).map (·.size)=some 6:=by kernel_rfl
theorem YG:(Tryz.prog.info? 184).map (·.size)=some 7:=by kernel_rfl
def wZ (a b g r:Int):Prop:=4≤a∧a≤16∧24≤b∧b≤64∧r≤g
instance zOM (a b g r:Int):Decidable (wZ a b g r):=by unfold wZ; infer_instance
theorem zCk (a b g r v f:Int) (w:World) :
 Calls Tryz.prog 152 #[.agg (qR a b g r v f)] w fun e w'=>e=.returned (.bool (decide (wZ a b g r)))∧Below w.heap.size w w':=by
 by_cases h0:(4:Int)≤a
 case neg =>
  have hno:decide (wZ a b g r)=false:=decide_eq_false (fun h=>h0 h.1)
  rw[hno]
  have e0:decide ((4:Int)≤a)=false:=decide_eq_false h0
  go_enter Tryz.func152,Tryz.ntmps152
  go_wp2
  go_ret
  exact ⟨rfl,(Below.refl _ _).alloc (nR _) _⟩
 have e0:decide ((4:Int)≤a)=true:=decide_eq_true h0
 by_cases h1:a≤(16:Int)
 case neg =>
  have hno:decide (wZ a b g r)=false:=decide_eq_false (fun h=>h1 h.2.1)
  rw[hno]
  have e1:decide (a≤(16:Int))=false:=decide_eq_false h1
  go_enter Tryz.func152,Tryz.ntmps152
  go_wp2
  go_ret
  exact ⟨rfl,(Below.refl _ _).alloc (nR _) _⟩
 have e1:decide (a≤(16:Int))=true:=decide_eq_true h1
 by_cases h2:(24:Int)≤b
 case neg =>
  have hno:decide (wZ a b g r)=false:=decide_eq_false (fun h=>h2 h.2.2.1)
  rw[hno]
  have e2:decide ((24:Int)≤b)=false:=decide_eq_false h2
  go_enter Tryz.func152,Tryz.ntmps152
  go_wp2
  go_ret
  exact ⟨rfl,(Below.refl _ _).alloc (nR _) _⟩
 have e2:decide ((24:Int)≤b)=true:=decide_eq_true h2
 by_cases h3:b≤(64:Int)
 case neg =>
  have hno:decide (wZ a b g r)=false:=decide_eq_false (fun h=>h3 h.2.2.2.1)
  rw[hno]
  have e3:decide (b≤(64:Int))=false:=decide_eq_false h3
  go_enter Tryz.func152,Tryz.ntmps152
  go_wp2
  go_ret
  exact ⟨rfl,(Below.refl _ _).alloc (nR _) _⟩
 have e3:decide (b≤(64:Int))=true:=decide_eq_true h3
 by_cases h4:r≤g
 case neg =>
  have hno:decide (wZ a b g r)=false:=decide_eq_false (fun h=>h4 h.2.2.2.2)
  rw[hno]
  have e4:decide (r≤g)=false:=decide_eq_false h4
  go_enter Tryz.func152,Tryz.ntmps152
  go_wp2
  go_ret
  exact ⟨rfl,(Below.refl _ _).alloc (nR _) _⟩
 have e4:decide (r≤g)=true:=decide_eq_true h4
 have hyes:decide (wZ a b g r)=true:=decide_eq_true ⟨h0,h1,h2,h3,h4⟩
 rw[hyes]
 go_enter Tryz.func152,Tryz.ntmps152
 go_wp2
 go_ret
 exact ⟨rfl,(Below.refl _ _).alloc (nR _) _⟩
end
section
def yu:List Int:=[105,99,101,104,111,117,115,101]
def Zw (a b g r v f t:Int):List Int:=(((((((yu++beBytes t 8)++beBytes a 2)++beBytes b 2)++beBytes g 8)++beBytes r 8)++beBytes v 8)++beBytes f 8)
def uI (a b g r v f t:Int):List Int:=Zw a b g r v f t++noughts 4
def wT (a b g r v f t:Int):List Int:=uI a b g r v f t++beBytes (yV start (uI a b g r v f t)) 8
theorem JU (a b g r v f t:Int):(Zw a b g r v f t).length=52:=by simp[Zw,yu,beBytes_length]
theorem JI (a b g r v f t:Int):(uI a b g r v f t).length=56:=by simp[uI,JU,zC]
theorem eP (a b g r v f t:Int):(wT a b g r v f t).length=64:=by simp[wT,JI,beBytes_length]
theorem Ro:Bytes yu:=by
 intro j
 match j with
 | 0 | 1 | 2 | 3 | 4 | 5 | 6 | 7=>simp[yu]
 | (n+8)=>simp[yu]
theorem Fv (a b g r v f t:Int):Bytes (Zw a b g r v f t) :=
 bytes_append (bytes_append (bytes_append (bytes_append (bytes_append (bytes_append (bytes_append Ro (qc _ _)) (qc _ _)) (qc _ _)) (qc _ _)) (qc _ _)) (qc _ _)) (qc _ _)
theorem Xi (a b g r v f t:Int):Bytes (uI a b g r v f t):=bytes_append (Fv a b g r v f t) (dn 4)
theorem Yz (a b g r v f t:Int):Bytes (wT a b g r v f t):=bytes_append (Xi a b g r v f t) (qc _ _)
theorem H9 (l:List Int):0≤yV start l∧yV start l≤18446744073709551615:=by
 have:=Zt start l ⟨by unfold start; omega,by unfold start; omega⟩
 omega
def lG (a b g r v f:Int):Prop:=-9223372036854775808≤a∧a≤9223372036854775807∧-9223372036854775808≤b∧b≤9223372036854775807∧0≤g∧g≤18446744073709551615∧0≤r∧r≤18446744073709551615∧0≤v∧v≤18446744073709551615∧0≤f∧f≤18446744073709551615
end
end Go.Proofs.YtdkbpchmnhbhcaaGreat
