/- Texts of StoreMoves, packed. -/
import Derived.Test.YtdkbpchmnhbhcaaGreatPackStoreMoves2
import Derived.Lib.SlBytesConst
import Derived.OrdersHeld
import Derived.Deep.RegionHeld3
import Derived.Deep.QuietTactic
import Derived.BigQuiet
import Derived.Sort.QuietIn
import Derived.OwnWalkIn
import Derived.Deep.DeepCutAuto
set_option linter.unusedVariables false
set_option linter.unusedSimpArgs false
set_option maxRecDepth 100000
set_option maxHeartbeats 16000000
namespace Go.Proofs.YtdkbpchmnhbhcaaGreat
open Go.RowKit
section
def fnvStep (h c:Int):Int:=IntKind.u64.wrap (bits .xor .u64 h c*1099511628211)
def fnv (h:Int) (l:List Int):Int:=l.foldl fnvStep h
theorem fnv_snoc (h:Int) (l:List Int) (c:Int):fnv h (l++[c])=fnvStep (fnv h l) c:=by simp[fnv]
theorem fnv_step (h:Int) (xs:List Int) (k:Nat) (hk:k<xs.length) :
 fnv h (xs.take (k+1))=IntKind.u64.wrap (bits .xor .u64 (fnv h (xs.take k)) (xs[k]?.getD 0)*1099511628211):=by
 rw[take_snoc xs k hk,fnv_snoc]; rfl
theorem turn_bytes (h:Int) (A:Option Addr) (n cap:Nat) (xs:List Int) (B:Nat) (w:World) (hx:Row .u8 w B A n xs) (hb:Bytes xs) (hn:n≤9223372036854775807) :
 Calls Tryz.prog 141 #[.int .u64 h,.slice A n cap] w fun e w'=>e=.returned (.int .u64 (fnv h xs))∧w=w':=by
 have hlen:=hx.1
 go_enter Tryz.func141,Tryz.ntmps141
 go_wp2
 go_loop [0,8] (fun v i=>∃ k:Nat,k≤n∧i=.int .i64 k∧v=.int .u64 (fnv h (xs.take k))) (fun _ i=>n-(intOf i).toNat)
 case atStart=>exact ⟨0,by omega,rfl,rfl⟩
 case round =>
  obtain ⟨k,hk,rfl,rfl⟩:=hrel
  by_cases hlt:k<n
  ·obtain ⟨b,off,rfl,_,hc⟩:=hx.2 (by omega)
   have hcell:=hc k hlt
   have hr:0≤xs[k]?.getD 0∧xs[k]?.getD 0≤255:=by simpa [List.getD] using hb k
   have hs:=hI (fnv_step h xs k (by omega))
   clear hc hb hx hlen
   go_wp2
   go_round
   case rel=>exact ⟨k+1,by omega,by go_num,by rw[hs.out]⟩
   case measure=>simp[intOf]; omega
  ·clear hx hb
   go_wp2
   go_ret
   exact ⟨ret_int (by rw[List.take_of_length_le (by omega)]),rfl⟩
theorem fnv_nums (h:Int) (s:ByteArray) (k:Nat) (hk:k<s.size) :
 fnv h ((nums s).take (k+1))=IntKind.u64.wrap (bits .xor .u64 (fnv h ((nums s).take k)) (s[k].toNat:Int)*1099511628211):=by
 rw[take_snoc _ k (by rw[nums_length]; exact hk),fnv_snoc,nums_get s k hk]; rfl
theorem turn_string (h:Int) (s:ByteArray) (w:World) (hn:s.size≤9223372036854775807) :
 Calls Tryz.prog 197 #[.int .u64 h,.string s] w fun e w'=>e=.returned (.int .u64 (fnv h (nums s)))∧w=w':=by
 go_enter Tryz.func197,Tryz.ntmps197
 go_wp2
 go_loop [0,8] (fun v i=>∃ k:Nat,k≤s.size∧i=.int .i64 k∧v=.int .u64 (fnv h ((nums s).take k))) (fun _ i=>s.size-(intOf i).toNat)
 case atStart=>exact ⟨0,by omega,rfl,rfl⟩
 case round =>
  obtain ⟨k,hk,rfl,rfl⟩:=hrel
  by_cases hlt:k<s.size
  ·have hs:=hI (fnv_nums h s k hlt)
   have hr:0≤(s[k].toNat:Int)∧(s[k].toNat:Int)≤255:=by have:=s[k].toNat_lt; omega
   go_wp2
   go_round
   case rel=>exact ⟨k+1,by omega,by go_num,by rw[hs.out]⟩
   case measure=>simp[intOf]; omega
  ·go_wp2
   go_ret
   exact ⟨ret_int (by rw[List.take_of_length_le (by rw[nums_length]; omega)]),rfl⟩
def start:Int:=14695981039346656037
theorem hash_any (A:Option Addr) (n cap:Nat) (xs:List Int) (B:Nat) (w:World) (hx:Row .u8 w B A n xs) (hb:Bytes xs) (hn:n≤9223372036854775807) :
 Calls Tryz.prog 80 #[.slice A n cap] w fun e w'=>e=.returned (.int .u64 (fnv start xs))∧w=w':=by
 go_enter Tryz.func80,Tryz.ntmps80
 go_wp2_with (go_at_call 141; refine (turn_bytes _ A n cap xs B _ hx hb hn).mono ?_; rintro e w' ⟨rfl,rfl⟩)
 go_ret
 exact ⟨rfl,rfl⟩
theorem fnv_bounds (h:Int) (l:List Int) (h0:0≤h∧h<18446744073709551616):0≤fnv h l∧fnv h l<18446744073709551616:=by
 induction l generalizing h with
 | nil=>exact h0
 | cons c l ih =>
  show 0≤fnv (fnvStep h c) l∧fnv (fnvStep h c) l<18446744073709551616
  refine ih _ ?_
  unfold fnvStep
  rw[IntKind.wrap_u64]
  omega
end
section
theorem row_marked (w:World) (xs:List Int) (m:Nat × Nat) (n:Nat) (hn:xs.length=n) {S:Nat→Prop} (hs:S w.heap.size):RowI .u8 (w.alloc (.cells (xs.map (Value.int .u8)).toArray 5 m)) S (some ⟨w.heap.size,0,none⟩) n xs:=by
 subst hn
 refine ⟨rfl,fun _=>⟨w.heap.size,0,rfl,hs,fun j hj=>?_⟩⟩
 rw[World.cell?_alloc_mark]
 simp[List.getD,List.getElem?_eq_getElem hj]
end
section
section
variable {P:Program} {ops:Array Oper} {Q:Exit→Act→World→Prop} {md:Region.Mode} {S:World→Prop} {st:List Nat}
def Tillst (P:Program) (md:Region.Mode) (ops:Array Oper) (Q:Exit→Act→World→Prop) (S:World→Prop) (st:List Nat):Nat→Array Bool→Act→World→Prop
 | 0,l,a,w=>Region.ready md ops l=[]∧Q .normal a w
 | k+1,l,a,w=>(Region.ready md ops l=[]→Q .normal a w)∧∀ i∈Region.ready md ops l,wpOp P ops Q i (fun b v=>(st.contains i=false→S v)∧Tillst P md ops Q S st k (l.setIfInBounds i true) b v) a w
theorem Tillst.any:∀ (k:Nat) (l:Array Bool) (a:Act) (w:World),Tillst P md ops Q S st k l a w→wpAny P md ops Q k l a w
 | 0,_,_,_,h=>h
 | k+1,_,_,_,h=>⟨h.1,fun i hi=>wpOp_mono (fun b v g=>Tillst.any k _ b v g.2) (h.2 i hi)⟩
def waitsFor (md:Region.Mode) (ops:Array Oper) (st:List Nat) (i:Nat):Bool:=st.all fun s=>match ops[s]? with | some o=>o.after.any fun e=>Region.binds md e&&e.on==i | none=>false
theorem not_last {l:Array Bool} {i s:Nat} (hw:waitsFor md ops st i=true) (hun:l.getD i false=false) (hs:s∈st):s ∉ Region.ready md ops l:=by
 intro h
 obtain ⟨_,o,ho,hall⟩:=mem_ready.1 h
 unfold waitsFor at hw
 have hw:=List.all_eq_true.1 hw s hs
 simp only[ho] at hw
 obtain ⟨e,he,hb⟩:=Array.any_eq_true'.1 hw
 rw[Bool.and_eq_true,beq_iff_eq] at hb
 have:=hall e he hb.1
 rw[hb.2,hun] at this
 cases this
theorem un_of_ready {l:Array Bool} {i:Nat} (h:i∈Region.ready md ops l):l.getD i false=false:=by
 have h0:=(mem_ready.1 h).1
 rcases Nat.lt_or_ge i l.size with h' | h'
 ·simpa [h'] using h0
 ·simp[Array.getElem?_eq_none h'] at h0
theorem Tillst.first {i:Nat} {oi:Oper} {v:Value} (hi:ops[i]? = some oi) (hsel:∀ (j:Nat) (o:Oper) cs b,ops[j]? = some o→o.op≠.select cs b) (hQ:∀ c a w,Q (.panic c) (a.put oi.dst v) w→Q (.panic c) a w)
 (hw:waitsFor md ops st i=true):∀ (k:Nat) (l:Array Bool) (a:Act) (w:World),
  (∀ j oj,ops[j]? = some oj→j≠i→l.getD j true=false→(∀ e∈oj.after,Region.binds md e=true→e.on≠i)→oi.apart ops oj=true) →
  i∈Region.ready md ops l→YieldsIf P ops S oi v a→S w→Tillst P md ops Q S st k (l.setIfInBounds i true) (a.put oi.dst v) w→Tillst P md ops Q S st (k+1) l a w:=by
 intro k
 induction k with
 | zero =>
  intro l a w _ hr hy hS H
  refine ⟨fun h=>(by rw[h] at hr; cases hr),fun j hj=>?_⟩
  by_cases e:j=i
  ·rw[e]
   exact hy.wpOp hi hS ⟨fun _=>hS,H⟩
  ·have:=ready_mono hj e
   rw[H.1] at this
   cases this
 | succ k ih =>
  intro l a w hfree hr hy hS H
  have hun:=un_of_ready hr
  refine ⟨fun h=>(by rw[h] at hr; cases hr),fun j hj=>?_⟩
  by_cases e:j=i
  ·rw[e]
   exact hy.wpOp hi hS ⟨fun _=>hS,H⟩
  have hjst:st.contains j=false:=by
   rcases h:st.contains j with _ | _
   ·rfl
   ·exact absurd hj (not_last hw hun (by simpa using h))
  obtain ⟨hjun,oj,hoj,hall⟩:=mem_ready.1 hj
  have hno:∀ e∈oj.after,Region.binds md e=true→e.on≠i:=fun e he hb heq=>by
   have:=hall e he hb
   rw[heq,hun] at this
   cases this
  have hput:=wpOp_putIf hoj (hfree j oj hoj e hjun hno) (fun cs b=>hsel i oi cs b hi) (fun cs b=>hsel j oj cs b hoj) hQ hy (H.2 j (ready_mono hj e))
  refine wpOp_mono (fun b u g=>?_) hput
  have hSu:=g.2.1 hjst
  refine ⟨fun _=>hSu,ih (l.setIfInBounds j true) b u (fun m om hm hmi hmun hmno=>?_) (ready_mono hr (Ne.symm e)) g.1 hSu ?_⟩
  ·refine hfree m om hm hmi ?_ hmno
   by_cases hjm:j=m
   ·rw[← hjm]; exact hjun
   ·rw[getD_set_ne true hjm] at hmun; exact hmun
  ·rw[Array.setIfInBounds_comm _ _ e]
   exact g.2.2
theorem Tillst.take {i:Nat} {oi:Oper} {v:Value} {k:Nat} {l:Array Bool} {a:Act} {w:World} (hi:ops[i]? = some oi) (hs:Region.noSelect ops=true) (hf:Region.free md ops l i=true) (hr:(Region.ready md ops l).contains i=true)
 (hw:waitsFor md ops st i=true) (hQ:∀ c a w,Q (.panic c) (a.put oi.dst v) w→Q (.panic c) a w) (hg:Region.wanted oi (yielded ops a.tmps)=true) (hy:∀ w,S w→(execOp a.eval oi).run P w=.ok (.value v) w) (hS:S w)
 (h:Tillst P md ops Q S st k (l.setIfInBounds i true) (a.put oi.dst v) w):Tillst P md ops Q S st (k+1) l a w :=
 Tillst.first hi (Region.noSelect_spec hs) hQ hw k l a w (Region.free_spec hi hf) (by simpa using hr) (.inl ⟨hg,hy⟩) hS h
theorem Tillst.done {l:Array Bool} {a:Act} {w:World} (hr:Region.ready md ops l=[]) (h:Q .normal a w):∀ k,Tillst P md ops Q S st k l a w
 | 0=>⟨hr,h⟩
 | _+1=>⟨fun _=>h,by rw[hr]; simp⟩
theorem Tillst.step {i:Nat} {o:Oper} {k:Nat} {l:Array Bool} {a:Act} {w:World} (ho:ops[i]? = some o) {K0:Act→World→Prop}
 (h:∀ K:Act→World→Prop,(∀ b v,K0 b v→K b v)→if Region.wanted o (yielded ops a.tmps)=true then Oper.wp P o a w K Q else K (a.put o.dst undef) w):wpOp P ops Q i K0 a w:=by
 have:=h K0 (fun _ _ g=>g)
 unfold wpOp
 simp only[ho]
 split
 ·rename_i hw
  rw[if_pos hw] at this
  exact .inl this
 ·rename_i hw
  rw[if_neg hw] at this
  exact this
theorem Tillst.one {i:Nat} {o:Oper} {k:Nat} {l:Array Bool} {a:Act} {w:World} (hr:Region.ready md ops l=[i]) (ho:ops[i]? = some o)
 (h:∀ K:Act→World→Prop,Shut (∀ b v,(st.contains i=false→S v)→((st.contains i=false→S v)→Tillst P md ops Q S st k (l.setIfInBounds i true) b v)→K b v)→if Region.wanted o (yielded ops a.tmps)=true then Oper.wp P o a w K Q else K (a.put o.dst undef) w) :
 Tillst P md ops Q S st (k+1) l a w:=by
 refine ⟨fun e=>(by rw[hr] at e; cases e),fun j hj=>?_⟩
 rw[hr] at hj
 obtain rfl:j=i:=by simpa using hj
 exact Tillst.step (k:=k) (l:=l) ho fun K hK=>h K fun b v h1 h2=>hK b v ⟨h1,h2 h1⟩
theorem Tillst.two {i j:Nat} {o o':Oper} {k:Nat} {l:Array Bool} {a:Act} {w:World} (hr:Region.ready md ops l=[i,j]) (ho:ops[i]? = some o) (ho':ops[j]? = some o')
 (h:∀ K:Act→World→Prop,Shut (∀ b v,(st.contains i=false→S v)→((st.contains i=false→S v)→Tillst P md ops Q S st k (l.setIfInBounds i true) b v)→K b v)→if Region.wanted o (yielded ops a.tmps)=true then Oper.wp P o a w K Q else K (a.put o.dst undef) w)
 (h':∀ K:Act→World→Prop,Shut (∀ b v,(st.contains j=false→S v)→((st.contains j=false→S v)→Tillst P md ops Q S st k (l.setIfInBounds j true) b v)→K b v)→if Region.wanted o' (yielded ops a.tmps)=true then Oper.wp P o' a w K Q else K (a.put o'.dst undef) w) :
 Tillst P md ops Q S st (k+1) l a w:=by
 refine ⟨fun e=>(by rw[hr] at e; cases e),fun m hm=>?_⟩
 rw[hr] at hm
 rcases List.mem_cons.1 hm with e | hm
 ·rw[e]
  exact Tillst.step (k:=k) (l:=l) ho fun K hK=>h K fun b v h1 h2=>hK b v ⟨h1,h2 h1⟩
 ·obtain rfl:m=j:=by simpa using hm
  exact Tillst.step (k:=k) (l:=l) ho' fun K hK=>h' K fun b v h1 h2=>hK b v ⟨h1,h2 h1⟩
theorem Tillst.region {id:Nat} {a:Act} {w:World} (S:World→Prop) (st:List Nat) (hm:P.follows .mixedOrders=true) (hS:S w.drew) (h:S w.drew→Tillst P .any ops Q S st ops.size (Array.replicate ops.size false) a w.drew):(Code.region id ops true).wp P Q a w :=
 wp_region_any hm (Tillst.any _ _ _ _ (h hS))
end
section
variable {P:Program} {ops:Array Oper} {Q:Exit→Act→World→Prop} {md:Region.Mode} {S:World→Prop} {st:List Nat}
theorem tK (i:Nat) (oi:Oper) {v:Value} {k:Nat} {l:Array Bool} {a:Act} {w:World}
 (hy:∀ w,S w→(execOp a.eval oi).run P w=.ok (.value v) w) (hS:S w)
 (h:Tillst P md ops Q S st k (l.setIfInBounds i true) (a.put oi.dst v) w) (hi:ops[i]? = some oi:=by exact rfl) (hb:(Region.noSelect ops&&Region.free md ops l i&&(Region.ready md ops l).contains i&&waitsFor md ops st i)=true:=by kernel_rfl)
 (hg:Region.wanted oi (yielded ops a.tmps)=true:=by rfl) (hQ:∀ c a w,Q (.panic c) (a.put oi.dst v) w→Q (.panic c) a w:=by exact fun _ _ _ h=>h):Tillst P md ops Q S st (k+1) l a w:=by
 simp only[Bool.and_eq_true] at hb
 exact Tillst.take hi hb.1.1.1 hb.1.1.2 hb.1.2 hb.2 hQ hg hy hS h
theorem tO (i:Nat) (o:Oper) {k:Nat} {l:Array Bool} {a:Act} {w:World}
 (h:∀ K:Act→World→Prop,Shut (∀ b v,(st.contains i=false→S v)→((st.contains i=false→S v)→Tillst P md ops Q S st k (l.setIfInBounds i true) b v)→K b v)→if Region.wanted o (yielded ops a.tmps)=true then Oper.wp P o a w K Q else K (a.put o.dst undef) w)
 (hr:Region.ready md ops l=[i]:=by kernel_rfl) (ho:ops[i]? = some o:=by exact rfl):Tillst P md ops Q S st (k+1) l a w:=Tillst.one hr ho h
end
end
section
section
variable {P:Program} {ops:Array Oper} {C:World→Prop} {rest:List Oper} {o:Oper} {a:Act} {Q:Act→Prop}
theorem calm_region {id:Nat} {l:List Oper} {Q:Exit→Act→World→Prop} {a:Act} {w:World} (C:World→Prop) (hm:P.follows .mixedOrders=true) (hB:Region.lexB .any l.toArray=true) (hC:C w.drew)
 (h:wpQuiet P l.toArray C (fun a'=>∀ w',C w'→Q .normal a' w') l a):(Code.region id l.toArray true).wp P Q a w :=
 wp_region_quiet (C:=C) hm hB hC (by simpa using h)
theorem calm_by (v:Value) (hgd:Region.wanted o (yielded ops a.tmps)=true) (h:∀ W,C W→(execOp a.eval o).run P W=.ok (.value v) W) (hk:wpQuiet P ops C Q rest (a.put o.dst v)):wpQuiet P ops C Q (o::rest) a :=
 BigFrame.wpQuiet_want hgd fun K hK=>⟨v,fun W hW=>by unfold Oper.quietAt; rw[h W hW]; exact ⟨rfl,rfl⟩,hK _ hk⟩
theorem calm_load_row (x:Operand) (ty:TypeId) (ho:o.op=.load ty x) (hgd:Region.wanted o (yielded ops a.tmps)=true) (b:Nat) (hx:a.eval x=.pointer (some ⟨b,0,none⟩))
 (t:TypeId) (cs:List Value) (d:TypeDesc) (hu:P.underlying ty=some d) (hd:d.isRow=true) (hi:(P.info? ty).map (·.size)=some cs.length) (hc:∀ W,C W→Blk W b t cs.toArray)
 (h:wpQuiet P ops C Q rest (a.put o.dst (.agg cs.toArray))):wpQuiet P ops C Q (o::rest) a :=
 calm_by (.agg cs.toArray) hgd (fun W hW=>by
  have hr:=run_loadAt_mid (P:=P) W b 0 ty cs d (hc W hW).rangeL hu hd hi
  unfold execOp
  simp only[ho,hx,Sem.run_bind,hr,Result.andThen_ok,Sem.run_pure]) h
theorem calm_load_cell (x:Operand) (ty:TypeId) (ho:o.op=.load ty x) (hgd:Region.wanted o (yielded ops a.tmps)=true) (p:Addr) (hx:a.eval x=.pointer (some p)) (v:Value)
 (hr:∀ W,W.cell? p=some v→(Instr.loadAt ty (.pointer (some p))).run P W=.ok v W) (hc:∀ W,C W→W.cell? p=some v)
 (h:wpQuiet P ops C Q rest (a.put o.dst v)):wpQuiet P ops C Q (o::rest) a :=
 calm_by v hgd (fun W hW=>by
  have hr:=hr W (hc W hW)
  unfold execOp
  simp only[ho,hx,Sem.run_bind,hr,Result.andThen_ok,Sem.run_pure]) h
theorem run_callFunc_body {P:Program} {f:FuncId} {fn:Func} (hf:P.funcs[f]? = some fn) (hn:(fn.name == "runtime.NumGoroutine")=false) (hb:fn.body.isNone=false) (args:Array Value) (W:World) :
 (callFunc f args).run P W=.ok (.enter f args) W:=by
 have hn':fn.name ≠ "runtime.NumGoroutine" := by simpa using hn
 have hb':fn.body≠none:=by intro h; rw[h] at hb; cases hb
 unfold callFunc
 simp[Sem.run_bind,run_program,hf,hn',hb']
theorem calm_call (f:FuncId) (xs:Array Operand) (ts:Array TypeId) (ho:o.op=.call { callee:=.value (.func f),args:=xs,argTypes:=ts }) (hgd:Region.wanted o (yielded ops a.tmps)=true)
 {fn:Func} (hf:P.funcs[f]? = some fn) (hn:(fn.name == "runtime.NumGoroutine") = false) (hb : fn.body.isNone = false)
 (v:Value) (vs:List Value) (hxs:xs.toList.map a.eval=vs) (h:∀ W,C W→Calls P f vs.toArray W fun e W'=>e=.returned v∧C W')
 (hk:wpQuiet P ops C Q rest (a.put o.dst v)):wpQuiet P ops C Q (o::rest) a :=
 BigFrame.wpQuiet_want hgd fun K hK=>⟨v,fun W hW=>by
  have:=h W hW
  have e:(xs.map a.eval)=(xs.toList.map a.eval).toArray:=by cases xs; simp
  have hc:=run_callFunc_body (P:=P) hf hn hb vs.toArray W
  unfold Oper.quietAt execOp
  simp only[ho,resolve,e,hxs]
  simp[go_sem,invoke,Act.eval,Oper.quietUpon,hc]
  simpa using this,hK _ hk⟩
end
end
section
section
variable {P:Program} {w:World} {o:Oper} {a:Act} {Q:Exit→Act→World→Prop} {K:Act→World→Prop} {E:Prop} {ops:Array Oper}
theorem exec_load_row (x:Operand) (ty:TypeId) (ho:o.op=.load ty x) (b off:Nat) (hx:a.eval x=.pointer (some ⟨b,off,none⟩)) (cs:List Value) (d:TypeDesc) (hu:P.underlying ty=some d) (hd:d.isRow=true)
 (hi:(P.info? ty).map (·.size)=some cs.length) (hc:w.rangeAt b off cs):(execOp a.eval o).run P w=.ok (.value (.agg cs.toArray)) w:=by
 have hr:=run_loadAt_mid (P:=P) w b off ty cs d hc hu hd hi
 unfold execOp
 simp only[ho,hx,Sem.run_bind,hr,Result.andThen_ok,Sem.run_pure]
theorem exec_build (ty:TypeId) (parts:Array (Nat × Operand)) (ho:o.op=.build ty parts) (vs:List (Nat × Value)) (hv:(parts.map fun (i,x)=>(i,a.eval x)).toList=vs) (cells:Array Value) (hb:P.built ty vs=some cells) :
 (execOp a.eval o).run P w=.ok (.value (.agg cells)) w:=by
 have:=run_build (P:=P) w ty (parts.map fun (i,x)=>(i,a.eval x)) cells (by rw[hv]; exact hb)
 unfold execOp
 simp only[ho,Sem.run_bind,this,Result.andThen_ok,Sem.run_pure]
theorem step_store_cell (x y:Operand) (ty:TypeId) (ho:o.op=.store ty x y) (hgd:Region.wanted o (yielded ops a.tmps)=true) (p:Addr) (v:Value) (hx:a.eval x=.pointer (some p)) (hy:a.eval y=v)
 (hr:(Instr.storeAt ty (.pointer (some p)) v).run P w=.ok () (w.setCell p v)) (h:K (a.put o.dst undef) (w.setCell p v)):if Region.wanted o (yielded ops a.tmps)=true then Oper.wp P o a w K Q else E:=by
 rw[if_pos hgd]
 unfold Oper.wp execOp
 simp only[ho,hx,hy,hr,Sem.run_bind,Result.andThen_ok]
 exact h
theorem step_call (f:FuncId) (xs:Array Operand) (ts:Array TypeId) (ho:o.op=.call { callee:=.value (.func f),args:=xs,argTypes:=ts }) (hgd:Region.wanted o (yielded ops a.tmps)=true)
 {fn:Func} (hf:P.funcs[f]? = some fn) (hn:(fn.name == "runtime.NumGoroutine")=false) (hb:fn.body.isNone=false)
 (vs:List Value) (hxs:xs.toList.map a.eval=vs) (h:Calls P f vs.toArray w fun e w'=>∃ v,e=.returned v∧K (a.put o.dst v) w') :
 if Region.wanted o (yielded ops a.tmps)=true then Oper.wp P o a w K Q else E:=by
 have e:(xs.map a.eval)=(xs.toList.map a.eval).toArray:=by cases xs; simp
 have hc:=run_callFunc_body (P:=P) hf hn hb vs.toArray w
 rw[if_pos hgd]
 unfold Oper.wp execOp
 simp only[ho,resolve,e,hxs]
 simp[go_sem,invoke,Act.eval,hc]
 refine Calls.mono (by simpa using h) fun e w' hh=>?_
 obtain ⟨v,rfl,hk⟩:=hh
 exact hk
theorem step_value (v:Value) (hgd:Region.wanted o (yielded ops a.tmps)=true) (hr:(execOp a.eval o).run P w=.ok (.value v) w) (h:K (a.put o.dst v) w):if Region.wanted o (yielded ops a.tmps)=true then Oper.wp P o a w K Q else E:=by
 rw[if_pos hgd]
 unfold Oper.wp
 rw[hr]
 exact h
end
theorem range_below {w w':World} {b off B:Nat} {cs:List Value} (h:w.rangeAt b off cs) (hb:Below B w w') (hB:b<B):w'.rangeAt b off cs :=
 fun j v hv=>(hb.cell (p:=⟨b,off+j,none⟩) hB).trans (h j v hv)
end
section
theorem nums_inj {s t:ByteArray} (h:nums s=nums t):s=t:=by
 have hl:s.size=t.size:=by rw[← nums_length s,h,nums_length]
 apply ByteArray.ext
 apply Array.ext hl
 intro i h1 h2
 have g1:=nums_get s i h1
 have g2:=nums_get t i h2
 rw[h,g2] at g1
 have:t[i].toNat=s[i].toNat:=by omega
 exact (UInt8.toNat_inj.1 this).symm
theorem equal_yes (A A':Option Addr) (n c c':Nat) (xs:List Int) (S S':Nat→Prop) (w:World) (hx:RowI .u8 w S A n xs) (hx':RowI .u8 w S' A' n xs) (hS:∀ b,S b→b<w.heap.size) (hS':∀ b,S' b→b<w.heap.size) (hb:Bytes xs) :
 Calls Tryz.prog 40 #[.slice A n c,.slice A' n c'] w fun e w'=>e=.returned (.bool true)∧w=w':=by
 obtain ⟨s,hs,hns⟩:=conv_string (P:=Tryz.prog) w 31 9 5 Tryz.underlying31 Tryz.underlying5 Tryz.underlying9 c (hx.more (T:=(·<w.heap.size)) hS).toRow hb
 obtain ⟨t,ht,hnt⟩:=conv_string (P:=Tryz.prog) w 31 9 5 Tryz.underlying31 Tryz.underlying5 Tryz.underlying9 c' (hx'.more (T:=(·<w.heap.size)) hS').toRow hb
 obtain rfl:s=t:=nums_inj (hns.trans hnt.symm)
 clear hns hnt hx hx'
 go_enter Tryz.func40,Tryz.ntmps40
 go_wp2
 go_ret
 exact ⟨rfl,rfl⟩
end
section
theorem cell_far6 (w:World) (g:Nat) (u0 u1 u2 u3 u4 u5:Value) {p:Addr} (h:p.block≠g):((((((w.setCell ⟨g,0,none⟩ u0).setCell ⟨g,1,none⟩ u1).setCell ⟨g,2,none⟩ u2).setCell ⟨g,3,none⟩ u3).setCell ⟨g,4,none⟩ u4).setCell ⟨g,5,none⟩ u5).cell? p=w.cell? p:=by
 have key:∀ (w:World) (i:Nat) (u:Value),(w.setCell ⟨g,i,none⟩ u).cell? p=w.cell? p:=fun w i u=>World.cell?_setCell_other _ _ _ _ (by rintro rfl; exact h rfl)
 rw[key,key,key,key,key,key]
theorem Blk.set6 {w:World} {g:Nat} {t:TypeId} {a0 a1 a2 a3 a4 a5:Value} (h:Blk w g t #[a0,a1,a2,a3,a4,a5]) (u0 u1 u2 u3 u4 u5:Value) :
 Blk ((((((w.setCell ⟨g,0,none⟩ u0).setCell ⟨g,1,none⟩ u1).setCell ⟨g,2,none⟩ u2).setCell ⟨g,3,none⟩ u3).setCell ⟨g,4,none⟩ u4).setCell ⟨g,5,none⟩ u5) g t #[u0,u1,u2,u3,u4,u5]:=(((((h.set_ 0 u0).set_ 1 u1).set_ 2 u2).set_ 3 u3).set_ 4 u4).set_ 5 u5
theorem Blk.far6 {w:World} {g g':Nat} {t:TypeId} {cs:Array Value} (h:Blk w g' t cs) (hne:g'≠g) (u0 u1 u2 u3 u4 u5:Value) :
 Blk ((((((w.setCell ⟨g,0,none⟩ u0).setCell ⟨g,1,none⟩ u1).setCell ⟨g,2,none⟩ u2).setCell ⟨g,3,none⟩ u3).setCell ⟨g,4,none⟩ u4).setCell ⟨g,5,none⟩ u5) g' t cs:=(((((h.far hne u0).far hne u1).far hne u2).far hne u3).far hne u4).far hne u5
theorem below_set6 {B:Nat} {a w:World} (h:Below B a w) {g:Nat} (hg:B≤g) (u0 u1 u2 u3 u4 u5:Value) :
 Below B a ((((((w.setCell ⟨g,0,none⟩ u0).setCell ⟨g,1,none⟩ u1).setCell ⟨g,2,none⟩ u2).setCell ⟨g,3,none⟩ u3).setCell ⟨g,4,none⟩ u4).setCell ⟨g,5,none⟩ u5):=(((((h.setCell hg u0).setCell hg u1).setCell hg u2).setCell hg u3).setCell hg u4).setCell hg u5
end
section
section
variable {F:Fence} {n:Nat} {P:Program} {md:Region.Mode} {ops:Array Oper} {C:World→Prop}
theorem quietR_op {o:Oper} {a:Act} {K:Act→Prop} {K':Act→World→Prop} {Q':Exit→Act→World→Prop} {w:World} (hnd:∀ c,o.op≠.defer c) (hw:C w) (h:∀ a w',C w'→K a→K' a w')
 (ha:o.askedIn F P a C) (hh:o.quietIn F n P a C K):o.wpIn F n P a w K' Q':=by
 obtain ⟨v,h1,h2⟩:=hh
 have h3:=h1 w hw
 unfold Oper.quietAtIn at h3
 unfold Oper.wpIn
 refine ⟨ha w hw,?_⟩
 rw[Oper.semAt_plain F _ _ hnd]
 generalize (execOp a.eval o).run P w=r at *
 cases r with
 | ok x w' =>
  cases x <;> simp only[Oper.quietUponIn] at h3 <;> simp only[Oper.uponIn]
  case value u =>
   obtain ⟨e1,e2⟩:=h3
   rw[e1,e2]
   exact h _ _ hw h2
  case skip =>
   obtain ⟨e1,e2⟩:=h3
   rw[e1,← e2]
   exact h _ _ hw h2
  case enter f args =>
   obtain ⟨e1,hd,hc⟩:=h3
   rw[e1]
   exact ⟨hd,hc.mono fun e w'' ⟨he,hw''⟩=>by subst he; exact h _ _ hw'' h2⟩
 | halt x w'=>simp only[Oper.quietUponIn] at h3
theorem quietR_at {i:Nat} {a:Act} {K:Act→Prop} {K':Act→World→Prop} {Q':Exit→Act→World→Prop} {w:World} (hnd:∀ (i:Nat) (o:Oper),ops[i]? = some o→∀ c,o.op≠.defer c) (hC:C w) (h:∀ a w',C w'→K a→K' a w')
 (hh:qOpIn F n P ops C i K a):wpOpIn F n P ops Q' i K' a w:=by
 unfold qOpIn at hh
 unfold wpOpIn
 split
 ·rename_i ho; simp only[ho] at hh; exact h _ _ hC hh
 ·rename_i o ho
  simp only[ho] at hh
  obtain ⟨ha,hh⟩:=hh
  split
  ·rename_i hw; simp only[hw,if_true] at hh; exact quietR_op (hnd _ _ ho) hC h ha hh
  ·rename_i hw; simp only[hw] at hh; exact ⟨ha w hC,h _ _ hC hh⟩
theorem quietR_any {Q:Act→Prop} {Q':Exit→Act→World→Prop} (hnd:∀ (i:Nat) (o:Oper),ops[i]? = some o→∀ c,o.op≠.defer c) (hQ:∀ a w,C w→Q a→Q' .normal a w):∀ (fuel:Nat) (listed:Array Bool) (a:Act) (w:World),C w →
 wpAnyQIn F n P md ops C Q fuel listed a→wpAnyIn F n P md ops Q' fuel listed a w
 | 0,_,_,_,hw,h=>⟨h.1,hQ _ _ hw h.2⟩
 | fuel+1,_,_,_,hw,h=>⟨fun h0=>hQ _ _ hw (h.1 h0),fun i hi=>quietR_at hnd hw (fun a' w' hw'=>quietR_any hnd hQ fuel _ a' w' hw') (h.2 i hi)⟩
def noDefer (o:Oper):Bool:=match o.op with
 | .defer _=>false
 | _=>true
theorem noDefer_all {l:List Oper} (h:l.all noDefer=true) (i:Nat) (o:Oper) (ho:l.toArray[i]? = some o) (c:Call):o.op≠.defer c:=fun e=>by
 have h1:o∈l:=by
  have:=Array.mem_of_getElem? ho
  simpa using this
 have h2:=List.all_eq_true.1 h o h1
 unfold noDefer at h2
 rw[e] at h2
 cases h2
theorem region_quietR {id:Nat} {Q:Exit→Act→World→Prop} {a:Act} {w:World} {l:List Oper} (hnd:l.all noDefer=true) (hm:P.follows .mixedOrders=true) (hB:Region.lexB .any l.toArray=true)
 (h:wpQuietIn F n P l.toArray (fun w'=>∃ n,w'=w.drewN n) (fun a'=>∀ w',(∃ n,w'=w.drewN n)→Q .normal a' w') l a):(Code.region id l.toArray true).wpIn F n P Q a w:=by
 simp only[Region.lexB,Bool.and_eq_true] at hB
 refine wpIn_region_any hm (quietR_any (C:=fun w'=>∃ n,w'=w.drewN n) (Q:=fun a'=>∀ w',(∃ n,w'=w.drewN n)→Q .normal a' w') (noDefer_all hnd) (fun _ w' hw' h=>h w' hw') _ _ _ _ ⟨1,rfl⟩ ?_)
 have:=wpAnyQIn_lex (F:=F) (n:=n) (C:=fun w'=>∃ n,w'=w.drewN n) (md:=.any) hB.1 l.toArray.toList 0 (Array.replicate l.toArray.size false) a (by simp) (by simpa using hB.2) (by simpa using h)
 simpa using this
end
end
section
def Nums64 (xs:List Int):Prop:=∀ j,0≤xs.getD j 0∧xs.getD j 0≤18446744073709551615
theorem Nums64.take {xs:List Int} (h:Nums64 xs) (n:Nat):Nums64 (xs.take n):=by
 intro j
 by_cases hj:j<n
 ·have:=h j
  simpa [List.getD,List.getElem?_take,hj] using this
 ·simp[List.getD,List.getElem?_take,hj]
end
section
def folB (g p f g' p':Int):Bool:=decide (0<p'∧g=g'∧p=p'-1∧f=48)
theorem follows_any (g p f g' p' f':Int) (w:World) (hp:0≤p') (hp2:p'≤4294967295) (hf:0≤f) (hf2:f≤65535) :
 Calls Tryz.prog 177 #[.agg #[.int .u64 g,.int .u32 p,.int .i64 f],.agg #[.int .u64 g',.int .u32 p',.int .i64 f']] w fun e w'=>e=.returned (.bool (folB g p f g' p'))∧Below w.heap.size w w':=by
 by_cases h:0<p'
 ·have h1:1≤p':=by omega
  go_enter Tryz.func177,Tryz.ntmps177
  go_wp2
  all_goals
   go_ret
   refine ⟨ret_bool ?_,(((Below.refl _ _).alloc (nR _) _).alloc (by simp) _).alloc (by simp; omega) _⟩
   simp[folB, *]
 ·have h1:p'=0:=by omega
  subst h1
  go_enter Tryz.func177,Tryz.ntmps177
  go_wp2
  go_ret
  refine ⟨ret_bool ?_,(((Below.refl _ _).alloc (nR _) _).alloc (by simp) _).alloc (by simp; omega) _⟩
  simp[folB]
end
section
def linkB (xs ys:List Int):Bool:=folB (genOf xs) (posOf xs) (fillOf xs) (genOf ys) (posOf ys)
def ChainAt (xss:List (List Int)) (i:Nat):Prop:=stamped (xss.getD i [])=true∧(0<i→linkB (xss.getD (i-1) []) (xss.getD i [])=true)
def Chain (xss:List (List Int)):Prop:=∀ i,i<xss.length→ChainAt xss i
def meants (xss:List (List Int)):List Int:=(xss.map meantOf).flatten
theorem meants_snoc (xss:List (List Int)) (k:Nat) (h:k<xss.length):meants (xss.take (k+1))=meants (xss.take k)++meantOf (xss.getD k []):=by
 unfold meants
 rw[List.take_succ_eq_append_getElem h,List.map_append,List.flatten_append]
 simp[List.getD,List.getElem?_eq_getElem h]
theorem meants_length (xss:List (List Int)) (k:Nat) (h:k≤xss.length):(meants (xss.take k)).length≤48*k:=by
 induction k with
 | zero=>simp[meants]
 | succ k ih =>
  rw[meants_snoc xss k (by omega),List.length_append]
  have:=ih (by omega)
  have:=meant_le (xss.getD k [])
  omega
def JoinBad (w:World) (e:Ending) (w':World):Prop:=e=.returned (.tuple #[.slice none 0 0,.int .i64 150])∧Below w.heap.size w w'
def aheadOf (xss:List (List Int)) (k:Nat):Array Value:=if k=0 then #[.int .u64 0,.int .u32 0,.int .i64 0] else #[.int .u64 (genOf (xss.getD (k-1) [])),.int .u32 (posOf (xss.getD (k-1) [])),.int .i64 (fillOf (xss.getD (k-1) []))]
structure Joining (xss:List (List Int)) (w wr:World) (o:Value) (k:Nat):Prop where
 own:wr.ownsRow (w.heap.size+1) 5 1 o (meants (xss.take k)).length ((meants (xss.take k)).map (Value.int .u8))
 st:Blk wr w.heap.size 203 (aheadOf xss k)
 bel:Below w.heap.size w wr
 chain:∀ i,i<k→ChainAt xss i
theorem not_chain {xss:List (List Int)} {k:Nat} (hk:k<xss.length) (h:¬ ChainAt xss k):¬ (1≤xss.length∧Chain xss):=fun hc=>h (hc.2 k hk)
theorem Joining.next {xss:List (List Int)} {w wr w4 w5:World} {o v':Value} {k:Nat} {xs:List Int} (h:Joining xss w wr o k) (hk:k<xss.length) (hxs:xs=xss.getD k []) (hc:ChainAt xss k)
 (hb4:Below wr.heap.size wr w4) (hown:w5.ownsRow (w.heap.size+1) 5 1 v' ((meants (xss.take k)).length+(meantOf xs).length) ((meants (xss.take k)).map (Value.int .u8)++(meantOf xs).map (Value.int .u8))) (hg:w4.grownBy w5 o.ownBlock) :
 Joining xss w (((w5.setCell ⟨w.heap.size,0,none⟩ (.int .u64 (genOf xs))).setCell ⟨w.heap.size,1,none⟩ (.int .u32 (posOf xs))).setCell ⟨w.heap.size,2,none⟩ (.int .i64 (fillOf xs))) v' (k+1):=by
 have hst:Blk w5 w.heap.size 203 (aheadOf xss k):=(h.st.below hb4 h.st.lt).grown hg (fun e=>by have:=h.own.lt _ e.symm; omega)
 have hst':∃ a0 a1 a2:Value,aheadOf xss k=#[a0,a1,a2]:=by unfold aheadOf; split <;> exact ⟨_,_,_,rfl⟩
 obtain ⟨a0,a1,a2,ha⟩:=hst'
 rw[ha] at hst
 refine ⟨?_,?_,?_,?_⟩
 ·have e:=meants_snoc xss k hk
  rw[← hxs] at e
  rw[e,List.length_append,List.map_append]
  exact own_set3 hown (fun e=>by have:=hown.lt _ e; omega) _ _ _
 ·have e:aheadOf xss (k+1)=#[.int .u64 (genOf xs),.int .u32 (posOf xs),.int .i64 (fillOf xs)]:=by
   unfold aheadOf
   rw[if_neg (by omega),show k+1-1=k by omega,← hxs]
  rw[e]
  exact hst.set3 _ _ _
 ·refine below_set3 (((h.bel.trans (hb4.mono h.bel.size))).grown hg (nT h.bel.size hb4.size) (fun g hg=>by have:=h.own.lt g hg; omega)) (nR _) _ _ _
 ·intro i hi
  by_cases e:i=k
  ·subst e; exact hc
  ·exact h.chain i (by omega)
end
section
theorem part_bytes {xs:List Int} (h:Bytes xs) (k:Nat):Bytes (partOf xs k):=bytes_part h (48*k) 48
theorem part_full (xs:List Int) (k:Nat) (h:k+1<cntOf xs.length):(partOf xs k).length=48:=by
 unfold cntOf at h
 simp[partOf]
 omega
theorem split_said {gen pos:Int} {xs:List Int} (hg:1≤gen) (hg2:gen≤18446744073709551615) (hp:0≤pos) (k:Nat) (hk:k<cntOf xs.length) (hpk:pos+k≤4294967295) :
 genOf ((splitL gen pos xs).getD k [])=gen∧posOf ((splitL gen pos xs).getD k [])=pos+k∧fillOf ((splitL gen pos xs).getD k [])=(partOf xs k).length∧meantOf ((splitL gen pos xs).getD k [])=partOf xs k∧stamped ((splitL gen pos xs).getD k [])=true:=by
 rw[split_get gen pos xs k hk]
 obtain ⟨h1,h2,h3,h4⟩:=pack_said gen (pos+k) (partOf xs k) (by omega) hg2 (by omega) hpk (part_le xs k)
 exact ⟨h1,h2,h3,h4,pack_stamped gen (pos+k) (partOf xs k) hg hg2 (by omega) hpk (part_le xs k)⟩
theorem split_bytes {gen pos:Int} {xs:List Int} (hb:Bytes xs) (i:Nat):Bytes ((splitL gen pos xs).getD i []):=by
 by_cases h:i<cntOf xs.length
 ·rw[split_get gen pos xs i h]
  exact pack_bytes _ _ _ (part_bytes hb i)
 ·have:(splitL gen pos xs).getD i []=[]:=by simp[List.getD,List.getElem?_eq_none (show (splitL gen pos xs).length≤i by rw[split_length]; omega)]
  rw[this]
  intro j
  simp
theorem split_chain {gen pos:Int} {xs:List Int} (hg:1≤gen) (hg2:gen≤18446744073709551615) (hp:0≤pos) (h:pos+cntOf xs.length≤4294967296):Chain (splitL gen pos xs):=by
 intro i hi
 rw[split_length] at hi
 have h1:=split_said (xs:=xs) hg hg2 hp i hi (by omega)
 refine ⟨h1.2.2.2.2,fun h0=>?_⟩
 obtain ⟨j,rfl⟩:∃ j,i=j+1:=⟨i-1,by omega⟩
 have h2:=split_said (xs:=xs) hg hg2 hp j (by omega) (by omega)
 have hf:=part_full xs j hi
 simp only[linkB,folB,decide_eq_true_eq,Nat.add_sub_cancel]
 rw[h1.1,h1.2.1,h2.1,h2.2.1,h2.2.2.1,hf]
 omega
theorem split_meants {gen pos:Int} {xs:List Int} (hg:1≤gen) (hg2:gen≤18446744073709551615) (hp:0≤pos) (h:pos+cntOf xs.length≤4294967296):meants (splitL gen pos xs)=xs:=by
 have key:∀ k,k≤cntOf xs.length→meants ((splitL gen pos xs).take k)=xs.take (48*k):=by
  intro k
  induction k with
  | zero=>intro _; simp[meants]
  | succ k ih =>
   intro hk
   have h1:=split_said (xs:=xs) hg hg2 hp k (by omega) (by omega)
   rw[meants_snoc _ k (by rw[split_length]; omega),ih (by omega),h1.2.2.2.1]
   unfold partOf
   rw[show 48*(k+1)=48*k+48 by omega,List.take_add]
 have:=key (cntOf xs.length) (nR _)
 rw[List.take_of_length_le (by rw[split_length]; exact nR _),List.take_of_length_le (by unfold cntOf; omega)] at this
 exact this
end
section
theorem RowK.tail {w:World} {S:Nat→Prop} {g n:Nat} {xss:List (List Int)} (h:RowK w S (some ⟨g,0,none⟩) n xss) (k:Nat) (hk:k<n):RowK w S (some ⟨g,k*64,none⟩) (n-k) (xss.drop k):=by
 have hl:=h.1
 refine ⟨by simp; omega,fun h0=>?_⟩
 obtain ⟨b,off,e,hb,hc⟩:=h.2 (by omega)
 injection e with e
 injection e with e1 e2 _
 subst e1 e2
 refine ⟨g,k*64,rfl,hb,fun i hi=>?_⟩
 have:(xss.drop k).getD i []=xss.getD (k+i) []:=by simp[List.getD,List.getElem?_drop]
 rw[this,show k*64+i*64=0+(k+i)*64 by omega]
 exact hc (k+i) (by omega)
end
section
theorem flat_set_s5 {L:List (List Int)} (h:Secs L) (k:Nat) (hk:k<L.length) (ys:List Int) (hy:ys.length=64):(flat L).take (k*64)++ys++(flat L).drop (k*64+64)=flat (L.set k ys):=by
 have hc:=list_cut k hk
 have hl:=flat_length (h.take k)
 have hg:=h.get k hk
 rw[List.length_take,Nat.min_eq_left (by omega)] at hl
 have e:L.set k ys=L.take k++[ys]++L.drop (k+1):=by
  rw[List.set_eq_take_append_cons_drop,if_pos hk,List.append_assoc,List.singleton_append]
 rw[e]
 conv=>lhs; rw[hc]
 rw[flat_append,flat_append,flat_one,flat_append,flat_append,flat_one]
 generalize L.getD k []=zs at *
 generalize flat (L.take k)=us at *
 generalize flat (L.drop (k+1))=vs at *
 rw[List.append_assoc us zs vs,List.take_append,List.take_of_length_le (by omega),List.drop_append,hl]
 simp[show k*64+64-k*64=64 by omega,hl,hg,List.drop_append]
end
section
section
variable {P:Program} {w:World} {ops:Array Oper} {o:Oper} {a:Act} {Q:Exit→Act→World→Prop} {K:Act→World→Prop} {E:Prop}
theorem step_store_row (x y:Operand) (ty:TypeId) (ho:o.op=.store ty x y) (hgd:Region.wanted o (yielded ops a.tmps)=true) (g:Nat) (cs:Array Value) (hx:a.eval x=.pointer (some ⟨g,0,none⟩)) (hy:a.eval y=.agg cs)
 (t:TypeId) (cs0:Array Value) (hg:Blk w g t cs0) (hi:(P.info? ty).map (·.size)=some cs.size) (hl:cs0.size=cs.size) (hone:cs.all (·.oneCell')=true)
 (h:K (a.put o.dst undef) (w.setRow g cs)):if Region.wanted o (yielded ops a.tmps)=true then Oper.wp P o a w K Q else E:=by
 rw[if_pos hgd]
 exact wp_store_row ty x y ho g cs hx hy t cs0 hg hi hl hone h
theorem row_runs {o:Oper} {a:Act} {W:World} (x:Operand) (ty:TypeId) (ho:o.op=.load ty x) (b:Nat) (hx:a.eval x=.pointer (some ⟨b,0,none⟩))
 (t:TypeId) (cs:List Value) (d:TypeDesc) (hu:P.underlying ty=some d) (hd:d.isRow=true) (hi:(P.info? ty).map (·.size)=some cs.length) (hc:Blk W b t cs.toArray) :
 (execOp a.eval o).run P W=.ok (.value (.agg cs.toArray)) W:=by
 have hr:=run_loadAt_mid (P:=P) W b 0 ty cs d hc.rangeL hu hd hi
 unfold execOp
 simp only[ho,hx,Sem.run_bind,hr,Result.andThen_ok,Sem.run_pure]
end
end
section
theorem size_head:(Tryz.prog.info? 121).map (·.size)=some 6:=by kernel_rfl
theorem size_rec:(Tryz.prog.info? 33).map (·.size)=some 6:=by kernel_rfl
abbrev headC (k f x s n m:Int):Array Value:=#[.int .i64 k,.int .u32 f,.int .u32 x,.int .u64 s,.int .i64 n,.int .i64 m]
abbrev recC (k f x s:Int) (A:Option Addr) (n c:Nat) (A':Option Addr) (n' c':Nat):Array Value:=#[.int .i64 k,.int .u32 f,.int .u32 x,.int .u64 s,.slice A n c,.slice A' n' c']
theorem one_head (k f x s n m:Int):(headC k f x s n m).all (·.oneCell')=true:=by simp[headC,Value.oneCell']
theorem one_rec (k f x s:Int) (A:Option Addr) (n c:Nat) (A':Option Addr) (n' c':Nat):(recC k f x s A n c A' n' c').all (·.oneCell')=true:=by simp[recC,Value.oneCell']
theorem headOf_any (k f x s:Int) (A A':Option Addr) (n c n' c':Nat) (w:World) :
 Calls Tryz.prog 56 #[.agg #[.int .i64 k,.int .u32 f,.int .u32 x,.int .u64 s,.slice A n c,.slice A' n' c']] w fun e w' =>
  e=.returned (.agg #[.int .i64 k,.int .u32 f,.int .u32 x,.int .u64 s,.int .i64 n,.int .i64 n'])∧Below w.heap.size w w':=by
 go_enter Tryz.func56,Tryz.ntmps56
 go_wp2_with (with_reducible refine halt_end ?_)
 have hg:Blk ((w.alloc (.cells (recC k f x s A n c A' n' c') 33)).alloc (.cells (headC k f x s n n') 121)) (w.heap.size+1) 121 (headC k f x s n n'):=by
  exact blk_new2 w _ _ _
 exact Halt.ret (results_row1 rfl _ _ (w.heap.size+1) 121 (headC k f x s n n') _ rfl hg Tryz.underlying121 rfl size_head) rfl
  ⟨rfl,((Below.refl _ _).alloc (nR _) _).alloc (by simp) _⟩
def May (k f x s:Int) (n m:Nat):Prop:=s≠0∧1≤n∧n≤250∧m≤512∧(k=1∨k=2∧f=0∧x=0∧m=0)
instance aI6Head0 (k f x s:Int) (n m:Nat):Decidable (May k f x s n m):=by unfold May; infer_instance
theorem may_yes (k f x s:Int) (n m:Nat) (w:World) (h:May k f x s n m) :
 Calls Tryz.prog 113 #[.agg #[.int .i64 k,.int .u32 f,.int .u32 x,.int .u64 s,.int .i64 n,.int .i64 m]] w fun e w'=>e=.returned (.bool true)∧Below w.heap.size w w':=by
 obtain ⟨h1,h2,h3,h4,h5⟩:=h
 have d1:(s==0)=false:=by simpa using h1
 have d2:decide ((n:Int)<1)=false:=by simp; omega
 have d3:decide ((250:Int)<n)=false:=by simp; omega
 have d4:decide ((512:Int)<m)=false:=by simp; omega
 rcases h5 with rfl | ⟨rfl,rfl,rfl,rfl⟩
 ·go_enter Tryz.func113,Tryz.ntmps113
  go_wp2
  go_ret
  exact ⟨rfl,(Below.refl _ _).alloc (nR _) _⟩
 ·go_enter Tryz.func113,Tryz.ntmps113
  go_wp2
  go_ret
  exact ⟨rfl,(Below.refl _ _).alloc (nR _) _⟩
theorem may_no (k f x s:Int) (n m:Nat) (w:World) (h:¬ May k f x s n m) :
 Calls Tryz.prog 113 #[.agg #[.int .i64 k,.int .u32 f,.int .u32 x,.int .u64 s,.int .i64 n,.int .i64 m]] w fun e w'=>e=.returned (.bool false)∧Below w.heap.size w w':=by
 unfold May at h
 by_cases h1:s=0
 ·subst h1
  clear h
  go_enter Tryz.func113,Tryz.ntmps113
  go_wp2
  go_ret
  exact ⟨rfl,(Below.refl _ _).alloc (nR _) _⟩
 have d1:(s==0)=false:=by simpa using h1
 by_cases h2:1≤n
 case neg =>
  have d2:decide ((n:Int)<1)=true:=by simp; omega
  clear h h2
  go_enter Tryz.func113,Tryz.ntmps113
  go_wp2
  go_ret
  exact ⟨rfl,(Below.refl _ _).alloc (nR _) _⟩
 have d2:decide ((n:Int)<1)=false:=by simp; omega
 by_cases h3:n≤250
 case neg =>
  have d3:decide ((250:Int)<n)=true:=by simp; omega
  clear h h3
  go_enter Tryz.func113,Tryz.ntmps113
  go_wp2
  go_ret
  exact ⟨rfl,(Below.refl _ _).alloc (nR _) _⟩
 have d3:decide ((250:Int)<n)=false:=by simp; omega
 by_cases h4:m≤512
 case neg =>
  have d4:decide ((512:Int)<m)=true:=by simp; omega
  clear h h4
  go_enter Tryz.func113,Tryz.ntmps113
  go_wp2
  go_ret
  exact ⟨rfl,(Below.refl _ _).alloc (nR _) _⟩
 have d4:decide ((512:Int)<m)=false:=by simp; omega
 have h5:k≠1:=fun e=>h ⟨h1,h2,h3,h4,.inl e⟩
 have d5:(k==1)=false:=by simpa using h5
 by_cases h6:k=2
 case neg =>
  have d6:(k==2)=false:=by simpa using h6
  clear h h6 h5 h1
  go_enter Tryz.func113,Tryz.ntmps113
  go_wp2
  go_ret
  exact ⟨rfl,(Below.refl _ _).alloc (nR _) _⟩
 subst h6
 clear d5 h5
 by_cases h7:f=0
 case neg =>
  have d7:(f==0)=false:=by simpa using h7
  clear h h7 h1
  go_enter Tryz.func113,Tryz.ntmps113
  go_wp2
  go_ret
  exact ⟨rfl,(Below.refl _ _).alloc (nR _) _⟩
 subst h7
 by_cases h8:x=0
 case neg =>
  have d8:(x==0)=false:=by simpa using h8
  clear h h8 h1
  go_enter Tryz.func113,Tryz.ntmps113
  go_wp2
  go_ret
  exact ⟨rfl,(Below.refl _ _).alloc (nR _) _⟩
 subst h8
 have h9:m≠0:=fun e=>h ⟨h1,h2,h3,h4,.inr ⟨rfl,rfl,rfl,e⟩⟩
 have d9:((m:Int)==0)=false:=by simp; omega
 clear h h9 h1
 go_enter Tryz.func113,Tryz.ntmps113
 go_wp2
 go_ret
 exact ⟨rfl,(Below.refl _ _).alloc (nR _) _⟩
theorem size_any (k f x s:Int) (n m:Nat) (w:World) (hn:n≤250) (hm:m≤512) :
 Calls Tryz.prog 167 #[.agg #[.int .i64 k,.int .u32 f,.int .u32 x,.int .u64 s,.int .i64 n,.int .i64 m]] w fun e w'=>e=.returned (.int .i64 ((21+n+m:Nat):Int))∧Below w.heap.size w w':=by
 go_enter Tryz.func167,Tryz.ntmps167
 go_wp2
 go_ret
 exact ⟨ret_int (by omega),(Below.refl _ _).alloc (nR _) _⟩
end
section
structure Rng (f x s:Int):Prop where
 f0:0≤f
 f1:f≤4294967295
 x0:0≤x
 x1:x≤4294967295
 s0:0≤s
 s1:s≤18446744073709551615
def headB (k f x s n m:Int):List Int:=[k]++beBytes f 4++beBytes x 4++beBytes s 8++beBytes n 2++beBytes m 2
theorem headB_length (k f x s n m:Int):(headB k f x s n m).length=21:=by simp[headB,beBytes_length]
theorem head_bytes (k f x s:Int) (n m:Nat) (w:World) (hk:k=1∨k=2) (hr:Rng f x s) (hn:n≤250) (hm:m≤512) :
 Calls Tryz.prog 114 #[.agg #[.int .i64 k,.int .u32 f,.int .u32 x,.int .u64 s,.int .i64 n,.int .i64 m]] w fun e w'=>∃ g,e=.returned (.slice (some ⟨g,0,none⟩) 21 21)∧w.heap.size≤g∧ArrU w' g (headB k f x s n m)∧Below w.heap.size w w':=by
 have HR:=hI hr
 have hk0:0≤k∧k≤255:=by omega
 clear hr hk
 go_enter Tryz.func114,Tryz.ntmps114
 go_wp2_with fail
 generalize hw1:(w.alloc _).alloc _=w1
 have HG1:=hI (show Blk w1 w.heap.size 121 (headC k f x s n m) by rw[← hw1]; exact (Blk.new w _ _).alloc _)
 have HA1:=hI (show ArrU w1 (w.heap.size+1) [k] by rw[← hw1]; exact blk_new2 w _ 5 #[.int .u8 k])
 have HB1:=hI (show Below w.heap.size w w1 by rw[← hw1]; exact ((Below.refl _ _).alloc (nR _) _).alloc (by simp) _)
 have HS1:=hI (show w1.heap.size=w.heap.size+2 by rw[← hw1]; simp)
 clear hw1
 refine (put32_any (some ⟨w.heap.size+1,0,none⟩) 1 1 ([k]) (·=w.heap.size+1) f w1 (HA1.out.rowN 0 (by simp[beBytes_length]) rfl) (fun b h=>by subst h; exact HA1.out.lt) (by omega) HR.out.f0 HR.out.f1).mono ?_
 rintro e w2 ⟨rfl,ha,hb⟩
 have HA2:=hI ha
 have HG2:=hI (HG1.out.below hb HG1.out.lt)
 have HB2:=hI (HB1.out.trans (hb.mono HB1.out.size))
 have hcell:=HG2.out.cell 2
 simp only[List.getElem?_toArray,List.getElem?_cons_zero,List.getElem?_cons_succ] at hcell
 clear ha hb
 go_wp2_with fail
 clear hcell
 refine (put32_any (some ⟨w1.heap.size,0,none⟩) 5 5 ([k]++beBytes f 4) (·=w1.heap.size) x w2 (HA2.out.rowN 0 (by simp[beBytes_length]) rfl) (fun b h=>by subst h; exact HA2.out.lt) (by omega) HR.out.x0 HR.out.x1).mono ?_
 rintro e w3 ⟨rfl,ha,hb⟩
 have HA3:=hI ha
 have HG3:=hI (HG2.out.below hb HG2.out.lt)
 have HB3:=hI (HB2.out.trans (hb.mono HB2.out.size))
 have hcell:=HG3.out.cell 3
 simp only[List.getElem?_toArray,List.getElem?_cons_zero,List.getElem?_cons_succ] at hcell
 clear ha hb
 go_wp2_with fail
 clear hcell
 refine (put64_any (some ⟨w2.heap.size,0,none⟩) 9 9 ([k]++beBytes f 4++beBytes x 4) (·=w2.heap.size) s w3 (HA3.out.rowN 0 (by simp[beBytes_length]) rfl) (fun b h=>by subst h; exact HA3.out.lt) (by omega) HR.out.s0 HR.out.s1).mono ?_
 rintro e w4 ⟨rfl,ha,hb⟩
 have HA4:=hI ha
 have HG4:=hI (HG3.out.below hb HG3.out.lt)
 have HB4:=hI (HB3.out.trans (hb.mono HB3.out.size))
 have hcell:=HG4.out.cell 4
 simp only[List.getElem?_toArray,List.getElem?_cons_zero,List.getElem?_cons_succ] at hcell
 clear ha hb
 go_wp2_with fail
 clear hcell
 refine (put16_any (some ⟨w3.heap.size,0,none⟩) 17 17 ([k]++beBytes f 4++beBytes x 4++beBytes s 8) (·=w3.heap.size) n w4 (HA4.out.rowN 0 (by simp[beBytes_length]) rfl) (fun b h=>by subst h; exact HA4.out.lt) (by omega) (by omega) (by omega)).mono ?_
 rintro e w5 ⟨rfl,ha,hb⟩
 have HA5:=hI ha
 have HG5:=hI (HG4.out.below hb HG4.out.lt)
 have HB5:=hI (HB4.out.trans (hb.mono HB4.out.size))
 have hcell:=HG5.out.cell 5
 simp only[List.getElem?_toArray,List.getElem?_cons_zero,List.getElem?_cons_succ] at hcell
 clear ha hb
 go_wp2_with fail
 clear hcell
 refine (put16_any (some ⟨w4.heap.size,0,none⟩) 19 19 ([k]++beBytes f 4++beBytes x 4++beBytes s 8++beBytes n 2) (·=w4.heap.size) m w5 (HA5.out.rowN 0 (by simp[beBytes_length]) rfl) (fun b h=>by subst h; exact HA5.out.lt) (by omega) (by omega) (by omega)).mono ?_
 rintro e w6 ⟨rfl,ha,hb⟩
 have HA6:=hI ha
 have HG6:=hI (HG5.out.below hb HG5.out.lt)
 have HB6:=hI (HB5.out.trans (hb.mono HB5.out.size))
 clear ha hb
 go_wp2_with fail
 go_ret
 exact ⟨w5.heap.size,rfl,HB5.out.size,HA6.out,HB6.out⟩
end
section
theorem check_yes (k f x s:Int) (A A':Option Addr) (n c n' c':Nat) (w:World) (h:May k f x s n n') :
 Calls Tryz.prog 71 #[.agg #[.int .i64 k,.int .u32 f,.int .u32 x,.int .u64 s,.slice A n c,.slice A' n' c']] w fun e w'=>e=.returned (.int .i64 0)∧Below w.heap.size w w':=by
 have HM:=hI h
 clear h
 go_enter Tryz.func71,Tryz.ntmps71
 go_wp2_with fail
 refine (headOf_any k f x s A A' n c n' c' _).mono ?_
 rintro e w1 ⟨rfl,hb⟩
 have HB1:=hI (((Below.refl w.heap.size w).alloc (nR _) _).trans (hb.mono (by simp)))
 clear hb
 go_wp2_with fail
 refine (may_yes k f x s n n' _ HM.out).mono ?_
 rintro e w2 ⟨rfl,hb⟩
 have HB2:=hI (HB1.out.trans (hb.mono HB1.out.size))
 clear hb
 go_wp2_with fail
 go_ret
 exact ⟨rfl,HB2.out⟩
theorem check_no (k f x s:Int) (A A':Option Addr) (n c n' c':Nat) (w:World) (h:¬ May k f x s n n') :
 Calls Tryz.prog 71 #[.agg #[.int .i64 k,.int .u32 f,.int .u32 x,.int .u64 s,.slice A n c,.slice A' n' c']] w fun e w'=>e=.returned (.int .i64 160)∧Below w.heap.size w w':=by
 have HM:=hI h
 clear h
 go_enter Tryz.func71,Tryz.ntmps71
 go_wp2_with fail
 refine (headOf_any k f x s A A' n c n' c' _).mono ?_
 rintro e w1 ⟨rfl,hb⟩
 have HB1:=hI (((Below.refl w.heap.size w).alloc (nR _) _).trans (hb.mono (by simp)))
 clear hb
 go_wp2_with fail
 refine (may_no k f x s n n' _ HM.out).mono ?_
 rintro e w2 ⟨rfl,hb⟩
 have HB2:=hI (HB1.out.trans (hb.mono HB1.out.size))
 clear hb
 go_wp2_with fail
 go_ret
 exact ⟨rfl,HB2.out⟩
theorem size_yes (k f x s:Int) (A A':Option Addr) (n c n' c':Nat) (w:World) (h:May k f x s n n') :
 Calls Tryz.prog 115 #[.agg #[.int .i64 k,.int .u32 f,.int .u32 x,.int .u64 s,.slice A n c,.slice A' n' c']] w fun e w'=>e=.returned (.int .i64 ((21+n+n':Nat):Int))∧Below w.heap.size w w':=by
 have HM:=hI h
 clear h
 go_enter Tryz.func115,Tryz.ntmps115
 go_wp2_with fail
 refine (headOf_any k f x s A A' n c n' c' _).mono ?_
 rintro e w1 ⟨rfl,hb⟩
 have HB1:=hI (((Below.refl w.heap.size w).alloc (nR _) _).trans (hb.mono (by simp)))
 clear hb
 go_wp2_with fail
 refine (may_yes k f x s n n' _ HM.out).mono ?_
 rintro e w2 ⟨rfl,hb⟩
 have hg:Blk w2 w1.heap.size 121 (headC k f x s n n'):=(Blk.new w1 _ _).below hb (by simp)
 have HB2:=hI ((HB1.out.alloc HB1.out.size _).trans (hb.mono (by have:=HB1.out.size; simp; omega)))
 have c0:=hg.cell 0
 have c1:=hg.cell 1
 have c2:=hg.cell 2
 have c3:=hg.cell 3
 have c4:=hg.cell 4
 have c5:=hg.cell 5
 simp only[List.getElem?_toArray,List.getElem?_cons_zero,List.getElem?_cons_succ] at c0 c1 c2 c3 c4 c5
 clear hb hg
 go_wp2_with fail
 refine (size_any k f x s n n' _ HM.out.2.2.1 HM.out.2.2.2.1).mono ?_
 rintro e w3 ⟨rfl,hb⟩
 have HB3:=hI (HB2.out.trans (hb.mono HB2.out.size))
 clear hb
 clear c0 c1 c2 c3 c4 c5
 go_wp2_with fail
 go_ret
 exact ⟨rfl,HB3.out⟩
end
section
def recB (k f x s:Int) (xs ys:List Int):List Int:=headB k f x s xs.length ys.length++xs++ys
theorem recB_length (k f x s:Int) (xs ys:List Int):(recB k f x s xs ys).length=21+xs.length+ys.length:=by simp[recB,headB_length]; omega
def EncTold (ys:List Int) (w:World) (e:Ending) (w':World):Prop :=
 ∃ v,e=.returned (.tuple #[v,.int .i64 0])∧w'.ownsRow w.heap.size 5 1 v ys.length (ys.map (Value.int .u8))∧Below w.heap.size w w'
theorem encode_yes (k f x s:Int) (A A':Option Addr) (n c n' c':Nat) (xs ys:List Int) (S:Nat→Prop) (w:World) (h:May k f x s n n') (hr:Rng f x s)
 (hx:RowI .u8 w S A n xs) (hy:RowI .u8 w S A' n' ys) (hS:∀ b,S b→b<w.heap.size) (hnA:A=none→c=0) (hnA':A'=none→c'=0) :
 Calls Tryz.prog 45 #[.agg #[.int .i64 k,.int .u32 f,.int .u32 x,.int .u64 s,.slice A n c,.slice A' n' c']] w (EncTold (recB k f x s xs ys) w):=by
 obtain ⟨i0,hi,hz0,hz1,hz2⟩:=info_parts info_u8
 have HM:=hI h
 have HR:=hI hr
 have HX:=hI hx
 have HY:=hI hy
 have hn:=h.2.2.1
 have hm:=h.2.2.2.1
 clear h hr hx hy
 go_enter Tryz.func45,Tryz.ntmps45
 go_wp2_with fail
 refine (headOf_any k f x s A A' n c n' c' _).mono ?_
 rintro e w1 ⟨rfl,hb⟩
 have HG1:=hI (show Blk w1 w.heap.size 33 (recC k f x s A n c A' n' c') from (Blk.new w _ _).below hb (by simp))
 have HB1:=hI (((Below.refl w.heap.size w).alloc (nR _) _).trans (hb.mono (by simp)))
 clear hb
 go_wp2_with fail
 refine (may_yes k f x s n n' _ HM.out).mono ?_
 rintro e w2 ⟨rfl,hb⟩
 have hg:Blk w2 w1.heap.size 121 (headC k f x s n n'):=(Blk.new w1 _ _).below hb (by simp)
 have HG2:=hI (show Blk w2 w.heap.size 33 (recC k f x s A n c A' n' c') from (HG1.out.alloc _).below hb (by have:=HG1.out.lt; simp; omega))
 have HB2:=hI ((HB1.out.alloc HB1.out.size _).trans (hb.mono (by have:=HB1.out.size; simp; omega)))
 have c0:=hg.cell 0
 have c1:=hg.cell 1
 have c2:=hg.cell 2
 have c3:=hg.cell 3
 have c4:=hg.cell 4
 have c5:=hg.cell 5
 simp only[List.getElem?_toArray,List.getElem?_cons_zero,List.getElem?_cons_succ] at c0 c1 c2 c3 c4 c5
 clear hb hg
 go_wp2_with fail
 refine (head_bytes k f x s n n' _ (by have:=HM.out.2.2.2.2; omega) HR.out hn hm).mono ?_
 rintro e w3 ⟨g,rfl,hg,ha,hb⟩
 have HG3:=hI (HG2.out.below hb HG2.out.lt)
 have HB3:=hI (HB2.out.trans (hb.mono HB2.out.size))
 have HO3:=hI (ha.owns hg (headB_length _ _ _ _ _ _) rfl (by unfold maxLen; omega))
 have HX3:=hI (HX.out.below HB3.out hS)
 have HS3:=hI hb.size
 have hcell:=HG3.out.cell 4
 simp only[List.getElem?_toArray,List.getElem?_cons_zero,List.getElem?_cons_succ] at hcell
 clear hb ha hg c0 c1 c2 c3 c4 c5
 go_wp2_with (first
  | (at_builtin; refine wpList_append_rowG rfl (.tmp 13) (.tmp 15) 31 rfl w2.heap.size 5 i0 (.int .u8 0) 1 Tryz.underlying31 hi hz0 hz1 hz2 rfl (fun _=>rfl) _ 21 _ rfl HO3.out S A n c xs rfl HX3.out hnA (by unfold maxLen; omega) (by omega) HS3.out ?_; intro v4 w4 hown4 hgrow4 hblk4; have HO4:=hI hown4; have HB4:=hI ((Below.refl w2.heap.size w3).grown hgrow4 HS3.out (fun k hk=>(HO3.out.lt k hk).1)); have hcell4:=(HG3.out.grown hgrow4 (fun e=>by have:=(HO3.out.lt _ e.symm).1; have:=HG2.out.lt; omega)).cell 5; have HX4:=hI (HY.out.below (HB3.out.trans (HB4.out.mono HB2.out.size)) hS); simp only[List.getElem?_toArray,List.getElem?_cons_zero,List.getElem?_cons_succ] at hcell4; clear hown4 hgrow4 hblk4)
  | (at_builtin; refine wpList_append_rowG rfl (.tmp 17) (.tmp 19) 31 rfl w2.heap.size 5 i0 (.int .u8 0) 1 Tryz.underlying31 hi hz0 hz1 hz2 rfl (fun _=>rfl) _ (21+n) _ rfl HO4.out S A' n' c' ys rfl HX4.out hnA' (by unfold maxLen; omega) (by omega) (nT HS3.out HB4.out.size) ?_; intro v5 w5 hown5 hgrow5 hblk5; have HO5:=hI hown5; have HB5:=hI (HB4.out.grown hgrow5 (nT HS3.out HB4.out.size) (fun k hk=>(HO4.out.lt k hk).1)); clear hown5 hgrow5 hblk5))
 go_ret2
 refine ⟨v5,rfl,?_,HB3.out.trans (HB5.out.mono HB2.out.size)⟩
 have h5:=own_base HO5.out HB2.out.size
 rw[← List.map_append,← List.map_append] at h5
 rw[recB_length,HX.out.1,HY.out.1]
 unfold recB
 rw[HX.out.1,HY.out.1]
 exact h5
end
section
theorem u8_ok (w:World) (r g:Nat) (xs:List Int) (pos:Nat) (h:Rd w r g xs pos 0) (hn:1≤xs.length-pos) (hb:Bytes xs) :
 Calls Tryz.prog 206 #[.pointer (some ⟨r,0,none⟩)] w fun e w' =>
  e=.returned (.int .u8 (numOf ((xs.drop pos).take 1)))∧Rd w' r g xs (pos+1) 0∧Kept (fun b=>b<w.heap.size∧b≠r) w w':=by
 have H:=hI h
 have HB:=hI hb
 have hl:((xs.drop pos).take 1).length=1:=by simp; omega
 have hbt:Bytes ((xs.drop pos).take 1):=by
  have:Bytes (xs.drop pos):=fun j=>by have:=hb (pos+j); simpa [List.getD,List.getElem?_drop] using this
  exact this.take 1
 have hv:=numOf_bounds _ hbt
 rw[hl] at hv
 have hv1:numOf ((xs.drop pos).take 1)<256:=hv.2
 have hv0:=hv.1
 clear h hb hbt hv hl
 go_enter Tryz.func206,Tryz.ntmps206
 go_wp2_with (go_at_call 216; refine (number_ok _ r g xs pos 1 H.out hn (by omega) HB.out).mono ?_; rintro e w1 ⟨rfl,hrd,hk⟩; have HD:=hI hrd; have HK:=hI hk; clear hrd hk)
 go_ret
 exact ⟨ret_int (by omega),HD.out,HK.out⟩
theorem part_bounds {xs:List Int} (hb:Bytes xs) (i n:Nat):0≤numOf ((xs.drop i).take n)∧numOf ((xs.drop i).take n)<((256 ^ n:Nat):Int):=by
 have hd:Bytes ((xs.drop i).take n):=by
  have:Bytes (xs.drop i):=fun j=>by have:=hb (i+j); simpa [List.getD,List.getElem?_drop] using this
  exact this.take n
 have h:=numOf_bounds _ hd
 have h2:((xs.drop i).take n).length≤n:=by simp; omega
 have h3:(256 ^ ((xs.drop i).take n).length:Nat)≤256 ^ n:=Nat.pow_le_pow_right (by omega) h2
 exact ⟨h.1,by omega⟩
def kindOf (xs:List Int):Int:=numOf (xs.take 1)
def flagsOf (xs:List Int):Int:=numOf ((xs.drop 1).take 4)
def expOf (xs:List Int):Int:=numOf ((xs.drop 5).take 4)
def seqOf (xs:List Int):Int:=numOf ((xs.drop 9).take 8)
def klenOf (xs:List Int):Nat:=(numOf ((xs.drop 17).take 2)).toNat
def vlenOf (xs:List Int):Nat:=(numOf ((xs.drop 19).take 2)).toNat
theorem klen_eq {xs:List Int} (hb:Bytes xs):numOf ((xs.drop 17).take 2)=(klenOf xs:Int):=by have:=(part_bounds hb 17 2).1; unfold klenOf; omega
theorem vlen_eq {xs:List Int} (hb:Bytes xs):numOf ((xs.drop 19).take 2)=(vlenOf xs:Int):=by have:=(part_bounds hb 19 2).1; unfold vlenOf; omega
theorem klen_lt {xs:List Int} (hb:Bytes xs):klenOf xs<65536:=by have:=(part_bounds hb 17 2).2; unfold klenOf; omega
theorem vlen_lt {xs:List Int} (hb:Bytes xs):vlenOf xs<65536:=by have:=(part_bounds hb 19 2).2; unfold vlenOf; omega
structure Heading (w wi:World) (r g:Nat) (xs:List Int) (pos:Nat) (cs:Array Value):Prop where
 rd:Rd wi r g xs pos 0
 lo:r<w.heap.size
 lo':g<w.heap.size
 res:Blk wi w.heap.size 121 #[.int .i64 0,.int .u32 0,.int .u32 0,.int .u64 0,.int .i64 0,.int .i64 0]
 st:Blk wi (w.heap.size+1) 121 cs
 kept:Kept (fun b=>b<w.heap.size∧b≠r) w wi
theorem Heading.read {w wi w':World} {r g:Nat} {xs:List Int} {pos pos':Nat} {cs:Array Value} (h:Heading w wi r g xs pos cs) (hr:Rd w' r g xs pos' 0) (hk:Kept (fun b=>b<wi.heap.size∧b≠r) wi w'):Heading w w' r g xs pos' cs :=
 ⟨hr,h.lo,h.lo',h.res.kept hk ⟨h.res.lt,by have:=h.lo; omega⟩,h.st.kept hk ⟨h.st.lt,by have:=h.lo; omega⟩,h.kept.trans hk fun b hb=>⟨nL hb.1 h.kept.size,hb.2⟩⟩
theorem Heading.set {w wi:World} {r g:Nat} {xs:List Int} {pos:Nat} {cs cs':Array Value} (h:Heading w wi r g xs pos cs) (i:Nat) (u:Value) (hu:cs.setIfInBounds i u=cs') :
 Heading w (wi.setCell ⟨w.heap.size+1,i,none⟩ u) r g xs pos cs' :=
 ⟨h.rd.far (by have:=h.lo; show w.heap.size+1≠r; omega) (by have:=h.lo'; show w.heap.size+1≠g; omega) u,h.lo,h.lo',h.res.far (by show w.heap.size≠w.heap.size+1; omega) u,hu▸h.st.set_ i u,h.kept.setCell (by show ¬ (w.heap.size+1<w.heap.size∧w.heap.size+1≠r); omega) u⟩
def HeadTold (xs:List Int) (r g:Nat) (w:World) (e:Ending) (w':World):Prop :=
 e=.returned (.agg #[.int .i64 (kindOf xs),.int .u32 (flagsOf xs),.int .u32 (expOf xs),.int .u64 (seqOf xs),.int .i64 (klenOf xs),.int .i64 (vlenOf xs)]) ∧
  Rd w' r g xs 21 0∧Kept (fun b=>b<w.heap.size∧b≠r) w w'
theorem readHead_ok (xs:List Int) (w:World) (r g:Nat) (h:Rd w r g xs 0 0) (hl:21≤xs.length) (hb:Bytes xs) (hr:r<w.heap.size) (hg:g<w.heap.size) :
 Calls Tryz.prog 179 #[.pointer (some ⟨r,0,none⟩)] w (HeadTold xs r g w):=by
 have HBY:=hI hb
 have HRD:=hI h
 have hk8:=part_bounds hb 0 1
 rw[List.drop_zero] at hk8
 have hk0:0≤kindOf xs:=hk8.1
 have hk1:kindOf xs<256:=hk8.2
 have hkl:=klen_lt hb
 have hvl:=vlen_lt hb
 clear hb h hk8
 go_enter Tryz.func179,Tryz.ntmps179
 go_wp2_with fail
 generalize hw1:(w.alloc _).alloc _=w1
 have HY0:=hI (show Heading w w1 r g xs 0 #[.int .i64 0,.int .u32 0,.int .u32 0,.int .u64 0,.int .i64 0,.int .i64 0] by
  rw[← hw1]
  have hk:Kept (fun b=>b<w.heap.size) w ((w.alloc (.cells #[.int .i64 0,.int .u32 0,.int .u32 0,.int .u64 0,.int .i64 0,.int .i64 0] 121)).alloc (.cells #[.int .i64 0,.int .u32 0,.int .u32 0,.int .u64 0,.int .i64 0,.int .i64 0] 121)) :=
   ((Kept.refl _ w).alloc (fun b h=>h) _).alloc (fun b h=>by simp; omega) _
  exact ⟨HRD.out.kept hk hr hg,hr,hg,(Blk.new w _ _).alloc _,blk_new2 w _ _ _,hk.mono fun b h=>h.1⟩)
 clear hw1
 refine (u8_ok _ r g xs 0 HY0.out.rd (by omega) HBY.out).mono ?_
 rintro e w2 ⟨rfl,hrd,hk⟩
 rw[List.drop_zero,show numOf (xs.take 1)=kindOf xs from rfl]
 have HY1:=hI ((HY0.out.read hrd hk).set 0 (.int .i64 (kindOf xs)) rfl)
 have hc:=(HY0.out.read hrd hk).st.cell 0
 have hf:=(HY0.out.read hrd hk).st.frozen 0
 clear hrd hk
 go_wp2_with fail
 clear hc hf
 refine (u32_ok _ r g xs 1 HY1.out.rd (by omega) HBY.out).mono ?_
 rintro e w3 ⟨rfl,hrd,hk⟩
 rw[show numOf ((xs.drop 1).take 4)=flagsOf xs from rfl]
 have HY2:=hI ((HY1.out.read hrd hk).set 1 (.int .u32 (flagsOf xs)) rfl)
 have hc:=(HY1.out.read hrd hk).st.cell 1
 have hf:=(HY1.out.read hrd hk).st.frozen 1
 clear hrd hk
 go_wp2_with fail
 clear hc hf
 refine (u32_ok _ r g xs 5 HY2.out.rd (by omega) HBY.out).mono ?_
 rintro e w4 ⟨rfl,hrd,hk⟩
 rw[show numOf ((xs.drop 5).take 4)=expOf xs from rfl]
 have HY3:=hI ((HY2.out.read hrd hk).set 2 (.int .u32 (expOf xs)) rfl)
 have hc:=(HY2.out.read hrd hk).st.cell 2
 have hf:=(HY2.out.read hrd hk).st.frozen 2
 clear hrd hk
 go_wp2_with fail
 clear hc hf
 refine (u64_ok _ r g xs 9 HY3.out.rd (by omega) HBY.out).mono ?_
 rintro e w5 ⟨rfl,hrd,hk⟩
 rw[show numOf ((xs.drop 9).take 8)=seqOf xs from rfl]
 have HY4:=hI ((HY3.out.read hrd hk).set 3 (.int .u64 (seqOf xs)) rfl)
 have hc:=(HY3.out.read hrd hk).st.cell 3
 have hf:=(HY3.out.read hrd hk).st.frozen 3
 clear hrd hk
 go_wp2_with fail
 clear hc hf
 refine (u16_ok _ r g xs 17 HY4.out.rd (by omega) HBY.out).mono ?_
 rintro e w6 ⟨rfl,hrd,hk⟩
 rw[klen_eq HBY.out]
 have HY5:=hI ((HY4.out.read hrd hk).set 4 (.int .i64 (klenOf xs)) rfl)
 have hc:=(HY4.out.read hrd hk).st.cell 4
 have hf:=(HY4.out.read hrd hk).st.frozen 4
 clear hrd hk
 go_wp2_with fail
 clear hc hf
 refine (u16_ok _ r g xs 19 HY5.out.rd (by omega) HBY.out).mono ?_
 rintro e w7 ⟨rfl,hrd,hk⟩
 rw[vlen_eq HBY.out]
 have HY6:=hI ((HY5.out.read hrd hk).set 5 (.int .i64 (vlenOf xs)) rfl)
 have hc:=(HY5.out.read hrd hk).st.cell 5
 have hf:=(HY5.out.read hrd hk).st.frozen 5
 clear hrd hk
 go_wp2_with (first
  | (refine wpList_load_rowB (.tmp 3) 121 rfl rfl (w.heap.size+1) rfl 121 [.int .i64 (kindOf xs),.int .u32 (flagsOf xs),.int .u32 (expOf xs),.int .u64 (seqOf xs),.int .i64 (klenOf xs),.int .i64 (vlenOf xs)] _ Tryz.underlying121 rfl size_head HY6.out.st ?_)
  | (refine wpList_store_rowB (.tmp 2) (.tmp 25) 121 rfl rfl w.heap.size #[.int .i64 (kindOf xs),.int .u32 (flagsOf xs),.int .u32 (expOf xs),.int .u64 (seqOf xs),.int .i64 (klenOf xs),.int .i64 (vlenOf xs)] rfl rfl 121 _ HY6.out.res size_head rfl (one_head _ _ _ _ _ _) ?_)
  | (with_reducible refine halt_end ?_))
 have hst:=setRow_heap _ _ _ (headC (kindOf xs) (flagsOf xs) (expOf xs) (seqOf xs) (klenOf xs) (vlenOf xs)) _ _ HY6.out.res
 refine Halt.ret (results_row1 rfl _ _ w.heap.size 121 (headC (kindOf xs) (flagsOf xs) (expOf xs) (seqOf xs) (klenOf xs) (vlenOf xs)) _ rfl hst Tryz.underlying121 rfl size_head) rfl ⟨rfl,?_,?_⟩
 ·exact HY6.out.rd.kept ((Kept.refl (fun b=>b<w.heap.size) _).setRow (by show ¬ w.heap.size<w.heap.size; omega) _) HY6.out.lo HY6.out.lo'
 ·exact HY6.out.kept.setRow (by show ¬ (w.heap.size<w.heap.size∧w.heap.size≠r); omega) _
end
section
theorem take_part {α:Type} (xs:List α) (m i n:Nat) (h:i+n≤m):((xs.take m).drop i).take n=(xs.drop i).take n:=by
 rw[List.drop_take,List.take_take,Nat.min_eq_left (by omega)]
theorem kind_take (xs:List Int) (m:Nat) (h:21≤m):kindOf (xs.take m)=kindOf xs:=by unfold kindOf; rw[List.take_take,Nat.min_eq_left (by omega)]
theorem flags_take (xs:List Int) (m:Nat) (h:21≤m):flagsOf (xs.take m)=flagsOf xs:=by unfold flagsOf; rw[take_part _ _ _ _ (by omega)]
theorem exp_take (xs:List Int) (m:Nat) (h:21≤m):expOf (xs.take m)=expOf xs:=by unfold expOf; rw[take_part _ _ _ _ (by omega)]
theorem seq_take (xs:List Int) (m:Nat) (h:21≤m):seqOf (xs.take m)=seqOf xs:=by unfold seqOf; rw[take_part _ _ _ _ (by omega)]
theorem klen_take (xs:List Int) (m:Nat) (h:21≤m):klenOf (xs.take m)=klenOf xs:=by unfold klenOf; rw[take_part _ _ _ _ (by omega)]
theorem vlen_take (xs:List Int) (m:Nat) (h:21≤m):vlenOf (xs.take m)=vlenOf xs:=by unfold vlenOf; rw[take_part _ _ _ _ (by omega)]
def MayB (xs:List Int):Prop:=May (kindOf xs) (flagsOf xs) (expOf xs) (seqOf xs) (klenOf xs) (vlenOf xs)
instance aI6Need0 (xs:List Int):Decidable (MayB xs):=by unfold MayB; infer_instance
def needOf (xs:List Int):Nat:=21+klenOf xs+vlenOf xs
theorem need_short (A:Option Addr) (n c:Nat) (w:World) (hn:n<21) :
 Calls Tryz.prog 176 #[.slice A n c] w fun e w'=>e=.returned (.tuple #[.int .i64 0,.int .i64 9])∧Below w.heap.size w w':=by
 go_enter Tryz.func176,Tryz.ntmps176
 go_wp2_with fail
 go_ret2
 exact ⟨rfl,Below.refl _ _⟩
theorem need_bad (A:Option Addr) (n c:Nat) (xs:List Int) (S:Nat→Prop) (w:World) (hx:RowI .u8 w S A n xs) (hS:∀ b,S b→b<w.heap.size) (hb:Bytes xs) (hn:21≤n) (hc:n≤c) (hm:¬ MayB xs) :
 Calls Tryz.prog 176 #[.slice A n c] w fun e w'=>e=.returned (.tuple #[.int .i64 0,.int .i64 160])∧Below w.heap.size w w':=by
 obtain ⟨b0,o0,rfl,hb0,hc0⟩:=hx.2 (by omega)
 have hl:=hx.1
 have HX:=hI (hx.take 21 hn)
 have HBY:=hI (hb.take 21)
 have HM:=hI hm
 have h1:¬ ((n:Int)<21):=by omega
 have h2:(21:Int)≤c:=by omega
 clear hx hb hm hb0 hc0
 go_enter Tryz.func176,Tryz.ntmps176
 go_wp2_with fail
 refine (read_any _ 21 c (xs.take 21) S w HX.out hS (by omega)).mono ?_
 rintro e w2 ⟨r,rfl,hr,hrd,hb⟩
 have HB2:=hI hb
 have HD2:=hI hrd
 clear hb hrd
 go_wp2_with fail
 refine (readHead_ok (xs.take 21) w2 r w.heap.size HD2.out (by simp; omega) HBY.out HD2.out.blk.lt HD2.out.arr.lt).mono ?_
 rintro e w3 ⟨rfl,hrd,hk⟩
 rw[kind_take _ _ (by omega),flags_take _ _ (by omega),exp_take _ _ (by omega),seq_take _ _ (by omega),klen_take _ _ (by omega),vlen_take _ _ (by omega)]
 have HB3:=hI (HB2.out.trans (hk.to_below (B:=w.heap.size) fun b hb=>⟨by have:=HB2.out.size; omega,by omega⟩))
 clear hrd hk
 go_wp2_with fail
 refine (may_no _ _ _ _ _ _ _ HM.out).mono ?_
 rintro e w4 ⟨rfl,hb⟩
 have HB4:=hI ((HB3.out.alloc HB3.out.size _).trans (hb.mono (by have:=HB3.out.size; simp; omega)))
 clear hb
 go_wp2_with fail
 go_ret2
 exact ⟨rfl,HB4.out⟩
theorem need_ok (A:Option Addr) (n c:Nat) (xs:List Int) (S:Nat→Prop) (w:World) (hx:RowI .u8 w S A n xs) (hS:∀ b,S b→b<w.heap.size) (hb:Bytes xs) (hn:21≤n) (hc:n≤c) (hm:MayB xs) :
 Calls Tryz.prog 176 #[.slice A n c] w fun e w'=>e=.returned (.tuple #[.int .i64 ((needOf xs:Nat):Int),.int .i64 0])∧Below w.heap.size w w':=by
 obtain ⟨b0,o0,rfl,hb0,hc0⟩:=hx.2 (by omega)
 have hl:=hx.1
 have HX:=hI (hx.take 21 hn)
 have HBY:=hI (hb.take 21)
 have HM:=hI hm
 have h1:¬ ((n:Int)<21):=by omega
 have h2:(21:Int)≤c:=by omega
 clear hx hb hm hb0 hc0
 go_enter Tryz.func176,Tryz.ntmps176
 go_wp2_with fail
 refine (read_any _ 21 c (xs.take 21) S w HX.out hS (by omega)).mono ?_
 rintro e w2 ⟨r,rfl,hr,hrd,hb⟩
 have HB2:=hI hb
 have HD2:=hI hrd
 clear hb hrd
 go_wp2_with fail
 refine (readHead_ok (xs.take 21) w2 r w.heap.size HD2.out (by simp; omega) HBY.out HD2.out.blk.lt HD2.out.arr.lt).mono ?_
 rintro e w3 ⟨rfl,hrd,hk⟩
 rw[kind_take _ _ (by omega),flags_take _ _ (by omega),exp_take _ _ (by omega),seq_take _ _ (by omega),klen_take _ _ (by omega),vlen_take _ _ (by omega)]
 have HB3:=hI (HB2.out.trans (hk.to_below (B:=w.heap.size) fun b hb=>⟨by have:=HB2.out.size; omega,by omega⟩))
 clear hrd hk
 go_wp2_with fail
 refine (may_yes _ _ _ _ _ _ _ HM.out).mono ?_
 rintro e w4 ⟨rfl,hb⟩
 have hg:Blk w4 w3.heap.size 121 (headC (kindOf xs) (flagsOf xs) (expOf xs) (seqOf xs) (klenOf xs) (vlenOf xs)):=(Blk.new w3 _ _).below hb (by simp)
 have HB4:=hI ((HB3.out.alloc HB3.out.size _).trans (hb.mono (by have:=HB3.out.size; simp; omega)))
 have c0:=hg.cell 0
 have c1:=hg.cell 1
 have c2:=hg.cell 2
 have c3:=hg.cell 3
 have c4:=hg.cell 4
 have c5:=hg.cell 5
 simp only[List.getElem?_toArray,List.getElem?_cons_zero,List.getElem?_cons_succ] at c0 c1 c2 c3 c4 c5
 clear hb hg
 go_wp2_with fail
 refine (size_any _ _ _ _ _ _ _ HM.out.2.2.1 HM.out.2.2.2.1).mono ?_
 rintro e w5 ⟨rfl,hb⟩
 have HB5:=hI (HB4.out.trans (hb.mono HB4.out.size))
 clear hb c0 c1 c2 c3 c4 c5
 go_wp2_with fail
 go_ret2
 exact ⟨rfl,HB5.out⟩
end
section
abbrev zeroC:Array Value:=#[.int .i64 0,.int .u32 0,.int .u32 0,.int .u64 0,.slice none 0 0,.slice none 0 0]
theorem one_zero:zeroC.all (·.oneCell')=true:=by simp[zeroC,Value.oneCell']
theorem dec_short (A:Option Addr) (n c:Nat) (w:World) (hn:n<21) :
 Calls Tryz.prog 129 #[.slice A n c] w fun e w'=>e=.returned (.tuple #[.agg #[.int .i64 0,.int .u32 0,.int .u32 0,.int .u64 0,.slice none 0 0,.slice none 0 0],.int .i64 0,.int .i64 9])∧Below w.heap.size w w':=by
 go_enter Tryz.func129,Tryz.ntmps129
 go_wp2_with fail
 refine (need_short A n c _ hn).mono ?_
 rintro e w1 ⟨rfl,hb⟩
 have HB1:=hI (((Below.refl w.heap.size w).alloc (nR _) _).trans (hb.mono (by simp)))
 have hres:=(Blk.new w 33 zeroC).below hb (by simp)
 have HRES:=hI hres
 clear hb hres
 go_wp2_with (first
  | (refine wpList_store_rowB (.tmp 2) (.tmp 17) 33 rfl rfl w.heap.size zeroC rfl rfl 33 _ HRES.out size_rec rfl one_zero ?_)
  | (with_reducible refine halt_end ?_))
 exact Halt.ret (results_row3 (p:=2) (u:=3) (v:=4) rfl _ _ w.heap.size 33 zeroC _ rfl (setRow_heap _ _ _ zeroC _ _ HRES.out) Tryz.underlying33 rfl size_rec) rfl ⟨rfl,below_setRow HB1.out (nR _) _⟩
theorem dec_bad (A:Option Addr) (n c:Nat) (xs:List Int) (S:Nat→Prop) (w:World) (hx:RowI .u8 w S A n xs) (hS:∀ b,S b→b<w.heap.size) (hb:Bytes xs) (hn:21≤n) (hc:n≤c) (hm:¬ MayB xs) :
 Calls Tryz.prog 129 #[.slice A n c] w fun e w'=>e=.returned (.tuple #[.agg #[.int .i64 0,.int .u32 0,.int .u32 0,.int .u64 0,.slice none 0 0,.slice none 0 0],.int .i64 0,.int .i64 160])∧Below w.heap.size w w':=by
 have HX:=hI (hx.keep (w':=w.alloc (.cells zeroC 33)) fun p hp=>World.cell?_alloc_lt w _ p (hS _ hp))
 clear hx
 go_enter Tryz.func129,Tryz.ntmps129
 go_wp2_with fail
 refine (need_bad A n c xs S _ HX.out (fun b h=>by have:=hS b h; simp; omega) hb hn hc hm).mono ?_
 rintro e w1 ⟨rfl,hb⟩
 have HB1:=hI (((Below.refl w.heap.size w).alloc (nR _) _).trans (hb.mono (by simp)))
 have hres:=(Blk.new w 33 zeroC).below hb (by simp)
 have HRES:=hI hres
 clear hb hres
 go_wp2_with (first
  | (refine wpList_store_rowB (.tmp 2) (.tmp 17) 33 rfl rfl w.heap.size zeroC rfl rfl 33 _ HRES.out size_rec rfl one_zero ?_)
  | (with_reducible refine halt_end ?_))
 exact Halt.ret (results_row3 (p:=2) (u:=3) (v:=4) rfl _ _ w.heap.size 33 zeroC _ rfl (setRow_heap _ _ _ zeroC _ _ HRES.out) Tryz.underlying33 rfl size_rec) rfl ⟨rfl,below_setRow HB1.out (nR _) _⟩
theorem dec_cut (A:Option Addr) (n c:Nat) (xs:List Int) (S:Nat→Prop) (w:World) (hx:RowI .u8 w S A n xs) (hS:∀ b,S b→b<w.heap.size) (hb:Bytes xs) (hn:21≤n) (hc:n≤c) (hm:MayB xs) (hlt:n<needOf xs) :
 Calls Tryz.prog 129 #[.slice A n c] w fun e w'=>e=.returned (.tuple #[.agg #[.int .i64 0,.int .u32 0,.int .u32 0,.int .u64 0,.slice none 0 0,.slice none 0 0],.int .i64 0,.int .i64 9])∧Below w.heap.size w w':=by
 have HX:=hI (hx.keep (w':=w.alloc (.cells zeroC 33)) fun p hp=>World.cell?_alloc_lt w _ p (hS _ hp))
 clear hx
 go_enter Tryz.func129,Tryz.ntmps129
 go_wp2_with fail
 refine (need_ok A n c xs S _ HX.out (fun b h=>by have:=hS b h; simp; omega) hb hn hc hm).mono ?_
 rintro e w1 ⟨rfl,hb⟩
 have HB1:=hI (((Below.refl w.heap.size w).alloc (nR _) _).trans (hb.mono (by simp)))
 have hres:=(Blk.new w 33 zeroC).below hb (by simp)
 have HRES:=hI hres
 have hlt':decide ((n:Int)<(needOf xs:Int))=true:=by simp; omega
 generalize needOf xs=nd at *
 clear hb hres
 go_wp2_with (first
  | (refine wpList_store_rowB (.tmp 2) (.tmp 24) 33 rfl rfl w.heap.size zeroC rfl rfl 33 _ HRES.out size_rec rfl one_zero ?_)
  | (with_reducible refine halt_end ?_))
 exact Halt.ret (results_row3 (p:=2) (u:=3) (v:=4) rfl _ _ w.heap.size 33 zeroC _ rfl (setRow_heap _ _ _ zeroC _ _ HRES.out) Tryz.underlying33 rfl size_rec) rfl ⟨rfl,below_setRow HB1.out (nR _) _⟩
theorem raw_rd (w:World) (r g:Nat) (xs:List Int) (pos n:Nat) (h:Rd w r g xs pos 0) (hn:n≤xs.length-pos) :
 Calls Tryz.prog 180 #[.pointer (some ⟨r,0,none⟩),.int .i64 n] w fun e w'=>∃ b,e=.returned (.slice (some ⟨b,0,none⟩) n n)∧w.heap.size≤b ∧
  ArrU w' b ((xs.drop pos).take n)∧Rd w' r g xs (pos+n) 0∧Kept (fun b=>b<w.heap.size∧b≠r) w w':=by
 have H:=hI h
 have hx:=h.2.2.2.2
 clear h
 go_enter Tryz.func180,Tryz.ntmps180
 go_wp2_with (first
  | (go_at_call 207; refine (take_ok _ r g xs pos n H.out hn).mono ?_; rintro e w1 ⟨A,c,rfl,hr,hrd,hk⟩; have HR:=hI hr; have HD:=hI hrd; have HK:=hI hk; clear hr hrd hk)
  | (go_at_call 205; refine (clone_any A n c _ (·=g) _ HR.out (fun b e=>by rw[e]; exact HD.out.arr.lt) (by omega)).mono ?_; rintro e w2 ⟨rfl,ha,hb⟩; have HA:=hI ha; have HB:=hI hb; clear ha hb))
 go_ret
 exact ⟨_,rfl,HK.out.size,HA.out,HD.out.kept (Kept.of_below (S:=fun b=>b<w1.heap.size) HB.out (fun b h=>h)) HD.out.blk.lt HD.out.arr.lt,HK.out.below HB.out (fun b h=>nL h.1 HK.out.size)⟩
def keyOf (xs:List Int):List Int:=(xs.drop 21).take (klenOf xs)
def valOf (xs:List Int):List Int:=(xs.drop (21+klenOf xs)).take (vlenOf xs)
structure Dec (w wi:World) (r g q:Nat) (zs:List Int) (pos:Nat) (cs:Array Value):Prop where
 rd:Rd wi r g zs pos 0
 lo:w.heap.size<r
 res:Blk wi w.heap.size 33 zeroC
 hd:Blk wi q 121 cs
 far:q≠r∧q≠w.heap.size
 bel:Below w.heap.size w wi
theorem Dec.drew {w wi:World} {r g q:Nat} {zs:List Int} {pos:Nat} {cs:Array Value} (h:Dec w wi r g q zs pos cs):Dec w wi.drew r g q zs pos cs:=⟨h.rd.drewN 1,h.lo,h.res,h.hd,h.far,h.bel.drew⟩
theorem Dec.read {w wi w':World} {r g q:Nat} {zs:List Int} {pos pos':Nat} {cs:Array Value} (h:Dec w wi r g q zs pos cs) (hr:Rd w' r g zs pos' 0) (hk:Kept (fun b=>b<wi.heap.size∧b≠r) wi w'):Dec w w' r g q zs pos' cs :=
 ⟨hr,h.lo,h.res.kept hk ⟨h.res.lt,by have:=h.lo; omega⟩,h.hd.kept hk ⟨h.hd.lt,h.far.1⟩,h.far,h.bel.trans (hk.to_below fun b hb=>⟨nL hb h.bel.size,by have:=h.lo; omega⟩)⟩
def DecTold (xs:List Int) (w:World) (e:Ending) (w':World):Prop :=
 ∃ b1 b2,e=.returned (.tuple #[.agg #[.int .i64 (kindOf xs),.int .u32 (flagsOf xs),.int .u32 (expOf xs),.int .u64 (seqOf xs),.slice (some ⟨b1,0,none⟩) (klenOf xs) (klenOf xs),.slice (some ⟨b2,0,none⟩) (vlenOf xs) (vlenOf xs)],.int .i64 ((needOf xs:Nat):Int),.int .i64 0]) ∧
  w.heap.size≤b1∧w.heap.size≤b2∧b1≠b2∧ArrU w' b1 (keyOf xs)∧ArrU w' b2 (valOf xs)∧Below w.heap.size w w'
theorem dec_ok (A:Option Addr) (n c:Nat) (xs:List Int) (S:Nat→Prop) (w:World) (hx:RowI .u8 w S A n xs) (hS:∀ b,S b→b<w.heap.size) (hb:Bytes xs) (hn:21≤n) (hc:n≤c) (hm:MayB xs) (hle:needOf xs≤n) :
 Calls Tryz.prog 129 #[.slice A n c] w (DecTold xs w):=by
 obtain ⟨b0,o0,rfl,hb0,hc0⟩:=hx.2 (by omega)
 have hl:=hx.1
 have HX:=hI (hx.keep (w':=w.alloc (.cells zeroC 33)) fun p hp=>World.cell?_alloc_lt w _ p (hS _ hp))
 have HBY:=hI hb
 have hn1:=hm.2.2.1
 have hn2:=hm.2.2.2.1
 have hneed:needOf xs=21+klenOf xs+vlenOf xs:=rfl
 clear hx hb hb0 hc0
 go_enter Tryz.func129,Tryz.ntmps129
 go_wp2_with fail
 refine (need_ok _ n c xs S _ HX.out (fun b h=>by have:=hS b h; simp; omega) HBY.out hn hc hm).mono ?_
 rintro e w1 ⟨rfl,hb⟩
 have HB1:=hI (((Below.refl w.heap.size w).alloc (nR _) _).trans (hb.mono (by simp)))
 have HX1:=hI (HX.out.below hb (fun b h=>by have:=hS b h; simp; omega))
 have HRES:=hI ((Blk.new w 33 zeroC).below hb (by simp))
 have hlt1:w.heap.size<w1.heap.size:=HRES.out.lt
 have HLT1:=hI hlt1
 clear hb
 have hlt':decide ((n:Int)<(needOf xs:Int))=false:=by simp; omega
 have hle0:(0:Int)≤(needOf xs:Int):=by omega
 have hlec:(needOf xs:Int)≤c:=by omega
 have HND:=hI hneed
 clear hneed
 generalize hnd:needOf xs=nd at *
 have HNN:=hI hnd
 clear hnd
 go_wp2_with fail
 refine (read_any _ nd c (xs.take nd) S w1 (HX1.out.take nd hle) (fun b h=>by have:=hS b h; omega) (by have:=HND.out; omega)).mono ?_
 rintro e w2 ⟨r,rfl,hr,hrd,hb⟩
 have HB2:=hI (HB1.out.trans (hb.mono HB1.out.size))
 have HRES2:=hI (HRES.out.below hb HLT1.out)
 have HD2:=hI hrd
 have HLR:=hI (show w.heap.size<r by omega)
 clear hb hrd
 go_wp2_with fail
 refine (readHead_ok (xs.take nd) w2 r w1.heap.size HD2.out (by have:=HND.out; simp; omega) (HBY.out.take nd) HD2.out.blk.lt HD2.out.arr.lt).mono ?_
 rintro e w3 ⟨rfl,hrd,hk⟩
 rw[kind_take _ _ (by have:=HND.out; omega),flags_take _ _ (by have:=HND.out; omega),exp_take _ _ (by have:=HND.out; omega),seq_take _ _ (by have:=HND.out; omega),klen_take _ _ (by have:=HND.out; omega),vlen_take _ _ (by have:=HND.out; omega)]
 have HB3:=hI (HB2.out.trans (hk.to_below (B:=w.heap.size) fun b hb=>⟨by have:=HB2.out.size; omega,by have:=HLR.out; omega⟩))
 have HRES3:=hI (HRES2.out.kept hk ⟨HRES2.out.lt,by have:=HLR.out; omega⟩)
 have HD3:=hI hrd
 clear hrd hk
 obtain ⟨w4,hw4⟩:∃ w4,w4=w3.alloc (.cells #[.int .i64 (kindOf xs),.int .u32 (flagsOf xs),.int .u32 (expOf xs),.int .u64 (seqOf xs),.int .i64 (klenOf xs),.int .i64 (vlenOf xs)] 121):=⟨_,rfl⟩
 have HY:=hI (show Dec w w4 r w1.heap.size w3.heap.size (xs.take nd) 21 #[.int .i64 (kindOf xs),.int .u32 (flagsOf xs),.int .u32 (expOf xs),.int .u64 (seqOf xs),.int .i64 (klenOf xs),.int .i64 (vlenOf xs)] by
  rw[hw4]
  have hk:Kept (fun b=>b<w3.heap.size) w3 (w3.alloc (.cells #[.int .i64 (kindOf xs),.int .u32 (flagsOf xs),.int .u32 (expOf xs),.int .u64 (seqOf xs),.int .i64 (klenOf xs),.int .i64 (vlenOf xs)] 121)):=(Kept.refl _ w3).alloc (fun b h=>h) _
  exact ⟨HD3.out.kept hk HD3.out.blk.lt HD3.out.arr.lt,HLR.out,HRES3.out.alloc _,Blk.new w3 _ _,⟨by have:=HD3.out.blk.lt; omega,by have:=HB3.out.size; have:=HRES3.out.lt; omega⟩,HB3.out.alloc HB3.out.size _⟩)
 have HW4:=hI hw4
 clear hw4
 have hcap1:klenOf xs≤(xs.take nd).length-21:=by have:=HND.out; simp; omega
 have hcap2:vlenOf xs≤(xs.take nd).length-(21+klenOf xs):=by have:=HND.out; simp; omega
 have HCP1:=hI hcap1
 have HCP2:=hI hcap2
 have HK1:=hI (show ((xs.take nd).drop 21).take (klenOf xs)=keyOf xs from take_part _ _ _ _ (by have:=HND.out; omega))
 have HK2:=hI (show ((xs.take nd).drop (21+klenOf xs)).take (vlenOf xs)=valOf xs from take_part _ _ _ _ (by have:=HND.out; omega))
 clear hcap1 hcap2
 go_wp2_with fail
 rw[← HW4.out]
 have HY:=hI HY.out.drew
 have HYD:=HY
 have c0:=HY.out.hd.cell 0
 have c1:=HY.out.hd.cell 1
 have c2:=HY.out.hd.cell 2
 have c3:=HY.out.hd.cell 3
 have c4:=HY.out.hd.cell 4
 have c5:=HY.out.hd.cell 5
 simp only[List.getElem?_toArray,List.getElem?_cons_zero,List.getElem?_cons_succ] at c0 c1 c2 c3 c4 c5
 go_region_held3 (fun W=>W.cell? ⟨w3.heap.size,0,none⟩=some (.int .i64 (kindOf xs))∧W.cell? ⟨w3.heap.size,1,none⟩=some (.int .u32 (flagsOf xs))∧W.cell? ⟨w3.heap.size,2,none⟩=some (.int .u32 (expOf xs))∧W.cell? ⟨w3.heap.size,3,none⟩=some (.int .u64 (seqOf xs))∧W.cell? ⟨w3.heap.size,4,none⟩=some (.int .i64 (klenOf xs))∧W.cell? ⟨w3.heap.size,5,none⟩=some (.int .i64 (vlenOf xs)))
  (first | with_reducible exact ⟨c0,c1,c2,c3,c4,c5⟩ | with_reducible exact ⟨e0,e1,e2,e3,e4,e5⟩)
  (first
    | (go_at_call 180; with_reducible refine (raw_rd _ r w1.heap.size (xs.take nd) 21 (klenOf xs) ?_ ?_).mono ?_; exact HY.out.rd; exact HCP1.out; rintro e w5 ⟨b5,rfl,hb5,ha5,hrd,hk⟩; rw[HK1.out] at ha5; have HA5:=hI ha5; have HB5:=hI (nT HY.out.bel.size hb5); have HY:=hI (HY.out.read hrd hk); have HN5:=hI (show b5≠r∧b5≠w.heap.size from ⟨by have h:=HYD.out.rd.blk.lt; omega,by have h:=HYD.out.res.lt; omega⟩); clear ha5 hb5 hrd hk; have c0:=HY.out.hd.cell 0; have c1:=HY.out.hd.cell 1; have c2:=HY.out.hd.cell 2; have c3:=HY.out.hd.cell 3; have c4:=HY.out.hd.cell 4; have c5:=HY.out.hd.cell 5; simp only[List.getElem?_toArray,List.getElem?_cons_zero,List.getElem?_cons_succ] at c0 c1 c2 c3 c4 c5)
    | (go_at_call 180; with_reducible refine (raw_rd _ r w1.heap.size (xs.take nd) (21+klenOf xs) (vlenOf xs) ?_ ?_).mono ?_; exact HY.out.rd; exact HCP2.out; rintro e w6 ⟨b6,rfl,hb6,ha6,hrd,hk⟩; rw[HK2.out] at ha6; have HA6:=hI ha6; have HB6:=hI (nT HY.out.bel.size hb6); have HN6:=hI (show b6≠b5∧b6≠w.heap.size from ⟨by have h:=HA5.out.lt; omega,by have h:=HY.out.res.lt; omega⟩); have HA5':=hI (HA5.out.kept hk ⟨HA5.out.lt,HN5.out.1⟩); have HY:=hI (HY.out.read hrd hk); clear ha6 hb6 hrd hk; have c0:=HY.out.hd.cell 0; have c1:=HY.out.hd.cell 1; have c2:=HY.out.hd.cell 2; have c3:=HY.out.hd.cell 3; have c4:=HY.out.hd.cell 4; have c5:=HY.out.hd.cell 5; simp only[List.getElem?_toArray,List.getElem?_cons_zero,List.getElem?_cons_succ] at c0 c1 c2 c3 c4 c5; have z0:=HY.out.res.cell 0; have y0:=HY.out.res.frozen 0; have z1:=HY.out.res.cell 1; have y1:=HY.out.res.frozen 1; have z2:=HY.out.res.cell 2; have y2:=HY.out.res.frozen 2; have z3:=HY.out.res.cell 3; have y3:=HY.out.res.frozen 3; have z4:=HY.out.res.cell 4; have y4:=HY.out.res.frozen 4; have z5:=HY.out.res.cell 5; have y5:=HY.out.res.frozen 5; simp only[List.getElem?_toArray,List.getElem?_cons_zero,List.getElem?_cons_succ] at z0 z1 z2 z3 z4 z5; have e0:=(cell_far6 w6 w.heap.size (.int .i64 (kindOf xs)) (.int .u32 (flagsOf xs)) (.int .u32 (expOf xs)) (.int .u64 (seqOf xs)) (.slice (some ⟨b5,0,none⟩) (klenOf xs) (klenOf xs)) (.slice (some ⟨b6,0,none⟩) (vlenOf xs) (vlenOf xs)) (p:=⟨w3.heap.size,0,none⟩) HY.out.far.2).trans c0; have e1:=(cell_far6 w6 w.heap.size (.int .i64 (kindOf xs)) (.int .u32 (flagsOf xs)) (.int .u32 (expOf xs)) (.int .u64 (seqOf xs)) (.slice (some ⟨b5,0,none⟩) (klenOf xs) (klenOf xs)) (.slice (some ⟨b6,0,none⟩) (vlenOf xs) (vlenOf xs)) (p:=⟨w3.heap.size,1,none⟩) HY.out.far.2).trans c1; have e2:=(cell_far6 w6 w.heap.size (.int .i64 (kindOf xs)) (.int .u32 (flagsOf xs)) (.int .u32 (expOf xs)) (.int .u64 (seqOf xs)) (.slice (some ⟨b5,0,none⟩) (klenOf xs) (klenOf xs)) (.slice (some ⟨b6,0,none⟩) (vlenOf xs) (vlenOf xs)) (p:=⟨w3.heap.size,2,none⟩) HY.out.far.2).trans c2; have e3:=(cell_far6 w6 w.heap.size (.int .i64 (kindOf xs)) (.int .u32 (flagsOf xs)) (.int .u32 (expOf xs)) (.int .u64 (seqOf xs)) (.slice (some ⟨b5,0,none⟩) (klenOf xs) (klenOf xs)) (.slice (some ⟨b6,0,none⟩) (vlenOf xs) (vlenOf xs)) (p:=⟨w3.heap.size,3,none⟩) HY.out.far.2).trans c3; have e4:=(cell_far6 w6 w.heap.size (.int .i64 (kindOf xs)) (.int .u32 (flagsOf xs)) (.int .u32 (expOf xs)) (.int .u64 (seqOf xs)) (.slice (some ⟨b5,0,none⟩) (klenOf xs) (klenOf xs)) (.slice (some ⟨b6,0,none⟩) (vlenOf xs) (vlenOf xs)) (p:=⟨w3.heap.size,4,none⟩) HY.out.far.2).trans c4; have e5:=(cell_far6 w6 w.heap.size (.int .i64 (kindOf xs)) (.int .u32 (flagsOf xs)) (.int .u32 (expOf xs)) (.int .u64 (seqOf xs)) (.slice (some ⟨b5,0,none⟩) (klenOf xs) (klenOf xs)) (.slice (some ⟨b6,0,none⟩) (vlenOf xs) (vlenOf xs)) (p:=⟨w3.heap.size,5,none⟩) HY.out.far.2).trans c5))
 clear c0 c1 c2 c3 c4 c5 e0 e1 e2 e3 e4 e5 z0 z1 z2 z3 z4 z5 y0 y1 y2 y3 y4 y5
 go_wp2_with (with_reducible refine halt_end ?_)
 have hz:=HY.out.res.set6 (.int .i64 (kindOf xs)) (.int .u32 (flagsOf xs)) (.int .u32 (expOf xs)) (.int .u64 (seqOf xs)) (.slice (some ⟨b5,0,none⟩) (klenOf xs) (klenOf xs)) (.slice (some ⟨b6,0,none⟩) (vlenOf xs) (vlenOf xs))
 refine Halt.ret (results_row3 (p:=2) (u:=3) (v:=4) rfl _ _ w.heap.size 33 _ _ rfl hz Tryz.underlying33 rfl size_rec) rfl ⟨b5,b6,?_,HB5.out,HB6.out,HN6.out.1.symm,Blk.far6 HA5'.out HN5.out.2 _ _ _ _ _ _,Blk.far6 HA6.out HN6.out.2 _ _ _ _ _ _,below_set6 HY.out.bel (nR _) _ _ _ _ _ _⟩
 rw[HNN.out]
 rfl
end
section
theorem recB_bytes {k f x s:Int} {xs ys:List Int} (hk:0≤k∧k≤255) (hx:Bytes xs) (hy:Bytes ys):Bytes (recB k f x s xs ys):=by
 unfold recB headB
 refine bytes_append (bytes_append (bytes_append (bytes_append (bytes_append (bytes_append (bytes_append ?_ (beBytes_bytes _ _)) (beBytes_bytes _ _)) (beBytes_bytes _ _)) (beBytes_bytes _ _)) (beBytes_bytes _ _)) hx) hy
 intro j
 match j with
 | 0=>simpa using hk
 | (j+1)=>simp
section
variable {k f x s:Int} {xs ys zs:List Int}
theorem rec_split:recB k f x s xs ys++zs=[k]++(beBytes f 4++(beBytes x 4++(beBytes s 8++(beBytes xs.length 2++(beBytes ys.length 2++(xs++(ys++zs))))))):=by
 simp[recB,headB]
theorem drop_head {α:Type} (a b:List α) (n m:Nat) (h:a.length=n):(a++b).drop (n+m)=b.drop m:=by
 rw[← h,List.drop_append,List.drop_eq_nil_of_le (by omega)]
 simp
theorem rec_kind:kindOf (recB k f x s xs ys++zs)=k:=by
 unfold kindOf
 rw[rec_split,List.take_left' (by rfl)]
 simp[numOf]
theorem rec_flags (hf:0≤f) (hf':f≤4294967295):flagsOf (recB k f x s xs ys++zs)=f:=by
 unfold flagsOf
 rw[rec_split,List.drop_left' (by rfl),List.take_left' (beBytes_length _ _),num_be 4 _ hf (by simp; omega)]
theorem rec_exp (hx:0≤x) (hx':x≤4294967295):expOf (recB k f x s xs ys++zs)=x:=by
 unfold expOf
 rw[rec_split,drop_head [k] _ 1 4 rfl,List.drop_left' (beBytes_length _ _),List.take_left' (beBytes_length _ _),num_be 4 _ hx (by simp; omega)]
theorem rec_seq (hs:0≤s) (hs':s≤18446744073709551615):seqOf (recB k f x s xs ys++zs)=s:=by
 unfold seqOf
 rw[rec_split,drop_head [k] _ 1 8 rfl,drop_head _ _ 4 4 (beBytes_length _ _),List.drop_left' (beBytes_length _ _),List.take_left' (beBytes_length _ _),num_be 8 _ hs (by simp; omega)]
theorem rec_klen (h:xs.length≤65535):klenOf (recB k f x s xs ys++zs)=xs.length:=by
 unfold klenOf
 rw[rec_split,drop_head [k] _ 1 16 rfl,drop_head _ _ 4 12 (beBytes_length _ _),drop_head _ _ 4 8 (beBytes_length _ _),List.drop_left' (beBytes_length _ _),List.take_left' (beBytes_length _ _),num_be 2 _ (by omega) (by simp; omega)]
 omega
theorem rec_vlen (h:ys.length≤65535):vlenOf (recB k f x s xs ys++zs)=ys.length:=by
 unfold vlenOf
 rw[rec_split,drop_head [k] _ 1 18 rfl,drop_head _ _ 4 14 (beBytes_length _ _),drop_head _ _ 4 10 (beBytes_length _ _),drop_head _ _ 8 2 (beBytes_length _ _),List.drop_left' (beBytes_length _ _),List.take_left' (beBytes_length _ _),num_be 2 _ (by omega) (by simp; omega)]
 omega
theorem rec_drop:(recB k f x s xs ys++zs).drop 21=xs++(ys++zs):=by
 unfold recB
 rw[List.append_assoc,List.append_assoc,List.drop_left' (headB_length _ _ _ _ _ _)]
theorem rec_key (h:xs.length≤65535):keyOf (recB k f x s xs ys++zs)=xs:=by
 unfold keyOf
 rw[rec_klen h,rec_drop,List.take_left' rfl]
end
theorem rec_back {L:List Int} (hb:Bytes L) (hl:needOf L≤L.length):recB (kindOf L) (flagsOf L) (expOf L) (seqOf L) (keyOf L) (valOf L)=L.take (needOf L):=by
 have hneed:needOf L=21+klenOf L+vlenOf L:=rfl
 have hkl:(keyOf L).length=klenOf L:=by unfold keyOf; simp; omega
 have hvl:(valOf L).length=vlenOf L:=by unfold valOf; simp; omega
 have hpart:∀ i n,i+n≤L.length→beBytes (numOf ((L.drop i).take n)) n=(L.drop i).take n:=fun i n h=>be_num n _ (bytes_part hb i n) (by simp; omega)
 have hk1:[kindOf L]=(L.drop 0).take 1:=by
  have h1:(L.drop 0).take 1=[L.getD 0 0]:=by
   match L,hl,hneed with
   | a::r,_,_=>simp
   | [],h,h'=>simp at h; omega
  have h2:kindOf L=L.getD 0 0:=by
   have:kindOf L=numOf ((L.drop 0).take 1):=rfl
   rw[this,h1]
   simp[numOf]
  rw[h2,h1]
 have join:∀ i n m,(L.drop i).take n++(L.drop (i+n)).take m=(L.drop i).take (n+m):=by
  intro i n m
  rw[← List.drop_drop,← List.take_add]
 unfold recB headB
 rw[hkl,hvl,← klen_eq hb,← vlen_eq hb,hk1]
 unfold flagsOf expOf seqOf
 rw[hpart 1 4 (by omega),hpart 5 4 (by omega),hpart 9 8 (by omega),hpart 17 2 (by omega),hpart 19 2 (by omega)]
 have j1:=join 0 1 4
 have j2:=join 0 5 4
 have j3:=join 0 9 8
 have j4:=join 0 17 2
 have j5:=join 0 19 2
 have j6:=join 0 21 (klenOf L)
 have j7:=join 0 (21+klenOf L) (vlenOf L)
 simp only[Nat.zero_add,Nat.reduceAdd] at j1 j2 j3 j4 j5 j6 j7
 unfold keyOf valOf
 rw[j1,j2,j3,j4,j5,j6,j7,hneed]
 simp
end
section
def DecOk (xs:List Int) (n:Nat):Prop:=21≤n∧MayB xs∧needOf xs≤n
instance aI6DecAll0 (xs:List Int) (n:Nat):Decidable (DecOk xs n):=by unfold DecOk; infer_instance
def errOf (xs:List Int) (n:Nat):Int:=if 21≤n∧¬ MayB xs then 160 else 9
theorem errOf_cases (xs:List Int) (n:Nat):errOf xs n=9∨errOf xs n=160:=by unfold errOf; split <;> simp
theorem errOf_short {xs:List Int} {n:Nat} (h:n<21):errOf xs n=9:=if_neg (by omega)
theorem errOf_bad {xs:List Int} {n:Nat} (h:21≤n) (hm:¬ MayB xs):errOf xs n=160:=if_pos ⟨h,hm⟩
theorem errOf_cut {xs:List Int} {n:Nat} (hm:MayB xs):errOf xs n=9:=if_neg fun h=>h.2 hm
theorem dec_no (A:Option Addr) (n c:Nat) (xs:List Int) (S:Nat→Prop) (w:World) (hx:RowI .u8 w S A n xs) (hS:∀ b,S b→b<w.heap.size) (hb:Bytes xs) (hc:n≤c) (h:¬ DecOk xs n) :
 Calls Tryz.prog 129 #[.slice A n c] w fun e w'=>e=.returned (.tuple #[.agg #[.int .i64 0,.int .u32 0,.int .u32 0,.int .u64 0,.slice none 0 0,.slice none 0 0],.int .i64 0,.int .i64 (errOf xs n)])∧Below w.heap.size w w':=by
 by_cases h1:n<21
 ·rw[errOf_short h1]
  exact dec_short A n c w h1
 by_cases h2:MayB xs
 ·rw[errOf_cut h2]
  exact dec_cut A n c xs S w hx hS hb (by omega) hc h2 (by rcases Nat.lt_or_ge n (needOf xs) with h3 | h3; exact h3; exact absurd ⟨by omega,h2,h3⟩ h)
 ·rw[errOf_bad (by omega) h2]
  exact dec_bad A n c xs S w hx hS hb (by omega) hc h2
end
section
structure Src (xs:List Int) (b0 o0 n:Nat) (w W:World):Prop where
 cell:∀ j,j<n→W.cell? ⟨b0,o0+j,none⟩=some (.int .u8 (xs.getD j 0))
 len:xs.length=n
 lt:b0<w.heap.size
 bel:Below w.heap.size w W
section
variable {xs:List Int} {b0 o0 n:Nat} {w W W':World}
theorem Src.drew (h:Src xs b0 o0 n w W):Src xs b0 o0 n w W.drew:=⟨h.cell,h.len,h.lt,h.bel.drew⟩
theorem Src.below (h:Src xs b0 o0 n w W) (hb:Below W.heap.size W W'):Src xs b0 o0 n w W':=⟨fun j hj=>(hb.cell (nL h.lt h.bel.size)).trans (h.cell j hj),h.len,h.lt,h.bel.trans (hb.mono h.bel.size)⟩
theorem Src.alloc (h:Src xs b0 o0 n w W) (o:Obj):Src xs b0 o0 n w (W.alloc o):=h.below ((Below.refl _ _).alloc (nR _) _)
theorem Src.setCell (h:Src xs b0 o0 n w W) {p:Addr} (hp:w.heap.size≤p.block) (u:Value):Src xs b0 o0 n w (W.setCell p u) :=
 ⟨fun j hj=>(World.cell?_setCell_other _ _ _ _ (by rintro rfl; have:=h.lt; simp at hp; omega)).trans (h.cell j hj),h.len,h.lt,h.bel.setCell hp u⟩
end
end
section
def needK (xs:List Int) (n:Nat):Nat:=if 21≤n∧MayB xs then needOf xs else 0
def needE (xs:List Int) (n:Nat):Int:=if 21≤n∧MayB xs then 0 else errOf xs n
theorem need_all (A:Option Addr) (n c:Nat) (xs:List Int) (S:Nat→Prop) (w:World) (hx:RowI .u8 w S A n xs) (hS:∀ b,S b→b<w.heap.size) (hb:Bytes xs) (hc:n≤c) :
 Calls Tryz.prog 176 #[.slice A n c] w fun e w'=>e=.returned (.tuple #[.int .i64 ((needK xs n:Nat):Int),.int .i64 (needE xs n)])∧Below w.heap.size w w':=by
 by_cases h1:n<21
 ·rw[show needK xs n=0 from if_neg (by omega),show needE xs n=errOf xs n from if_neg (by omega),errOf_short h1]
  exact need_short A n c w h1
 by_cases h2:MayB xs
 ·rw[show needK xs n=needOf xs from if_pos ⟨by omega,h2⟩,show needE xs n=0 from if_pos ⟨by omega,h2⟩]
  exact need_ok A n c xs S w hx hS hb (by omega) hc h2
 ·rw[show needK xs n=0 from if_neg fun h=>h2 h.2,show needE xs n=errOf xs n from if_neg fun h=>h2 h.2,errOf_bad (by omega) h2]
  exact need_bad A n c xs S w hx hS hb (by omega) hc h2
end
section
theorem nums_list (s:ByteArray):nums s=s.toList.map fun c=>(c.toNat:Int):=by rw[ByteArray.toList_eq]; rfl
theorem texts_no {s t:ByteArray} {xs ys:List Int} (h1:nums s=xs) (h2:nums t=ys) (h:xs≠ys):(s.toList==t.toList)=false:=by
 rw[beq_eq_false_iff_ne]
 intro e
 apply h
 rw[← h1,← h2,nums_list,nums_list,e]
theorem equal_no (A A':Option Addr) (n n' c c':Nat) (xs ys:List Int) (S S':Nat→Prop) (w:World) (hx:RowI .u8 w S A n xs) (hx':RowI .u8 w S' A' n' ys) (hS:∀ b,S b→b<w.heap.size) (hS':∀ b,S' b→b<w.heap.size) (hb:Bytes xs) (hb':Bytes ys) (hne:xs≠ys) :
 Calls Tryz.prog 40 #[.slice A n c,.slice A' n' c'] w fun e w'=>e=.returned (.bool false)∧w=w':=by
 obtain ⟨s,hs,hns⟩:=conv_string (P:=Tryz.prog) w 31 9 5 Tryz.underlying31 Tryz.underlying5 Tryz.underlying9 c (hx.more (T:=(·<w.heap.size)) hS).toRow hb
 obtain ⟨t,ht,hnt⟩:=conv_string (P:=Tryz.prog) w 31 9 5 Tryz.underlying31 Tryz.underlying5 Tryz.underlying9 c' (hx'.more (T:=(·<w.heap.size)) hS').toRow hb'
 have hst:(s.toList==t.toList)=false:=texts_no hns hnt hne
 clear hns hnt hx hx'
 go_enter Tryz.func40,Tryz.ntmps40
 go_wp2
 go_ret
 exact ⟨rfl,rfl⟩
end
section
theorem tomb_no (A:Option Addr) (n c:Nat) (s:Int) (w:World) (h:¬ May 2 0 0 s n 0) :
 Calls Tryz.prog 90 #[.slice A n c,.int .u64 s] w fun e w'=>e=.returned (.tuple #[.agg #[.int .i64 0,.int .u32 0,.int .u32 0,.int .u64 0,.slice none 0 0,.slice none 0 0],.int .i64 160])∧Below w.heap.size w w':=by
 have HM:=hI h
 clear h
 go_enter Tryz.func90,Tryz.ntmps90
 go_wp2_with fail
 refine (check_no 2 0 0 s A none n c 0 0 _ HM.out).mono ?_
 rintro e w1 ⟨rfl,hb⟩
 have HB1:=hI ((((Below.refl w.heap.size w).alloc (nR _) _).alloc (by simp) _).trans (hb.mono (by simp; omega)))
 have HRES:=hI (((Blk.new w 33 zeroC).alloc (.cells (recC 2 0 0 s A n c none 0 0) 33)).below hb (by simp; omega))
 clear hb
 go_wp2_with (first
  | (refine wpList_store_rowB (.tmp 4) (.tmp 15) 33 rfl rfl w.heap.size zeroC rfl rfl 33 _ HRES.out size_rec rfl one_zero ?_)
  | (with_reducible refine halt_end ?_))
 exact Halt.ret (results_row2 (p:=4) (u:=5) rfl _ _ w.heap.size 33 zeroC _ rfl (setRow_heap _ _ _ zeroC _ _ HRES.out) Tryz.underlying33 rfl size_rec) rfl ⟨rfl,below_setRow HB1.out (nR _) _⟩
def TombTold (s:Int) (xs:List Int) (w:World) (e:Ending) (w':World):Prop :=
 ∃ g,e=.returned (.tuple #[.agg #[.int .i64 2,.int .u32 0,.int .u32 0,.int .u64 s,.slice (some ⟨g,0,none⟩) xs.length xs.length,.slice none 0 0],.int .i64 0])∧w.heap.size≤g∧ArrU w' g xs∧Below w.heap.size w w'
theorem tomb_yes (A:Option Addr) (n c:Nat) (xs:List Int) (s:Int) (S:Nat→Prop) (w:World) (hx:RowI .u8 w S A n xs) (hS:∀ b,S b→b<w.heap.size) (h:May 2 0 0 s n 0) :
 Calls Tryz.prog 90 #[.slice A n c,.int .u64 s] w (TombTold s xs w):=by
 have hn1:=h.2.1
 have hn2:=h.2.2.1
 have hmk:=fun u:World=>run_make_row' (P:=Tryz.prog) 31 5 (.int .u8 0) 1 Tryz.underlying31 info_u8 rfl .i64 .i64 n (by omega) (by omega) u
 have HM:=hI h
 have HX:=hI hx
 have HLX:=hI hx.1
 clear h hx
 go_enter Tryz.func90,Tryz.ntmps90
 go_wp2_with fail
 generalize hw1:(w.alloc _).alloc _=w1
 have HB1:=hI (show Below w.heap.size w w1 by rw[← hw1]; exact ((Below.refl _ _).alloc (nR _) _).alloc (by simp) _)
 have HZ1:=hI (show Blk w1 w.heap.size 33 zeroC by rw[← hw1]; exact (Blk.new w _ _).alloc _)
 have HR1:=hI (show Blk w1 (w.heap.size+1) 33 (recC 2 0 0 s A n c none 0 0) by rw[← hw1]; exact blk_new2 w _ _ _)
 clear hw1
 refine (check_yes 2 0 0 s A none n c 0 0 _ HM.out).mono ?_
 rintro e w2 ⟨rfl,hb⟩
 have HB2:=hI (HB1.out.trans (hb.mono HB1.out.size))
 have HZ2:=hI (HZ1.out.below hb HZ1.out.lt)
 have HR2:=hI (HR1.out.below hb HR1.out.lt)
 clear hb
 have hr3:=HR2.out.alloc (.cells (madeCells #[.int .u8 0] n) 5)
 have q0:=hr3.cell 4
 have q1:=hr3.frozen 4
 simp only[List.getElem?_toArray,List.getElem?_cons_zero,List.getElem?_cons_succ] at q0
 have hr4:Blk _ (w.heap.size+1) 33 (recC 2 0 0 s (some ⟨w2.heap.size,0,none⟩) n n none 0 0):=hr3.set_ 4 (.slice (some ⟨w2.heap.size,0,none⟩) n n)
 have q4:=hr4.cell 4
 simp only[List.getElem?_toArray,List.getElem?_cons_zero,List.getElem?_cons_succ] at q4
 have hne:w2.heap.size≠w.heap.size+1:=by have:=HR2.out.lt; omega
 have hm4:Arr (Value.int .u8) ((w2.alloc (.cells (madeCells #[.int .u8 0] n) 5)).setCell ⟨w.heap.size+1,4,none⟩ (.slice (some ⟨w2.heap.size,0,none⟩) n n)) w2.heap.size 5 (List.replicate n 0):=Blk.far (Arr.made (mk:=Value.int .u8) w2 0 n 5) hne _
 have hb4:Below w.heap.size w ((w2.alloc (.cells (madeCells #[.int .u8 0] n) 5)).setCell ⟨w.heap.size+1,4,none⟩ (.slice (some ⟨w2.heap.size,0,none⟩) n n)):=(HB2.out.alloc HB2.out.size _).setCell (by show w.heap.size≤w.heap.size+1; omega) _
 have hz4:Blk ((w2.alloc (.cells (madeCells #[.int .u8 0] n) 5)).setCell ⟨w.heap.size+1,4,none⟩ (.slice (some ⟨w2.heap.size,0,none⟩) n n)) w.heap.size 33 zeroC:=(HZ2.out.alloc _).far (by show w.heap.size≠w.heap.size+1; omega) _
 have hx4:=HX.out.below hb4 hS
 have hk4:Kept (fun b=>b<w2.heap.size) w2 _:=(Kept.refl _ w2)
 have HR4:=hI hr4
 have HM4:=hI hm4
 have HB4:=hI hb4
 have HZ4:=hI hz4
 have HX4:=hI hx4
 have h1:=hI (show (xs.map (Value.int .u8)).length=Nat.min n n by rw[List.length_map,HLX.out]; exact (Nat.min_self n).symm)
 have h3:=hI (show 0+(xs.map (Value.int .u8)).length≤((List.replicate n (0:Int)).map (Value.int .u8)).length by simp[HLX.out])
 have h4:=hI (show ((List.replicate n (0:Int)).map (Value.int .u8)).length=(xs.map (Value.int .u8)).length by simp[HLX.out])
 have HS2:=hI (show w.heap.size≤w2.heap.size from HB2.out.size)
 have HNE:=hI hne
 have HLT:=hI (show w.heap.size+1<w2.heap.size from HR2.out.lt)
 clear hr3 hr4 hm4 hb4 hz4 hx4 hk4 hne
 go_wp2_with (first
  | (refine wpList_copy_splice rfl (.tmp 22) (.tmp 23) 31 31 rfl 5 Tryz.underlying31 size_u8 _ _ _ _ _ _ rfl rfl w2.heap.size 0 ((List.replicate n (0:Int)).map (Value.int .u8)) 5 HM4.out (xs.map (Value.int .u8)) h1.out (fun hp=>⟨rfl,row_src HX4.out (by have:=HLX.out; simpa [this] using hp)⟩) h3.out (one_u8 xs) w2.heap.size _ (Below.refl _ _) (nR _) ?_; intro w5 hg hb; rw[splice_all _ _ h4.out] at hg; have HA5:=hI (show ArrU w5 w2.heap.size xs from hg); have HR5:=hI (HR4.out.below hb HLT.out); have HZ5:=hI (HZ4.out.below hb (by have:=HLT.out; omega)); have HB5:=hI (HB4.out.trans (hb.mono HS2.out)); clear hg hb)
  | (refine wpList_load_rowB (.tmp 6) 33 rfl rfl (w.heap.size+1) rfl 33 [.int .i64 2,.int .u32 0,.int .u32 0,.int .u64 s,.slice (some ⟨w2.heap.size,0,none⟩) n n,.slice none 0 0] _ Tryz.underlying33 rfl size_rec HR5.out ?_)
  | (refine wpList_store_rowB (.tmp 4) (.tmp 25) 33 rfl rfl w.heap.size (recC 2 0 0 s (some ⟨w2.heap.size,0,none⟩) n n none 0 0) rfl rfl 33 _ HZ5.out size_rec rfl (one_rec _ _ _ _ _ _ _ _ _ _) ?_)
  | (with_reducible refine halt_end ?_))
 have hst:=setRow_heap _ _ _ (recC 2 0 0 s (some ⟨w2.heap.size,0,none⟩) n n none 0 0) _ _ HZ5.out
 refine Halt.ret (results_row2 (p:=4) (u:=5) rfl _ _ w.heap.size 33 (recC 2 0 0 s (some ⟨w2.heap.size,0,none⟩) n n none 0 0) _ rfl hst Tryz.underlying33 rfl size_rec) rfl ⟨w2.heap.size,?_,HS2.out,?_,below_setRow HB5.out (nR _) _⟩
 ·rw[HLX.out]
  rfl
 ·exact Blk.kept (S:=fun b=>b≠w.heap.size) HA5.out ((Kept.refl _ _).setRow (fun h=>h rfl) _) (by have:=HLT.out; omega)
end
section
abbrev supC (a b g r v f:Int):Array Value:=#[.int .i64 a,.int .i64 b,.int .u64 g,.int .u64 r,.int .u64 v,.int .u64 f]
abbrev turC (a b g r v f t:Int):Array Value:=#[.int .i64 a,.int .i64 b,.int .u64 g,.int .u64 r,.int .u64 v,.int .u64 f,.int .u64 t]
theorem size_sup:(Tryz.prog.info? 115).map (·.size)=some 6:=by kernel_rfl
theorem size_tur:(Tryz.prog.info? 184).map (·.size)=some 7:=by kernel_rfl
def MayS (a b g r:Int):Prop:=4≤a∧a≤16∧24≤b∧b≤64∧r≤g
instance aI7May0 (a b g r:Int):Decidable (MayS a b g r):=by unfold MayS; infer_instance
theorem may_any (a b g r v f:Int) (w:World) :
 Calls Tryz.prog 152 #[.agg (supC a b g r v f)] w fun e w'=>e=.returned (.bool (decide (MayS a b g r)))∧Below w.heap.size w w':=by
 by_cases h0:(4:Int)≤a
 case neg =>
  have hno:decide (MayS a b g r)=false:=decide_eq_false (fun h=>h0 h.1)
  rw[hno]
  have e0:decide ((4:Int)≤a)=false:=decide_eq_false h0
  go_enter Tryz.func152,Tryz.ntmps152
  go_wp2
  go_ret
  exact ⟨rfl,(Below.refl _ _).alloc (nR _) _⟩
 have e0:decide ((4:Int)≤a)=true:=decide_eq_true h0
 by_cases h1:a≤(16:Int)
 case neg =>
  have hno:decide (MayS a b g r)=false:=decide_eq_false (fun h=>h1 h.2.1)
  rw[hno]
  have e1:decide (a≤(16:Int))=false:=decide_eq_false h1
  go_enter Tryz.func152,Tryz.ntmps152
  go_wp2
  go_ret
  exact ⟨rfl,(Below.refl _ _).alloc (nR _) _⟩
 have e1:decide (a≤(16:Int))=true:=decide_eq_true h1
 by_cases h2:(24:Int)≤b
 case neg =>
  have hno:decide (MayS a b g r)=false:=decide_eq_false (fun h=>h2 h.2.2.1)
  rw[hno]
  have e2:decide ((24:Int)≤b)=false:=decide_eq_false h2
  go_enter Tryz.func152,Tryz.ntmps152
  go_wp2
  go_ret
  exact ⟨rfl,(Below.refl _ _).alloc (nR _) _⟩
 have e2:decide ((24:Int)≤b)=true:=decide_eq_true h2
 by_cases h3:b≤(64:Int)
 case neg =>
  have hno:decide (MayS a b g r)=false:=decide_eq_false (fun h=>h3 h.2.2.2.1)
  rw[hno]
  have e3:decide (b≤(64:Int))=false:=decide_eq_false h3
  go_enter Tryz.func152,Tryz.ntmps152
  go_wp2
  go_ret
  exact ⟨rfl,(Below.refl _ _).alloc (nR _) _⟩
 have e3:decide (b≤(64:Int))=true:=decide_eq_true h3
 by_cases h4:r≤g
 case neg =>
  have hno:decide (MayS a b g r)=false:=decide_eq_false (fun h=>h4 h.2.2.2.2)
  rw[hno]
  have e4:decide (r≤g)=false:=decide_eq_false h4
  go_enter Tryz.func152,Tryz.ntmps152
  go_wp2
  go_ret
  exact ⟨rfl,(Below.refl _ _).alloc (nR _) _⟩
 have e4:decide (r≤g)=true:=decide_eq_true h4
 have hyes:decide (MayS a b g r)=true:=decide_eq_true ⟨h0,h1,h2,h3,h4⟩
 rw[hyes]
 go_enter Tryz.func152,Tryz.ntmps152
 go_wp2
 go_ret
 exact ⟨rfl,(Below.refl _ _).alloc (nR _) _⟩
end
section
def iceL:List Int:=[105,99,101,104,111,117,115,101]
def bodyL (a b g r v f t:Int):List Int:=(((((((iceL++beBytes t 8)++beBytes a 2)++beBytes b 2)++beBytes g 8)++beBytes r 8)++beBytes v 8)++beBytes f 8)
def fullL (a b g r v f t:Int):List Int:=bodyL a b g r v f t++noughts 4
def supL (a b g r v f t:Int):List Int:=fullL a b g r v f t++beBytes (fnv start (fullL a b g r v f t)) 8
theorem bodyL_length (a b g r v f t:Int):(bodyL a b g r v f t).length=52:=by simp[bodyL,iceL,beBytes_length]
theorem fullL_length (a b g r v f t:Int):(fullL a b g r v f t).length=56:=by simp[fullL,bodyL_length,noughts_length]
theorem supL_length (a b g r v f t:Int):(supL a b g r v f t).length=64:=by simp[supL,fullL_length,beBytes_length]
theorem iceL_bytes:Bytes iceL:=by
 intro j
 match j with
 | 0 | 1 | 2 | 3 | 4 | 5 | 6 | 7=>simp[iceL]
 | (n+8)=>simp[iceL]
theorem bodyL_bytes (a b g r v f t:Int):Bytes (bodyL a b g r v f t) :=
 bytes_append (bytes_append (bytes_append (bytes_append (bytes_append (bytes_append (bytes_append iceL_bytes (beBytes_bytes _ _)) (beBytes_bytes _ _)) (beBytes_bytes _ _)) (beBytes_bytes _ _)) (beBytes_bytes _ _)) (beBytes_bytes _ _)) (beBytes_bytes _ _)
theorem fullL_bytes (a b g r v f t:Int):Bytes (fullL a b g r v f t):=bytes_append (bodyL_bytes a b g r v f t) (noughts_bytes 4)
theorem supL_bytes (a b g r v f t:Int):Bytes (supL a b g r v f t):=bytes_append (fullL_bytes a b g r v f t) (beBytes_bytes _ _)
theorem hash_in (l:List Int):0≤fnv start l∧fnv start l≤18446744073709551615:=by
 have:=fnv_bounds start l ⟨by unfold start; omega,by unfold start; omega⟩
 omega
def InS (a b g r v f:Int):Prop:=-9223372036854775808≤a∧a≤9223372036854775807∧-9223372036854775808≤b∧b≤9223372036854775807∧0≤g∧g≤18446744073709551615∧0≤r∧r≤18446744073709551615∧0≤v∧v≤18446744073709551615∧0≤f∧f≤18446744073709551615
end
end Go.Proofs.YtdkbpchmnhbhcaaGreat
