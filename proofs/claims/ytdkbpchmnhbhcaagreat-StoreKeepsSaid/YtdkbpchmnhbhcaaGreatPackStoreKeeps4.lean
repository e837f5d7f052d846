/- Texts of StoreKeeps, packed. -/
import Derived.Test.YtdkbpchmnhbhcaaGreatPackStoreKeeps3
import Derived.Deep.RegionHeld3
import Derived.Deep.DeepCutAuto
import Derived.Great.FillDense
set_option linter.unusedVariables false
set_option linter.unusedSimpArgs false
set_option maxRecDepth 100000
set_option maxHeartbeats 16000000
namespace Go.Proofs.YtdkbpchmnhbhcaaGreat
open Go.RowKit
section
theorem VX {P:Program} {w:World} {g off n:Nat} {t ty:TypeId} (hsz:∀ w,(sizeOf ty).run P w=.ok n w) (F cs:List Value) (hg:z8 w g t F.toArray) (hl:cs.length=n) (hone:∀ v∈cs,v.oneCell'=true) (hfit:off+n≤F.length) :
 (Instr.storeAt ty (.pointer (some ⟨g,off,none⟩)) (.agg cs.toArray)).run P w=.ok () (w.setRow g (F.take off++cs++F.drop (off+n)).toArray):=by
 have hs:=run_storeCells_at P g off t cs 0 F.toArray w hg (by simp[hl]; omega) hone
 have he:(List.take (off+0) F.toArray.toList++cs++List.drop (off+0+cs.length) F.toArray.toList).toArray=(F.take off++cs++F.drop (off+n)).toArray:=by simp[hl]
 rw[he] at hs
 simp only[Instr.storeAt,Instr.sureAddr,Sem.run_bind,Sem.run_pure,Result.andThen_ok,storeVar,hsz,Value.cells]
 simpa [hl] using hs
section
variable {P:Program} {w:World} {ops:Array Oper} {rest:List Oper} {o:Oper} {a:Act} {Q:Exit→Act→World→Prop} {K:Act→World→Prop} {E:Prop}
theorem l7 (x y:Operand) (ty:TypeId) (ho:o.op=.store ty x y) (hgd:Region.wanted o (yielded ops a.tmps)=true) {n:Nat} (hsz:∀ w,(sizeOf ty).run P w=.ok n w) (g off:Nat) (cs:List Value)
 (hx:a.eval x=.pointer (some ⟨g,off,none⟩)) (hy:a.eval y=.agg cs.toArray) (t:TypeId) (F:List Value) (hg:z8 w g t F.toArray) (hl:cs.length=n) (hone:∀ v∈cs,v.oneCell'=true) (hfit:off+n≤F.length)
 (h:wpList P ops Q rest (a.put o.dst undef) (w.setRow g (F.take off++cs++F.drop (off+n)).toArray)):wpList P ops Q (o::rest) a w:=by
 refine wpList_step fun K hK=>?_
 rw[if_pos hgd]
 unfold Oper.wp execOp
 simp only[ho,hx,hy,VX hsz F cs hg hl hone hfit,Sem.run_bind,Result.andThen_ok]
 exact hK _ _ h
end
theorem yX {w:World} {g o:Nat} (cs:List Value) {b off:Nat} {v:Value} (hc:w.cell? ⟨b,off,none⟩=some v) (h:b≠g):(w.setCells g o cs).cell? ⟨b,off,none⟩=some v :=
 (World.cell?_setCells_out g cs o w ⟨b,off,none⟩ (fun e _=>absurd e h)).trans hc
theorem bF {w:World} {g o b off:Nat} {cs:List Value} {xs:List Value} (hr:w.rangeAt b off xs) (h:b≠g):(w.setCells g o cs).rangeAt b off xs :=
 fun j v hv=>yX cs (hr j v hv) h
theorem z8.there {w:World} {g:Nat} {t:TypeId} {F:List Value} (h:z8 w g t F.toArray) {o n:Nat} (hn:o+n≤F.length):w.there g o n:=fun j hj=>by
 refine ⟨?_,h.frozen _⟩
 rw[h.cell (o+j)]
 simp[List.getElem?_eq_getElem (show o+j<F.length by omega)]
theorem Qu {P:Program} {w:World} {g:Nat} {t:TypeId} {F:List Value} (h:z8 w g t F.toArray) (o:Nat) (cs:List Value) (hone:∀ v∈cs,v.oneCell'=true) (hfit:o+cs.length≤F.length) :
 w.setCells g o cs=w.setRow g (F.take o++cs++F.drop (o+cs.length)).toArray:=by
 have h1:=run_storeCells_cells (P:=P) g o cs 0 w (fun j hj=>(h.there hfit j hj).1) (fun j hj=>(h.there hfit j hj).2) hone
 have h2:=run_storeCells_at P g o t cs 0 F.toArray w h (by simpa using hfit) hone
 have he:(List.take (o+0) F.toArray.toList++cs++List.drop (o+0+cs.length) F.toArray.toList).toArray=(F.take o++cs++F.drop (o+cs.length)).toArray:=by simp
 rw[he] at h2
 rw[h1] at h2
 injection h2
theorem KN (xs:List Int):∀ v∈xs.map (Value.int .u8),v.oneCell'=true:=by
 intro v hv
 obtain ⟨x,_,rfl⟩:=List.mem_map.1 hv
 rfl
def qP (p:Nat × List Int):List Value:=.int .i64 p.1::p.2.map (Value.int .u8)
def yE (l:List (Nat × List Int)):List Value:=l.flatMap qP
theorem JM (l m:List (Nat × List Int)):yE (l++m)=yE l++yE m:=by simp[yE]
theorem UW (p:Nat × List Int):yE [p]=qP p:=by simp[yE]
theorem yD (p:Nat × List Int) (h:p.2.length=64):(qP p).length=65:=by simp[qP,h]
theorem JL {l:List (Nat × List Int)} (h:∀ p∈l,p.2.length=64):(yE l).length=l.length*65:=by
 induction l with
 | nil=>rfl
 | cons p r ih =>
  have h1:=yD p (h p (List.mem_cons_self ..))
  have h2:=ih (fun q hq=>h q (List.mem_cons_of_mem _ hq))
  simp only[yE,List.flatMap_cons,List.length_append,List.length_cons] at *
  omega
theorem SK {l:List (Nat × List Int)} (h:∀ p∈l,p.2.length=64) (i:Nat) (hi:i<l.length) (j:Nat) (hj:j<65):(yE l)[i*65+j]? = (qP l[i])[j]? := by
 have hc:l=l.take i++(l[i]::l.drop (i+1)):=by rw[← List.drop_eq_getElem_cons hi,List.take_append_drop]
 have hw:=yD l[i] (h _ (List.getElem_mem hi))
 have ht:=JL (l:=l.take i) (fun p hp=>h p (List.mem_of_mem_take hp))
 rw[List.length_take,Nat.min_eq_left (by omega)] at ht
 have e:yE l=yE (l.take i)++(qP l[i]++yE (l.drop (i+1))):=by
  conv=>lhs; rw[hc]
  rw[JM]
  congr 1
 rw[e,List.getElem?_append_right (by omega),List.getElem?_append_left (by omega),ht]
 congr 1
 omega
theorem Yu (p:Nat × List Int):∀ v∈qP p,v.oneCell'=true:=by
 intro v hv
 rcases List.mem_cons.1 hv with rfl | hv
 ·rfl
 ·obtain ⟨x,_,rfl⟩:=List.mem_map.1 hv
  rfl
structure Dm (w:World) (d H S n:Nat) (v:Value) (m:Nat) (held safe:List Int) (P:List Value) (armed fails:Int) (dead:Bool) (ops:Int):Prop where
 blk:z8 w d 182 #[.slice (some ⟨H,0,none⟩) n n,.slice (some ⟨S,0,none⟩) n n,v,.int .i64 armed,.int .i64 fails,.bool dead,.int .i64 ops]
 hh:qB w H held
 ss:qB w S safe
 own:w.ownsRow 0 250 65 v m P
 ne:H≠S
theorem uQ {w:World} {base size n:Nat} {e:TypeId} {v:Value} {xs:List Value} (h:w.ownsRow base e size v n xs) {g:Nat} (hg:v.ownBlock≠some g) (i:Nat) (u:Value) :
 (w.setCell ⟨g,i,none⟩ u).ownsRow base e size v n xs :=
 h.kept (row:=some g) ⟨rfl,rfl,rfl,by simp[World.setCell],fun k _ hne=>Below.heap_setCell _ _ _ _ (fun e=>hne (by rw[e]))⟩ (.inr hg)
theorem own_kept {w w':World} {base size n:Nat} {e:TypeId} {v:Value} {xs:List Value} (h:w.ownsRow base e size v n xs) {X:Nat→Prop} (hk:Kept X w w') (hv:∀ g,v.ownBlock=some g→X g):w'.ownsRow base e size v n xs:=by
 refine ⟨h.1,?_⟩
 rcases h.2 with h0 | ⟨g,cap,cur,rfl,h2,h3,h4⟩
 ·exact .inl h0
 ·exact .inr ⟨g,cap,cur,rfl,h2,(hk.block g (hv g (by simp[Value.ownBlock]))).trans h3,h4⟩
section
variable {w w':World} {d H S n:Nat} {v:Value} {m:Nat} {held safe:List Int} {P:List Value} {armed fails:Int} {dead:Bool} {ops:Int}
theorem Dm.cell (h:Dm w d H S n v m held safe P armed fails dead ops):w.cell? ⟨d,0,none⟩=some (.slice (some ⟨H,0,none⟩) n n)∧w.cell? ⟨d,1,none⟩=some (.slice (some ⟨S,0,none⟩) n n)∧w.cell? ⟨d,2,none⟩=some v ∧
 w.cell? ⟨d,3,none⟩=some (.int .i64 armed)∧w.cell? ⟨d,4,none⟩=some (.int .i64 fails)∧w.cell? ⟨d,5,none⟩=some (.bool dead)∧w.cell? ⟨d,6,none⟩=some (.int .i64 ops) :=
 ⟨h.blk.cell 0,h.blk.cell 1,h.blk.cell 2,h.blk.cell 3,h.blk.cell 4,h.blk.cell 5,h.blk.cell 6⟩
theorem Dm.frozen (h:Dm w d H S n v m held safe P armed fails dead ops) (i:Nat):w.frozen? ⟨d,i,none⟩=false:=h.blk.frozen i
theorem Dm.dH (h:Dm w d H S n v m held safe P armed fails dead ops):d≠H:=h.blk.ne_ h.hh (by decide)
theorem Dm.dS (h:Dm w d H S n v m held safe P armed fails dead ops):d≠S:=h.blk.ne_ h.ss (by decide)
theorem Dm.vd (h:Dm w d H S n v m held safe P armed fails dead ops):v.ownBlock≠some d:=yT h.own h.blk (by decide)
theorem Dm.vH (h:Dm w d H S n v m held safe P armed fails dead ops):v.ownBlock≠some H:=yT h.own h.hh (by decide)
theorem Dm.vS (h:Dm w d H S n v m held safe P armed fails dead ops):v.ownBlock≠some S:=yT h.own h.ss (by decide)
theorem Dm.vlt (h:Dm w d H S n v m held safe P armed fails dead ops):∀ g,v.ownBlock=some g→g<w.heap.size:=fun g hg=>(h.own.lt g hg).2
theorem Dm.kept (h:Dm w d H S n v m held safe P armed fails dead ops) {X:Nat→Prop} (hk:Kept X w w') (hd:X d) (hH:X H) (hS:X S) (hv:∀ g,v.ownBlock=some g→X g):Dm w' d H S n v m held safe P armed fails dead ops :=
 ⟨h.blk.kept hk hd,qF.kept h.hh hk hH,qF.kept h.ss hk hS,own_kept h.own hk hv,h.ne⟩
theorem Dm.below (h:Dm w d H S n v m held safe P armed fails dead ops) (hk:Below w.heap.size w w'):Dm w' d H S n v m held safe P armed fails dead ops :=
 ⟨h.blk.below hk h.blk.lt,qF.below h.hh hk h.hh.lt,qF.below h.ss hk h.ss.lt,own_below h.own hk,h.ne⟩
theorem Dm.drew (h:Dm w d H S n v m held safe P armed fails dead ops):Dm w.drew d H S n v m held safe P armed fails dead ops:=⟨h.blk,h.hh,h.ss,h.own,h.ne⟩
theorem Dm.drewN (h:Dm w d H S n v m held safe P armed fails dead ops) (k:Nat):Dm (w.drewN k) d H S n v m held safe P armed fails dead ops:=⟨h.blk,h.hh,h.ss,h.own,h.ne⟩
theorem Dm.alloc (h:Dm w d H S n v m held safe P armed fails dead ops) (o:Obj):Dm (w.alloc o) d H S n v m held safe P armed fails dead ops:=h.below ((Below.refl _ _).alloc (nR _) o)
theorem Dm.armed_ (h:Dm w d H S n v m held safe P armed fails dead ops) (x:Int):Dm (w.setCell ⟨d,3,none⟩ (.int .i64 x)) d H S n v m held safe P x fails dead ops :=
 ⟨h.blk.set_ 3 _,z8.far h.hh (p:=⟨d,3,none⟩) h.dH.symm _,z8.far h.ss (p:=⟨d,3,none⟩) h.dS.symm _,uQ h.own h.vd _ _,h.ne⟩
theorem Dm.fails_ (h:Dm w d H S n v m held safe P armed fails dead ops) (x:Int):Dm (w.setCell ⟨d,4,none⟩ (.int .i64 x)) d H S n v m held safe P armed x dead ops :=
 ⟨h.blk.set_ 4 _,z8.far h.hh (p:=⟨d,4,none⟩) h.dH.symm _,z8.far h.ss (p:=⟨d,4,none⟩) h.dS.symm _,uQ h.own h.vd _ _,h.ne⟩
theorem Dm.dead_ (h:Dm w d H S n v m held safe P armed fails dead ops) (x:Bool):Dm (w.setCell ⟨d,5,none⟩ (.bool x)) d H S n v m held safe P armed fails x ops :=
 ⟨h.blk.set_ 5 _,z8.far h.hh (p:=⟨d,5,none⟩) h.dH.symm _,z8.far h.ss (p:=⟨d,5,none⟩) h.dS.symm _,uQ h.own h.vd _ _,h.ne⟩
theorem Dm.ops_ (h:Dm w d H S n v m held safe P armed fails dead ops) (x:Int):Dm (w.setCell ⟨d,6,none⟩ (.int .i64 x)) d H S n v m held safe P armed fails dead x :=
 ⟨h.blk.set_ 6 _,z8.far h.hh (p:=⟨d,6,none⟩) h.dH.symm _,z8.far h.ss (p:=⟨d,6,none⟩) h.dS.symm _,uQ h.own h.vd _ _,h.ne⟩
theorem Dm.held_ (h:Dm w d H S n v m held safe P armed fails dead ops) (F:List Int):Dm (w.setRow H (zA F)) d H S n v m F safe P armed fails dead ops:=by
 have hk:Kept (fun b=>b≠H) w (w.setRow H (zA F)):=(Kept.refl _ w).setRow (fun h=>h rfl) _
 exact ⟨h.blk.kept hk h.dH,h.hh.setRow F,qF.kept h.ss hk h.ne.symm,own_kept h.own hk (fun g hg e=>h.vH (by rw[hg,e])),h.ne⟩
theorem Dm.safe_ (h:Dm w d H S n v m held safe P armed fails dead ops) (F:List Int):Dm (w.setRow S (zA F)) d H S n v m held F P armed fails dead ops:=by
 have hk:Kept (fun b=>b≠S) w (w.setRow S (zA F)):=(Kept.refl _ w).setRow (fun h=>h rfl) _
 exact ⟨h.blk.kept hk h.dS,qF.kept h.hh hk h.ne,h.ss.setRow F,own_kept h.own hk (fun g hg e=>h.vS (by rw[hg,e])),h.ne⟩
theorem Dm.pend_ (h:Dm w d H S n v m held safe P armed fails dead ops) {v':Value} {m':Nat} {P':List Value} (ho:w.ownsRow 0 250 65 v' m' P'):Dm (w.setCell ⟨d,2,none⟩ v') d H S n v' m' held safe P' armed fails dead ops :=
 ⟨h.blk.set_ 2 _,z8.far h.hh (p:=⟨d,2,none⟩) h.dH.symm _,z8.far h.ss (p:=⟨d,2,none⟩) h.dS.symm _,uQ ho (yT ho h.blk (by decide)) _ _,h.ne⟩
theorem Dm.regrow (h:Dm w d H S n v m held safe P armed fails dead ops) {v':Value} {m':Nat} {P':List Value} (hg:w.grownBy w' v.ownBlock) (ho:w'.ownsRow 0 250 65 v' m' P'):Dm (w'.setCell ⟨d,2,none⟩ v') d H S n v' m' held safe P' armed fails dead ops:=by
 have h1:=h.blk.grown hg (fun e=>h.vd e.symm)
 have h2:=z8.grown h.hh hg (fun e=>h.vH e.symm)
 have h3:=z8.grown h.ss hg (fun e=>h.vS e.symm)
 exact ⟨h1.set_ 2 _,z8.far h2 (p:=⟨d,2,none⟩) h.dH.symm _,z8.far h3 (p:=⟨d,2,none⟩) h.dS.symm _,uQ ho (yT ho h1 (by decide)) _ _,h.ne⟩
end
theorem Uj {w w':World} {b off:Nat} (h:w'.heap[b]? = w.heap[b]?):w'.cell? ⟨b,off,none⟩=w.cell? ⟨b,off,none⟩:=by
 unfold World.cell?
 rw[h]
theorem Xo {w:World} {b off:Nat} {v:Value} (h:w.cell? ⟨b,off,none⟩=some v):b<w.heap.size:=by
 rcases Nat.lt_or_ge b w.heap.size with hlt | hge
 ·exact hlt
 ·simp[World.cell?,Array.getElem?_eq_none hge] at h
theorem mo {w:World} (o:Obj) {b off:Nat} {v:Value} (h:w.cell? ⟨b,off,none⟩=some v):(w.alloc o).cell? ⟨b,off,none⟩=some v :=
 (World.cell?_alloc_lt w o ⟨b,off,none⟩ (Xo h)).trans h
theorem FQ {w:World} (o:Obj) {b off:Nat} {cs:List Value} (h:w.rangeAt b off cs):(w.alloc o).rangeAt b off cs:=fun j v hv=>mo o (h j v hv)
theorem cell_grown {w w':World} {row:Option Nat} (hg:w.grownBy w' row) {b off:Nat} {v:Value} (h:w.cell? ⟨b,off,none⟩=some v) (hr:row≠some b):w'.cell? ⟨b,off,none⟩=some v :=
 (Uj (hg.block b (Xo h) (fun e=>hr e.symm))).trans h
theorem FP {w w':World} {row:Option Nat} (hg:w.grownBy w' row) {b off:Nat} {cs:List Value} (h:w.rangeAt b off cs) (hr:row≠some b):w'.rangeAt b off cs:=fun j v hv=>cell_grown hg (h j v hv) hr
end
section
theorem Bw {α:Type} (H zs cs:List α) (k:Nat) (z:α) (h:zs=H++List.replicate k z) (hk:cs.length≤k):splice zs H.length cs=H++cs++List.replicate (k-cs.length) z:=by
 subst h
 unfold splice
 rw[List.take_left,List.drop_append,List.drop_eq_nil_of_le (by omega),List.nil_append,List.drop_replicate,show k-(H.length+cs.length-H.length)=k-cs.length by omega,List.append_assoc]
theorem Dv (a b g r v f t:Int) (w:World) (h:wZ a b g r) (hin:lG a b g r v f) (ht:0≤t∧t≤18446744073709551615) :
 Calls Tryz.prog 103 #[.agg (qx a b g r v f t)] w fun e w'=>e=.returned (.tuple #[.agg (zA (wT a b g r v f t)),.int .i64 0])∧Below w.heap.size w w':=by
 have zAQ:=hI (show decide (wZ a b g r)=true from decide_eq_true h)
 have hwa:IntKind.u16.wrap a=a:=by rw[IntKind.wrap_u16]; have:=h.1; have:=h.2.1; omega
 have hwb:IntKind.u16.wrap b=b:=by rw[IntKind.wrap_u16]; have:=h.2.2.1; have:=h.2.2.2.1; omega
 have gN:=hI h
 have yR:=hI hin
 have HTT:=hI ht
 clear h hin ht
 go_enter Tryz.func103,Tryz.ntmps103
 go_upto_region 1 with (refine zG rfl rfl ?_)
 have HT2:=hI (show z8 ((w.alloc (.cells (qx a b g r v f t) 184)).alloc (.cells (zA (noughts 64)) 186)) w.heap.size 184 (qx a b g r v f t) from (z8.new w _ _).alloc _)
 have HR2:=hI (show qB ((w.alloc (.cells (qx a b g r v f t) 184)).alloc (.cells (zA (noughts 64)) 186)) (w.heap.size+1) (noughts 64) from zY w _ _ _)
 have HB2:=hI (show Below w.heap.size w ((w.alloc (.cells (qx a b g r v f t) 184)).alloc (.cells (zA (noughts 64)) 186)) from ((Below.refl _ _).alloc (nR _) _).alloc (by simp) _)
 generalize hw2:((w.alloc (.cells (qx a b g r v f t) 184)).alloc (.cells (zA (noughts 64)) 186))=w2 at *
 clear hw2
 go_upto_region 2 with (refine zG rfl rfl ?_)
 have HT3:=hI (HT2.out.alloc (.cells (zA (noughts 64)) 186))
 have HR3:=hI (show qB _ (w.heap.size+1) (noughts 64) from z8.alloc HR2.out (.cells (zA (noughts 64)) 186))
 have wO:=hI (show qB (w2.alloc (.cells (zA (noughts 64)) 186)) w2.heap.size (noughts 64) from z8.new w2 _ _)
 have HB3:=hI (HB2.out.alloc HB2.out.size (.cells (zA (noughts 64)) 186))
 have HZ2:=hI (show w.heap.size+1<w2.heap.size from HR2.out.lt)
 generalize hw3:w2.alloc (.cells (zA (noughts 64)) 186)=w3 at *
 clear hw3
 obtain ⟨c0,c1,c2,c3,c4,c5,c6⟩:_∧_∧_∧_∧_∧_∧_:=⟨HT3.out.cell 0,HT3.out.cell 1,HT3.out.cell 2,HT3.out.cell 3,HT3.out.cell 4,HT3.out.cell 5,HT3.out.cell 6⟩
 simp only[List.getElem?_toArray,List.getElem?_cons_zero,List.getElem?_cons_succ] at c0 c1 c2 c3 c4 c5 c6
 go_wp2_with fail
 refine (zCk a b g r v f _).mono ?_
 rintro e w4 ⟨rfl,hb⟩
 rw[zAQ.out]
 have zq:=hI (show Below w3.heap.size w3 w4 from hb)
 clear hb c0 c1 c2 c3 c4 c5 c6
 have hc1:=Go.Lib.run_convert_bytes_const (P:=Tryz.prog) w4 31 5 #[.int .u8 105,.int .u8 99,.int .u8 101,.int .u8 104,.int .u8 111,.int .u8 117,.int .u8 115,.int .u8 101] 8 8 Tryz.underlying31 Tryz.underlying5
 simp only[List.size_toArray,List.length_cons,List.length_nil,Nat.zero_add,Nat.reduceAdd] at hc1
 have ht6:(w4.alloc (.cells #[.int .u8 105,.int .u8 99,.int .u8 101,.int .u8 104,.int .u8 111,.int .u8 117,.int .u8 115,.int .u8 101] 5 (8,9))).cell? ⟨w.heap.size,6,none⟩=some (.int .u64 t):=mo _ ((HT3.out.below zq.out HT3.out.lt).cell 6)
 go_wp2_with fail
 clear hc1 ht6
 have HI5:=hI (show zW .u8 (w4.alloc (.cells #[.int .u8 105,.int .u8 99,.int .u8 101,.int .u8 104,.int .u8 111,.int .u8 117,.int .u8 115,.int .u8 101] 5 (8,9))) (·=w4.heap.size) (some ⟨w4.heap.size,0,none⟩) 8 yu from KA w4 yu (8,9) 8 rfl rfl)
 have qM:=hI (show Below w3.heap.size w3 (w4.alloc (.cells #[.int .u8 105,.int .u8 99,.int .u8 101,.int .u8 104,.int .u8 111,.int .u8 117,.int .u8 115,.int .u8 101] 5 (8,9))) from zq.out.alloc zq.out.size _)
 have xK:=hI (show w4.heap.size<(w4.alloc (.cells #[.int .u8 105,.int .u8 99,.int .u8 101,.int .u8 104,.int .u8 111,.int .u8 117,.int .u8 115,.int .u8 101] 5 (8,9))).heap.size by simp)
 generalize jH:w4.alloc (.cells #[.int .u8 105,.int .u8 99,.int .u8 101,.int .u8 104,.int .u8 111,.int .u8 117,.int .u8 115,.int .u8 101] 5 (8,9))=w5 at *
 clear jH
 refine (wN (some ⟨w4.heap.size,0,none⟩) 8 8 (yu) (·=w4.heap.size) t _ HI5.out (fun b h=>by rw[h]; exact xK.out) (by omega) HTT.out.1 HTT.out.2).mono ?_
 rintro e w6 ⟨rfl,ha,hb⟩
 have gU:=hI (show zn w6 w5.heap.size (yu++beBytes t 8) from ha)
 have qK:=hI (qM.out.trans (hb.mono qM.out.size))
 clear ha hb
 have hc:w6.cell? ⟨w.heap.size,0,none⟩=some (.int .i64 a):=(HT3.out.below qK.out HT3.out.lt).cell 0
 go_wp2_with fail
 clear hc
 refine (fP (some ⟨w5.heap.size,0,none⟩) 16 16 (yu++beBytes t 8) (·=w5.heap.size) a _ (gU.out.rowN 0 (by simp[yu,beBytes_length]) rfl) (fun b h=>by rw[h]; exact gU.out.lt) (by omega) (by have:=gN.out.1; omega) (by have:=gN.out.2.1; omega)).mono ?_
 rintro e w7 ⟨rfl,ha,hb⟩
 have HA7:=hI (show zn w7 w6.heap.size (yu++beBytes t 8++beBytes a 2) from ha)
 have kN:=hI (qK.out.trans (hb.mono qK.out.size))
 clear ha hb
 have hc:w7.cell? ⟨w.heap.size,1,none⟩=some (.int .i64 b):=(HT3.out.below kN.out HT3.out.lt).cell 1
 go_wp2_with fail
 clear hc
 refine (fP (some ⟨w6.heap.size,0,none⟩) 18 18 (yu++beBytes t 8++beBytes a 2) (·=w6.heap.size) b _ (HA7.out.rowN 0 (by simp[yu,beBytes_length]) rfl) (fun b h=>by rw[h]; exact HA7.out.lt) (by omega) (by have:=gN.out.2.2.1; omega) (by have:=gN.out.2.2.2.1; omega)).mono ?_
 rintro e w8 ⟨rfl,ha,hb⟩
 have VO:=hI (show zn w8 w7.heap.size (yu++beBytes t 8++beBytes a 2++beBytes b 2) from ha)
 have yj:=hI (kN.out.trans (hb.mono kN.out.size))
 clear ha hb
 have hc:w8.cell? ⟨w.heap.size,2,none⟩=some (.int .u64 g):=(HT3.out.below yj.out HT3.out.lt).cell 2
 go_wp2_with fail
 clear hc
 refine (wN (some ⟨w7.heap.size,0,none⟩) 20 20 (yu++beBytes t 8++beBytes a 2++beBytes b 2) (·=w7.heap.size) g _ (VO.out.rowN 0 (by simp[yu,beBytes_length]) rfl) (fun b h=>by rw[h]; exact VO.out.lt) (by omega) yR.out.2.2.2.2.1 yR.out.2.2.2.2.2.1).mono ?_
 rintro e w9 ⟨rfl,ha,hb⟩
 have YB:=hI (show zn w9 w8.heap.size (yu++beBytes t 8++beBytes a 2++beBytes b 2++beBytes g 8) from ha)
 have oq:=hI (yj.out.trans (hb.mono yj.out.size))
 clear ha hb
 have hc:w9.cell? ⟨w.heap.size,3,none⟩=some (.int .u64 r):=(HT3.out.below oq.out HT3.out.lt).cell 3
 go_wp2_with fail
 clear hc
 refine (wN (some ⟨w8.heap.size,0,none⟩) 28 28 (yu++beBytes t 8++beBytes a 2++beBytes b 2++beBytes g 8) (·=w8.heap.size) r _ (YB.out.rowN 0 (by simp[yu,beBytes_length]) rfl) (fun b h=>by rw[h]; exact YB.out.lt) (by omega) yR.out.2.2.2.2.2.2.1 yR.out.2.2.2.2.2.2.2.1).mono ?_
 rintro e w10 ⟨rfl,ha,hb⟩
 have iI:=hI (show zn w10 w9.heap.size (yu++beBytes t 8++beBytes a 2++beBytes b 2++beBytes g 8++beBytes r 8) from ha)
 have nJ:=hI (oq.out.trans (hb.mono oq.out.size))
 clear ha hb
 have hc:w10.cell? ⟨w.heap.size,4,none⟩=some (.int .u64 v):=(HT3.out.below nJ.out HT3.out.lt).cell 4
 go_wp2_with fail
 clear hc
 refine (wN (some ⟨w9.heap.size,0,none⟩) 36 36 (yu++beBytes t 8++beBytes a 2++beBytes b 2++beBytes g 8++beBytes r 8) (·=w9.heap.size) v _ (iI.out.rowN 0 (by simp[yu,beBytes_length]) rfl) (fun b h=>by rw[h]; exact iI.out.lt) (by omega) yR.out.2.2.2.2.2.2.2.2.1 yR.out.2.2.2.2.2.2.2.2.2.1).mono ?_
 rintro e w11 ⟨rfl,ha,hb⟩
 have Jj:=hI (show zn w11 w10.heap.size (yu++beBytes t 8++beBytes a 2++beBytes b 2++beBytes g 8++beBytes r 8++beBytes v 8) from ha)
 have WM:=hI (nJ.out.trans (hb.mono nJ.out.size))
 clear ha hb
 have hc:w11.cell? ⟨w.heap.size,5,none⟩=some (.int .u64 f):=(HT3.out.below WM.out HT3.out.lt).cell 5
 go_wp2_with fail
 clear hc
 refine (wN (some ⟨w10.heap.size,0,none⟩) 44 44 (yu++beBytes t 8++beBytes a 2++beBytes b 2++beBytes g 8++beBytes r 8++beBytes v 8) (·=w10.heap.size) f _ (Jj.out.rowN 0 (by simp[yu,beBytes_length]) rfl) (fun b h=>by rw[h]; exact Jj.out.lt) (by omega) yR.out.2.2.2.2.2.2.2.2.2.2.1 yR.out.2.2.2.2.2.2.2.2.2.2.2).mono ?_
 rintro e w12 ⟨rfl,ha,hb⟩
 have WQ:=hI (show zn w12 w11.heap.size (yu++beBytes t 8++beBytes a 2++beBytes b 2++beBytes g 8++beBytes r 8++beBytes v 8++beBytes f 8) from ha)
 have TL:=hI (WM.out.trans (hb.mono WM.out.size))
 clear ha hb
 have Ji:=hI (show zn w12 w11.heap.size (Zw a b g r v f t) from WQ.out)
 clear WQ
 have hbl:=JU a b g r v f t
 have hfe:uI a b g r v f t=Zw a b g r v f t++noughts 4:=rfl
 have hse:wT a b g r v f t=uI a b g r v f t++beBytes (yV start (uI a b g r v f t)) 8:=rfl
 have hfb:=Xi a b g r v f t
 have hfl:=JI a b g r v f t
 have hsl:=eP a b g r v f t
 generalize zBH:wT a b g r v f t=sl at *
 have zNQ:=hI zBH
 clear zBH
 generalize Zw a b g r v f t=bd at *
 generalize hfull:uI a b g r v f t=fl at *
 have hh0:=(H9 fl).1
 have hh1:=(H9 fl).2
 have jv:=hI hse
 have HFB:=hI hfb
 have gP:=hI hfl
 have HSL:=hI hsl
 have zNO:=hI (show qB w12 w2.heap.size (noughts 64) from qF.below wO.out TL.out wO.out.lt)
 have zNq:=hI (show w12.heap[w2.heap.size]? = some (.cells ((noughts 64).map (Value.int .u8)).toArray 186 (0,0)) from zNO.out)
 have mG:=hI (show Below w2.heap.size w3 w12 from TL.out.mono (Nat.le_of_lt wO.out.lt))
 have c1:=hI (show (bd.map (Value.int .u8)).length=Nat.min 52 56 by simp[hbl])
 have c2:=hI (ng (Ji.out.rowN 0 hbl (S:=fun _=>True) trivial) (by omega))
 have c3:=hI (show 0+(bd.map (Value.int .u8)).length≤((noughts 64).map (Value.int .u8)).length by simp[hbl,zC])
 have d1:=hI (show splice ((noughts 64).map (Value.int .u8)) 0 (bd.map (Value.int .u8))=(fl++noughts 8).map (Value.int .u8) by
  rw[eT _ _ 12 (Value.int .u8 0) (by simp[noughts,hbl]),hfe]
  simp[noughts])
 clear hse hfb hfl hsl hfe hbl hfull
 go_wp2_with (first | (refine wpList_copy_splice rfl (.tmp 48) (.tmp 49) 31 31 rfl 5 Tryz.underlying31 fM _ _ _ _ _ _ rfl rfl w2.heap.size 0 ((noughts 64).map (Value.int .u8)) 186 zNq.out (bd.map (Value.int .u8)) c1.out (fun _=>⟨rfl,c2.out⟩) c3.out (uj bd) w2.heap.size w3 mG.out (nR _) ?_; intro w13 IX Zm; rw[d1.out] at IX; have zNp:=hI IX; have wM:=hI Zm; clear IX Zm))
 have F5:=hI (show qB w13 w2.heap.size (fl++noughts 8) from zNp.out.out)
 have HRW:=hI (show Row .u8 w13.drew w13.heap.size (some ⟨w2.heap.size,0,none⟩) 56 fl by
  have h:=(F5.out.rowN 0 (n:=64) (by simp[gP.out,zC]) (S:=fun b=>b<w13.heap.size) F5.out.lt).take 56 (by omega)
  rw[show (fl++noughts 8).take 56=fl by rw[← gP.out]; simp] at h
  exact h)
 have Cg:=hI (show qB w13 (w.heap.size+1) (noughts 64) from qF.below (HR3.out) wM.out HZ2.out)
 have tC:=hI (show Below w.heap.size w w13 from HB3.out.trans (wM.out.mono (by have:=HZ2.out; omega)))
 have zNL:=hI (show w2.heap.size<w13.heap.size from F5.out.lt)
 have e1:=hI (show ((beBytes (yV start fl) 8).map (Value.int .u8)).length=Nat.min 8 8 by simp[beBytes_length])
 have e3:=hI (show 56+((beBytes (yV start fl) 8).map (Value.int .u8)).length≤((fl++noughts 8).map (Value.int .u8)).length by simp[beBytes_length,zC,gP.out])
 have d2:=hI (show splice ((fl++noughts 8).map (Value.int .u8)) 56 ((beBytes (yV start fl) 8).map (Value.int .u8))=sl.map (Value.int .u8) by
  have:=Bw (fl.map (Value.int .u8)) ((fl++noughts 8).map (Value.int .u8)) ((beBytes (yV start fl) 8).map (Value.int .u8)) 8 (.int .u8 0) (by simp[noughts]) (by simp[beBytes_length])
  rw[List.length_map,gP.out] at this
  rw[this,jv.out]
  simp[beBytes_length])
 clear c1 c2 c3 d1
 go_region_held3 (fun W=>True) (exact trivial)
  (first
    | (go_at_call 80; refine (Ye (some ⟨w2.heap.size,0,none⟩) 56 64 fl w13.heap.size _ HRW.out HFB.out (by omega)).mono ?_; rintro e w' ⟨rfl,rfl⟩)
    | (go_at_call 153; refine (wN none 0 0 [] (fun _=>False) (yV start fl) _ (xD.nil _ _ _ _ _) (fun _ h=>h.elim) (by omega) hh0 hh1).mono ?_; rintro e w14 ⟨rfl,ha,hb⟩; have zOI:=hI (show zn w14 w13.heap.size (beBytes (yV start fl) 8) from ha); have zAh:=hI (show Below w13.heap.size w13 w14 from (Below.refl _ _).drew.trans hb); have zNo:=hI (show w14.heap[w2.heap.size]? = some (.cells ((fl++noughts 8).map (Value.int .u8)).toArray 186 (0,0)) from z8.below F5.out (w':=w14) (Below.trans (Below.refl _ _).drew hb) F5.out.lt); have e2:=hI (ng (zOI.out.rowN 0 (n:=8) (beBytes_length _ _) (S:=fun _=>True) trivial) (by omega)); clear ha hb)
    | (refine step_copy_splice rfl (.tmp 51) (.tmp 54) 31 31 rfl 5 Tryz.underlying31 fM _ _ _ _ _ _ rfl rfl w2.heap.size 56 ((fl++noughts 8).map (Value.int .u8)) 186 zNo.out ((beBytes (yV start fl) 8).map (Value.int .u8)) e1.out (fun _=>⟨rfl,e2.out⟩) e3.out (uj _) w2.heap.size w13 (zAh.out.mono (Nat.le_of_lt zNL.out)) (nR _) ?_; intro w15 IW zGs; rw[d2.out] at IW; have zOH:=hI (show qB w15 w2.heap.size sl from IW.out); have TK:=hI zGs; clear IW zGs))
 all_goals
  clear e1 e3 d2
  have zIV:=hI (show qB w15 (w.heap.size+1) (noughts 64) from qF.below Cg.out TK.out HZ2.out)
  go_wp2_with (first
   | (refine zQ (.tmp 4) rfl rfl w2.heap.size 0 rfl sl HSL.out zOH.out.range ?_)
   | (refine jM (.tmp 2) (.tmp 56) rfl rfl (w.heap.size+1) sl rfl rfl 186 (noughts 64) zIV.out (zC 64) HSL.out ?_)
   | (with_reducible refine zJ ?_))
  exact Halt.ret (x9 (p:=2) (u:=3) rfl _ _ (w.heap.size+1) 186 sl rfl (zIV.out.setRow sl) HSL.out) rfl ⟨by rw[zNQ.out]; rfl,below_setRow (tC.out.trans (TK.out.mono (by have:=HZ2.out; omega))) (by omega) _⟩
end
section
section
variable {w:World} {d H S n:Nat} {v:Value} {m:Nat} {held safe:List Int} {P:List Value} {armed fails:Int} {dead:Bool} {ops:Int}
theorem sF (h:Dm w d H S n v m held safe P armed fails dead ops) :
 Calls Tryz.prog 159 #[.pointer (some ⟨d,0,none⟩)] w fun e w'=>e=.returned (.int .i64 (if dead then 7 else 0))∧w=w':=by
 obtain ⟨c0,c1,c2,c3,c4,c5,c6⟩:=h.cell
 clear h
 cases dead
 all_goals
  go_enter Tryz.func159,Tryz.ntmps159
  go_wp2
  go_ret
  exact ⟨rfl,rfl⟩
theorem zCv (h:Dm w d H S n v m held safe P armed fails dead ops) :
 Calls Tryz.prog 155 #[.pointer (some ⟨d,0,none⟩)] w fun e w'=>e=.returned (.int .i64 n)∧w=w':=by
 obtain ⟨c0,c1,c2,c3,c4,c5,c6⟩:=h.cell
 clear h
 go_enter Tryz.func155,Tryz.ntmps155
 go_wp2
 go_ret
 exact ⟨rfl,rfl⟩
theorem fA (h:Dm w d H S n v m held safe P armed fails dead ops) (i:Nat) (hi:i<n) :
 Calls Tryz.prog 157 #[.pointer (some ⟨d,0,none⟩),.int .i64 i] w fun e w'=>e=.returned (.int .i64 (if dead then 7 else 0))∧w=w':=by
 have HH:=hI h
 obtain ⟨c0,c1,c2,c3,c4,c5,c6⟩:=h.cell
 clear h
 have h1:decide ((i:Int)<0)=false:=by simp
 have h2:decide ((n:Int)≤(i:Int))=false:=by simp; omega
 cases dead
 all_goals
  go_enter Tryz.func157,Tryz.ntmps157
  go_wp2_with (go_at_call 159; refine (sF HH.out).mono ?_; rintro e w' ⟨rfl,rfl⟩; simp only[Bool.false_eq_true,if_false,if_true])
  go_ret
  exact ⟨rfl,rfl⟩
def struck (c:Int):Int:=if c<0 then c else c-1
theorem XJ (w:World) (g i:Nat) (c:Int) (h0:-9223372036854775808≤c) (h1:c≤9223372036854775807) (hc:w.cell? ⟨g,i,none⟩=some (.int .i64 c)) (hf:w.frozen? ⟨g,i,none⟩=false) :
 Calls Tryz.prog 199 #[.pointer (some ⟨g,i,none⟩)] w fun e w'=>e=.returned (.bool (decide (c=0)))∧(w'=if c<0 then w else w.setCell ⟨g,i,none⟩ (.int .i64 (c-1))):=by
 by_cases hneg:c<0
 ·go_enter Tryz.func199,Tryz.ntmps199
  go_wp2
  go_ret
  refine ⟨bV (by simp; omega),rfl⟩
 ·have e1:IntKind.i64.wrap (c-1)=c-1:=IntWalk.i64_in _ ⟨by omega,by omega⟩
  have hcell2:(w.setCell ⟨g,i,none⟩ (.int .i64 (c-1))).cell? ⟨g,i,none⟩=some (.int .i64 (c-1)):=World.cell?_setCell_same _ _ _ hc
  go_enter Tryz.func199,Tryz.ntmps199
  go_wp2
  go_ret
  refine ⟨bV (by simp; omega),rfl⟩
theorem fT (h:Dm w d H S n v m held safe P armed fails dead ops) (h0:-9223372036854775808≤fails) (h1:fails≤9223372036854775807) :
 Calls Tryz.prog 199 #[.pointer (some ⟨d,4,none⟩)] w fun e w'=>e=.returned (.bool (decide (fails=0)))∧Dm w' d H S n v m held safe P armed (struck fails) dead ops∧Kept (fun b=>b≠d) w w':=by
 refine (XJ w d 4 fails h0 h1 h.cell.2.2.2.2.1 (h.frozen 4)).mono ?_
 rintro e w' ⟨rfl,rfl⟩
 unfold struck
 split
 ·exact ⟨rfl,h,Kept.refl _ _⟩
 ·exact ⟨rfl,h.fails_ _,(Kept.refl _ _).setCell (fun h=>h rfl) _⟩
theorem JW (h:Dm w d H S n v m held safe P armed fails dead ops) (h0:-9223372036854775808≤armed) (h1:armed≤9223372036854775807) :
 Calls Tryz.prog 199 #[.pointer (some ⟨d,3,none⟩)] w fun e w'=>e=.returned (.bool (decide (armed=0)))∧Dm w' d H S n v m held safe P (struck armed) fails dead ops∧Kept (fun b=>b≠d) w w':=by
 refine (XJ w d 3 armed h0 h1 h.cell.2.2.2.1 (h.frozen 3)).mono ?_
 rintro e w' ⟨rfl,rfl⟩
 unfold struck
 split
 ·exact ⟨rfl,h,Kept.refl _ _⟩
 ·exact ⟨rfl,h.armed_ _,(Kept.refl _ _).setCell (fun h=>h rfl) _⟩
end
end
section
theorem Yf (pl:Nat→Option (Nat × Nat)) (i off n:Nat) (hp:pl i=some (off,n)) (v:Value) (hv:v.cells.size=n) (cells:Array Value) (hfit:off+n≤cells.size) (rest:List (Nat × Value)) :
 ∃ r,Instr.fill pl cells ((i,v)::rest)=Instr.fill pl r rest∧r.size=cells.size∧∀ k,r[k]? = if off≤k∧k<off+n then v.cells[k-off]? else cells[k]? := by
 have g:=Great.foldl_set off v.cells.toList 0 cells
 refine ⟨(v.cells.toList.zipIdx 0).foldl (fun cs (x:Value × Nat)=>cs.setIfInBounds (off+x.2) x.1) cells,?_,g.1,fun k=>?_⟩
 ·conv=>lhs; unfold Instr.fill
  simp only[hp,hv]
  have hno:(decide (n≠n)||decide (off+n>cells.size))=false:=by simp; omega
  simp only[ne_eq,not_true_eq_false,decide_false,Bool.false_or,decide_eq_true_eq]
  rw[if_neg (by omega)]
  congr 1
  rw[← Array.foldl_toList,Array.toList_zipIdx]
 ·rw[g.2 k]
  simp only[Nat.add_zero,Array.length_toList,hv]
  by_cases h:off≤k∧k<off+n
  ·rw[if_pos ⟨h.1,h.2,by omega⟩,if_pos h]
   simp
  ·rw[if_neg (by omega),if_neg h]
theorem Io (x:Value) (hx:x.cells=#[x]) (n:Nat) (z:Value) (zs:Array Value) (hz:zs.size=n) (cs:List Value) (hl:cs.length=n) :
 Instr.fill ((#[(0,1),(1,n)]:Array (Nat × Nat))[·]?) (#[z]++zs) [(0,x),(1,.agg cs.toArray)]=some (x::cs).toArray:=by
 obtain ⟨r,h1,h2,h3⟩:=Yf ((#[(0,1),(1,n)]:Array (Nat × Nat))[·]?) 0 0 1 rfl x (by rw[hx]; rfl) (#[z]++zs) (by simp) [(1,.agg cs.toArray)]
 obtain ⟨q,k1,k2,k3⟩:=Yf ((#[(0,1),(1,n)]:Array (Nat × Nat))[·]?) 1 1 n rfl (.agg cs.toArray) (by simp[Value.cells,hl]) r (by rw[h2]; simp; omega) []
 rw[h1,k1]
 conv=>lhs; unfold Instr.fill
 congr 1
 apply Array.ext_getElem?
 intro k
 rw[k3 k,h3 k]
 rw[show (Value.agg cs.toArray).cells=cs.toArray from rfl,hx]
 simp only[List.getElem?_toArray]
 rcases Nat.eq_zero_or_pos k with rfl | hk
 ·simp
 ·obtain ⟨j,rfl⟩:∃ j,k=j+1:=⟨k-1,by omega⟩
  rw[if_neg (show ¬ (0≤j+1∧j+1<0+1) by omega),List.getElem?_cons_succ]
  by_cases hj:j<n
  ·rw[if_pos (by omega)]
   simp
  ·rw[if_neg (by omega),Array.getElem?_eq_none (by simp; omega),List.getElem?_eq_none (by omega)]
theorem Iz:Tryz.prog.built 250=fun parts=>Instr.fill ((#[(0,1),(1,64)]:Array (Nat × Nat))[·]?) (#[.int .i64 0]++zA (noughts 64)) parts:=by kernel_rfl
theorem Fq (p:Nat × List Int) (hl:p.2.length=64):Tryz.prog.built 250 [(0,.int .i64 p.1),(1,.agg (p.2.map (Value.int .u8)).toArray)]=some (qP p).toArray:=by
 rw[Iz]
 exact Io (.int .i64 p.1) rfl 64 (.int .i64 0) (zA (noughts 64)) (by simp[jI,zC]) (p.2.map (Value.int .u8)) (by simp[hl])
theorem KS:(Tryz.prog.info? 250).map (fun i=>(i.zero,i.size,i.bytes))=some (some (.agg (#[.int .i64 0]++zA (noughts 64))),65,72):=by kernel_rfl
theorem Ip (cs:List Value) (hl:cs.length=65) (z:Array Value) (hz:z.size=65) :
 Instr.fill (fun i=>some (i*65,65)) ((Array.range (1*65)).map (z[· % z.size]!)) [(0,.agg cs.toArray)]=some cs.toArray:=by
 obtain ⟨r,h1,h2,h3⟩:=Yf (fun i=>some (i*65,65)) 0 0 65 rfl (.agg cs.toArray) (by simp[Value.cells,hl]) ((Array.range (1*65)).map (z[· % z.size]!)) (by simp) []
 rw[h1]
 conv=>lhs; unfold Instr.fill
 congr 1
 apply Array.ext_getElem?
 intro k
 rw[h3 k]
 by_cases hk:k<65
 ·rw[if_pos (by omega)]; simp[Value.cells]
 ·rw[if_neg (by omega),Array.getElem?_eq_none (by simp; omega),Array.getElem?_eq_none (by simp; omega)]
end
section
section
variable {w:World} {ops:Array Oper} {rest:List Oper} {o:Oper} {a:Act} {Q:Exit→Act→World→Prop} {K:Act→World→Prop} {E:Prop}
theorem VU (x:Operand) (ho:o.op=.buildSlice 180 1 #[(0,x)]) (hgd:Region.wanted o (yielded ops a.tmps)=true) (cs:List Value) (hx:a.eval x=.agg cs.toArray) (hl:cs.length=65)
 (h:K (a.put o.dst (.slice (some ⟨w.heap.size,0,none⟩) 1 1)) (w.alloc (.cells cs.toArray 250))):if Region.wanted o (yielded ops a.tmps)=true then Oper.wp Tryz.prog o a w K Q else E:=by
 rw[if_pos hgd]
 obtain ⟨i0,hi,hz0,hz1,hz2⟩:=info_parts KS
 refine wp_buildSlice 180 250 1 #[(0,x)] ho cs.toArray i0 _ Tryz.underlying180 hi hz0 (by rw[hz1]; decide) (by rw[hz1]; decide) ?_ h
 rw[hz1]
 have e:(Array.map (fun (p:Nat × Operand)=>(p.1,a.eval p.2)) #[(0,x)]).toList=[(0,.agg cs.toArray)]:=by simp[hx]
 exact (congrArg _ e).trans (Ip cs hl _ (by simp[Value.cells,jI,zC]))
theorem XH (s x:Operand) (ho:o.op=.call { callee:=.builtin .append,args:=#[s,x],argTypes:=#[180,180] }) (hgd:Region.wanted o (yielded ops a.tmps)=true)
 (base:Nat) (v:Value) (m:Nat) (P:List Value) (hs:a.eval s=v) (hown:w.ownsRow base 250 65 v m P) (g:Nat) (cs:List Value) (hx:a.eval x=.slice (some ⟨g,0,none⟩) 1 1) (hg:z8 w g 250 cs.toArray) (hl:cs.length=65) (hone:∀ v∈cs,v.oneCell'=true)
 (hm:m≤1000000) (hbase:base≤w.heap.size)
 (h:∀ v' w',w'.ownsRow base 250 65 v' (m+1) (P++cs)→w.grownBy w' v.ownBlock→(v'.ownBlock=v.ownBlock∨v'.ownBlock=some w.heap.size)→K (a.put o.dst v') w') :
 if Region.wanted o (yielded ops a.tmps)=true then Oper.wp Tryz.prog o a w K Q else E:=by
 obtain ⟨i0,hi,hz0,hz1,hz2⟩:=info_parts KS
 obtain ⟨v',w',hrun,h2,h3,_,h4⟩:=run_append_own_at (P:=Tryz.prog) w base 180 o.type 250 i0 _ 65 72 Tryz.underlying180 hi hz0 hz1 hz2 (by simp[Value.cells,jI,zC]) (by omega) v m P hown ⟨g,0,none⟩ 1 1 cs (by rw[hl])
  (fun j u hu=>by rw[add_plain,Nat.zero_add,hg.cell j]; simpa using hu) hone (by unfold maxLen; omega) (by omega) hbase
 rw[if_pos hgd]
 unfold Oper.wp execOp
 simp only[ho,resolve,invoke,builtin,Sem.run_bind,Sem.run_pure,Result.andThen_ok,List.map_toArray,List.map_cons,List.map_nil,hs,hx,hrun]
 exact h v' w' h2 h3 h4
end
theorem Fe {L:List (List Int)} (h:qY L) (k:Nat) (hk:k<L.length) (ys:List Int) (hy:ys.length=64):(flat L).take (k*64)++ys++(flat L).drop (k*64+64)=flat (L.set k ys):=by
 have hc:=YU k hk
 have hl:=jl (h.take k)
 have hg:=h.get k hk
 rw[List.length_take,Nat.min_eq_left (by omega)] at hl
 have e:L.set k ys=L.take k++[ys]++L.drop (k+1):=by
  rw[List.set_eq_take_append_cons_drop,if_pos hk,List.append_assoc,List.singleton_append]
 rw[e]
 conv=>lhs; rw[hc]
 rw[jm,jm,yJ,jm,jm,yJ]
 generalize L.getD k []=zs at *
 generalize flat (L.take k)=us at *
 generalize flat (L.drop (k+1))=vs at *
 rw[List.append_assoc us zs vs,List.take_append,List.take_of_length_le (by omega),List.drop_append,hl]
 simp[show k*64+64-k*64=64 by omega,hl,hg,List.drop_append]
theorem ZI {P:Program} {w:World} {g:Nat} {t:TypeId} {L:List (List Int)} (h:qF (Value.int .u8) w g t (flat L)) (hs:qY L) (k:Nat) (hk:k<L.length) {ys:List Int} (hy:ys.length=64) :
 w.setCells g (k*64) (ys.map (Value.int .u8))=w.setRow g (zA (flat (L.set k ys))):=by
 have hf:=jl hs
 have e:=Qu (P:=P) (w:=w) (F:=(flat L).map (Value.int .u8)) h (k*64) (ys.map (Value.int .u8)) (KN ys) (by simp[hy,hf]; omega)
 rw[e,← Fe hs k hk ys hy]
 simp[zA,hy,List.map_take,List.map_drop]
abbrev wr0:Oper:=⟨some 10,.load 25 (.tmp 1),25,"disk.go:75",#[],none⟩
abbrev wr1:Oper:=⟨some 11,.load 25 (.tmp 1),25,"disk.go:75",#[],none⟩
abbrev wr2:Oper:=⟨some 12,.nilCheck (.tmp 11),0,"disk.go:75",#[⟨1,.data⟩],none⟩
abbrev wr3:Oper:=⟨some 13,.fieldAddr 182 (.tmp 12) 2,0,"disk.go:75",#[⟨2,.data⟩],none⟩
abbrev wr4:Oper:=⟨some 14,.load 180 (.tmp 13),180,"disk.go:75",#[⟨3,.data⟩],none⟩
abbrev wr5:Oper:=⟨some 15,.load 3 (.tmp 2),3,"disk.go:75",#[],none⟩
abbrev wr6:Oper:=⟨some 16,.load 186 (.tmp 0),186,"disk.go:75",#[],none⟩
abbrev wr7:Oper:=⟨some 17,.build 250 #[(0,.tmp 15),(1,.tmp 16)],250,"disk.go:75",#[⟨5,.data⟩,⟨6,.data⟩],none⟩
abbrev wr8:Oper:=⟨some 18,.buildSlice 180 1 #[(0,.tmp 17)],180,"disk.go:75",#[⟨7,.data⟩],none⟩
abbrev wr9:Oper:=⟨some 19,.call { callee:=.builtin Go.Builtin.append,args:=#[.tmp 14,.tmp 18],argTypes:=#[180,180] },180,"disk.go:75",#[⟨4,.data⟩,⟨8,.data⟩],none⟩
abbrev Oi:Oper:=⟨some 20,.nilCheck (.tmp 10),0,"disk.go:75",#[⟨0,.data⟩,⟨0,.phase⟩,⟨1,.phase⟩,⟨2,.phase⟩,⟨3,.phase⟩,⟨4,.phase⟩,⟨5,.phase⟩,⟨6,.phase⟩,⟨7,.phase⟩,⟨8,.phase⟩,⟨9,.phase⟩],none⟩
abbrev Oh:Oper:=⟨some 21,.fieldAddr 182 (.tmp 20) 2,0,"disk.go:75",#[⟨10,.data⟩,⟨0,.phase⟩,⟨1,.phase⟩,⟨2,.phase⟩,⟨3,.phase⟩,⟨4,.phase⟩,⟨5,.phase⟩,⟨6,.phase⟩,⟨7,.phase⟩,⟨8,.phase⟩,⟨9,.phase⟩],none⟩
abbrev zDV:Oper:=⟨none,.store 180 (.tmp 21) (.tmp 19),0,"disk.go:75",#[⟨11,.data⟩,⟨9,.data⟩,⟨9,.chain⟩,⟨0,.phase⟩,⟨1,.phase⟩,⟨2,.phase⟩,⟨3,.phase⟩,⟨4,.phase⟩,⟨5,.phase⟩,⟨6,.phase⟩,⟨7,.phase⟩,⟨8,.phase⟩,⟨9,.phase⟩],none⟩
section
variable {w:World} {d H S n:Nat} {v:Value} {m:Nat} {held safe:List Int} {P:List Value} {armed fails:Int} {dead:Bool} {ops:Int}
def zDR (w:World) (d H S n:Nat) (v:Value) (m:Nat) (held safe:List Int) (P:List Value) (armed fails:Int) (dead:Bool) (ops:Int) (w':World):Prop :=
 ∃ v',Dm w' d H S n v' m held safe P armed fails dead ops∧(∀ g,v'.ownBlock=some g→v.ownBlock=some g∨w.heap.size≤g)∧Kept (fun b=>b<w.heap.size∧b≠d∧b≠H∧v.ownBlock≠some b) w w'
theorem NT (h:Dm w d H S n v m held safe P armed fails dead ops) (xss:List (List Int)) (hs:qY xss) (hh:held=flat xss) (hn:xss.length=n) (hn2:n≤2048) (i:Nat) (hi:i<n) (gd gi gb:Nat) (ys:List Int) (hy:ys.length=64)
 (hgd:z8 w gd 25 #[.pointer (some ⟨d,0,none⟩)]) (hgi:z8 w gi 3 #[.int .i64 i]) (hgb:qB w gb ys) (hne:gb≠H) (hm:m≤1000000) :
 Calls Tryz.prog 158 #[.pointer (some ⟨gb,0,none⟩),.pointer (some ⟨gd,0,none⟩),.pointer (some ⟨gi,0,none⟩)] w fun e w'=>e=.returned (.tuple #[]) ∧
  zDR w d H S n v (m+1) (flat (xss.set i ys)) safe (P++qP (i,ys)) armed fails dead ops w':=by
 subst hh
 have c0:=h.cell.1
 have cd:=hgd.cell 0
 have ci:=hgi.cell 0
 simp only[List.getElem?_toArray,List.getElem?_cons_zero] at cd ci
 have hu:=Tryz.underlying186
 have hr:=hgb.range
 have hsz:(Tryz.prog.info? 186).map (·.size)=some (ys.map (Value.int .u8)).length:=by rw[vF,List.length_map,hy]
 have hi0:(0:Int)≤(i:Int):=by omega
 have hi1:(i:Int)<(n:Int):=by omega
 have n1:gd≠H:=hgd.ne_ h.hh (by decide)
 have n2:gi≠H:=hgi.ne_ h.hh (by decide)
 have n3:d≠H:=h.dH
 have kd:=fun cs=>yX (w:=w.drew) (g:=H) (o:=i*64) cs cd n1
 have ki:=fun cs=>yX (w:=w.drew) (g:=H) (o:=i*64) cs ci n2
 have k0:=fun cs=>yX (w:=w.drew) (g:=H) (o:=i*64) cs c0 n3
 have kr:=fun cs=>bF (w:=w.drew) (g:=H) (o:=i*64) (cs:=cs) hr hne
 have hone:=KN ys
 have hfl:=jl hs
 have hth:w.drew.there H (i*64) (ys.map (Value.int .u8)).length:=z8.there (w:=w.drew) h.hh (by simp[hfl,hy]; omega)
 have hrow:=ZI (P:=Tryz.prog) (w:=w.drew) (L:=xss) h.hh hs i (by omega) hy
 have xR:=hI hrow
 have HM:=hI h
 have HGD:=hI hgd
 have HGI:=hI hgi
 have BH:=hI hgb
 have HY:=hI hy
 have VE:=hI hne
 clear h hgd hgi hgb hrow hfl hne
 go_enter Tryz.func158,Tryz.ntmps158
 go_wp2
 go_region_held3 (fun W=>W.cell? ⟨gd,0,none⟩=some (.pointer (some ⟨d,0,none⟩))∧W.cell? ⟨gi,0,none⟩=some (.int .i64 i)∧W.cell? ⟨d,0,none⟩=some (.slice (some ⟨H,0,none⟩) n n)∧W.rangeAt gb 0 (ys.map (Value.int .u8)))
  (first | exact ⟨cd,ci,c0,hr⟩ | exact ⟨kd _,ki _,k0 _,kr _⟩)
  (fail)
 clear kd ki k0 kr c0 cd ci hr hth
 rw[xR.out]
 have hk1:Kept (fun b=>b≠H) w (w.drew.setRow H (zA (flat (xss.set i ys)))):=(Kept.refl _ w).drew.setRow (fun h=>h rfl) _
 have yQ:=hI (HM.out.drew.held_ (flat (xss.set i ys)))
 generalize hw1:w.drew.setRow H (zA (flat (xss.set i ys)))=w1 at *
 have hgd1:=HGD.out.kept hk1 n1
 have zMp:=HGI.out.kept hk1 n2
 have zMq:=qF.kept BH.out hk1 VE.out
 have ql:=hI (show w.heap.size=w1.heap.size by rw[← hw1]; simp[World.setRow])
 clear hw1
 have c2:=yQ.out.cell.2.2.1
 have cd:=hgd1.cell 0
 have ci:=zMp.cell 0
 simp only[List.getElem?_toArray,List.getElem?_cons_zero] at cd ci
 have hr:=zMq.range
 have hf2:=yQ.out.frozen 2
 have HB:=hI (Fq (i,ys) HY.out)
 go_wp2
 refine wp_region_noPanic ?_
 refine zB.region (fun W=>W.cell? ⟨gd,0,none⟩=some (.pointer (some ⟨d,0,none⟩))∧W.cell? ⟨gi,0,none⟩=some (.int .i64 i)∧W.cell? ⟨d,2,none⟩=some v∧W.rangeAt gb 0 (ys.map (Value.int .u8))) [12] (by kernel_rfl) ⟨cd,ci,c2,hr⟩ (fun hė=>?_)
 have HMd:=hI yQ.out.drew
 have HSd:=hI (show w.heap.size=w1.drew.heap.size from ql.out)
 have hkd:Kept (fun b=>b≠H) w w1.drew:=hk1.drew
 have Y0:=hI hkd
 generalize w1.drew=u at *
 refine tK 0 wr0 (v:=?_) ?_ hė ?_
 rotate_left
 ·intro W hSW; unfold wr0; go_simp; with_reducible rfl
 simp only[wr0,Act.put,sA,sZ,sS]
 refine tK 1 wr1 (v:=?_) ?_ hė ?_
 rotate_left
 ·intro W hSW; unfold wr1; go_simp; with_reducible rfl
 simp only[wr1,Act.put,sA,sZ,sS]
 refine tK 2 wr2 (v:=?_) ?_ hė ?_
 rotate_left
 ·intro W hSW; unfold wr2; go_simp; with_reducible rfl
 simp only[wr2,Act.put,sA,sZ,sS]
 refine tK 3 wr3 (v:=?_) ?_ hė ?_
 rotate_left
 ·intro W hSW; unfold wr3; go_simp; with_reducible rfl
 simp only[wr3,Act.put,sA,sZ,sS]
 refine tK 4 wr4 (v:=?_) ?_ hė ?_
 rotate_left
 ·intro W hSW; unfold wr4; go_simp; with_reducible rfl
 simp only[wr4,Act.put,sA,sZ,sS]
 refine tK 5 wr5 (v:=?_) ?_ hė ?_
 rotate_left
 ·intro W hSW; unfold wr5; go_simp; with_reducible rfl
 simp only[wr5,Act.put,sA,sZ,sS]
 refine tK 6 wr6 (v:=?_) ?_ hė ?_
 rotate_left
 ·intro W hSW; refine qw (.tmp 0) 186 ?_ gb 0 ?_ (ys.map (Value.int .u8)) _ hu rfl hsz hSW.2.2.2 <;> rfl
 simp only[wr6,Act.put,sA,sZ,sS]
 refine tK 7 wr7 (v:=?_) ?_ hė ?_
 rotate_left
 ·intro W hSW; refine Km 250 #[(0,.tmp 15),(1,.tmp 16)] ?_ [(0,.int .i64 i),(1,.agg (ys.map (Value.int .u8)).toArray)] ?_ _ HB.out <;> first | rfl | simp[Act.eval]
 simp only[wr7,Act.put,sA,sZ,sS]
 refine tO 8 wr8 ?_
 intro K hK
 refine VU (.tmp 17) rfl rfl (qP (i,ys)) rfl (yD _ HY.out) ?_
 simp only[wr8,Act.put,sA,sZ,sS]
 have Px:=hI (HMd.out.alloc (.cells (qP (i,ys)).toArray 250))
 have ay:=hI (z8.new u 250 (qP (i,ys)).toArray)
 have UM:(u.alloc (.cells (qP (i,ys)).toArray 250)).cell? ⟨gd,0,none⟩=some (.pointer (some ⟨d,0,none⟩))∧(u.alloc (.cells (qP (i,ys)).toArray 250)).cell? ⟨gi,0,none⟩=some (.int .i64 i) ∧
  (u.alloc (.cells (qP (i,ys)).toArray 250)).cell? ⟨d,2,none⟩=some v∧(u.alloc (.cells (qP (i,ys)).toArray 250)).rangeAt gb 0 (ys.map (Value.int .u8)) :=
  ⟨mo _ hė.1,mo _ hė.2.1,mo _ hė.2.2.1,FQ _ hė.2.2.2⟩
 have HSe:=hI (show w.heap.size+1=(u.alloc (.cells (qP (i,ys)).toArray 250)).heap.size by have:=HSd.out; simp; omega)
 have BD:=hI (show Kept (fun b=>b<w.heap.size∧b≠H) w (u.alloc (.cells (qP (i,ys)).toArray 250)) from Kept.alloc (Y0.out.mono (S:=fun b=>b<w.heap.size∧b≠H) (fun b h=>h.2)) (fun b h=>by have:=HSd.out; have:=h.1; omega) _)
 have zNm:=hI (z8.alloc (HGD.out.kept Y0.out n1) (.cells (qP (i,ys)).toArray 250))
 have zNl:=hI (z8.alloc (HGI.out.kept Y0.out n2) (.cells (qP (i,ys)).toArray 250))
 have zNn:=hI (z8.alloc (qF.kept BH.out Y0.out VE.out) (.cells (qP (i,ys)).toArray 250))
 have HZ:=hI (show u.heap.size=w.heap.size from HSd.out.symm)
 generalize hu1:u.alloc (.cells (qP (i,ys)).toArray 250)=u1 at *
 refine hU hK rfl _ _ UM (fun hė=>?_)
 clear hK K UM hu1
 refine tO 9 wr9 ?_
 intro K hK
 refine XH (.tmp 14) (.tmp 18) rfl rfl 0 v m P rfl Px.out.own u.heap.size (qP (i,ys)) rfl ay.out (yD _ HY.out) (Yu _) hm (Nat.zero_le _) ?_
 intro v' u2 hown hgrow hblk
 simp only[wr9,Act.put,sA,sZ,sS]
 have HMF:=hI (Px.out.regrow hgrow hown)
 have UL:=And.intro (cell_grown hgrow hė.1 (yT Px.out.own zNm.out (by decide))) (And.intro (cell_grown hgrow hė.2.1 (yT Px.out.own zNl.out (by decide))) (And.intro (cell_grown hgrow hė.2.2.1 Px.out.vd) (FP hgrow hė.2.2.2 (yT Px.out.own zNn.out (by decide)))))
 have hfz:=(Px.out.blk.grown hgrow (fun e=>Px.out.vd e.symm)).frozen 2
 have hvb:∀ g,v'.ownBlock=some g→v.ownBlock=some g∨w.heap.size≤g:=by
  intro g hg
  rcases hblk with e | e
  ·exact .inl (by rw[← e]; exact hg)
  ·rw[e] at hg
   injection hg with hg
   have:=HSe.out
   exact .inr (by omega)
 have HVB:=hI hvb
 have NJ:=hI (show Kept (fun b=>b<w.heap.size∧b≠d∧b≠H∧v.ownBlock≠some b) w (u2.setCell ⟨d,2,none⟩ v') from
  ((BD.out.mono (S:=fun b=>b<w.heap.size∧b≠d∧b≠H∧v.ownBlock≠some b) (fun b h=>⟨h.1,h.2.2.1⟩)).grown hgrow (fun b h=>by have:=HSe.out; omega) (fun g hg h=>h.2.2.2 hg)).setCell (fun h=>h.2.1 rfl) _)
 obtain ⟨g',cap',rfl,_,_,_⟩:∃ g cap,v'=.slice (some ⟨g,0,none⟩) (m+1) cap∧0≤g∧g<u2.heap.size∧m+1≤cap:=by
  have hlt:=hown.lt
  rcases hown.2 with ⟨_,h0⟩ | ⟨g,cap,cur,rfl,hg,hh,hnc,hc⟩
  ·omega
  ·exact ⟨g,cap,rfl,hg,(hlt g rfl).2,hnc⟩
 refine hU hK rfl _ _ UL (fun hė=>?_)
 clear hK K UL hown hgrow hblk hvb
 refine tO 10 Oi ?_
 intro K hK
 refine qg ?_ rfl ?_ ?_
 rotate_left
 ·unfold Oi; go_simp; with_reducible rfl
 simp only[Oi,Act.put,sA,sZ,sS]
 refine hU hK rfl _ _ hė (fun hė=>?_)
 clear hK K
 refine tO 11 Oh ?_
 intro K hK
 refine qg ?_ rfl ?_ ?_
 rotate_left
 ·unfold Oh; go_simp; with_reducible rfl
 simp only[Oh,Act.put,sA,sZ,sS]
 refine hU hK rfl _ _ hė (fun hė=>?_)
 clear hK K
 refine tO 12 zDV ?_
 intro K hK
 have hst:(Instr.storeAt 180 (.pointer (some ⟨d,2,none⟩)) (.slice (some ⟨g',0,none⟩) (m+1) cap')).run Tryz.prog u2=.ok () (u2.setCell ⟨d,2,none⟩ (.slice (some ⟨g',0,none⟩) (m+1) cap')):=by
  have hc:=hė.2.2.1
  go_simp
 refine aB (.tmp 21) (.tmp 19) 180 rfl rfl ⟨d,2,none⟩ _ rfl rfl hst ?_
 simp only[zDV,Act.put,sA,sZ,sS]
 refine hK.out _ _ (fun h=>by cases h) (fun _=>zB.done (by kernel_rfl) ?_ _)
 refine NoPanic.normal ?_
 go_wp2
 go_end0
 exact ⟨rfl,_,HMF.out,HVB.out,NJ.out⟩
end
end
section
def over (s:List (List Int)) (l:List (Nat × List Int)):List (List Int):=l.foldl (fun s p=>s.set p.1 p.2) s
theorem Qz (s:List (List Int)) (l:List (Nat × List Int)) (p:Nat × List Int):over s (l++[p])=(over s l).set p.1 p.2:=by simp[over]
theorem Aj (s:List (List Int)):over s []=s:=rfl
theorem pW (s:List (List Int)) (l:List (Nat × List Int)):(over s l).length=s.length:=by
 induction l generalizing s with
 | nil=>rfl
 | cons p r ih=>simp only[over,List.foldl_cons] at *; rw[ih]; simp
def lived (L:Nat→Bool) (l:List (Nat × List Int)):Nat→List (Nat × List Int)
 | 0=>[]
 | k+1=>if L k then lived L l k++(l.drop k).take 1 else lived L l k
theorem P6 (l:List (Nat × List Int)):∀ k,lived (fun _=>true) l k=l.take k
 | 0=>by simp[lived]
 | k+1=>by
  simp only[lived,if_true,P6 l k]
  rw[List.take_add]
theorem sJ {L:Nat→Bool} {l:List (Nat × List Int)}:∀ {k:Nat} {p:Nat × List Int},p∈lived L l k→p∈l
 | 0,p,h=>by simp[lived] at h
 | k + 1, p, h => by
  unfold lived at h
  split at h
  ·rcases List.mem_append.1 h with h | h
   ·exact sJ h
   ·exact List.mem_of_mem_drop (List.mem_of_mem_take h)
  ·exact sJ h
theorem RV (L:Nat→Bool) (l:List (Nat × List Int)) (k:Nat) (hk:k<l.length) (hL:L k=true):lived L l (k+1)=lived L l k++[l[k]]:=by
 rw[lived,if_pos hL,List.drop_eq_getElem_cons hk]
 rfl
theorem RX (L:Nat→Bool) (l:List (Nat × List Int)) (k:Nat) (hL:L k=false):lived L l (k+1)=lived L l k:=by
 rw[lived,hL]
 rfl
def back (s h:List (List Int)) (l:List (Nat × List Int)):List (List Int):=l.foldl (fun h p=>h.set p.1 (s.getD p.1 [])) h
theorem Us (s h:List (List Int)) (l:List (Nat × List Int)) (p:Nat × List Int):back s h (l++[p])=(back s h l).set p.1 (s.getD p.1 []):=by simp[back]
theorem Fw (s h:List (List Int)) (l:List (Nat × List Int)):(back s h l).length=h.length:=by
 induction l generalizing h with
 | nil=>rfl
 | cons p r ih=>simp only[back,List.foldl_cons] at *; rw[ih]; simp
theorem Qt (xs:List (List Int)) (i j:Nat) (y:List Int):(xs.set i y)[j]? = if i=j∧j<xs.length then some y else xs[j]? := by
 rw[List.getElem?_set]
 by_cases h:i=j
 ·subst h
  by_cases h2:i<xs.length <;> simp[h2]
 ·simp[h]
theorem Gh (s:List (List Int)) (l:List (Nat × List Int)) (j:Nat) (hj:∀ p∈l,p.1≠j):(over s l)[j]? = s[j]? := by
 induction l generalizing s with
 | nil=>rfl
 | cons p r ih =>
  have h1:=ih (s.set p.1 p.2) (fun q hq=>hj q (List.mem_cons_of_mem _ hq))
  have h2:=hj p (List.mem_cons_self ..)
  simp only[over,List.foldl_cons] at *
  rw[h1,Qt,if_neg (by omega)]
theorem zAE (s h:List (List Int)) (hl:s.length=h.length) (l:List (Nat × List Int)) (j:Nat):(back s h l)[j]? = if (∃ p∈l,p.1=j) then s[j]? else h[j]? := by
 induction l generalizing h with
 | nil=>simp[back]
 | cons p r ih =>
  have h1:=ih (h.set p.1 (s.getD p.1 [])) (by simpa using hl)
  simp only[back,List.foldl_cons] at *
  rw[h1,Qt]
  by_cases hp:p.1=j
  ·rw[if_pos (show ∃ q∈p::r,q.1=j from ⟨p,List.mem_cons_self ..,hp⟩)]
   split
   ·rfl
   ·by_cases hlt:j<h.length
    ·rw[if_pos ⟨hp,hlt⟩,hp]
     simp[List.getD,List.getElem?_eq_getElem (show j<s.length by omega)]
    ·rw[if_neg (by omega),List.getElem?_eq_none (by omega),List.getElem?_eq_none (by omega)]
  ·rw[if_neg (show ¬ (p.1=j∧j<h.length) from fun h=>hp h.1)]
   by_cases hr:∃ q∈r,q.1=j
   ·obtain ⟨q,hq,e⟩:=hr
    rw[if_pos ⟨q,hq,e⟩,if_pos ⟨q,List.mem_cons_of_mem _ hq,e⟩]
   ·rw[if_neg hr,if_neg]
    rintro ⟨q,hq,e⟩
    rcases List.mem_cons.1 hq with rfl | hq
    ·exact hp e
    ·exact hr ⟨q,hq,e⟩
theorem Uu (s:List (List Int)) (l:List (Nat × List Int)) (L:Nat→Bool) (k:Nat):back (over s (lived L l k)) (over s l) l=over s (lived L l k):=by
 apply List.ext_getElem?
 intro j
 rw[zAE _ _ (by rw[pW,pW])]
 split
 ·rfl
 ·rename_i hno
  rw[Gh s l j (fun p hp e=>hno ⟨p,hp,e⟩),Gh s _ j (fun p hp e=>hno ⟨p,sJ hp,e⟩)]
def Fits (n:Nat) (l:List (Nat × List Int)):Prop:=∀ p∈l,p.1<n∧p.2.length=64∧Bytes p.2
theorem aF {s:List (List Int)} {l:List (Nat × List Int)} (hs:qY s) (hl:∀ p∈l,p.2.length=64):qY (over s l):=by
 induction l generalizing s with
 | nil=>exact hs
 | cons p r ih=>exact ih (hs.set_ p.1 (hl p (List.mem_cons_self ..))) (fun q hq=>hl q (List.mem_cons_of_mem _ hq))
theorem Ut {s h:List (List Int)} {l:List (Nat × List Int)} (hs:qY s) (hh:qY h) (hl:∀ p∈l,p.1<s.length):qY (back s h l):=by
 induction l generalizing h with
 | nil=>exact hh
 | cons p r ih=>exact ih (hh.set_ p.1 (hs.get p.1 (hl p (List.mem_cons_self ..)))) (fun q hq=>hl q (List.mem_cons_of_mem _ hq))
theorem nN {P:Program} {w:World} {ops:Array Oper} {rest:List Oper} {o:Oper} {a:Act} {Q:Exit→Act→World→Prop} (ty:TypeId) (ho:o.op=.alloc ty) (hgd:o.guard=none) (zs:Array Value) (hz:∀ w,(zeroValue ty).run P w=.ok (.agg zs) w)
 (h:wpList P ops Q rest (a.put o.dst (.pointer (some ⟨w.heap.size,0,none⟩))) (w.alloc (.cells zs ty))):wpList P ops Q (o::rest) a w:=by
 refine wpList_plain hgd fun K hK=>?_
 unfold Oper.wp execOp
 simp only[ho,Instr.alloc,Sem.run_bind,hz,Result.andThen_ok]
 exact hK _ _ h
theorem wC {P:Program} {w:World} {ops:Array Oper} {rest:List Oper} {o:Oper} {a:Act} {Q:Exit→Act→World→Prop} (x y:Operand) (ty:TypeId) (ho:o.op=.store ty x y) (hgd:o.guard=none) (w0:World) (zs cs:Array Value)
 (hx:a.eval x=.pointer (some ⟨w0.heap.size,0,none⟩)) (hy:a.eval y=.agg cs) (t:TypeId) (hw:w=w0.alloc (.cells zs t)) (hi:(P.info? ty).map (·.size)=some cs.size) (hl:zs.size=cs.size) (hone:cs.all (·.oneCell')=true)
 (h:wpList P ops Q rest (a.put o.dst undef) (w0.alloc (.cells cs t))):wpList P ops Q (o::rest) a w:=by
 subst hw
 refine wpList_store_row hgd ty x y ho w0.heap.size cs hx hy t zs (heap_alloc_last w0 _) hi hl hone ?_
 rw[World.setRow_alloc_new]
 exact h
theorem LM {w:World} {base m:Nat} {v:Value} {l:List (Nat × List Int)} (h:w.ownsRow base 250 65 v m (yE l)) :
 ∃ A cap,v=.slice A m cap∧m≤cap∧(0<m→∃ g,A=some ⟨g,0,none⟩):=by
 rcases h.2 with ⟨rfl,rfl⟩ | ⟨g,cap,cur,rfl,hg,hh,hnc,hc⟩
 ·exact ⟨none,0,rfl,by omega,fun h=>absurd h (by omega)⟩
 ·exact ⟨_,cap,rfl,hnc,fun _=>⟨g,rfl⟩⟩
theorem Wp {w:World} {base m g cap:Nat} {l:List (Nat × List Int)} (h:w.ownsRow base 250 65 (.slice (some ⟨g,0,none⟩) m cap) m (yE l)) (hl:∀ p∈l,p.2.length=64) (k:Nat) (hk:k<l.length):w.rangeAt g (k*65) (qP l[k]):=by
 intro j v hv
 have hj:j<65:=by
  rcases Nat.lt_or_ge j 65 with h0 | h0
  ·exact h0
  ·rw[List.getElem?_eq_none (by rw[yD _ (hl _ (List.getElem_mem hk))]; omega)] at hv
   cases hv
 have h1:=h.cells (g:=g) rfl (k*65+j) v (by rw[SK hl k hk j hj]; exact hv)
 rw[add_plain,Nat.zero_add] at h1
 exact h1
theorem MI {w:World} {base m:Nat} {v:Value} {l:List (Nat × List Int)} (h:w.ownsRow base 250 65 v m (yE l)) (hl:∀ p∈l,p.2.length=64):l.length=m:=by
 have:=h.1
 rw[JL hl] at this
 omega
end
section
theorem Yt (w:World):(zeroValue 250).run Tryz.prog w=.ok (.agg (#[.int .i64 0]++zA (noughts 64))) w:=(Tryz.zeroValue250 w).trans rfl
theorem lW:(Tryz.prog.info? 250).map (·.size)=some 65:=by kernel_rfl
theorem Yv (p:Nat × List Int):(qP p).toArray.all (·.oneCell')=true:=Array.all_eq_true_iff_forall_mem.2 (fun v hv=>Yu p v (by simpa using hv))
theorem Uw (i:Nat) (w:World):Calls Tryz.prog 162 #[.int .i64 i] w fun e w'=>e=.returned (.bool true)∧w=w':=by
 go_enter Tryz.func162,Tryz.ntmps162
 go_wp2
 go_ret
 exact ⟨rfl,rfl⟩
section
variable {w:World} {d H S n:Nat} {v:Value} {m:Nat} {P:List Value} {armed fails:Int} {dead:Bool} {ops:Int}
theorem Nh {held safe:List (List Int)} {pend:List (Nat × List Int)} (h:Dm w d H S n v m (flat held) (flat safe) (yE pend) armed fails dead ops) (hs:qY safe) (dw:held=over safe pend) (hn:safe.length=n) (hn2:n≤2048) (hf:Fits n pend) :
 Calls Tryz.prog 161 #[.pointer (some ⟨d,0,none⟩),.func (.func 162) #[] #[]] w fun e w'=>e=.returned (.tuple #[]) ∧
  Dm w' d H S n (.slice none 0 0) 0 (flat (over safe (lived (fun _=>true) pend m))) (flat (over safe (lived (fun _=>true) pend m))) [] armed fails dead ops∧Kept (fun b=>b<w.heap.size∧b≠d∧b≠H∧b≠S) w w':=by
 have hf1:∀ p∈pend,p.2.length=64:=fun p hp=>(hf p hp).2.1
 have hlen:=MI h.own hf1
 obtain ⟨A,cap,rfl,hcap,hA⟩:=LM h.own
 have hm63:(m:Int)≤9223372036854775807:=by
  have hx:=h.own.2
  rcases hx with ⟨e,_⟩ | ⟨g,c,cur,e,_,_,hnc,hmx,_⟩
  ·injection e with _ e _; omega
  ·unfold maxLen at hmx; omega
 have HM:=hI h
 have HF:=hI hf
 have Y7:=hI hf1
 have HS:=hI hs
 have HLEN:=hI hlen
 have zJx:=hI dw
 have HN:=hI hn
 have HSL:=hI (show qY held by rw[dw]; exact aF hs hf1)
 have dK:=hI (show held.length=n by rw[dw,pW,hn])
 obtain ⟨c0,c1,c2,_,_,_,_⟩:=h.cell
 have zQO:=h.frozen 2
 have hA':=hA
 have HA:=hI hA
 clear h hf hf1 hs hlen dw hn hA hA' hcap
 go_enter Tryz.func161,Tryz.ntmps161
 go_wp2_with fail
 go_loopw [13] (fun i wr=>∃ k:Nat,k≤m∧i=.int .i64 k∧Dm wr d H S n (.slice A m cap) m (flat held) (flat (over safe (lived (fun _=>true) pend k))) (yE pend) armed fails dead ops∧Kept (fun b=>b<w.heap.size∧b≠d∧b≠H∧b≠S) w wr) (fun i _=>m-(intOf i).toNat)
 case atStart=>exact ⟨0,by omega,rfl,HM.out,Kept.refl _ _⟩
 case round =>
  obtain ⟨k,hk,rfl,dG,hkp⟩:=hrel
  by_cases hlt:k<m
  ·obtain ⟨g,rfl⟩:=HA.out (by omega)
   have hkl:k<pend.length:=by have:=HLEN.out; omega
   have hrange:=Wp dG.own Y7.out k hkl
   have hfit:=HF.out pend[k] (List.getElem_mem hkl)
   have hstep:=RV (fun _=>true) pend k hkl
   have zBI:=RX (fun _=>true) pend k
   generalize hp:pend[k]=p at *
   have hu:=Tryz.underlying250
   have hsz:(Tryz.prog.info? 250).map (·.size)=some (qP p).length:=by rw[lW,yD _ hfit.2.1]
   have HDM:=hI dG
   have oW:=hI hkp
   have zJm:=hI hstep
   have zQE:=hI zBI
   have wK:=hI hfit
   have HR:=hI hrange
   have fZ:=hI hsz
   have O9:=hI (yD _ hfit.2.1)
   have hd1:=dG.cell.2.1
   clear dG hkp hstep zBI hfit hrange hsz
   obtain ⟨u,hu1⟩:∃ u,u=wr.alloc (.cells (qP p).toArray 250):=⟨_,rfl⟩
   have HU:=hI hu1
   have lQ:=hI (show Dm u d H S n (.slice (some ⟨g,0,none⟩) m cap) m (flat held) (flat (over safe (lived (fun _=>true) pend k))) (yE pend) armed fails dead ops by rw[hu1]; exact HDM.out.alloc _)
   have NM:=hI (show z8 u wr.heap.size 250 (qP p).toArray by rw[hu1]; exact z8.new wr _ _)
   have HKU:=hI (show Kept (fun b=>b<w.heap.size∧b≠d∧b≠H∧b≠S) w u by rw[hu1]; exact oW.out.alloc (fun b h=>nL h.1 oW.out.size) _)
   have hx1:=lQ.out.cell.2.1
   have hx2:u.cell? ⟨wr.heap.size,0,none⟩=some (.int .i64 p.1):=NM.out.cell 0
   have hx3:u.rangeAt wr.heap.size 1 (p.2.map (Value.int .u8)):=fun j v hv=>by
    rw[NM.out.cell (1+j)]
    simp only[List.getElem?_toArray,qP,Nat.add_comm 1 j,List.getElem?_cons_succ]
    exact hv
   clear hu1
   cases hL:(fun _=>true) k
   ·exact absurd hL (by simp)
   ·have jh:=hI (zJm.out hL)
    have HL:=hI hL
    clear hL
    have hp0:(0:Int)≤(p.1:Int):=by omega
    have hp1:(p.1:Int)<(n:Int):=by have:=wK.out.1; omega
    have n1:d≠S:=lQ.out.dS
    have n2:wr.heap.size≠S:=fun e=>NM.out.ne_ lQ.out.ss (by decide) e
    have kd:=fun cs=>yX (w:=u.drew) (g:=S) (o:=p.1*64) cs hx1 n1
    have ki:=fun cs=>yX (w:=u.drew) (g:=S) (o:=p.1*64) cs hx2 n2
    have kr:=fun cs=>bF (w:=u.drew) (g:=S) (o:=p.1*64) (cs:=cs) hx3 n2
    have hone:=KN p.2
    have hub:=Tryz.underlying186
    have zMY:(Tryz.prog.info? 186).map (·.size)=some (p.2.map (Value.int .u8)).length:=by rw[vF,List.length_map,wK.out.2.1]
    have rD:qY (over safe (lived (fun _=>true) pend k)):=aF HS.out (fun q hq=>Y7.out q (sJ hq))
    have hsl:(over safe (lived (fun _=>true) pend k)).length=n:=by rw[pW,HN.out]
    have hfl:=jl rD
    have hth:u.drew.there S (p.1*64) (p.2.map (Value.int .u8)).length:=z8.there (w:=u.drew) lQ.out.ss (by simp[hfl,hsl,wK.out.2.1]; have:=wK.out.1; omega)
    have hrow:=ZI (P:=Tryz.prog) (w:=u.drew) (L:=over safe (lived (fun _=>true) pend k)) lQ.out.ss rD p.1 (by rw[hsl]; exact wK.out.1) wK.out.2.1
    rw[← Qz,← jh.out] at hrow
    have xR:=hI hrow
    clear hrow rD hsl hfl
    go_wp2_with (first
     | (refine wpList_load_mid rfl 250 (.tmp 16) rfl g (k*65) rfl (qP p) _ HR.out hu rfl fZ.out ?_)
     | (refine nN 250 rfl rfl (#[.int .i64 0]++zA (noughts 64)) Yt ?_)
     | (refine wC (.tmp 5) (.tmp 17) 250 rfl rfl wr (#[.int .i64 0]++zA (noughts 64)) (qP p).toArray rfl rfl 250 rfl (by rw[lW]; simp[O9.out]) (by simp[O9.out,jI,zC]) (Yv p) ?_; rw[← HU.out])
     | (go_at_call 162; refine (Uw k _).mono ?_; rintro e w' ⟨rfl,rfl⟩))
    go_region_held3 (fun W=>W.cell? ⟨d,1,none⟩=some (.slice (some ⟨S,0,none⟩) n n)∧W.cell? ⟨wr.heap.size,0,none⟩=some (.int .i64 p.1)∧W.rangeAt wr.heap.size 1 (p.2.map (Value.int .u8)))
     (first | exact ⟨hx1,hx2,hx3⟩ | exact ⟨kd _,ki _,kr _⟩)
     (fail)
    rw[xR.out]
    clear kd ki kr hx1 hx2 hx3 hth
    go_wp2
    go_roundw
    case rel=>exact ⟨k+1,by omega,by go_num,lQ.out.drew.safe_ _,HKU.out.drew.setRow (fun h=>h.2.2.2 rfl) _⟩
    case measure=>(simp[intOf] <;> omega)
  ·obtain rfl:k=m:=by omega
   obtain ⟨vV,iR⟩:∃ s',s'=over safe (lived (fun _=>true) pend k):=⟨_,rfl⟩
   have zBL:qY vV:=by rw[iR]; exact aF HS.out (fun q hq=>Y7.out q (sJ hq))
   have zGW:vV.length=n:=by rw[iR,pW,HN.out]
   have hback:back vV held pend=vV:=by rw[iR,zJx.out]; exact Uu _ _ _ _
   rw[← iR] at dG
   have jv:=hI iR
   have zKE:=hI hback
   have pq:=hI zBL
   have zAT:=hI zGW
   have HDM:=hI dG
   have oW:=hI hkp
   obtain ⟨d0,d1,d2,_,_,_,_⟩:=dG.cell
   clear dG hkp zBL zGW iR hback
   go_wp2_with fail
   clear d0 d1 d2
   go_loopw [36] (fun i wr=>∃ j:Nat,j≤k∧i=.int .i64 j∧Dm wr d H S n (.slice A k cap) k (flat (back vV held (pend.take j))) (flat vV) (yE pend) armed fails dead ops∧Kept (fun b=>b<w.heap.size∧b≠d∧b≠H∧b≠S) w wr) (fun i _=>k-(intOf i).toNat)
   case atStart=>exact ⟨0,by omega,rfl,HDM.out,oW.out⟩
   case round =>
    obtain ⟨j,hj,rfl,dG,hkp⟩:=hrel
    by_cases hjlt:j<k
    ·obtain ⟨g,rfl⟩:=HA.out (by omega)
     have hjl:j<pend.length:=by have:=HLEN.out; omega
     have hrange:=Wp dG.own Y7.out j hjl
     have hfit:=HF.out pend[j] (List.getElem_mem hjl)
     have htake:pend.take (j+1)=pend.take j++[pend[j]]:=by rw[List.take_succ_eq_append_getElem hjl]
     generalize hp:pend[j]=p at *
     have hu:=Tryz.underlying250
     have hsz:(Tryz.prog.info? 250).map (·.size)=some (qP p).length:=by rw[lW,yD _ hfit.2.1]
     have zNx:=hI dG
     have zIs:=hI hkp
     have zJl:=hI htake
     have wK:=hI hfit
     have HR:=hI hrange
     have fZ:=hI hsz
     have O9:=hI (yD _ hfit.2.1)
     have hd2:=dG.cell.2.2.1
     clear dG hkp htake hfit hrange hsz
     obtain ⟨u,hu1⟩:∃ u,u=wr.alloc (.cells (qP p).toArray 250):=⟨_,rfl⟩
     have HU:=hI hu1
     have lQ:=hI (show Dm u d H S n (.slice (some ⟨g,0,none⟩) k cap) k (flat (back vV held (pend.take j))) (flat vV) (yE pend) armed fails dead ops by rw[hu1]; exact zNx.out.alloc _)
     have NM:=hI (show z8 u wr.heap.size 250 (qP p).toArray by rw[hu1]; exact z8.new wr _ _)
     have HKU:=hI (show Kept (fun b=>b<w.heap.size∧b≠d∧b≠H∧b≠S) w u by rw[hu1]; exact zIs.out.alloc (fun b h=>nL h.1 zIs.out.size) _)
     have hx0:=lQ.out.cell.1
     have hx1:=lQ.out.cell.2.1
     have hx2:u.cell? ⟨wr.heap.size,0,none⟩=some (.int .i64 p.1):=NM.out.cell 0
     have hp0:(0:Int)≤(p.1:Int):=by omega
     have hp1:(p.1:Int)<(n:Int):=by have:=wK.out.1; omega
     have hx3:u.rangeAt S (p.1*64) ((vV.getD p.1 []).map (Value.int .u8)):=by
      obtain ⟨b,off,e,_,hc⟩:=(qF.rowK lQ.out.ss pq.out zAT.out (S:=fun _=>True) trivial).2 (by omega)
      injection e with e
      injection e with e1 e2 _
      subst e1 e2
      have:=hc p.1 wK.out.1
      rwa [Nat.zero_add] at this
     have hzl:(vV.getD p.1 []).length=64:=pq.out.get p.1 (by rw[zAT.out]; exact wK.out.1)
     have hbs:back vV held (pend.take (j+1))=(back vV held (pend.take j)).set p.1 (vV.getD p.1 []):=by rw[zJl.out,Us]
     have mG:=hI hbs
     clear hu1 hbs
     have n0:d≠H:=lQ.out.dH
     have n2:wr.heap.size≠H:=fun e=>NM.out.ne_ lQ.out.hh (by decide) e
     have n3:S≠H:=lQ.out.ne.symm
     have Rw:qY (back vV held (pend.take j)):=Ut pq.out HSL.out (fun q hq=>by rw[zAT.out]; exact (HF.out q (List.mem_of_mem_take hq)).1)
     have hslB:(back vV held (pend.take j)).length=n:=by rw[Fw,dK.out]
     have hfl:=jl Rw
     have hrow:=ZI (P:=Tryz.prog) (w:=u.drew) (L:=back vV held (pend.take j)) lQ.out.hh Rw p.1 (by rw[hslB]; exact wK.out.1) hzl
     rw[← mG.out] at hrow
     generalize vV.getD p.1 []=zs at *
     have kd:=fun cs=>yX (w:=u.drew) (g:=H) (o:=p.1*64) cs hx0 n0
     have ki:=fun cs=>yX (w:=u.drew) (g:=H) (o:=p.1*64) cs hx1 n0
     have kj:=fun cs=>yX (w:=u.drew) (g:=H) (o:=p.1*64) cs hx2 n2
     have kr:=fun cs=>bF (w:=u.drew) (g:=H) (o:=p.1*64) (cs:=cs) hx3 n3
     have hone:=KN zs
     have hub:=Tryz.underlying186
     have zMY:(Tryz.prog.info? 186).map (·.size)=some (zs.map (Value.int .u8)).length:=by rw[vF,List.length_map,hzl]
     have hth:u.drew.there H (p.1*64) (zs.map (Value.int .u8)).length:=z8.there (w:=u.drew) lQ.out.hh (by simp[hfl,hslB,hzl]; have:=wK.out.1; omega)
     have xR:=hI hrow
     clear hrow Rw hslB hfl hzl
     go_wp2_with (first
      | (refine wpList_load_mid rfl 250 (.tmp 38) rfl g (j*65) rfl (qP p) _ HR.out hu rfl fZ.out ?_)
      | (refine nN 250 rfl rfl (#[.int .i64 0]++zA (noughts 64)) Yt ?_)
      | (refine wC (.tmp 7) (.tmp 39) 250 rfl rfl wr (#[.int .i64 0]++zA (noughts 64)) (qP p).toArray rfl rfl 250 rfl (by rw[lW]; simp[O9.out]) (by simp[O9.out,jI,zC]) (Yv p) ?_; rw[← HU.out]))
     go_region_held3 (fun W=>W.cell? ⟨d,0,none⟩=some (.slice (some ⟨H,0,none⟩) n n)∧W.cell? ⟨d,1,none⟩=some (.slice (some ⟨S,0,none⟩) n n)∧W.cell? ⟨wr.heap.size,0,none⟩=some (.int .i64 p.1)∧W.rangeAt S (p.1*64) (zs.map (Value.int .u8)))
      (first | exact ⟨hx0,hx1,hx2,hx3⟩ | exact ⟨kd _,ki _,kj _,kr _⟩)
      (fail)
     rw[xR.out]
     clear kd ki kj kr hx0 hx1 hx2 hx3 hth
     go_wp2
     go_roundw
     case rel=>exact ⟨j+1,by omega,by go_num,lQ.out.drew.held_ _,HKU.out.drew.setRow (fun h=>h.2.2.1 rfl) _⟩
     case measure=>(simp[intOf] <;> omega)
    ·obtain rfl:j=k:=by omega
     have hcells:=dG.cell.2.2.1
     have hfz:=dG.frozen 2
     have ht:pend.take j=pend:=List.take_of_length_le (by rw[HLEN.out]; exact nR _)
     rw[ht,zKE.out] at dG
     have HDF:=hI (dG.pend_ (v':=.slice none 0 0) (m':=0) (P':=[]) ⟨rfl,.inl ⟨rfl,rfl⟩⟩)
     have NJ:=hI (hkp.setCell (p:=⟨d,2,none⟩) (fun h=>h.2.1 rfl) (.slice none 0 0))
     clear dG hkp ht
     go_wp2
     go_end0
     exact ⟨rfl,by rw[← jv.out]; exact HDF.out,NJ.out⟩
end
end
section
section
variable {w:World} {d H S n:Nat} {v:Value} {m:Nat} {held safe:List Int} {P:List Value} {armed fails:Int} {dead:Bool} {ops:Int}
theorem L6 (h:Dm w d H S n v m held safe P armed fails dead ops) (xss:List (List Int)) (hs:qY xss) (hh:held=flat xss) (hn:xss.length=n) (hn2:n≤2048) (i:Nat) (hi:i<n) (gd gi gb:Nat) (ys:List Int) (hy:ys.length=64)
 (hgd:z8 w gd 25 #[.pointer (some ⟨d,0,none⟩)]) (hgi:z8 w gi 3 #[.int .i64 i]) (hgb:qB w gb ys) (hne:H≠gb) :
 Calls Tryz.prog 174 #[.pointer (some ⟨gd,0,none⟩),.pointer (some ⟨gi,0,none⟩),.pointer (some ⟨gb,0,none⟩)] w fun e w'=>e=.returned (.tuple #[])∧w'=w.drew.setRow gb (zA (xss.getD i [])):=by
 have c0:=h.cell.1
 have cd:=hgd.cell 0
 have ci:=hgi.cell 0
 simp only[List.getElem?_toArray,List.getElem?_cons_zero] at cd ci
 have hu:=Tryz.underlying186
 have hr:w.rangeAt H (i*64) ((xss.getD i []).map (Value.int .u8)):=by
  obtain ⟨b,off,e,_,hc⟩:=(qF.rowK (hh▸h.hh) hs hn (S:=fun _=>True) trivial).2 (by omega)
  injection e with e
  injection e with e1 e2 _
  subst e1 e2
  have:=hc i hi
  rwa [Nat.zero_add] at this
 have hl:=hs.get i (by omega)
 generalize xss.getD i []=zs at *
 have hsz:(Tryz.prog.info? 186).map (·.size)=some (zs.map (Value.int .u8)).length:=by rw[vF,List.length_map,hl]
 have n1:gd≠gb:=hgd.ne_ hgb (by decide)
 have n2:gi≠gb:=hgi.ne_ hgb (by decide)
 have n3:d≠gb:=h.blk.ne_ hgb (by decide)
 have kd:=fun cs=>yX (w:=w.drew) (g:=gb) (o:=0) cs cd n1
 have ki:=fun cs=>yX (w:=w.drew) (g:=gb) (o:=0) cs ci n2
 have k0:=fun cs=>yX (w:=w.drew) (g:=gb) (o:=0) cs c0 n3
 have kr:=fun cs=>bF (w:=w.drew) (g:=gb) (o:=0) (cs:=cs) hr hne
 have hone:=KN zs
 have hth:w.drew.there gb 0 (zs.map (Value.int .u8)).length:=z8.there (w:=w.drew) hgb (by simp[hl,hy])
 have hrow:=Qu (P:=Tryz.prog) (w:=w.drew) hgb 0 _ hone (by simp[hl,hy])
 have xR:=hI hrow
 clear hrow
 have BH:=hI hgb
 have HL:=hI hl
 have hi0:(0:Int)≤(i:Int):=by omega
 have hi1:(i:Int)<(n:Int):=by omega
 have HI:=hI hi
 clear h hgd hgi hgb hl hh hs hn
 go_enter Tryz.func174,Tryz.ntmps174
 go_region_held3 (fun W=>W.cell? ⟨gd,0,none⟩=some (.pointer (some ⟨d,0,none⟩))∧W.cell? ⟨gi,0,none⟩=some (.int .i64 i)∧W.cell? ⟨d,0,none⟩=some (.slice (some ⟨H,0,none⟩) n n)∧W.rangeAt H (i*64) (zs.map (Value.int .u8)))
  (first | exact ⟨cd,ci,c0,hr⟩ | exact ⟨kd _,ki _,k0 _,kr _⟩)
  (fail)
 go_end0
 refine ⟨rfl,?_⟩
 rw[xR.out]
 congr 1
 simp[zA,HL.out,hy]
end
end
section
theorem mO (w:World) (d:Nat) (e:Int) (he:e≠0) (c:Bool) (f:Value) :
 Calls Tryz.prog 156 #[.pointer (some ⟨d,0,none⟩),.int .i64 e,.bool c,f] w fun r w'=>r=.returned (.int .i64 e)∧w=w':=by
 have h1:(e != 0)=true:=by simp[bne,he]
 go_enter Tryz.func156,Tryz.ntmps156
 go_wp2
 go_ret
 exact ⟨rfl,rfl⟩
section
variable {w:World} {d H S n:Nat} {v:Value} {m:Nat} {held safe:List Int} {P:List Value} {armed fails:Int} {ops:Int}
theorem Ad (h:Dm w d H S n v m held safe P armed fails false ops) (hf0:-9223372036854775808≤fails) (hf1:fails≤9223372036854775807) (hz:fails=0) (f:Value) :
 Calls Tryz.prog 156 #[.pointer (some ⟨d,0,none⟩),.int .i64 0,.bool false,f] w fun e w'=>e=.returned (.int .i64 8)∧Dm w' d H S n v m held safe P armed (-1) false ops∧Kept (fun b=>b≠d) w w':=by
 have HD:=hI h
 have og:=hI (show decide (fails=0)=true by simp[hz])
 have hst:struck fails=-1:=by subst hz; rfl
 have HST:=hI hst
 clear h hst hz
 go_enter Tryz.func156,Tryz.ntmps156
 go_wp2_with (go_at_call 199; with_reducible refine (fT HD.out hf0 hf1).mono ?_; rintro e w1 ⟨rfl,hd1,hk1⟩; have HD1:=hI hd1; have jh:=hI hk1; clear hd1 hk1; rw[og.out])
 go_ret
 rw[HST.out] at HD1
 exact ⟨rfl,HD1.out,jh.out⟩
theorem RF (h:Dm w d H S n v m held safe P armed fails false ops) (hf0:-9223372036854775808≤fails) (hf1:fails≤9223372036854775807) (hz:fails≠0) (ha0:-9223372036854775808≤armed) (ha1:armed≤9223372036854775807) (c0 c1 c2:Value) (R:World→Prop)
 (hdo:∀ w1,Dm w1 d H S n v m held safe P armed (struck fails) false ops→Kept (fun b=>b≠d) w w1→Calls Tryz.prog 174 #[c0,c1,c2] w1 fun e w2=>e=.returned (.tuple #[])∧R w2)
 (hR:∀ w2,R w2→w2.cell? ⟨d,6,none⟩=some (.int .i64 ops)∧w2.frozen? ⟨d,6,none⟩=false) :
 Calls Tryz.prog 156 #[.pointer (some ⟨d,0,none⟩),.int .i64 0,.bool false,.func (.func 174) #[] #[c0,c1,c2]] w fun e w'=>e=.returned (.int .i64 0)∧∃ w2,R w2∧w'=w2.setCell ⟨d,6,none⟩ (.int .i64 (wrap64 (ops+1))):=by
 have HD:=hI h
 have VK:=hI hdo
 have HRR:=hI hR
 have og:=hI (show decide (fails=0)=false by simp[hz])
 clear h hz hdo hR
 go_enter Tryz.func156,Tryz.ntmps156
 go_wp2_with (first | (go_at_call 199; with_reducible refine (fT HD.out hf0 hf1).mono ?_; rintro e w1 ⟨rfl,hd1,hk1⟩; have HD1:=hI hd1; have jh:=hI hk1; clear hd1 hk1; rw[og.out]) | (go_at_call 174; refine (VK.out _ HD1.out jh.out).mono ?_; rintro e w3 ⟨rfl,hr⟩; have HR3:=hI hr; obtain ⟨hc6,Mx⟩:=HRR.out _ hr; clear hr))
 go_ret
 exact ⟨rfl,_,HR3.out,rfl⟩
theorem Wi (h:Dm w d H S n v m held safe P armed fails false ops) (hf0:-9223372036854775808≤fails) (hf1:fails≤9223372036854775807) (hz:fails=0) (f:Value) :
 Calls Tryz.prog 156 #[.pointer (some ⟨d,0,none⟩),.int .i64 0,.bool true,f] w fun e w'=>e=.returned (.int .i64 8)∧Dm w' d H S n v m held safe P armed (-1) false ops∧Kept (fun b=>b≠d) w w':=by
 have HD:=hI h
 have og:=hI (show decide (fails=0)=true by simp[hz])
 have hst:struck fails=-1:=by subst hz; rfl
 have HST:=hI hst
 clear h hst hz
 go_enter Tryz.func156,Tryz.ntmps156
 go_wp2_with (go_at_call 199; with_reducible refine (fT HD.out hf0 hf1).mono ?_; rintro e w1 ⟨rfl,hd1,hk1⟩; have HD1:=hI hd1; have jh:=hI hk1; clear hd1 hk1; rw[og.out])
 go_ret
 rw[HST.out] at HD1
 exact ⟨rfl,HD1.out,jh.out⟩
theorem XQ (h:Dm w d H S n v m held safe P armed fails false ops) (hf0:-9223372036854775808≤fails) (hf1:fails≤9223372036854775807) (hz:fails≠0) (ha0:-9223372036854775808≤armed) (ha1:armed≤9223372036854775807) (haz:armed=0) (f:Value) :
 Calls Tryz.prog 156 #[.pointer (some ⟨d,0,none⟩),.int .i64 0,.bool true,f] w fun e w'=>e=.returned (.int .i64 7)∧Dm w' d H S n v m held safe P (-1) (struck fails) true ops∧Kept (fun b=>b≠d) w w':=by
 have HD:=hI h
 have og:=hI (show decide (fails=0)=false by simp[hz])
 have tF:=hI (show decide (armed=0)=true by simp[haz])
 have hst:struck armed=-1:=by subst haz; rfl
 have HST:=hI hst
 clear h hst hz haz
 go_enter Tryz.func156,Tryz.ntmps156
 go_wp2_with (first | (go_at_call 199; with_reducible refine (fT HD.out hf0 hf1).mono ?_; rintro e w1 ⟨rfl,hd1,hk1⟩; have HD1:=hI hd1; have jh:=hI hk1; clear hd1 hk1; rw[og.out]) | (go_at_call 199; with_reducible refine (JW HD1.out ha0 ha1).mono ?_; rintro e w2 ⟨rfl,hd2,hk2⟩; have HD2:=hI hd2; have yI:=hI hk2; clear hd2 hk2; rw[tF.out]; have QX:=HD2.out.cell.2.2.2.2.2.1; have hz5:=HD2.out.frozen 5))
 go_ret
 have hd3:=HD2.out.dead_ true
 rw[HST.out] at hd3
 exact ⟨rfl,hd3,(jh.out.trans yI.out (fun b h=>h)).setCell (fun h=>h rfl) _⟩
theorem FR (h:Dm w d H S n v m held safe P armed fails false ops) (hf0:-9223372036854775808≤fails) (hf1:fails≤9223372036854775807) (hz:fails≠0) (ha0:-9223372036854775808≤armed) (ha1:armed≤9223372036854775807) (haz:armed≠0) (c0 c1 c2:Value) (R:World→Prop)
 (hdo:∀ w1,Dm w1 d H S n v m held safe P (struck armed) (struck fails) false ops→Kept (fun b=>b≠d) w w1→Calls Tryz.prog 158 #[c0,c1,c2] w1 fun e w2=>e=.returned (.tuple #[])∧R w2)
 (hR:∀ w2,R w2→w2.cell? ⟨d,6,none⟩=some (.int .i64 ops)∧w2.frozen? ⟨d,6,none⟩=false) :
 Calls Tryz.prog 156 #[.pointer (some ⟨d,0,none⟩),.int .i64 0,.bool true,.func (.func 158) #[] #[c0,c1,c2]] w fun e w'=>e=.returned (.int .i64 0)∧∃ w2,R w2∧w'=w2.setCell ⟨d,6,none⟩ (.int .i64 (wrap64 (ops+1))):=by
 have HD:=hI h
 have VK:=hI hdo
 have HRR:=hI hR
 have og:=hI (show decide (fails=0)=false by simp[hz])
 have tF:=hI (show decide (armed=0)=false by simp[haz])
 clear h hz haz hdo hR
 go_enter Tryz.func156,Tryz.ntmps156
 go_wp2_with (first | (go_at_call 199; with_reducible refine (fT HD.out hf0 hf1).mono ?_; rintro e w1 ⟨rfl,hd1,hk1⟩; have HD1:=hI hd1; have jh:=hI hk1; clear hd1 hk1; rw[og.out]) | (go_at_call 199; with_reducible refine (JW HD1.out ha0 ha1).mono ?_; rintro e w2 ⟨rfl,hd2,hk2⟩; have HD2:=hI hd2; have yI:=hI hk2; clear hd2 hk2; rw[tF.out]; skip) | (go_at_call 158; refine (VK.out _ HD2.out (jh.out.trans yI.out (fun b h=>h))).mono ?_; rintro e w3 ⟨rfl,hr⟩; have HR3:=hI hr; obtain ⟨hc6,Mx⟩:=HRR.out _ hr; clear hr))
 go_ret
 exact ⟨rfl,_,HR3.out,rfl⟩
theorem R9 (h:Dm w d H S n v m held safe P armed fails false ops) (hf0:-9223372036854775808≤fails) (hf1:fails≤9223372036854775807) (hz:fails≠0) (ha0:-9223372036854775808≤armed) (ha1:armed≤9223372036854775807) (haz:armed≠0) (c0:Value) (R:World→Prop)
 (hdo:∀ w1,Dm w1 d H S n v m held safe P (struck armed) (struck fails) false ops→Kept (fun b=>b≠d) w w1→Calls Tryz.prog 160 #[c0] w1 fun e w2=>e=.returned (.tuple #[])∧R w2)
 (hR:∀ w2,R w2→w2.cell? ⟨d,6,none⟩=some (.int .i64 ops)∧w2.frozen? ⟨d,6,none⟩=false) :
 Calls Tryz.prog 156 #[.pointer (some ⟨d,0,none⟩),.int .i64 0,.bool true,.func (.func 160) #[] #[c0]] w fun e w'=>e=.returned (.int .i64 0)∧∃ w2,R w2∧w'=w2.setCell ⟨d,6,none⟩ (.int .i64 (wrap64 (ops+1))):=by
 have HD:=hI h
 have VK:=hI hdo
 have HRR:=hI hR
 have og:=hI (show decide (fails=0)=false by simp[hz])
 have tF:=hI (show decide (armed=0)=false by simp[haz])
 clear h hz haz hdo hR
 go_enter Tryz.func156,Tryz.ntmps156
 go_wp2_with (first | (go_at_call 199; with_reducible refine (fT HD.out hf0 hf1).mono ?_; rintro e w1 ⟨rfl,hd1,hk1⟩; have HD1:=hI hd1; have jh:=hI hk1; clear hd1 hk1; rw[og.out]) | (go_at_call 199; with_reducible refine (JW HD1.out ha0 ha1).mono ?_; rintro e w2 ⟨rfl,hd2,hk2⟩; have HD2:=hI hd2; have yI:=hI hk2; clear hd2 hk2; rw[tF.out]; skip) | (go_at_call 160; refine (VK.out _ HD2.out (jh.out.trans yI.out (fun b h=>h))).mono ?_; rintro e w3 ⟨rfl,hr⟩; have HR3:=hI hr; obtain ⟨hc6,Mx⟩:=HRR.out _ hr; clear hr))
 go_ret
 exact ⟨rfl,_,HR3.out,rfl⟩
end
end
section
section
variable {w:World} {d H S n:Nat} {v:Value} {m:Nat} {held safe:List Int} {P:List Value} {armed fails:Int} {ops:Int}
def gG (d H S n:Nat) (v:Value) (m:Nat) (held safe:List Int) (P:List Value) (armed fails:Int) (dead:Bool) (ops:Int) (w4 w2:World):Prop :=
 ∃ v',Dm w2 d H S n v' m held safe P armed fails dead ops∧(∀ g,v'.ownBlock=some g→v.ownBlock=some g∨w4.heap.size≤g)∧Kept (fun b=>b<w4.heap.size∧b≠d∧b≠H∧v.ownBlock≠some b) w4 w2
theorem gG.laid {dead:Bool} {w4 w2:World} (h:gG d H S n v m held safe P armed fails dead ops w4 w2) (x:Int):gG d H S n v m held safe P armed fails dead x w4 (w2.setCell ⟨d,6,none⟩ (.int .i64 x)):=by
 obtain ⟨v',h1,h2,h3⟩:=h
 exact ⟨v',h1.ops_ x,h2,h3.setCell (fun h=>h.2.1 rfl) _⟩
theorem gG.same {dead:Bool} {w4 w2:World} (h:Dm w2 d H S n v m held safe P armed fails dead ops) (hk:Kept (fun b=>b≠d) w4 w2):gG d H S n v m held safe P armed fails dead ops w4 w2 :=
 ⟨v,h,fun g hg=>.inl hg,hk.mono (fun b h=>h.2.1)⟩
theorem gG.base {dead:Bool} {w4 w2:World} (h:gG d H S n v m held safe P armed fails dead ops w4 w2) (hb:Below w.heap.size w w4):gG d H S n v m held safe P armed fails dead ops w w2:=by
 obtain ⟨v',h1,h2,h3⟩:=h
 refine ⟨v',h1,fun g hg=>?_,?_⟩
 ·rcases h2 g hg with h | h
  ·exact .inl h
  ·exact .inr (nT hb.size h)
 ·exact (Kept.of_below hb (fun b h=>h.1)).trans h3 (fun b h=>⟨nL h.1 hb.size,h.2⟩)
theorem F8 {w1 w4:World} (hd1:Dm w1 d H S n v m held safe P armed fails false ops) (hk1:Kept (fun b=>b≠d) w4 w1) (xss:List (List Int)) (hs:qY xss) (hh:held=flat xss) (hn:xss.length=n) (hn2:n≤2048) (i:Nat) (hi:i<n) (a:Nat) (ys:List Int) (hy:ys.length=64)
 (hgd:z8 w4 a 25 #[.pointer (some ⟨d,0,none⟩)]) (hgi:z8 w4 (a+1) 3 #[.int .i64 i]) (hgb:qB w4 (a+1+1) ys) (hda:d<a) (hH:H<a) (hm:m≤1000000) :
 Calls Tryz.prog 158 #[.pointer (some ⟨a+1+1,0,none⟩),.pointer (some ⟨a,0,none⟩),.pointer (some ⟨a+1,0,none⟩)] w1 fun e w2=>e=.returned (.tuple #[])∧gG d H S n v (m+1) (flat (xss.set i ys)) safe (P++qP (i,ys)) armed fails false ops w4 w2:=by
 refine (NT hd1 xss hs hh hn hn2 i hi a (a+1) (a+1+1) ys hy (hgd.kept hk1 (by omega)) (hgi.kept hk1 (by omega)) (qF.kept hgb hk1 (by omega)) (by omega) hm).mono ?_
 rintro e w2 ⟨rfl,v',h1,h2,h3⟩
 refine ⟨rfl,v',h1,fun g hg=>?_,?_⟩
 ·rcases h2 g hg with h | h
  ·exact .inl h
  ·exact .inr (nT hk1.size h)
 ·exact (hk1.mono (fun b h=>h.2.1)).trans h3 (fun b h=>⟨nL h.1 hk1.size,h.2⟩)
theorem NR (h:Dm w d H S n v m held safe P armed fails false ops) (i:Nat) (hi:i<n) (ys:List Int) (hy:ys.length=64) (xss:List (List Int)) (hs:qY xss) (hh:held=flat xss) (hn:xss.length=n) (hn2:n≤2048) (hf0:-9223372036854775808≤fails) (hf1:fails≤9223372036854775807) (hz:fails≠0) (ha0:-9223372036854775808≤armed) (ha1:armed≤9223372036854775807) (haz:armed≠0) (hm:m≤1000000) :
 Calls Tryz.prog 105 #[.pointer (some ⟨d,0,none⟩),.int .i64 i,.agg (zA ys)] w fun e w'=>e=.returned (.int .i64 0)∧gG d H S n v (m+1) (flat (xss.set i ys)) safe (P++qP (i,ys)) (struck armed) (struck fails) false (wrap64 (ops+1)) w w':=by
 have aP:=uT Tryz.prog
 have HM:=hI h
 have qd:=hI h.blk.lt
 have HY:=hI hy
 have HS:=hI hs
 have HH:=hI hh
 have HN:=hI hn
 have HZ:=hI hz
 have tF:=hI haz
 clear hs hh hn hz haz
 clear h hy
 go_enter Tryz.func105,Tryz.ntmps105
 go_upto_region 1 with fail
 have xw:=hI (((HM.out.alloc (.cells #[.pointer (some ⟨d,0,none⟩)] 25)).alloc (.cells #[.int .i64 i] 3)).alloc (.cells (zA ys) 186))
 have HD3:=hI (show z8 (((w.alloc (.cells #[.pointer (some ⟨d,0,none⟩)] 25)).alloc (.cells #[.int .i64 i] 3)).alloc (.cells (zA ys) 186)) w.heap.size 25 #[.pointer (some ⟨d,0,none⟩)] from ((z8.new w _ _).alloc _).alloc _)
 have HI3:=hI (show z8 (((w.alloc (.cells #[.pointer (some ⟨d,0,none⟩)] 25)).alloc (.cells #[.int .i64 i] 3)).alloc (.cells (zA ys) 186)) (w.heap.size+1) 3 #[.int .i64 i] from (zY w _ _ _).alloc _)
 have wO:=hI (show qB (((w.alloc (.cells #[.pointer (some ⟨d,0,none⟩)] 25)).alloc (.cells #[.int .i64 i] 3)).alloc (.cells (zA ys) 186)) (w.heap.size+1+1) ys from jw w _ _ _ _)
 have HB3:=hI (show Below w.heap.size w (((w.alloc (.cells #[.pointer (some ⟨d,0,none⟩)] 25)).alloc (.cells #[.int .i64 i] 3)).alloc (.cells (zA ys) 186)) from (((Below.refl _ _).alloc (nR _) _).alloc (by simp) _).alloc (by simp; omega) _)
 generalize hw3:((w.alloc (.cells #[.pointer (some ⟨d,0,none⟩)] 25)).alloc (.cells #[.int .i64 i] 3)).alloc (.cells (zA ys) 186)=w4 at *
 have HZ3:=hI (show w.heap.size+1+1<w4.heap.size from wO.out.lt)
 have dK:=hI (show H<w.heap.size from HM.out.hh.lt)
 have dW:=hI HM.out.vlt
 clear hw3
 have cd:=HD3.out.cell 0
 have ci:=HI3.out.cell 0
 simp only[List.getElem?_toArray,List.getElem?_cons_zero] at cd ci
 go_region_held3 (fun W=>W.cell? ⟨w.heap.size,0,none⟩=some (.pointer (some ⟨d,0,none⟩))∧W.cell? ⟨w.heap.size+1,0,none⟩=some (.int .i64 i))
  (first | exact ⟨cd,ci⟩ | exact ⟨ed,ei⟩)
  (first
    | (go_at_call 157; refine (fA xw.out.drew i hi).mono ?_; rintro e w' ⟨rfl,rfl⟩; simp only[Bool.false_eq_true,if_false,if_true])
    | (go_at_call 156; refine (FR xw.out.drew hf0 hf1 HZ.out ha0 ha1 tF.out _ _ _ (gG d H S n v (m+1) (flat (xss.set i ys)) safe (P++qP (i,ys)) (struck armed) (struck fails) false ops w4.drew) (fun w1 hd1 hk1=>F8 hd1 hk1 xss HS.out HH.out HN.out hn2 i hi w.heap.size ys HY.out HD3.out HI3.out wO.out qd.out dK.out hm) (fun w2 hr=>⟨hr.choose_spec.1.cell.2.2.2.2.2.2,hr.choose_spec.1.frozen 6⟩)).mono ?_; rintro e wf ⟨rfl,w2,hr,hwf⟩; have hf:gG d H S n v (m+1) (flat (xss.set i ys)) safe (P++qP (i,ys)) (struck armed) (struck fails) false (wrap64 (ops+1)) w4.drew wf:=(by rw[hwf]; exact hr.laid _); clear hr hwf; have HF:=hI hf; have ed:=((z8.drew HD3.out).kept (HF.out.choose_spec.2.2) ⟨by show w.heap.size<w4.heap.size; have:=HZ3.out; omega,by have:=qd.out; omega,by have:=dK.out; omega,fun h=>by have:=dW.out _ h; omega⟩).cell 0; have ei:=((z8.drew HI3.out).kept (HF.out.choose_spec.2.2) ⟨by show w.heap.size+1<w4.heap.size; have:=HZ3.out; omega,by have:=qd.out; omega,by have:=dK.out; omega,fun h=>by have:=dW.out _ h; omega⟩).cell 0; simp only[List.getElem?_toArray,List.getElem?_cons_zero] at ed ei; clear hf))
 all_goals
  clear ed ei cd ci
  go_wp2
  go_ret
  exact ⟨rfl,HF.out.base HB3.out.drew⟩
theorem Og (h:Dm w d H S n v m held safe P armed fails false ops) (i:Nat) (hi:i<n) (ys:List Int) (hy:ys.length=64) (hf0:-9223372036854775808≤fails) (hf1:fails≤9223372036854775807) (hz:fails=0) :
 Calls Tryz.prog 105 #[.pointer (some ⟨d,0,none⟩),.int .i64 i,.agg (zA ys)] w fun e w'=>e=.returned (.int .i64 8)∧gG d H S n v m held safe P armed (-1) false ops w w':=by
 have aP:=uT Tryz.prog
 have HM:=hI h
 have qd:=hI h.blk.lt
 have HY:=hI hy
 have HZ:=hI hz
 clear hz
 clear h hy
 go_enter Tryz.func105,Tryz.ntmps105
 go_upto_region 1 with fail
 have xw:=hI (((HM.out.alloc (.cells #[.pointer (some ⟨d,0,none⟩)] 25)).alloc (.cells #[.int .i64 i] 3)).alloc (.cells (zA ys) 186))
 have HD3:=hI (show z8 (((w.alloc (.cells #[.pointer (some ⟨d,0,none⟩)] 25)).alloc (.cells #[.int .i64 i] 3)).alloc (.cells (zA ys) 186)) w.heap.size 25 #[.pointer (some ⟨d,0,none⟩)] from ((z8.new w _ _).alloc _).alloc _)
 have HI3:=hI (show z8 (((w.alloc (.cells #[.pointer (some ⟨d,0,none⟩)] 25)).alloc (.cells #[.int .i64 i] 3)).alloc (.cells (zA ys) 186)) (w.heap.size+1) 3 #[.int .i64 i] from (zY w _ _ _).alloc _)
 have wO:=hI (show qB (((w.alloc (.cells #[.pointer (some ⟨d,0,none⟩)] 25)).alloc (.cells #[.int .i64 i] 3)).alloc (.cells (zA ys) 186)) (w.heap.size+1+1) ys from jw w _ _ _ _)
 have HB3:=hI (show Below w.heap.size w (((w.alloc (.cells #[.pointer (some ⟨d,0,none⟩)] 25)).alloc (.cells #[.int .i64 i] 3)).alloc (.cells (zA ys) 186)) from (((Below.refl _ _).alloc (nR _) _).alloc (by simp) _).alloc (by simp; omega) _)
 generalize hw3:((w.alloc (.cells #[.pointer (some ⟨d,0,none⟩)] 25)).alloc (.cells #[.int .i64 i] 3)).alloc (.cells (zA ys) 186)=w4 at *
 have HZ3:=hI (show w.heap.size+1+1<w4.heap.size from wO.out.lt)
 have dK:=hI (show H<w.heap.size from HM.out.hh.lt)
 have dW:=hI HM.out.vlt
 clear hw3
 have cd:=HD3.out.cell 0
 have ci:=HI3.out.cell 0
 simp only[List.getElem?_toArray,List.getElem?_cons_zero] at cd ci
 go_region_held3 (fun W=>W.cell? ⟨w.heap.size,0,none⟩=some (.pointer (some ⟨d,0,none⟩))∧W.cell? ⟨w.heap.size+1,0,none⟩=some (.int .i64 i))
  (first | exact ⟨cd,ci⟩ | exact ⟨ed,ei⟩)
  (first
    | (go_at_call 157; refine (fA xw.out.drew i hi).mono ?_; rintro e w' ⟨rfl,rfl⟩; simp only[Bool.false_eq_true,if_false,if_true])
    | (go_at_call 156; refine (Wi xw.out.drew hf0 hf1 HZ.out _).mono ?_; rintro e wf ⟨rfl,hd,hk⟩; have hf:=gG.same hd hk; clear hd hk; have HF:=hI hf; have ed:=((z8.drew HD3.out).kept (HF.out.choose_spec.2.2) ⟨by show w.heap.size<w4.heap.size; have:=HZ3.out; omega,by have:=qd.out; omega,by have:=dK.out; omega,fun h=>by have:=dW.out _ h; omega⟩).cell 0; have ei:=((z8.drew HI3.out).kept (HF.out.choose_spec.2.2) ⟨by show w.heap.size+1<w4.heap.size; have:=HZ3.out; omega,by have:=qd.out; omega,by have:=dK.out; omega,fun h=>by have:=dW.out _ h; omega⟩).cell 0; simp only[List.getElem?_toArray,List.getElem?_cons_zero] at ed ei; clear hf))
 all_goals
  clear ed ei cd ci
  go_wp2
  go_ret
  exact ⟨rfl,HF.out.base HB3.out.drew⟩
theorem TP (h:Dm w d H S n v m held safe P armed fails false ops) (i:Nat) (hi:i<n) (ys:List Int) (hy:ys.length=64) (hf0:-9223372036854775808≤fails) (hf1:fails≤9223372036854775807) (hz:fails≠0) (ha0:-9223372036854775808≤armed) (ha1:armed≤9223372036854775807) (haz:armed=0) :
 Calls Tryz.prog 105 #[.pointer (some ⟨d,0,none⟩),.int .i64 i,.agg (zA ys)] w fun e w'=>e=.returned (.int .i64 7)∧gG d H S n v m held safe P (-1) (struck fails) true ops w w':=by
 have aP:=uT Tryz.prog
 have HM:=hI h
 have qd:=hI h.blk.lt
 have HY:=hI hy
 have HZ:=hI hz
 have tF:=hI haz
 clear hz haz
 clear h hy
 go_enter Tryz.func105,Tryz.ntmps105
 go_upto_region 1 with fail
 have xw:=hI (((HM.out.alloc (.cells #[.pointer (some ⟨d,0,none⟩)] 25)).alloc (.cells #[.int .i64 i] 3)).alloc (.cells (zA ys) 186))
 have HD3:=hI (show z8 (((w.alloc (.cells #[.pointer (some ⟨d,0,none⟩)] 25)).alloc (.cells #[.int .i64 i] 3)).alloc (.cells (zA ys) 186)) w.heap.size 25 #[.pointer (some ⟨d,0,none⟩)] from ((z8.new w _ _).alloc _).alloc _)
 have HI3:=hI (show z8 (((w.alloc (.cells #[.pointer (some ⟨d,0,none⟩)] 25)).alloc (.cells #[.int .i64 i] 3)).alloc (.cells (zA ys) 186)) (w.heap.size+1) 3 #[.int .i64 i] from (zY w _ _ _).alloc _)
 have wO:=hI (show qB (((w.alloc (.cells #[.pointer (some ⟨d,0,none⟩)] 25)).alloc (.cells #[.int .i64 i] 3)).alloc (.cells (zA ys) 186)) (w.heap.size+1+1) ys from jw w _ _ _ _)
 have HB3:=hI (show Below w.heap.size w (((w.alloc (.cells #[.pointer (some ⟨d,0,none⟩)] 25)).alloc (.cells #[.int .i64 i] 3)).alloc (.cells (zA ys) 186)) from (((Below.refl _ _).alloc (nR _) _).alloc (by simp) _).alloc (by simp; omega) _)
 generalize hw3:((w.alloc (.cells #[.pointer (some ⟨d,0,none⟩)] 25)).alloc (.cells #[.int .i64 i] 3)).alloc (.cells (zA ys) 186)=w4 at *
 have HZ3:=hI (show w.heap.size+1+1<w4.heap.size from wO.out.lt)
 have dK:=hI (show H<w.heap.size from HM.out.hh.lt)
 have dW:=hI HM.out.vlt
 clear hw3
 have cd:=HD3.out.cell 0
 have ci:=HI3.out.cell 0
 simp only[List.getElem?_toArray,List.getElem?_cons_zero] at cd ci
 go_region_held3 (fun W=>W.cell? ⟨w.heap.size,0,none⟩=some (.pointer (some ⟨d,0,none⟩))∧W.cell? ⟨w.heap.size+1,0,none⟩=some (.int .i64 i))
  (first | exact ⟨cd,ci⟩ | exact ⟨ed,ei⟩)
  (first
    | (go_at_call 157; refine (fA xw.out.drew i hi).mono ?_; rintro e w' ⟨rfl,rfl⟩; simp only[Bool.false_eq_true,if_false,if_true])
    | (go_at_call 156; refine (XQ xw.out.drew hf0 hf1 HZ.out ha0 ha1 tF.out _).mono ?_; rintro e wf ⟨rfl,hd,hk⟩; have hf:=gG.same hd hk; clear hd hk; have HF:=hI hf; have ed:=((z8.drew HD3.out).kept (HF.out.choose_spec.2.2) ⟨by show w.heap.size<w4.heap.size; have:=HZ3.out; omega,by have:=qd.out; omega,by have:=dK.out; omega,fun h=>by have:=dW.out _ h; omega⟩).cell 0; have ei:=((z8.drew HI3.out).kept (HF.out.choose_spec.2.2) ⟨by show w.heap.size+1<w4.heap.size; have:=HZ3.out; omega,by have:=qd.out; omega,by have:=dK.out; omega,fun h=>by have:=dW.out _ h; omega⟩).cell 0; simp only[List.getElem?_toArray,List.getElem?_cons_zero] at ed ei; clear hf))
 all_goals
  clear ed ei cd ci
  go_wp2
  go_ret
  exact ⟨rfl,HF.out.base HB3.out.drew⟩
theorem NS (h:Dm w d H S n v m held safe P armed fails true ops) (i:Nat) (hi:i<n) (ys:List Int) (hy:ys.length=64) :
 Calls Tryz.prog 105 #[.pointer (some ⟨d,0,none⟩),.int .i64 i,.agg (zA ys)] w fun e w'=>e=.returned (.int .i64 7)∧gG d H S n v m held safe P armed fails true ops w w':=by
 have aP:=uT Tryz.prog
 have HM:=hI h
 have qd:=hI h.blk.lt
 have HY:=hI hy
 clear h hy
 go_enter Tryz.func105,Tryz.ntmps105
 go_upto_region 1 with fail
 have xw:=hI (((HM.out.alloc (.cells #[.pointer (some ⟨d,0,none⟩)] 25)).alloc (.cells #[.int .i64 i] 3)).alloc (.cells (zA ys) 186))
 have HD3:=hI (show z8 (((w.alloc (.cells #[.pointer (some ⟨d,0,none⟩)] 25)).alloc (.cells #[.int .i64 i] 3)).alloc (.cells (zA ys) 186)) w.heap.size 25 #[.pointer (some ⟨d,0,none⟩)] from ((z8.new w _ _).alloc _).alloc _)
 have HI3:=hI (show z8 (((w.alloc (.cells #[.pointer (some ⟨d,0,none⟩)] 25)).alloc (.cells #[.int .i64 i] 3)).alloc (.cells (zA ys) 186)) (w.heap.size+1) 3 #[.int .i64 i] from (zY w _ _ _).alloc _)
 have wO:=hI (show qB (((w.alloc (.cells #[.pointer (some ⟨d,0,none⟩)] 25)).alloc (.cells #[.int .i64 i] 3)).alloc (.cells (zA ys) 186)) (w.heap.size+1+1) ys from jw w _ _ _ _)
 have HB3:=hI (show Below w.heap.size w (((w.alloc (.cells #[.pointer (some ⟨d,0,none⟩)] 25)).alloc (.cells #[.int .i64 i] 3)).alloc (.cells (zA ys) 186)) from (((Below.refl _ _).alloc (nR _) _).alloc (by simp) _).alloc (by simp; omega) _)
 generalize hw3:((w.alloc (.cells #[.pointer (some ⟨d,0,none⟩)] 25)).alloc (.cells #[.int .i64 i] 3)).alloc (.cells (zA ys) 186)=w4 at *
 have HZ3:=hI (show w.heap.size+1+1<w4.heap.size from wO.out.lt)
 have dK:=hI (show H<w.heap.size from HM.out.hh.lt)
 have dW:=hI HM.out.vlt
 clear hw3
 have cd:=HD3.out.cell 0
 have ci:=HI3.out.cell 0
 simp only[List.getElem?_toArray,List.getElem?_cons_zero] at cd ci
 go_region_held3 (fun W=>W.cell? ⟨w.heap.size,0,none⟩=some (.pointer (some ⟨d,0,none⟩))∧W.cell? ⟨w.heap.size+1,0,none⟩=some (.int .i64 i))
  (first | exact ⟨cd,ci⟩ | exact ⟨ed,ei⟩)
  (first
    | (go_at_call 157; refine (fA xw.out.drew i hi).mono ?_; rintro e w' ⟨rfl,rfl⟩; simp only[Bool.false_eq_true,if_false,if_true])
    | (go_at_call 156; refine (mO _ d 7 (by decide) true _).mono ?_; rintro e wf ⟨rfl,JB⟩; have hf:=gG.same (w4:=w4.drew) (w2:=wf) (by rw[← JB]; exact xw.out.drew) (by rw[← JB]; exact Kept.refl _ _); clear JB; have HF:=hI hf; have ed:=((z8.drew HD3.out).kept (HF.out.choose_spec.2.2) ⟨by show w.heap.size<w4.heap.size; have:=HZ3.out; omega,by have:=qd.out; omega,by have:=dK.out; omega,fun h=>by have:=dW.out _ h; omega⟩).cell 0; have ei:=((z8.drew HI3.out).kept (HF.out.choose_spec.2.2) ⟨by show w.heap.size+1<w4.heap.size; have:=HZ3.out; omega,by have:=qd.out; omega,by have:=dK.out; omega,fun h=>by have:=dW.out _ h; omega⟩).cell 0; simp only[List.getElem?_toArray,List.getElem?_cons_zero] at ed ei; clear hf))
 all_goals
  clear ed ei cd ci
  go_wp2
  go_ret
  exact ⟨rfl,HF.out.base HB3.out.drew⟩
end
end
section
section
variable {w:World} {d H S n:Nat} {v:Value} {m:Nat} {held safe:List Int} {P:List Value} {armed fails:Int} {ops:Int}
def lD (d H S n:Nat) (v:Value) (m:Nat) (held safe:List Int) (P:List Value) (armed fails:Int) (dead:Bool) (ops:Int) (w4 w2:World):Prop :=
 ∃ v',Dm w2 d H S n v' m held safe P armed fails dead ops∧(∀ g,v'.ownBlock=some g→v.ownBlock=some g∨w4.heap.size≤g)∧Kept (fun b=>b<w4.heap.size∧b≠d∧b≠H∧b≠S∧v.ownBlock≠some b) w4 w2
theorem gG.sy {dead:Bool} {w4 w2:World} (h:gG d H S n v m held safe P armed fails dead ops w4 w2):lD d H S n v m held safe P armed fails dead ops w4 w2:=by
 obtain ⟨v',h1,h2,h3⟩:=h
 exact ⟨v',h1,h2,h3.mono (fun b h=>⟨h.1,h.2.1,h.2.2.1,h.2.2.2.2⟩)⟩
theorem lD.laid {dead:Bool} {w4 w2:World} (h:lD d H S n v m held safe P armed fails dead ops w4 w2) (x:Int):lD d H S n v m held safe P armed fails dead x w4 (w2.setCell ⟨d,6,none⟩ (.int .i64 x)):=by
 obtain ⟨v',h1,h2,h3⟩:=h
 exact ⟨v',h1.ops_ x,h2,h3.setCell (fun h=>h.2.1 rfl) _⟩
theorem lD.base {dead:Bool} {w4 w2:World} (h:lD d H S n v m held safe P armed fails dead ops w4 w2) (hb:Below w.heap.size w w4):lD d H S n v m held safe P armed fails dead ops w w2:=by
 obtain ⟨v',h1,h2,h3⟩:=h
 refine ⟨v',h1,fun g hg=>?_,?_⟩
 ·rcases h2 g hg with h | h
  ·exact .inl h
  ·exact .inr (nT hb.size h)
 ·exact (Kept.of_below hb (fun b h=>h.1)).trans h3 (fun b h=>⟨nL h.1 hb.size,h.2⟩)
theorem Td {dead:Bool} {held safe:List (List Int)} {pend:List (Nat × List Int)} (h:Dm w d H S n v m (flat held) (flat safe) (yE pend) armed fails dead ops) (hs:qY safe) (dw:held=over safe pend) (hn:safe.length=n) (hn2:n≤2048) (hf:Fits n pend)
 (g:Nat) (hg:w.cell? ⟨g,0,none⟩=some (.pointer (some ⟨d,0,none⟩))) :
 Calls Tryz.prog 160 #[.pointer (some ⟨g,0,none⟩)] w fun e w'=>e=.returned (.tuple #[]) ∧
  Dm w' d H S n (.slice none 0 0) 0 (flat (over safe pend)) (flat (over safe pend)) [] armed fails dead ops∧Kept (fun b=>b<w.heap.size∧b≠d∧b≠H∧b≠S) w w':=by
 have hlen:=MI h.own (fun p hp=>(hf p hp).2.1)
 have HL:=hI (show lived (fun _=>true) pend m=pend by rw[P6]; exact List.take_of_length_le (by omega))
 have HC:=hI (fun (u:Unit)=>Nh h hs dw hn hn2 hf)
 clear h hs dw hn hf hlen
 go_enter Tryz.func160,Tryz.ntmps160
 go_wp2_with (go_at_call 161; refine (HC.out ()).mono ?_; rintro e w' ⟨rfl,dG,hk⟩; rw[HL.out] at dG; have HD:=hI dG; have HK:=hI hk; clear dG hk)
 go_end0
 exact ⟨rfl,HD.out,HK.out⟩
theorem Nc {held safe:List (List Int)} {pend:List (Nat × List Int)} {w1 w4:World} (hd1:Dm w1 d H S n v m (flat held) (flat safe) (yE pend) armed fails false ops) (hk1:Kept (fun b=>b≠d) w4 w1) (hs:qY safe) (dw:held=over safe pend) (hn:safe.length=n) (hn2:n≤2048) (hf:Fits n pend)
 (g:Nat) (hg:z8 w4 g 25 #[.pointer (some ⟨d,0,none⟩)]) (hdg:d<g) :
 Calls Tryz.prog 160 #[.pointer (some ⟨g,0,none⟩)] w1 fun e w2=>e=.returned (.tuple #[])∧lD d H S n v 0 (flat (over safe pend)) (flat (over safe pend)) [] armed fails false ops w4 w2:=by
 refine (Td hd1 hs dw hn hn2 hf g ((hg.kept hk1 (by omega)).cell 0)).mono ?_
 rintro e w2 ⟨rfl,h1,h2⟩
 refine ⟨rfl,_,h1,fun g hg=>(by simp[Value.ownBlock] at hg),?_⟩
 exact (hk1.mono (fun b h=>h.2.1)).trans h2 (fun b h=>⟨nL h.1 hk1.size,h.2.1,h.2.2.1,h.2.2.2.1⟩)
theorem Ta {held safe:List (List Int)} {pend:List (Nat × List Int)} (h:Dm w d H S n v m (flat held) (flat safe) (yE pend) armed fails false ops) (hs:qY safe) (dw:held=over safe pend) (hn:safe.length=n) (hn2:n≤2048) (hf:Fits n pend) (hf0:-9223372036854775808≤fails) (hf1:fails≤9223372036854775807) (hz:fails≠0) (ha0:-9223372036854775808≤armed) (ha1:armed≤9223372036854775807) (haz:armed≠0) :
 Calls Tryz.prog 108 #[.pointer (some ⟨d,0,none⟩)] w fun e w'=>e=.returned (.int .i64 0)∧lD d H S n v 0 (flat (over safe pend)) (flat (over safe pend)) [] (struck armed) (struck fails) false (wrap64 (ops+1)) w w':=by
 have aP:=uT Tryz.prog
 have HM:=hI h
 have qd:=hI h.blk.lt
 have HS:=hI hs
 have HH:=hI dw
 have HN:=hI hn
 have HZ:=hI hz
 have tF:=hI haz
 have HFT:=hI hf
 clear hs dw hn hz haz hf
 clear h
 go_enter Tryz.func108,Tryz.ntmps108
 go_upto_region 1 with fail
 have xw:=hI (HM.out.alloc (.cells #[.pointer (some ⟨d,0,none⟩)] 25))
 have HD3:=hI (show z8 (w.alloc (.cells #[.pointer (some ⟨d,0,none⟩)] 25)) w.heap.size 25 #[.pointer (some ⟨d,0,none⟩)] from z8.new w _ _)
 have HB3:=hI (show Below w.heap.size w (w.alloc (.cells #[.pointer (some ⟨d,0,none⟩)] 25)) from (Below.refl _ _).alloc (nR _) _)
 generalize hw3:w.alloc (.cells #[.pointer (some ⟨d,0,none⟩)] 25)=w4 at *
 have HZ3:=hI (show w.heap.size<w4.heap.size from HD3.out.lt)
 have dK:=hI (show H<w.heap.size from HM.out.hh.lt)
 have HSL:=hI (show S<w.heap.size from HM.out.ss.lt)
 have dW:=hI HM.out.vlt
 clear hw3
 have cd:=HD3.out.cell 0
 simp only[List.getElem?_toArray,List.getElem?_cons_zero] at cd
 go_region_held3 (fun W=>W.cell? ⟨w.heap.size,0,none⟩=some (.pointer (some ⟨d,0,none⟩)))
  (first | exact cd | exact ed)
  (first
    | (go_at_call 159; refine (sF xw.out.drew).mono ?_; rintro e w' ⟨rfl,rfl⟩; simp only[Bool.false_eq_true,if_false,if_true])
    | (go_at_call 156; refine (R9 xw.out.drew hf0 hf1 HZ.out ha0 ha1 tF.out _ (lD d H S n v 0 (flat (over safe pend)) (flat (over safe pend)) [] (struck armed) (struck fails) false ops w4.drew) (fun w1 hd1 hk1=>Nc hd1 hk1 HS.out HH.out HN.out hn2 HFT.out w.heap.size HD3.out qd.out) (fun w2 hr=>⟨hr.choose_spec.1.cell.2.2.2.2.2.2,hr.choose_spec.1.frozen 6⟩)).mono ?_; rintro e wf ⟨rfl,w2,hr,hwf⟩; have hf:lD d H S n v 0 (flat (over safe pend)) (flat (over safe pend)) [] (struck armed) (struck fails) false (wrap64 (ops+1)) w4.drew wf:=(by rw[hwf]; exact hr.laid _); clear hr hwf; have HF:=hI hf; have ed:=((z8.drew HD3.out).kept (HF.out.choose_spec.2.2) ⟨by show w.heap.size<w4.heap.size; have:=HZ3.out; omega,by have:=qd.out; omega,by have:=dK.out; omega,by have:=HSL.out; omega,fun h=>by have:=dW.out _ h; omega⟩).cell 0; simp only[List.getElem?_toArray,List.getElem?_cons_zero] at ed; clear hf))
 all_goals
  clear ed cd
  go_wp2
  go_ret
  exact ⟨rfl,HF.out.base HB3.out.drew⟩
theorem zCS (h:Dm w d H S n v m held safe P armed fails false ops) (hf0:-9223372036854775808≤fails) (hf1:fails≤9223372036854775807) (hz:fails=0) :
 Calls Tryz.prog 108 #[.pointer (some ⟨d,0,none⟩)] w fun e w'=>e=.returned (.int .i64 8)∧lD d H S n v m held safe P armed (-1) false ops w w':=by
 have aP:=uT Tryz.prog
 have HM:=hI h
 have qd:=hI h.blk.lt
 have HZ:=hI hz
 clear hz
 clear h
 go_enter Tryz.func108,Tryz.ntmps108
 go_upto_region 1 with fail
 have xw:=hI (HM.out.alloc (.cells #[.pointer (some ⟨d,0,none⟩)] 25))
 have HD3:=hI (show z8 (w.alloc (.cells #[.pointer (some ⟨d,0,none⟩)] 25)) w.heap.size 25 #[.pointer (some ⟨d,0,none⟩)] from z8.new w _ _)
 have HB3:=hI (show Below w.heap.size w (w.alloc (.cells #[.pointer (some ⟨d,0,none⟩)] 25)) from (Below.refl _ _).alloc (nR _) _)
 generalize hw3:w.alloc (.cells #[.pointer (some ⟨d,0,none⟩)] 25)=w4 at *
 have HZ3:=hI (show w.heap.size<w4.heap.size from HD3.out.lt)
 have dK:=hI (show H<w.heap.size from HM.out.hh.lt)
 have HSL:=hI (show S<w.heap.size from HM.out.ss.lt)
 have dW:=hI HM.out.vlt
 clear hw3
 have cd:=HD3.out.cell 0
 simp only[List.getElem?_toArray,List.getElem?_cons_zero] at cd
 go_region_held3 (fun W=>W.cell? ⟨w.heap.size,0,none⟩=some (.pointer (some ⟨d,0,none⟩)))
  (first | exact cd | exact ed)
  (first
    | (go_at_call 159; refine (sF xw.out.drew).mono ?_; rintro e w' ⟨rfl,rfl⟩; simp only[Bool.false_eq_true,if_false,if_true])
    | (go_at_call 156; refine (Wi xw.out.drew hf0 hf1 HZ.out _).mono ?_; rintro e wf ⟨rfl,hd,hk⟩; have hf:=(gG.same (v:=v) hd hk).sy; clear hd hk; have HF:=hI hf; have ed:=((z8.drew HD3.out).kept (HF.out.choose_spec.2.2) ⟨by show w.heap.size<w4.heap.size; have:=HZ3.out; omega,by have:=qd.out; omega,by have:=dK.out; omega,by have:=HSL.out; omega,fun h=>by have:=dW.out _ h; omega⟩).cell 0; simp only[List.getElem?_toArray,List.getElem?_cons_zero] at ed; clear hf))
 all_goals
  clear ed cd
  go_wp2
  go_ret
  exact ⟨rfl,HF.out.base HB3.out.drew⟩
theorem AB (h:Dm w d H S n v m held safe P armed fails false ops) (hf0:-9223372036854775808≤fails) (hf1:fails≤9223372036854775807) (hz:fails≠0) (ha0:-9223372036854775808≤armed) (ha1:armed≤9223372036854775807) (haz:armed=0) :
 Calls Tryz.prog 108 #[.pointer (some ⟨d,0,none⟩)] w fun e w'=>e=.returned (.int .i64 7)∧lD d H S n v m held safe P (-1) (struck fails) true ops w w':=by
 have aP:=uT Tryz.prog
 have HM:=hI h
 have qd:=hI h.blk.lt
 have HZ:=hI hz
 have tF:=hI haz
 clear hz haz
 clear h
 go_enter Tryz.func108,Tryz.ntmps108
 go_upto_region 1 with fail
 have xw:=hI (HM.out.alloc (.cells #[.pointer (some ⟨d,0,none⟩)] 25))
 have HD3:=hI (show z8 (w.alloc (.cells #[.pointer (some ⟨d,0,none⟩)] 25)) w.heap.size 25 #[.pointer (some ⟨d,0,none⟩)] from z8.new w _ _)
 have HB3:=hI (show Below w.heap.size w (w.alloc (.cells #[.pointer (some ⟨d,0,none⟩)] 25)) from (Below.refl _ _).alloc (nR _) _)
 generalize hw3:w.alloc (.cells #[.pointer (some ⟨d,0,none⟩)] 25)=w4 at *
 have HZ3:=hI (show w.heap.size<w4.heap.size from HD3.out.lt)
 have dK:=hI (show H<w.heap.size from HM.out.hh.lt)
 have HSL:=hI (show S<w.heap.size from HM.out.ss.lt)
 have dW:=hI HM.out.vlt
 clear hw3
 have cd:=HD3.out.cell 0
 simp only[List.getElem?_toArray,List.getElem?_cons_zero] at cd
 go_region_held3 (fun W=>W.cell? ⟨w.heap.size,0,none⟩=some (.pointer (some ⟨d,0,none⟩)))
  (first | exact cd | exact ed)
  (first
    | (go_at_call 159; refine (sF xw.out.drew).mono ?_; rintro e w' ⟨rfl,rfl⟩; simp only[Bool.false_eq_true,if_false,if_true])
    | (go_at_call 156; refine (XQ xw.out.drew hf0 hf1 HZ.out ha0 ha1 tF.out _).mono ?_; rintro e wf ⟨rfl,hd,hk⟩; have hf:=(gG.same (v:=v) hd hk).sy; clear hd hk; have HF:=hI hf; have ed:=((z8.drew HD3.out).kept (HF.out.choose_spec.2.2) ⟨by show w.heap.size<w4.heap.size; have:=HZ3.out; omega,by have:=qd.out; omega,by have:=dK.out; omega,by have:=HSL.out; omega,fun h=>by have:=dW.out _ h; omega⟩).cell 0; simp only[List.getElem?_toArray,List.getElem?_cons_zero] at ed; clear hf))
 all_goals
  clear ed cd
  go_wp2
  go_ret
  exact ⟨rfl,HF.out.base HB3.out.drew⟩
theorem Tc (h:Dm w d H S n v m held safe P armed fails true ops) :
 Calls Tryz.prog 108 #[.pointer (some ⟨d,0,none⟩)] w fun e w'=>e=.returned (.int .i64 7)∧lD d H S n v m held safe P armed fails true ops w w':=by
 have aP:=uT Tryz.prog
 have HM:=hI h
 have qd:=hI h.blk.lt
 clear h
 go_enter Tryz.func108,Tryz.ntmps108
 go_upto_region 1 with fail
 have xw:=hI (HM.out.alloc (.cells #[.pointer (some ⟨d,0,none⟩)] 25))
 have HD3:=hI (show z8 (w.alloc (.cells #[.pointer (some ⟨d,0,none⟩)] 25)) w.heap.size 25 #[.pointer (some ⟨d,0,none⟩)] from z8.new w _ _)
 have HB3:=hI (show Below w.heap.size w (w.alloc (.cells #[.pointer (some ⟨d,0,none⟩)] 25)) from (Below.refl _ _).alloc (nR _) _)
 generalize hw3:w.alloc (.cells #[.pointer (some ⟨d,0,none⟩)] 25)=w4 at *
 have HZ3:=hI (show w.heap.size<w4.heap.size from HD3.out.lt)
 have dK:=hI (show H<w.heap.size from HM.out.hh.lt)
 have HSL:=hI (show S<w.heap.size from HM.out.ss.lt)
 have dW:=hI HM.out.vlt
 clear hw3
 have cd:=HD3.out.cell 0
 simp only[List.getElem?_toArray,List.getElem?_cons_zero] at cd
 go_region_held3 (fun W=>W.cell? ⟨w.heap.size,0,none⟩=some (.pointer (some ⟨d,0,none⟩)))
  (first | exact cd | exact ed)
  (first
    | (go_at_call 159; refine (sF xw.out.drew).mono ?_; rintro e w' ⟨rfl,rfl⟩; simp only[Bool.false_eq_true,if_false,if_true])
    | (go_at_call 156; refine (mO _ d 7 (by decide) true _).mono ?_; rintro e wf ⟨rfl,JB⟩; have hf:=(gG.same (v:=v) (w4:=w4.drew) (w2:=wf) (by rw[← JB]; exact xw.out.drew) (by rw[← JB]; exact Kept.refl _ _)).sy; clear JB; have HF:=hI hf; have ed:=((z8.drew HD3.out).kept (HF.out.choose_spec.2.2) ⟨by show w.heap.size<w4.heap.size; have:=HZ3.out; omega,by have:=qd.out; omega,by have:=dK.out; omega,by have:=HSL.out; omega,fun h=>by have:=dW.out _ h; omega⟩).cell 0; simp only[List.getElem?_toArray,List.getElem?_cons_zero] at ed; clear hf))
 all_goals
  clear ed cd
  go_wp2
  go_ret
  exact ⟨rfl,HF.out.base HB3.out.drew⟩
end
end
end Go.Proofs.YtdkbpchmnhbhcaaGreat
