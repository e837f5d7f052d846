/- Texts of StoreMoves, packed. -/
import Derived.Test.YtdkbpchmnhbhcaaGreatPackStoreMoves3
import Derived.Deep.RegionHeld3
import Derived.Deep.DeepCutAuto
import Derived.Great.FillDense
set_option linter.unusedVariables false
set_option linter.unusedSimpArgs false
set_option maxRecDepth 100000
set_option maxHeartbeats 16000000
namespace Go.Proofs.YtdkbpchmnhbhcaaGreat
open Go.RowKit
section
theorem run_store_part {P:Program} {w:World} {g off n:Nat} {t ty:TypeId} (hsz:∀ w,(sizeOf ty).run P w=.ok n w) (F cs:List Value) (hg:Blk w g t F.toArray) (hl:cs.length=n) (hone:∀ v∈cs,v.oneCell'=true) (hfit:off+n≤F.length) :
 (Instr.storeAt ty (.pointer (some ⟨g,off,none⟩)) (.agg cs.toArray)).run P w=.ok () (w.setRow g (F.take off++cs++F.drop (off+n)).toArray):=by
 have hs:=run_storeCells_at P g off t cs 0 F.toArray w hg (by simp[hl]; omega) hone
 have he:(List.take (off+0) F.toArray.toList++cs++List.drop (off+0+cs.length) F.toArray.toList).toArray=(F.take off++cs++F.drop (off+n)).toArray:=by simp[hl]
 rw[he] at hs
 simp only[Instr.storeAt,Instr.sureAddr,Sem.run_bind,Sem.run_pure,Result.andThen_ok,storeVar,hsz,Value.cells]
 simpa [hl] using hs
section
variable {P:Program} {w:World} {ops:Array Oper} {rest:List Oper} {o:Oper} {a:Act} {Q:Exit→Act→World→Prop} {K:Act→World→Prop} {E:Prop}
theorem wpList_store_part (x y:Operand) (ty:TypeId) (ho:o.op=.store ty x y) (hgd:Region.wanted o (yielded ops a.tmps)=true) {n:Nat} (hsz:∀ w,(sizeOf ty).run P w=.ok n w) (g off:Nat) (cs:List Value)
 (hx:a.eval x=.pointer (some ⟨g,off,none⟩)) (hy:a.eval y=.agg cs.toArray) (t:TypeId) (F:List Value) (hg:Blk w g t F.toArray) (hl:cs.length=n) (hone:∀ v∈cs,v.oneCell'=true) (hfit:off+n≤F.length)
 (h:wpList P ops Q rest (a.put o.dst undef) (w.setRow g (F.take off++cs++F.drop (off+n)).toArray)):wpList P ops Q (o::rest) a w:=by
 refine wpList_step fun K hK=>?_
 rw[if_pos hgd]
 unfold Oper.wp execOp
 simp only[ho,hx,hy,run_store_part hsz F cs hg hl hone hfit,Sem.run_bind,Result.andThen_ok]
 exact hK _ _ h
end
theorem far_cells {w:World} {g o:Nat} (cs:List Value) {b off:Nat} {v:Value} (hc:w.cell? ⟨b,off,none⟩=some v) (h:b≠g):(w.setCells g o cs).cell? ⟨b,off,none⟩=some v :=
 (World.cell?_setCells_out g cs o w ⟨b,off,none⟩ (fun e _=>absurd e h)).trans hc
theorem far_cells_range {w:World} {g o b off:Nat} {cs:List Value} {xs:List Value} (hr:w.rangeAt b off xs) (h:b≠g):(w.setCells g o cs).rangeAt b off xs :=
 fun j v hv=>far_cells cs (hr j v hv) h
theorem Blk.there {w:World} {g:Nat} {t:TypeId} {F:List Value} (h:Blk w g t F.toArray) {o n:Nat} (hn:o+n≤F.length):w.there g o n:=fun j hj=>by
 refine ⟨?_,h.frozen _⟩
 rw[h.cell (o+j)]
 simp[List.getElem?_eq_getElem (show o+j<F.length by omega)]
theorem setCells_row {P:Program} {w:World} {g:Nat} {t:TypeId} {F:List Value} (h:Blk w g t F.toArray) (o:Nat) (cs:List Value) (hone:∀ v∈cs,v.oneCell'=true) (hfit:o+cs.length≤F.length) :
 w.setCells g o cs=w.setRow g (F.take o++cs++F.drop (o+cs.length)).toArray:=by
 have h1:=run_storeCells_cells (P:=P) g o cs 0 w (fun j hj=>(h.there hfit j hj).1) (fun j hj=>(h.there hfit j hj).2) hone
 have h2:=run_storeCells_at P g o t cs 0 F.toArray w h (by simpa using hfit) hone
 have he:(List.take (o+0) F.toArray.toList++cs++List.drop (o+0+cs.length) F.toArray.toList).toArray=(F.take o++cs++F.drop (o+cs.length)).toArray:=by simp
 rw[he] at h2
 rw[h1] at h2
 injection h2
theorem ones8 (xs:List Int):∀ v∈xs.map (Value.int .u8),v.oneCell'=true:=by
 intro v hv
 obtain ⟨x,_,rfl⟩:=List.mem_map.1 hv
 rfl
def wcells (p:Nat × List Int):List Value:=.int .i64 p.1::p.2.map (Value.int .u8)
def flatP (l:List (Nat × List Int)):List Value:=l.flatMap wcells
theorem flatP_append (l m:List (Nat × List Int)):flatP (l++m)=flatP l++flatP m:=by simp[flatP]
theorem flatP_one (p:Nat × List Int):flatP [p]=wcells p:=by simp[flatP]
theorem wcells_length (p:Nat × List Int) (h:p.2.length=64):(wcells p).length=65:=by simp[wcells,h]
theorem flatP_length {l:List (Nat × List Int)} (h:∀ p∈l,p.2.length=64):(flatP l).length=l.length*65:=by
 induction l with
 | nil=>rfl
 | cons p r ih =>
  have h1:=wcells_length p (h p (List.mem_cons_self ..))
  have h2:=ih (fun q hq=>h q (List.mem_cons_of_mem _ hq))
  simp only[flatP,List.flatMap_cons,List.length_append,List.length_cons] at *
  omega
theorem flatP_part {l:List (Nat × List Int)} (h:∀ p∈l,p.2.length=64) (i:Nat) (hi:i<l.length) (j:Nat) (hj:j<65):(flatP l)[i*65+j]? = (wcells l[i])[j]? := by
 have hc:l=l.take i++(l[i]::l.drop (i+1)):=by rw[← List.drop_eq_getElem_cons hi,List.take_append_drop]
 have hw:=wcells_length l[i] (h _ (List.getElem_mem hi))
 have ht:=flatP_length (l:=l.take i) (fun p hp=>h p (List.mem_of_mem_take hp))
 rw[List.length_take,Nat.min_eq_left (by omega)] at ht
 have e:flatP l=flatP (l.take i)++(wcells l[i]++flatP (l.drop (i+1))):=by
  conv=>lhs; rw[hc]
  rw[flatP_append]
  congr 1
 rw[e,List.getElem?_append_right (by omega),List.getElem?_append_left (by omega),ht]
 congr 1
 omega
theorem wcells_one (p:Nat × List Int):∀ v∈wcells p,v.oneCell'=true:=by
 intro v hv
 rcases List.mem_cons.1 hv with rfl | hv
 ·rfl
 ·obtain ⟨x,_,rfl⟩:=List.mem_map.1 hv
  rfl
structure Dm (w:World) (d H S n:Nat) (v:Value) (m:Nat) (held safe:List Int) (P:List Value) (armed fails:Int) (dead:Bool) (ops:Int):Prop where
 blk:Blk w d 182 #[.slice (some ⟨H,0,none⟩) n n,.slice (some ⟨S,0,none⟩) n n,v,.int .i64 armed,.int .i64 fails,.bool dead,.int .i64 ops]
 hh:ArrB w H held
 ss:ArrB w S safe
 own:w.ownsRow 0 250 65 v m P
 ne:H≠S
theorem own_set {w:World} {base size n:Nat} {e:TypeId} {v:Value} {xs:List Value} (h:w.ownsRow base e size v n xs) {g:Nat} (hg:v.ownBlock≠some g) (i:Nat) (u:Value) :
 (w.setCell ⟨g,i,none⟩ u).ownsRow base e size v n xs :=
 h.kept (row:=some g) ⟨rfl,rfl,rfl,by simp[World.setCell],fun k _ hne=>Below.heap_setCell _ _ _ _ (fun e=>hne (by rw[e]))⟩ (.inr hg)
theorem own_kept {w w':World} {base size n:Nat} {e:TypeId} {v:Value} {xs:List Value} (h:w.ownsRow base e size v n xs) {X:Nat→Prop} (hk:Kept X w w') (hv:∀ g,v.ownBlock=some g→X g):w'.ownsRow base e size v n xs:=by
 refine ⟨h.1,?_⟩
 rcases h.2 with h0 | ⟨g,cap,cur,rfl,h2,h3,h4⟩
 ·exact .inl h0
 ·exact .inr ⟨g,cap,cur,rfl,h2,(hk.block g (hv g (by simp[Value.ownBlock]))).trans h3,h4⟩
section
variable {w w':World} {d H S n:Nat} {v:Value} {m:Nat} {held safe:List Int} {P:List Value} {armed fails:Int} {dead:Bool} {ops:Int}
theorem Dm.cell (h:Dm w d H S n v m held safe P armed fails dead ops):w.cell? ⟨d,0,none⟩=some (.slice (some ⟨H,0,none⟩) n n)∧w.cell? ⟨d,1,none⟩=some (.slice (some ⟨S,0,none⟩) n n)∧w.cell? ⟨d,2,none⟩=some v ∧
 w.cell? ⟨d,3,none⟩=some (.int .i64 armed)∧w.cell? ⟨d,4,none⟩=some (.int .i64 fails)∧w.cell? ⟨d,5,none⟩=some (.bool dead)∧w.cell? ⟨d,6,none⟩=some (.int .i64 ops) :=
 ⟨h.blk.cell 0,h.blk.cell 1,h.blk.cell 2,h.blk.cell 3,h.blk.cell 4,h.blk.cell 5,h.blk.cell 6⟩
theorem Dm.frozen (h:Dm w d H S n v m held safe P armed fails dead ops) (i:Nat):w.frozen? ⟨d,i,none⟩=false:=h.blk.frozen i
theorem Dm.dH (h:Dm w d H S n v m held safe P armed fails dead ops):d≠H:=h.blk.ne_ h.hh (by decide)
theorem Dm.dS (h:Dm w d H S n v m held safe P armed fails dead ops):d≠S:=h.blk.ne_ h.ss (by decide)
theorem Dm.vd (h:Dm w d H S n v m held safe P armed fails dead ops):v.ownBlock≠some d:=own_blk_ne h.own h.blk (by decide)
theorem Dm.vH (h:Dm w d H S n v m held safe P armed fails dead ops):v.ownBlock≠some H:=own_blk_ne h.own h.hh (by decide)
theorem Dm.vS (h:Dm w d H S n v m held safe P armed fails dead ops):v.ownBlock≠some S:=own_blk_ne h.own h.ss (by decide)
theorem Dm.vlt (h:Dm w d H S n v m held safe P armed fails dead ops):∀ g,v.ownBlock=some g→g<w.heap.size:=fun g hg=>(h.own.lt g hg).2
theorem Dm.kept (h:Dm w d H S n v m held safe P armed fails dead ops) {X:Nat→Prop} (hk:Kept X w w') (hd:X d) (hH:X H) (hS:X S) (hv:∀ g,v.ownBlock=some g→X g):Dm w' d H S n v m held safe P armed fails dead ops :=
 ⟨h.blk.kept hk hd,Arr.kept h.hh hk hH,Arr.kept h.ss hk hS,own_kept h.own hk hv,h.ne⟩
theorem Dm.below (h:Dm w d H S n v m held safe P armed fails dead ops) (hk:Below w.heap.size w w'):Dm w' d H S n v m held safe P armed fails dead ops :=
 ⟨h.blk.below hk h.blk.lt,Arr.below h.hh hk h.hh.lt,Arr.below h.ss hk h.ss.lt,own_below h.own hk,h.ne⟩
theorem Dm.drew (h:Dm w d H S n v m held safe P armed fails dead ops):Dm w.drew d H S n v m held safe P armed fails dead ops:=⟨h.blk,h.hh,h.ss,h.own,h.ne⟩
theorem Dm.drewN (h:Dm w d H S n v m held safe P armed fails dead ops) (k:Nat):Dm (w.drewN k) d H S n v m held safe P armed fails dead ops:=⟨h.blk,h.hh,h.ss,h.own,h.ne⟩
theorem Dm.alloc (h:Dm w d H S n v m held safe P armed fails dead ops) (o:Obj):Dm (w.alloc o) d H S n v m held safe P armed fails dead ops:=h.below ((Below.refl _ _).alloc (nR _) o)
theorem Dm.armed_ (h:Dm w d H S n v m held safe P armed fails dead ops) (x:Int):Dm (w.setCell ⟨d,3,none⟩ (.int .i64 x)) d H S n v m held safe P x fails dead ops :=
 ⟨h.blk.set_ 3 _,Blk.far h.hh (p:=⟨d,3,none⟩) h.dH.symm _,Blk.far h.ss (p:=⟨d,3,none⟩) h.dS.symm _,own_set h.own h.vd _ _,h.ne⟩
theorem Dm.fails_ (h:Dm w d H S n v m held safe P armed fails dead ops) (x:Int):Dm (w.setCell ⟨d,4,none⟩ (.int .i64 x)) d H S n v m held safe P armed x dead ops :=
 ⟨h.blk.set_ 4 _,Blk.far h.hh (p:=⟨d,4,none⟩) h.dH.symm _,Blk.far h.ss (p:=⟨d,4,none⟩) h.dS.symm _,own_set h.own h.vd _ _,h.ne⟩
theorem Dm.dead_ (h:Dm w d H S n v m held safe P armed fails dead ops) (x:Bool):Dm (w.setCell ⟨d,5,none⟩ (.bool x)) d H S n v m held safe P armed fails x ops :=
 ⟨h.blk.set_ 5 _,Blk.far h.hh (p:=⟨d,5,none⟩) h.dH.symm _,Blk.far h.ss (p:=⟨d,5,none⟩) h.dS.symm _,own_set h.own h.vd _ _,h.ne⟩
theorem Dm.ops_ (h:Dm w d H S n v m held safe P armed fails dead ops) (x:Int):Dm (w.setCell ⟨d,6,none⟩ (.int .i64 x)) d H S n v m held safe P armed fails dead x :=
 ⟨h.blk.set_ 6 _,Blk.far h.hh (p:=⟨d,6,none⟩) h.dH.symm _,Blk.far h.ss (p:=⟨d,6,none⟩) h.dS.symm _,own_set h.own h.vd _ _,h.ne⟩
theorem Dm.held_ (h:Dm w d H S n v m held safe P armed fails dead ops) (F:List Int):Dm (w.setRow H (cells8 F)) d H S n v m F safe P armed fails dead ops:=by
 have hk:Kept (fun b=>b≠H) w (w.setRow H (cells8 F)):=(Kept.refl _ w).setRow (fun h=>h rfl) _
 exact ⟨h.blk.kept hk h.dH,h.hh.setRow F,Arr.kept h.ss hk h.ne.symm,own_kept h.own hk (fun g hg e=>h.vH (by rw[hg,e])),h.ne⟩
theorem Dm.safe_ (h:Dm w d H S n v m held safe P armed fails dead ops) (F:List Int):Dm (w.setRow S (cells8 F)) d H S n v m held F P armed fails dead ops:=by
 have hk:Kept (fun b=>b≠S) w (w.setRow S (cells8 F)):=(Kept.refl _ w).setRow (fun h=>h rfl) _
 exact ⟨h.blk.kept hk h.dS,Arr.kept h.hh hk h.ne,h.ss.setRow F,own_kept h.own hk (fun g hg e=>h.vS (by rw[hg,e])),h.ne⟩
theorem Dm.pend_ (h:Dm w d H S n v m held safe P armed fails dead ops) {v':Value} {m':Nat} {P':List Value} (ho:w.ownsRow 0 250 65 v' m' P'):Dm (w.setCell ⟨d,2,none⟩ v') d H S n v' m' held safe P' armed fails dead ops :=
 ⟨h.blk.set_ 2 _,Blk.far h.hh (p:=⟨d,2,none⟩) h.dH.symm _,Blk.far h.ss (p:=⟨d,2,none⟩) h.dS.symm _,own_set ho (own_blk_ne ho h.blk (by decide)) _ _,h.ne⟩
theorem Dm.regrow (h:Dm w d H S n v m held safe P armed fails dead ops) {v':Value} {m':Nat} {P':List Value} (hg:w.grownBy w' v.ownBlock) (ho:w'.ownsRow 0 250 65 v' m' P'):Dm (w'.setCell ⟨d,2,none⟩ v') d H S n v' m' held safe P' armed fails dead ops:=by
 have h1:=h.blk.grown hg (fun e=>h.vd e.symm)
 have h2:=Blk.grown h.hh hg (fun e=>h.vH e.symm)
 have h3:=Blk.grown h.ss hg (fun e=>h.vS e.symm)
 exact ⟨h1.set_ 2 _,Blk.far h2 (p:=⟨d,2,none⟩) h.dH.symm _,Blk.far h3 (p:=⟨d,2,none⟩) h.dS.symm _,own_set ho (own_blk_ne ho h1 (by decide)) _ _,h.ne⟩
end
theorem cell_same {w w':World} {b off:Nat} (h:w'.heap[b]? = w.heap[b]?):w'.cell? ⟨b,off,none⟩=w.cell? ⟨b,off,none⟩:=by
 unfold World.cell?
 rw[h]
theorem cell_blk_lt {w:World} {b off:Nat} {v:Value} (h:w.cell? ⟨b,off,none⟩=some v):b<w.heap.size:=by
 rcases Nat.lt_or_ge b w.heap.size with hlt | hge
 ·exact hlt
 ·simp[World.cell?,Array.getElem?_eq_none hge] at h
theorem cell_alloc {w:World} (o:Obj) {b off:Nat} {v:Value} (h:w.cell? ⟨b,off,none⟩=some v):(w.alloc o).cell? ⟨b,off,none⟩=some v :=
 (World.cell?_alloc_lt w o ⟨b,off,none⟩ (cell_blk_lt h)).trans h
theorem range_alloc {w:World} (o:Obj) {b off:Nat} {cs:List Value} (h:w.rangeAt b off cs):(w.alloc o).rangeAt b off cs:=fun j v hv=>cell_alloc o (h j v hv)
theorem cell_grown {w w':World} {row:Option Nat} (hg:w.grownBy w' row) {b off:Nat} {v:Value} (h:w.cell? ⟨b,off,none⟩=some v) (hr:row≠some b):w'.cell? ⟨b,off,none⟩=some v :=
 (cell_same (hg.block b (cell_blk_lt h) (fun e=>hr e.symm))).trans h
theorem range_grown {w w':World} {row:Option Nat} (hg:w.grownBy w' row) {b off:Nat} {cs:List Value} (h:w.rangeAt b off cs) (hr:row≠some b):w'.rangeAt b off cs:=fun j v hv=>cell_grown hg (h j v hv) hr
end
section
theorem splice_at_s7 {α:Type} (H zs cs:List α) (k:Nat) (z:α) (h:zs=H++List.replicate k z) (hk:cs.length≤k):splice zs H.length cs=H++cs++List.replicate (k-cs.length) z:=by
 subst h
 unfold splice
 rw[List.take_left,List.drop_append,List.drop_eq_nil_of_le (by omega),List.nil_append,List.drop_replicate,show k-(H.length+cs.length-H.length)=k-cs.length by omega,List.append_assoc]
theorem block_ok (a b g r v f t:Int) (w:World) (h:MayS a b g r) (hin:InS a b g r v f) (ht:0≤t∧t≤18446744073709551615) :
 Calls Tryz.prog 103 #[.agg (turC a b g r v f t)] w fun e w'=>e=.returned (.tuple #[.agg (cells8 (supL a b g r v f t)),.int .i64 0])∧Below w.heap.size w w':=by
 have HYES:=hI (show decide (MayS a b g r)=true from decide_eq_true h)
 have hwa:IntKind.u16.wrap a=a:=by rw[IntKind.wrap_u16]; have:=h.1; have:=h.2.1; omega
 have hwb:IntKind.u16.wrap b=b:=by rw[IntKind.wrap_u16]; have:=h.2.2.1; have:=h.2.2.2.1; omega
 have HMAY:=hI h
 have HIN:=hI hin
 have HTT:=hI ht
 clear h hin ht
 go_enter Tryz.func103,Tryz.ntmps103
 go_upto_region 1 with (refine wpList_alloc_blk rfl rfl ?_)
 have HT2:=hI (show Blk ((w.alloc (.cells (turC a b g r v f t) 184)).alloc (.cells (cells8 (noughts 64)) 186)) w.heap.size 184 (turC a b g r v f t) from (Blk.new w _ _).alloc _)
 have HR2:=hI (show ArrB ((w.alloc (.cells (turC a b g r v f t) 184)).alloc (.cells (cells8 (noughts 64)) 186)) (w.heap.size+1) (noughts 64) from blk_new2 w _ _ _)
 have HB2:=hI (show Below w.heap.size w ((w.alloc (.cells (turC a b g r v f t) 184)).alloc (.cells (cells8 (noughts 64)) 186)) from ((Below.refl _ _).alloc (nR _) _).alloc (by simp) _)
 generalize hw2:((w.alloc (.cells (turC a b g r v f t) 184)).alloc (.cells (cells8 (noughts 64)) 186))=w2 at *
 clear hw2
 go_upto_region 2 with (refine wpList_alloc_blk rfl rfl ?_)
 have HT3:=hI (HT2.out.alloc (.cells (cells8 (noughts 64)) 186))
 have HR3:=hI (show ArrB _ (w.heap.size+1) (noughts 64) from Blk.alloc HR2.out (.cells (cells8 (noughts 64)) 186))
 have HV3:=hI (show ArrB (w2.alloc (.cells (cells8 (noughts 64)) 186)) w2.heap.size (noughts 64) from Blk.new w2 _ _)
 have HB3:=hI (HB2.out.alloc HB2.out.size (.cells (cells8 (noughts 64)) 186))
 have HZ2:=hI (show w.heap.size+1<w2.heap.size from HR2.out.lt)
 generalize hw3:w2.alloc (.cells (cells8 (noughts 64)) 186)=w3 at *
 clear hw3
 obtain ⟨c0,c1,c2,c3,c4,c5,c6⟩:_∧_∧_∧_∧_∧_∧_:=⟨HT3.out.cell 0,HT3.out.cell 1,HT3.out.cell 2,HT3.out.cell 3,HT3.out.cell 4,HT3.out.cell 5,HT3.out.cell 6⟩
 simp only[List.getElem?_toArray,List.getElem?_cons_zero,List.getElem?_cons_succ] at c0 c1 c2 c3 c4 c5 c6
 go_wp2_with fail
 refine (may_any a b g r v f _).mono ?_
 rintro e w4 ⟨rfl,hb⟩
 rw[HYES.out]
 have HB4:=hI (show Below w3.heap.size w3 w4 from hb)
 clear hb c0 c1 c2 c3 c4 c5 c6
 have hc1:=Go.Lib.run_convert_bytes_const (P:=Tryz.prog) w4 31 5 #[.int .u8 105,.int .u8 99,.int .u8 101,.int .u8 104,.int .u8 111,.int .u8 117,.int .u8 115,.int .u8 101] 8 8 Tryz.underlying31 Tryz.underlying5
 simp only[List.size_toArray,List.length_cons,List.length_nil,Nat.zero_add,Nat.reduceAdd] at hc1
 have ht6:(w4.alloc (.cells #[.int .u8 105,.int .u8 99,.int .u8 101,.int .u8 104,.int .u8 111,.int .u8 117,.int .u8 115,.int .u8 101] 5 (8,9))).cell? ⟨w.heap.size,6,none⟩=some (.int .u64 t):=cell_alloc _ ((HT3.out.below HB4.out HT3.out.lt).cell 6)
 go_wp2_with fail
 clear hc1 ht6
 have HI5:=hI (show RowI .u8 (w4.alloc (.cells #[.int .u8 105,.int .u8 99,.int .u8 101,.int .u8 104,.int .u8 111,.int .u8 117,.int .u8 115,.int .u8 101] 5 (8,9))) (·=w4.heap.size) (some ⟨w4.heap.size,0,none⟩) 8 iceL from row_marked w4 iceL (8,9) 8 rfl rfl)
 have HB5:=hI (show Below w3.heap.size w3 (w4.alloc (.cells #[.int .u8 105,.int .u8 99,.int .u8 101,.int .u8 104,.int .u8 111,.int .u8 117,.int .u8 115,.int .u8 101] 5 (8,9))) from HB4.out.alloc HB4.out.size _)
 have HZ5:=hI (show w4.heap.size<(w4.alloc (.cells #[.int .u8 105,.int .u8 99,.int .u8 101,.int .u8 104,.int .u8 111,.int .u8 117,.int .u8 115,.int .u8 101] 5 (8,9))).heap.size by simp)
 generalize hw5:w4.alloc (.cells #[.int .u8 105,.int .u8 99,.int .u8 101,.int .u8 104,.int .u8 111,.int .u8 117,.int .u8 115,.int .u8 101] 5 (8,9))=w5 at *
 clear hw5
 refine (put64_any (some ⟨w4.heap.size,0,none⟩) 8 8 (iceL) (·=w4.heap.size) t _ HI5.out (fun b h=>by rw[h]; exact HZ5.out) (by omega) HTT.out.1 HTT.out.2).mono ?_
 rintro e w6 ⟨rfl,ha,hb⟩
 have HA6:=hI (show ArrU w6 w5.heap.size (iceL++beBytes t 8) from ha)
 have HB6:=hI (HB5.out.trans (hb.mono HB5.out.size))
 clear ha hb
 have hc:w6.cell? ⟨w.heap.size,0,none⟩=some (.int .i64 a):=(HT3.out.below HB6.out HT3.out.lt).cell 0
 go_wp2_with fail
 clear hc
 refine (put16_any (some ⟨w5.heap.size,0,none⟩) 16 16 (iceL++beBytes t 8) (·=w5.heap.size) a _ (HA6.out.rowN 0 (by simp[iceL,beBytes_length]) rfl) (fun b h=>by rw[h]; exact HA6.out.lt) (by omega) (by have:=HMAY.out.1; omega) (by have:=HMAY.out.2.1; omega)).mono ?_
 rintro e w7 ⟨rfl,ha,hb⟩
 have HA7:=hI (show ArrU w7 w6.heap.size (iceL++beBytes t 8++beBytes a 2) from ha)
 have HB7:=hI (HB6.out.trans (hb.mono HB6.out.size))
 clear ha hb
 have hc:w7.cell? ⟨w.heap.size,1,none⟩=some (.int .i64 b):=(HT3.out.below HB7.out HT3.out.lt).cell 1
 go_wp2_with fail
 clear hc
 refine (put16_any (some ⟨w6.heap.size,0,none⟩) 18 18 (iceL++beBytes t 8++beBytes a 2) (·=w6.heap.size) b _ (HA7.out.rowN 0 (by simp[iceL,beBytes_length]) rfl) (fun b h=>by rw[h]; exact HA7.out.lt) (by omega) (by have:=HMAY.out.2.2.1; omega) (by have:=HMAY.out.2.2.2.1; omega)).mono ?_
 rintro e w8 ⟨rfl,ha,hb⟩
 have HA8:=hI (show ArrU w8 w7.heap.size (iceL++beBytes t 8++beBytes a 2++beBytes b 2) from ha)
 have HB8:=hI (HB7.out.trans (hb.mono HB7.out.size))
 clear ha hb
 have hc:w8.cell? ⟨w.heap.size,2,none⟩=some (.int .u64 g):=(HT3.out.below HB8.out HT3.out.lt).cell 2
 go_wp2_with fail
 clear hc
 refine (put64_any (some ⟨w7.heap.size,0,none⟩) 20 20 (iceL++beBytes t 8++beBytes a 2++beBytes b 2) (·=w7.heap.size) g _ (HA8.out.rowN 0 (by simp[iceL,beBytes_length]) rfl) (fun b h=>by rw[h]; exact HA8.out.lt) (by omega) HIN.out.2.2.2.2.1 HIN.out.2.2.2.2.2.1).mono ?_
 rintro e w9 ⟨rfl,ha,hb⟩
 have HA9:=hI (show ArrU w9 w8.heap.size (iceL++beBytes t 8++beBytes a 2++beBytes b 2++beBytes g 8) from ha)
 have HB9:=hI (HB8.out.trans (hb.mono HB8.out.size))
 clear ha hb
 have hc:w9.cell? ⟨w.heap.size,3,none⟩=some (.int .u64 r):=(HT3.out.below HB9.out HT3.out.lt).cell 3
 go_wp2_with fail
 clear hc
 refine (put64_any (some ⟨w8.heap.size,0,none⟩) 28 28 (iceL++beBytes t 8++beBytes a 2++beBytes b 2++beBytes g 8) (·=w8.heap.size) r _ (HA9.out.rowN 0 (by simp[iceL,beBytes_length]) rfl) (fun b h=>by rw[h]; exact HA9.out.lt) (by omega) HIN.out.2.2.2.2.2.2.1 HIN.out.2.2.2.2.2.2.2.1).mono ?_
 rintro e w10 ⟨rfl,ha,hb⟩
 have HA10:=hI (show ArrU w10 w9.heap.size (iceL++beBytes t 8++beBytes a 2++beBytes b 2++beBytes g 8++beBytes r 8) from ha)
 have HB10:=hI (HB9.out.trans (hb.mono HB9.out.size))
 clear ha hb
 have hc:w10.cell? ⟨w.heap.size,4,none⟩=some (.int .u64 v):=(HT3.out.below HB10.out HT3.out.lt).cell 4
 go_wp2_with fail
 clear hc
 refine (put64_any (some ⟨w9.heap.size,0,none⟩) 36 36 (iceL++beBytes t 8++beBytes a 2++beBytes b 2++beBytes g 8++beBytes r 8) (·=w9.heap.size) v _ (HA10.out.rowN 0 (by simp[iceL,beBytes_length]) rfl) (fun b h=>by rw[h]; exact HA10.out.lt) (by omega) HIN.out.2.2.2.2.2.2.2.2.1 HIN.out.2.2.2.2.2.2.2.2.2.1).mono ?_
 rintro e w11 ⟨rfl,ha,hb⟩
 have HA11:=hI (show ArrU w11 w10.heap.size (iceL++beBytes t 8++beBytes a 2++beBytes b 2++beBytes g 8++beBytes r 8++beBytes v 8) from ha)
 have HB11:=hI (HB10.out.trans (hb.mono HB10.out.size))
 clear ha hb
 have hc:w11.cell? ⟨w.heap.size,5,none⟩=some (.int .u64 f):=(HT3.out.below HB11.out HT3.out.lt).cell 5
 go_wp2_with fail
 clear hc
 refine (put64_any (some ⟨w10.heap.size,0,none⟩) 44 44 (iceL++beBytes t 8++beBytes a 2++beBytes b 2++beBytes g 8++beBytes r 8++beBytes v 8) (·=w10.heap.size) f _ (HA11.out.rowN 0 (by simp[iceL,beBytes_length]) rfl) (fun b h=>by rw[h]; exact HA11.out.lt) (by omega) HIN.out.2.2.2.2.2.2.2.2.2.2.1 HIN.out.2.2.2.2.2.2.2.2.2.2.2).mono ?_
 rintro e w12 ⟨rfl,ha,hb⟩
 have HA12:=hI (show ArrU w12 w11.heap.size (iceL++beBytes t 8++beBytes a 2++beBytes b 2++beBytes g 8++beBytes r 8++beBytes v 8++beBytes f 8) from ha)
 have HB12:=hI (HB11.out.trans (hb.mono HB11.out.size))
 clear ha hb
 have HBD:=hI (show ArrU w12 w11.heap.size (bodyL a b g r v f t) from HA12.out)
 clear HA12
 have hbl:=bodyL_length a b g r v f t
 have hfe:fullL a b g r v f t=bodyL a b g r v f t++noughts 4:=rfl
 have hse:supL a b g r v f t=fullL a b g r v f t++beBytes (fnv start (fullL a b g r v f t)) 8:=rfl
 have hfb:=fullL_bytes a b g r v f t
 have hfl:=fullL_length a b g r v f t
 have hsl:=supL_length a b g r v f t
 generalize hsupl:supL a b g r v f t=sl at *
 have HSUP:=hI hsupl
 clear hsupl
 generalize bodyL a b g r v f t=bd at *
 generalize hfull:fullL a b g r v f t=fl at *
 have hh0:=(hash_in fl).1
 have hh1:=(hash_in fl).2
 have HSE:=hI hse
 have HFB:=hI hfb
 have HFL:=hI hfl
 have HSL:=hI hsl
 have HV12:=hI (show ArrB w12 w2.heap.size (noughts 64) from Arr.below HV3.out HB12.out HV3.out.lt)
 have HG12:=hI (show w12.heap[w2.heap.size]? = some (.cells ((noughts 64).map (Value.int .u8)).toArray 186 (0,0)) from HV12.out)
 have HBS:=hI (show Below w2.heap.size w3 w12 from HB12.out.mono (Nat.le_of_lt HV3.out.lt))
 have c1:=hI (show (bd.map (Value.int .u8)).length=Nat.min 52 56 by simp[hbl])
 have c2:=hI (row_src (HBD.out.rowN 0 hbl (S:=fun _=>True) trivial) (by omega))
 have c3:=hI (show 0+(bd.map (Value.int .u8)).length≤((noughts 64).map (Value.int .u8)).length by simp[hbl,noughts_length])
 have d1:=hI (show splice ((noughts 64).map (Value.int .u8)) 0 (bd.map (Value.int .u8))=(fl++noughts 8).map (Value.int .u8) by
  rw[splice_head _ _ 12 (Value.int .u8 0) (by simp[noughts,hbl]),hfe]
  simp[noughts])
 clear hse hfb hfl hsl hfe hbl hfull
 go_wp2_with (first | (refine wpList_copy_splice rfl (.tmp 48) (.tmp 49) 31 31 rfl 5 Tryz.underlying31 size_u8 _ _ _ _ _ _ rfl rfl w2.heap.size 0 ((noughts 64).map (Value.int .u8)) 186 HG12.out (bd.map (Value.int .u8)) c1.out (fun _=>⟨rfl,c2.out⟩) c3.out (one_u8 bd) w2.heap.size w3 HBS.out (nR _) ?_; intro w13 hg13 hb13; rw[d1.out] at hg13; have HG13:=hI hg13; have HB13:=hI hb13; clear hg13 hb13))
 have HA13:=hI (show ArrB w13 w2.heap.size (fl++noughts 8) from HG13.out.out)
 have HRW:=hI (show Row .u8 w13.drew w13.heap.size (some ⟨w2.heap.size,0,none⟩) 56 fl by
  have h:=(HA13.out.rowN 0 (n:=64) (by simp[HFL.out,noughts_length]) (S:=fun b=>b<w13.heap.size) HA13.out.lt).take 56 (by omega)
  rw[show (fl++noughts 8).take 56=fl by rw[← HFL.out]; simp] at h
  exact h)
 have HR13:=hI (show ArrB w13 (w.heap.size+1) (noughts 64) from Arr.below (HR3.out) HB13.out HZ2.out)
 have HBZ:=hI (show Below w.heap.size w w13 from HB3.out.trans (HB13.out.mono (by have:=HZ2.out; omega)))
 have HZ13:=hI (show w2.heap.size<w13.heap.size from HA13.out.lt)
 have e1:=hI (show ((beBytes (fnv start fl) 8).map (Value.int .u8)).length=Nat.min 8 8 by simp[beBytes_length])
 have e3:=hI (show 56+((beBytes (fnv start fl) 8).map (Value.int .u8)).length≤((fl++noughts 8).map (Value.int .u8)).length by simp[beBytes_length,noughts_length,HFL.out])
 have d2:=hI (show splice ((fl++noughts 8).map (Value.int .u8)) 56 ((beBytes (fnv start fl) 8).map (Value.int .u8))=sl.map (Value.int .u8) by
  have:=splice_at_s7 (fl.map (Value.int .u8)) ((fl++noughts 8).map (Value.int .u8)) ((beBytes (fnv start fl) 8).map (Value.int .u8)) 8 (.int .u8 0) (by simp[noughts]) (by simp[beBytes_length])
  rw[List.length_map,HFL.out] at this
  rw[this,HSE.out]
  simp[beBytes_length])
 clear c1 c2 c3 d1
 go_region_held3 (fun W=>True) (exact trivial)
  (first
    | (go_at_call 80; refine (hash_any (some ⟨w2.heap.size,0,none⟩) 56 64 fl w13.heap.size _ HRW.out HFB.out (by omega)).mono ?_; rintro e w' ⟨rfl,rfl⟩)
    | (go_at_call 153; refine (put64_any none 0 0 [] (fun _=>False) (fnv start fl) _ (RowG.nil _ _ _ _ _) (fun _ h=>h.elim) (by omega) hh0 hh1).mono ?_; rintro e w14 ⟨rfl,ha,hb⟩; have HA14:=hI (show ArrU w14 w13.heap.size (beBytes (fnv start fl) 8) from ha); have HB14:=hI (show Below w13.heap.size w13 w14 from (Below.refl _ _).drew.trans hb); have HG14:=hI (show w14.heap[w2.heap.size]? = some (.cells ((fl++noughts 8).map (Value.int .u8)).toArray 186 (0,0)) from Blk.below HA13.out (w':=w14) (Below.trans (Below.refl _ _).drew hb) HA13.out.lt); have e2:=hI (row_src (HA14.out.rowN 0 (n:=8) (beBytes_length _ _) (S:=fun _=>True) trivial) (by omega)); clear ha hb)
    | (refine step_copy_splice rfl (.tmp 51) (.tmp 54) 31 31 rfl 5 Tryz.underlying31 size_u8 _ _ _ _ _ _ rfl rfl w2.heap.size 56 ((fl++noughts 8).map (Value.int .u8)) 186 HG14.out ((beBytes (fnv start fl) 8).map (Value.int .u8)) e1.out (fun _=>⟨rfl,e2.out⟩) e3.out (one_u8 _) w2.heap.size w13 (HB14.out.mono (Nat.le_of_lt HZ13.out)) (nR _) ?_; intro w15 hg15 hb15; rw[d2.out] at hg15; have HA15:=hI (show ArrB w15 w2.heap.size sl from hg15.out); have HB15:=hI hb15; clear hg15 hb15))
 all_goals
  clear e1 e3 d2
  have HR15:=hI (show ArrB w15 (w.heap.size+1) (noughts 64) from Arr.below HR13.out HB15.out HZ2.out)
  go_wp2_with (first
   | (refine wpList_load_blk (.tmp 4) rfl rfl w2.heap.size 0 rfl sl HSL.out HA15.out.range ?_)
   | (refine wpList_store_blk (.tmp 2) (.tmp 56) rfl rfl (w.heap.size+1) sl rfl rfl 186 (noughts 64) HR15.out (noughts_length 64) HSL.out ?_)
   | (with_reducible refine halt_end ?_))
  exact Halt.ret (results_blk2 (p:=2) (u:=3) rfl _ _ (w.heap.size+1) 186 sl rfl (HR15.out.setRow sl) HSL.out) rfl ⟨by rw[HSUP.out]; rfl,below_setRow (HBZ.out.trans (HB15.out.mono (by have:=HZ2.out; omega))) (by omega) _⟩
end
section
section
variable {w:World} {d H S n:Nat} {v:Value} {m:Nat} {held safe:List Int} {P:List Value} {armed fails:Int} {dead:Bool} {ops:Int}
theorem power_any (h:Dm w d H S n v m held safe P armed fails dead ops) :
 Calls Tryz.prog 159 #[.pointer (some ⟨d,0,none⟩)] w fun e w'=>e=.returned (.int .i64 (if dead then 7 else 0))∧w=w':=by
 obtain ⟨c0,c1,c2,c3,c4,c5,c6⟩:=h.cell
 clear h
 cases dead
 all_goals
  go_enter Tryz.func159,Tryz.ntmps159
  go_wp2
  go_ret
  exact ⟨rfl,rfl⟩
theorem len_any (h:Dm w d H S n v m held safe P armed fails dead ops) :
 Calls Tryz.prog 155 #[.pointer (some ⟨d,0,none⟩)] w fun e w'=>e=.returned (.int .i64 n)∧w=w':=by
 obtain ⟨c0,c1,c2,c3,c4,c5,c6⟩:=h.cell
 clear h
 go_enter Tryz.func155,Tryz.ntmps155
 go_wp2
 go_ret
 exact ⟨rfl,rfl⟩
theorem reach_ok (h:Dm w d H S n v m held safe P armed fails dead ops) (i:Nat) (hi:i<n) :
 Calls Tryz.prog 157 #[.pointer (some ⟨d,0,none⟩),.int .i64 i] w fun e w'=>e=.returned (.int .i64 (if dead then 7 else 0))∧w=w':=by
 have HH:=hI h
 obtain ⟨c0,c1,c2,c3,c4,c5,c6⟩:=h.cell
 clear h
 have h1:decide ((i:Int)<0)=false:=by simp
 have h2:decide ((n:Int)≤(i:Int))=false:=by simp; omega
 cases dead
 all_goals
  go_enter Tryz.func157,Tryz.ntmps157
  go_wp2_with (go_at_call 159; refine (power_any HH.out).mono ?_; rintro e w' ⟨rfl,rfl⟩; simp only[Bool.false_eq_true,if_false,if_true])
  go_ret
  exact ⟨rfl,rfl⟩
def struck (c:Int):Int:=if c<0 then c else c-1
theorem strikes_any (w:World) (g i:Nat) (c:Int) (h0:-9223372036854775808≤c) (h1:c≤9223372036854775807) (hc:w.cell? ⟨g,i,none⟩=some (.int .i64 c)) (hf:w.frozen? ⟨g,i,none⟩=false) :
 Calls Tryz.prog 199 #[.pointer (some ⟨g,i,none⟩)] w fun e w'=>e=.returned (.bool (decide (c=0)))∧(w'=if c<0 then w else w.setCell ⟨g,i,none⟩ (.int .i64 (c-1))):=by
 by_cases hneg:c<0
 ·go_enter Tryz.func199,Tryz.ntmps199
  go_wp2
  go_ret
  refine ⟨ret_bool (by simp; omega),rfl⟩
 ·have e1:IntKind.i64.wrap (c-1)=c-1:=IntWalk.i64_in _ ⟨by omega,by omega⟩
  have hcell2:(w.setCell ⟨g,i,none⟩ (.int .i64 (c-1))).cell? ⟨g,i,none⟩=some (.int .i64 (c-1)):=World.cell?_setCell_same _ _ _ hc
  go_enter Tryz.func199,Tryz.ntmps199
  go_wp2
  go_ret
  refine ⟨ret_bool (by simp; omega),rfl⟩
theorem fails_any (h:Dm w d H S n v m held safe P armed fails dead ops) (h0:-9223372036854775808≤fails) (h1:fails≤9223372036854775807) :
 Calls Tryz.prog 199 #[.pointer (some ⟨d,4,none⟩)] w fun e w'=>e=.returned (.bool (decide (fails=0)))∧Dm w' d H S n v m held safe P armed (struck fails) dead ops∧Kept (fun b=>b≠d) w w':=by
 refine (strikes_any w d 4 fails h0 h1 h.cell.2.2.2.2.1 (h.frozen 4)).mono ?_
 rintro e w' ⟨rfl,rfl⟩
 unfold struck
 split
 ·exact ⟨rfl,h,Kept.refl _ _⟩
 ·exact ⟨rfl,h.fails_ _,(Kept.refl _ _).setCell (fun h=>h rfl) _⟩
theorem armed_any (h:Dm w d H S n v m held safe P armed fails dead ops) (h0:-9223372036854775808≤armed) (h1:armed≤9223372036854775807) :
 Calls Tryz.prog 199 #[.pointer (some ⟨d,3,none⟩)] w fun e w'=>e=.returned (.bool (decide (armed=0)))∧Dm w' d H S n v m held safe P (struck armed) fails dead ops∧Kept (fun b=>b≠d) w w':=by
 refine (strikes_any w d 3 armed h0 h1 h.cell.2.2.2.1 (h.frozen 3)).mono ?_
 rintro e w' ⟨rfl,rfl⟩
 unfold struck
 split
 ·exact ⟨rfl,h,Kept.refl _ _⟩
 ·exact ⟨rfl,h.armed_ _,(Kept.refl _ _).setCell (fun h=>h rfl) _⟩
end
end
section
theorem fill_one (pl:Nat→Option (Nat × Nat)) (i off n:Nat) (hp:pl i=some (off,n)) (v:Value) (hv:v.cells.size=n) (cells:Array Value) (hfit:off+n≤cells.size) (rest:List (Nat × Value)) :
 ∃ r,Instr.fill pl cells ((i,v)::rest)=Instr.fill pl r rest∧r.size=cells.size∧∀ k,r[k]? = if off≤k∧k<off+n then v.cells[k-off]? else cells[k]? := by
 have g:=Great.foldl_set off v.cells.toList 0 cells
 refine ⟨(v.cells.toList.zipIdx 0).foldl (fun cs (x:Value × Nat)=>cs.setIfInBounds (off+x.2) x.1) cells,?_,g.1,fun k=>?_⟩
 ·conv=>lhs; unfold Instr.fill
  simp only[hp,hv]
  have hno:(decide (n≠n)||decide (off+n>cells.size))=false:=by simp; omega
  simp only[ne_eq,not_true_eq_false,decide_false,Bool.false_or,decide_eq_true_eq]
  rw[if_neg (by omega)]
  congr 1
  rw[← Array.foldl_toList,Array.toList_zipIdx]
 ·rw[g.2 k]
  simp only[Nat.add_zero,Array.length_toList,hv]
  by_cases h:off≤k∧k<off+n
  ·rw[if_pos ⟨h.1,h.2,by omega⟩,if_pos h]
   simp
  ·rw[if_neg (by omega),if_neg h]
theorem fill_two (x:Value) (hx:x.cells=#[x]) (n:Nat) (z:Value) (zs:Array Value) (hz:zs.size=n) (cs:List Value) (hl:cs.length=n) :
 Instr.fill ((#[(0,1),(1,n)]:Array (Nat × Nat))[·]?) (#[z]++zs) [(0,x),(1,.agg cs.toArray)]=some (x::cs).toArray:=by
 obtain ⟨r,h1,h2,h3⟩:=fill_one ((#[(0,1),(1,n)]:Array (Nat × Nat))[·]?) 0 0 1 rfl x (by rw[hx]; rfl) (#[z]++zs) (by simp) [(1,.agg cs.toArray)]
 obtain ⟨q,k1,k2,k3⟩:=fill_one ((#[(0,1),(1,n)]:Array (Nat × Nat))[·]?) 1 1 n rfl (.agg cs.toArray) (by simp[Value.cells,hl]) r (by rw[h2]; simp; omega) []
 rw[h1,k1]
 conv=>lhs; unfold Instr.fill
 congr 1
 apply Array.ext_getElem?
 intro k
 rw[k3 k,h3 k]
 rw[show (Value.agg cs.toArray).cells=cs.toArray from rfl,hx]
 simp only[List.getElem?_toArray]
 rcases Nat.eq_zero_or_pos k with rfl | hk
 ·simp
 ·obtain ⟨j,rfl⟩:∃ j,k=j+1:=⟨k-1,by omega⟩
  rw[if_neg (show ¬ (0≤j+1∧j+1<0+1) by omega),List.getElem?_cons_succ]
  by_cases hj:j<n
  ·rw[if_pos (by omega)]
   simp
  ·rw[if_neg (by omega),Array.getElem?_eq_none (by simp; omega),List.getElem?_eq_none (by omega)]
theorem built_at:Tryz.prog.built 250=fun parts=>Instr.fill ((#[(0,1),(1,64)]:Array (Nat × Nat))[·]?) (#[.int .i64 0]++cells8 (noughts 64)) parts:=by kernel_rfl
theorem built_write (p:Nat × List Int) (hl:p.2.length=64):Tryz.prog.built 250 [(0,.int .i64 p.1),(1,.agg (p.2.map (Value.int .u8)).toArray)]=some (wcells p).toArray:=by
 rw[built_at]
 exact fill_two (.int .i64 p.1) rfl 64 (.int .i64 0) (cells8 (noughts 64)) (by simp[cells8_size,noughts_length]) (p.2.map (Value.int .u8)) (by simp[hl])
theorem info_write:(Tryz.prog.info? 250).map (fun i=>(i.zero,i.size,i.bytes))=some (some (.agg (#[.int .i64 0]++cells8 (noughts 64))),65,72):=by kernel_rfl
theorem fill_lit (cs:List Value) (hl:cs.length=65) (z:Array Value) (hz:z.size=65) :
 Instr.fill (fun i=>some (i*65,65)) ((Array.range (1*65)).map (z[· % z.size]!)) [(0,.agg cs.toArray)]=some cs.toArray:=by
 obtain ⟨r,h1,h2,h3⟩:=fill_one (fun i=>some (i*65,65)) 0 0 65 rfl (.agg cs.toArray) (by simp[Value.cells,hl]) ((Array.range (1*65)).map (z[· % z.size]!)) (by simp) []
 rw[h1]
 conv=>lhs; unfold Instr.fill
 congr 1
 apply Array.ext_getElem?
 intro k
 rw[h3 k]
 by_cases hk:k<65
 ·rw[if_pos (by omega)]; simp[Value.cells]
 ·rw[if_neg (by omega),Array.getElem?_eq_none (by simp; omega),Array.getElem?_eq_none (by simp; omega)]
end
section
section
variable {w:World} {ops:Array Oper} {rest:List Oper} {o:Oper} {a:Act} {Q:Exit→Act→World→Prop} {K:Act→World→Prop} {E:Prop}
theorem step_lit_write (x:Operand) (ho:o.op=.buildSlice 180 1 #[(0,x)]) (hgd:Region.wanted o (yielded ops a.tmps)=true) (cs:List Value) (hx:a.eval x=.agg cs.toArray) (hl:cs.length=65)
 (h:K (a.put o.dst (.slice (some ⟨w.heap.size,0,none⟩) 1 1)) (w.alloc (.cells cs.toArray 250))):if Region.wanted o (yielded ops a.tmps)=true then Oper.wp Tryz.prog o a w K Q else E:=by
 rw[if_pos hgd]
 obtain ⟨i0,hi,hz0,hz1,hz2⟩:=info_parts info_write
 refine wp_buildSlice 180 250 1 #[(0,x)] ho cs.toArray i0 _ Tryz.underlying180 hi hz0 (by rw[hz1]; decide) (by rw[hz1]; decide) ?_ h
 rw[hz1]
 have e:(Array.map (fun (p:Nat × Operand)=>(p.1,a.eval p.2)) #[(0,x)]).toList=[(0,.agg cs.toArray)]:=by simp[hx]
 exact (congrArg _ e).trans (fill_lit cs hl _ (by simp[Value.cells,cells8_size,noughts_length]))
theorem step_append_write (s x:Operand) (ho:o.op=.call { callee:=.builtin .append,args:=#[s,x],argTypes:=#[180,180] }) (hgd:Region.wanted o (yielded ops a.tmps)=true)
 (base:Nat) (v:Value) (m:Nat) (P:List Value) (hs:a.eval s=v) (hown:w.ownsRow base 250 65 v m P) (g:Nat) (cs:List Value) (hx:a.eval x=.slice (some ⟨g,0,none⟩) 1 1) (hg:Blk w g 250 cs.toArray) (hl:cs.length=65) (hone:∀ v∈cs,v.oneCell'=true)
 (hm:m≤1000000) (hbase:base≤w.heap.size)
 (h:∀ v' w',w'.ownsRow base 250 65 v' (m+1) (P++cs)→w.grownBy w' v.ownBlock→(v'.ownBlock=v.ownBlock∨v'.ownBlock=some w.heap.size)→K (a.put o.dst v') w') :
 if Region.wanted o (yielded ops a.tmps)=true then Oper.wp Tryz.prog o a w K Q else E:=by
 obtain ⟨i0,hi,hz0,hz1,hz2⟩:=info_parts info_write
 obtain ⟨v',w',hrun,h2,h3,_,h4⟩:=run_append_own_at (P:=Tryz.prog) w base 180 o.type 250 i0 _ 65 72 Tryz.underlying180 hi hz0 hz1 hz2 (by simp[Value.cells,cells8_size,noughts_length]) (by omega) v m P hown ⟨g,0,none⟩ 1 1 cs (by rw[hl])
  (fun j u hu=>by rw[add_plain,Nat.zero_add,hg.cell j]; simpa using hu) hone (by unfold maxLen; omega) (by omega) hbase
 rw[if_pos hgd]
 unfold Oper.wp execOp
 simp only[ho,resolve,invoke,builtin,Sem.run_bind,Sem.run_pure,Result.andThen_ok,List.map_toArray,List.map_cons,List.map_nil,hs,hx,hrun]
 exact h v' w' h2 h3 h4
end
theorem flat_set_s7 {L:List (List Int)} (h:Secs L) (k:Nat) (hk:k<L.length) (ys:List Int) (hy:ys.length=64):(flat L).take (k*64)++ys++(flat L).drop (k*64+64)=flat (L.set k ys):=by
 have hc:=list_cut k hk
 have hl:=flat_length (h.take k)
 have hg:=h.get k hk
 rw[List.length_take,Nat.min_eq_left (by omega)] at hl
 have e:L.set k ys=L.take k++[ys]++L.drop (k+1):=by
  rw[List.set_eq_take_append_cons_drop,if_pos hk,List.append_assoc,List.singleton_append]
 rw[e]
 conv=>lhs; rw[hc]
 rw[flat_append,flat_append,flat_one,flat_append,flat_append,flat_one]
 generalize L.getD k []=zs at *
 generalize flat (L.take k)=us at *
 generalize flat (L.drop (k+1))=vs at *
 rw[List.append_assoc us zs vs,List.take_append,List.take_of_length_le (by omega),List.drop_append,hl]
 simp[show k*64+64-k*64=64 by omega,hl,hg,List.drop_append]
theorem sector_set {P:Program} {w:World} {g:Nat} {t:TypeId} {L:List (List Int)} (h:Arr (Value.int .u8) w g t (flat L)) (hs:Secs L) (k:Nat) (hk:k<L.length) {ys:List Int} (hy:ys.length=64) :
 w.setCells g (k*64) (ys.map (Value.int .u8))=w.setRow g (cells8 (flat (L.set k ys))):=by
 have hf:=flat_length hs
 have e:=setCells_row (P:=P) (w:=w) (F:=(flat L).map (Value.int .u8)) h (k*64) (ys.map (Value.int .u8)) (ones8 ys) (by simp[hy,hf]; omega)
 rw[e,← flat_set_s7 hs k hk ys hy]
 simp[cells8,hy,List.map_take,List.map_drop]
abbrev wr0:Oper:=⟨some 10,.load 25 (.tmp 1),25,"disk.go:75",#[],none⟩
abbrev wr1:Oper:=⟨some 11,.load 25 (.tmp 1),25,"disk.go:75",#[],none⟩
abbrev wr2:Oper:=⟨some 12,.nilCheck (.tmp 11),0,"disk.go:75",#[⟨1,.data⟩],none⟩
abbrev wr3:Oper:=⟨some 13,.fieldAddr 182 (.tmp 12) 2,0,"disk.go:75",#[⟨2,.data⟩],none⟩
abbrev wr4:Oper:=⟨some 14,.load 180 (.tmp 13),180,"disk.go:75",#[⟨3,.data⟩],none⟩
abbrev wr5:Oper:=⟨some 15,.load 3 (.tmp 2),3,"disk.go:75",#[],none⟩
abbrev wr6:Oper:=⟨some 16,.load 186 (.tmp 0),186,"disk.go:75",#[],none⟩
abbrev wr7:Oper:=⟨some 17,.build 250 #[(0,.tmp 15),(1,.tmp 16)],250,"disk.go:75",#[⟨5,.data⟩,⟨6,.data⟩],none⟩
abbrev wr8:Oper:=⟨some 18,.buildSlice 180 1 #[(0,.tmp 17)],180,"disk.go:75",#[⟨7,.data⟩],none⟩
abbrev wr9:Oper:=⟨some 19,.call { callee:=.builtin Go.Builtin.append,args:=#[.tmp 14,.tmp 18],argTypes:=#[180,180] },180,"disk.go:75",#[⟨4,.data⟩,⟨8,.data⟩],none⟩
abbrev wr10:Oper:=⟨some 20,.nilCheck (.tmp 10),0,"disk.go:75",#[⟨0,.data⟩,⟨0,.phase⟩,⟨1,.phase⟩,⟨2,.phase⟩,⟨3,.phase⟩,⟨4,.phase⟩,⟨5,.phase⟩,⟨6,.phase⟩,⟨7,.phase⟩,⟨8,.phase⟩,⟨9,.phase⟩],none⟩
abbrev wr11:Oper:=⟨some 21,.fieldAddr 182 (.tmp 20) 2,0,"disk.go:75",#[⟨10,.data⟩,⟨0,.phase⟩,⟨1,.phase⟩,⟨2,.phase⟩,⟨3,.phase⟩,⟨4,.phase⟩,⟨5,.phase⟩,⟨6,.phase⟩,⟨7,.phase⟩,⟨8,.phase⟩,⟨9,.phase⟩],none⟩
abbrev wr12:Oper:=⟨none,.store 180 (.tmp 21) (.tmp 19),0,"disk.go:75",#[⟨11,.data⟩,⟨9,.data⟩,⟨9,.chain⟩,⟨0,.phase⟩,⟨1,.phase⟩,⟨2,.phase⟩,⟨3,.phase⟩,⟨4,.phase⟩,⟨5,.phase⟩,⟨6,.phase⟩,⟨7,.phase⟩,⟨8,.phase⟩,⟨9,.phase⟩],none⟩
section
variable {w:World} {d H S n:Nat} {v:Value} {m:Nat} {held safe:List Int} {P:List Value} {armed fails:Int} {dead:Bool} {ops:Int}
def WroteTo (w:World) (d H S n:Nat) (v:Value) (m:Nat) (held safe:List Int) (P:List Value) (armed fails:Int) (dead:Bool) (ops:Int) (w':World):Prop :=
 ∃ v',Dm w' d H S n v' m held safe P armed fails dead ops∧(∀ g,v'.ownBlock=some g→v.ownBlock=some g∨w.heap.size≤g)∧Kept (fun b=>b<w.heap.size∧b≠d∧b≠H∧v.ownBlock≠some b) w w'
theorem write1_any (h:Dm w d H S n v m held safe P armed fails dead ops) (xss:List (List Int)) (hs:Secs xss) (hh:held=flat xss) (hn:xss.length=n) (hn2:n≤2048) (i:Nat) (hi:i<n) (gd gi gb:Nat) (ys:List Int) (hy:ys.length=64)
 (hgd:Blk w gd 25 #[.pointer (some ⟨d,0,none⟩)]) (hgi:Blk w gi 3 #[.int .i64 i]) (hgb:ArrB w gb ys) (hne:gb≠H) (hm:m≤1000000) :
 Calls Tryz.prog 158 #[.pointer (some ⟨gb,0,none⟩),.pointer (some ⟨gd,0,none⟩),.pointer (some ⟨gi,0,none⟩)] w fun e w'=>e=.returned (.tuple #[]) ∧
  WroteTo w d H S n v (m+1) (flat (xss.set i ys)) safe (P++wcells (i,ys)) armed fails dead ops w':=by
 subst hh
 have c0:=h.cell.1
 have cd:=hgd.cell 0
 have ci:=hgi.cell 0
 simp only[List.getElem?_toArray,List.getElem?_cons_zero] at cd ci
 have hu:=Tryz.underlying186
 have hr:=hgb.range
 have hsz:(Tryz.prog.info? 186).map (·.size)=some (ys.map (Value.int .u8)).length:=by rw[size_blk,List.length_map,hy]
 have hi0:(0:Int)≤(i:Int):=by omega
 have hi1:(i:Int)<(n:Int):=by omega
 have n1:gd≠H:=hgd.ne_ h.hh (by decide)
 have n2:gi≠H:=hgi.ne_ h.hh (by decide)
 have n3:d≠H:=h.dH
 have kd:=fun cs=>far_cells (w:=w.drew) (g:=H) (o:=i*64) cs cd n1
 have ki:=fun cs=>far_cells (w:=w.drew) (g:=H) (o:=i*64) cs ci n2
 have k0:=fun cs=>far_cells (w:=w.drew) (g:=H) (o:=i*64) cs c0 n3
 have kr:=fun cs=>far_cells_range (w:=w.drew) (g:=H) (o:=i*64) (cs:=cs) hr hne
 have hone:=ones8 ys
 have hfl:=flat_length hs
 have hth:w.drew.there H (i*64) (ys.map (Value.int .u8)).length:=Blk.there (w:=w.drew) h.hh (by simp[hfl,hy]; omega)
 have hrow:=sector_set (P:=Tryz.prog) (w:=w.drew) (L:=xss) h.hh hs i (by omega) hy
 have HROW:=hI hrow
 have HM:=hI h
 have HGD:=hI hgd
 have HGI:=hI hgi
 have HGB:=hI hgb
 have HY:=hI hy
 have HNE:=hI hne
 clear h hgd hgi hgb hrow hfl hne
 go_enter Tryz.func158,Tryz.ntmps158
 go_wp2
 go_region_held3 (fun W=>W.cell? ⟨gd,0,none⟩=some (.pointer (some ⟨d,0,none⟩))∧W.cell? ⟨gi,0,none⟩=some (.int .i64 i)∧W.cell? ⟨d,0,none⟩=some (.slice (some ⟨H,0,none⟩) n n)∧W.rangeAt gb 0 (ys.map (Value.int .u8)))
  (first | exact ⟨cd,ci,c0,hr⟩ | exact ⟨kd _,ki _,k0 _,kr _⟩)
  (fail)
 clear kd ki k0 kr c0 cd ci hr hth
 rw[HROW.out]
 have hk1:Kept (fun b=>b≠H) w (w.drew.setRow H (cells8 (flat (xss.set i ys)))):=(Kept.refl _ w).drew.setRow (fun h=>h rfl) _
 have HM1:=hI (HM.out.drew.held_ (flat (xss.set i ys)))
 generalize hw1:w.drew.setRow H (cells8 (flat (xss.set i ys)))=w1 at *
 have hgd1:=HGD.out.kept hk1 n1
 have hgi1:=HGI.out.kept hk1 n2
 have hgb1:=Arr.kept HGB.out hk1 HNE.out
 have HS1:=hI (show w.heap.size=w1.heap.size by rw[← hw1]; simp[World.setRow])
 clear hw1
 have c2:=HM1.out.cell.2.2.1
 have cd:=hgd1.cell 0
 have ci:=hgi1.cell 0
 simp only[List.getElem?_toArray,List.getElem?_cons_zero] at cd ci
 have hr:=hgb1.range
 have hf2:=HM1.out.frozen 2
 have HB:=hI (built_write (i,ys) HY.out)
 go_wp2
 refine wp_region_noPanic ?_
 refine Tillst.region (fun W=>W.cell? ⟨gd,0,none⟩=some (.pointer (some ⟨d,0,none⟩))∧W.cell? ⟨gi,0,none⟩=some (.int .i64 i)∧W.cell? ⟨d,2,none⟩=some v∧W.rangeAt gb 0 (ys.map (Value.int .u8))) [12] (by kernel_rfl) ⟨cd,ci,c2,hr⟩ (fun hė=>?_)
 have HMd:=hI HM1.out.drew
 have HSd:=hI (show w.heap.size=w1.drew.heap.size from HS1.out)
 have hkd:Kept (fun b=>b≠H) w w1.drew:=hk1.drew
 have HKD:=hI hkd
 generalize w1.drew=u at *
 refine tK 0 wr0 (v:=?_) ?_ hė ?_
 rotate_left
 ·intro W hSW; unfold wr0; go_simp; with_reducible rfl
 simp only[wr0,Act.put,sA,sZ,sS]
 refine tK 1 wr1 (v:=?_) ?_ hė ?_
 rotate_left
 ·intro W hSW; unfold wr1; go_simp; with_reducible rfl
 simp only[wr1,Act.put,sA,sZ,sS]
 refine tK 2 wr2 (v:=?_) ?_ hė ?_
 rotate_left
 ·intro W hSW; unfold wr2; go_simp; with_reducible rfl
 simp only[wr2,Act.put,sA,sZ,sS]
 refine tK 3 wr3 (v:=?_) ?_ hė ?_
 rotate_left
 ·intro W hSW; unfold wr3; go_simp; with_reducible rfl
 simp only[wr3,Act.put,sA,sZ,sS]
 refine tK 4 wr4 (v:=?_) ?_ hė ?_
 rotate_left
 ·intro W hSW; unfold wr4; go_simp; with_reducible rfl
 simp only[wr4,Act.put,sA,sZ,sS]
 refine tK 5 wr5 (v:=?_) ?_ hė ?_
 rotate_left
 ·intro W hSW; unfold wr5; go_simp; with_reducible rfl
 simp only[wr5,Act.put,sA,sZ,sS]
 refine tK 6 wr6 (v:=?_) ?_ hė ?_
 rotate_left
 ·intro W hSW; refine exec_load_row (.tmp 0) 186 ?_ gb 0 ?_ (ys.map (Value.int .u8)) _ hu rfl hsz hSW.2.2.2 <;> rfl
 simp only[wr6,Act.put,sA,sZ,sS]
 refine tK 7 wr7 (v:=?_) ?_ hė ?_
 rotate_left
 ·intro W hSW; refine exec_build 250 #[(0,.tmp 15),(1,.tmp 16)] ?_ [(0,.int .i64 i),(1,.agg (ys.map (Value.int .u8)).toArray)] ?_ _ HB.out <;> first | rfl | simp[Act.eval]
 simp only[wr7,Act.put,sA,sZ,sS]
 refine tO 8 wr8 ?_
 intro K hK
 refine step_lit_write (.tmp 17) rfl rfl (wcells (i,ys)) rfl (wcells_length _ HY.out) ?_
 simp only[wr8,Act.put,sA,sZ,sS]
 have HMe:=hI (HMd.out.alloc (.cells (wcells (i,ys)).toArray 250))
 have HNB:=hI (Blk.new u 250 (wcells (i,ys)).toArray)
 have hHeld1:(u.alloc (.cells (wcells (i,ys)).toArray 250)).cell? ⟨gd,0,none⟩=some (.pointer (some ⟨d,0,none⟩))∧(u.alloc (.cells (wcells (i,ys)).toArray 250)).cell? ⟨gi,0,none⟩=some (.int .i64 i) ∧
  (u.alloc (.cells (wcells (i,ys)).toArray 250)).cell? ⟨d,2,none⟩=some v∧(u.alloc (.cells (wcells (i,ys)).toArray 250)).rangeAt gb 0 (ys.map (Value.int .u8)) :=
  ⟨cell_alloc _ hė.1,cell_alloc _ hė.2.1,cell_alloc _ hė.2.2.1,range_alloc _ hė.2.2.2⟩
 have HSe:=hI (show w.heap.size+1=(u.alloc (.cells (wcells (i,ys)).toArray 250)).heap.size by have:=HSd.out; simp; omega)
 have HKE:=hI (show Kept (fun b=>b<w.heap.size∧b≠H) w (u.alloc (.cells (wcells (i,ys)).toArray 250)) from Kept.alloc (HKD.out.mono (S:=fun b=>b<w.heap.size∧b≠H) (fun b h=>h.2)) (fun b h=>by have:=HSd.out; have:=h.1; omega) _)
 have HGDe:=hI (Blk.alloc (HGD.out.kept HKD.out n1) (.cells (wcells (i,ys)).toArray 250))
 have HGIe:=hI (Blk.alloc (HGI.out.kept HKD.out n2) (.cells (wcells (i,ys)).toArray 250))
 have HGBe:=hI (Blk.alloc (Arr.kept HGB.out HKD.out HNE.out) (.cells (wcells (i,ys)).toArray 250))
 have HZ:=hI (show u.heap.size=w.heap.size from HSd.out.symm)
 generalize hu1:u.alloc (.cells (wcells (i,ys)).toArray 250)=u1 at *
 refine hK.out _ _ (fun _=>hHeld1) (fun hė=>?_)
 replace hė:=hė (by decide)
 clear hK K hHeld1 hu1
 refine tO 9 wr9 ?_
 intro K hK
 refine step_append_write (.tmp 14) (.tmp 18) rfl rfl 0 v m P rfl HMe.out.own u.heap.size (wcells (i,ys)) rfl HNB.out (wcells_length _ HY.out) (wcells_one _) hm (Nat.zero_le _) ?_
 intro v' u2 hown hgrow hblk
 simp only[wr9,Act.put,sA,sZ,sS]
 have HMF:=hI (HMe.out.regrow hgrow hown)
 have hHeld2:=And.intro (cell_grown hgrow hė.1 (own_blk_ne HMe.out.own HGDe.out (by decide))) (And.intro (cell_grown hgrow hė.2.1 (own_blk_ne HMe.out.own HGIe.out (by decide))) (And.intro (cell_grown hgrow hė.2.2.1 HMe.out.vd) (range_grown hgrow hė.2.2.2 (own_blk_ne HMe.out.own HGBe.out (by decide)))))
 have hfz:=(HMe.out.blk.grown hgrow (fun e=>HMe.out.vd e.symm)).frozen 2
 have hvb:∀ g,v'.ownBlock=some g→v.ownBlock=some g∨w.heap.size≤g:=by
  intro g hg
  rcases hblk with e | e
  ·exact .inl (by rw[← e]; exact hg)
  ·rw[e] at hg
   injection hg with hg
   have:=HSe.out
   exact .inr (by omega)
 have HVB:=hI hvb
 have HKF:=hI (show Kept (fun b=>b<w.heap.size∧b≠d∧b≠H∧v.ownBlock≠some b) w (u2.setCell ⟨d,2,none⟩ v') from
  ((HKE.out.mono (S:=fun b=>b<w.heap.size∧b≠d∧b≠H∧v.ownBlock≠some b) (fun b h=>⟨h.1,h.2.2.1⟩)).grown hgrow (fun b h=>by have:=HSe.out; omega) (fun g hg h=>h.2.2.2 hg)).setCell (fun h=>h.2.1 rfl) _)
 obtain ⟨g',cap',rfl,_,_,_⟩:∃ g cap,v'=.slice (some ⟨g,0,none⟩) (m+1) cap∧0≤g∧g<u2.heap.size∧m+1≤cap:=by
  have hlt:=hown.lt
  rcases hown.2 with ⟨_,h0⟩ | ⟨g,cap,cur,rfl,hg,hh,hnc,hc⟩
  ·omega
  ·exact ⟨g,cap,rfl,hg,(hlt g rfl).2,hnc⟩
 refine hK.out _ _ (fun _=>hHeld2) (fun hė=>?_)
 replace hė:=hė (by decide)
 clear hK K hHeld2 hown hgrow hblk hvb
 refine tO 10 wr10 ?_
 intro K hK
 refine step_value ?_ rfl ?_ ?_
 rotate_left
 ·unfold wr10; go_simp; with_reducible rfl
 simp only[wr10,Act.put,sA,sZ,sS]
 refine hK.out _ _ (fun _=>hė) (fun hė=>?_)
 replace hė:=hė (by decide)
 clear hK K
 refine tO 11 wr11 ?_
 intro K hK
 refine step_value ?_ rfl ?_ ?_
 rotate_left
 ·unfold wr11; go_simp; with_reducible rfl
 simp only[wr11,Act.put,sA,sZ,sS]
 refine hK.out _ _ (fun _=>hė) (fun hė=>?_)
 replace hė:=hė (by decide)
 clear hK K
 refine tO 12 wr12 ?_
 intro K hK
 have hst:(Instr.storeAt 180 (.pointer (some ⟨d,2,none⟩)) (.slice (some ⟨g',0,none⟩) (m+1) cap')).run Tryz.prog u2=.ok () (u2.setCell ⟨d,2,none⟩ (.slice (some ⟨g',0,none⟩) (m+1) cap')):=by
  have hc:=hė.2.2.1
  go_simp
 refine step_store_cell (.tmp 21) (.tmp 19) 180 rfl rfl ⟨d,2,none⟩ _ rfl rfl hst ?_
 simp only[wr12,Act.put,sA,sZ,sS]
 refine hK.out _ _ (fun h=>by cases h) (fun _=>Tillst.done (by kernel_rfl) ?_ _)
 refine NoPanic.normal ?_
 go_wp2
 go_end0
 exact ⟨rfl,_,HMF.out,HVB.out,HKF.out⟩
end
end
section
def over (s:List (List Int)) (l:List (Nat × List Int)):List (List Int):=l.foldl (fun s p=>s.set p.1 p.2) s
theorem over_snoc (s:List (List Int)) (l:List (Nat × List Int)) (p:Nat × List Int):over s (l++[p])=(over s l).set p.1 p.2:=by simp[over]
theorem over_nil (s:List (List Int)):over s []=s:=rfl
theorem over_length (s:List (List Int)) (l:List (Nat × List Int)):(over s l).length=s.length:=by
 induction l generalizing s with
 | nil=>rfl
 | cons p r ih=>simp only[over,List.foldl_cons] at *; rw[ih]; simp
def lived (L:Nat→Bool) (l:List (Nat × List Int)):Nat→List (Nat × List Int)
 | 0=>[]
 | k+1=>if L k then lived L l k++(l.drop k).take 1 else lived L l k
theorem lived_all (l:List (Nat × List Int)):∀ k,lived (fun _=>true) l k=l.take k
 | 0=>by simp[lived]
 | k+1=>by
  simp only[lived,if_true,lived_all l k]
  rw[List.take_add]
theorem lived_mem {L:Nat→Bool} {l:List (Nat × List Int)}:∀ {k:Nat} {p:Nat × List Int},p∈lived L l k→p∈l
 | 0,p,h=>by simp[lived] at h
 | k + 1, p, h => by
  unfold lived at h
  split at h
  ·rcases List.mem_append.1 h with h | h
   ·exact lived_mem h
   ·exact List.mem_of_mem_drop (List.mem_of_mem_take h)
  ·exact lived_mem h
theorem lived_step (L:Nat→Bool) (l:List (Nat × List Int)) (k:Nat) (hk:k<l.length) (hL:L k=true):lived L l (k+1)=lived L l k++[l[k]]:=by
 rw[lived,if_pos hL,List.drop_eq_getElem_cons hk]
 rfl
theorem lived_skip (L:Nat→Bool) (l:List (Nat × List Int)) (k:Nat) (hL:L k=false):lived L l (k+1)=lived L l k:=by
 rw[lived,hL]
 rfl
def back (s h:List (List Int)) (l:List (Nat × List Int)):List (List Int):=l.foldl (fun h p=>h.set p.1 (s.getD p.1 [])) h
theorem back_snoc (s h:List (List Int)) (l:List (Nat × List Int)) (p:Nat × List Int):back s h (l++[p])=(back s h l).set p.1 (s.getD p.1 []):=by simp[back]
theorem back_length (s h:List (List Int)) (l:List (Nat × List Int)):(back s h l).length=h.length:=by
 induction l generalizing h with
 | nil=>rfl
 | cons p r ih=>simp only[back,List.foldl_cons] at *; rw[ih]; simp
theorem set_get_same (xs:List (List Int)) (i j:Nat) (y:List Int):(xs.set i y)[j]? = if i=j∧j<xs.length then some y else xs[j]? := by
 rw[List.getElem?_set]
 by_cases h:i=j
 ·subst h
  by_cases h2:i<xs.length <;> simp[h2]
 ·simp[h]
theorem over_get (s:List (List Int)) (l:List (Nat × List Int)) (j:Nat) (hj:∀ p∈l,p.1≠j):(over s l)[j]? = s[j]? := by
 induction l generalizing s with
 | nil=>rfl
 | cons p r ih =>
  have h1:=ih (s.set p.1 p.2) (fun q hq=>hj q (List.mem_cons_of_mem _ hq))
  have h2:=hj p (List.mem_cons_self ..)
  simp only[over,List.foldl_cons] at *
  rw[h1,set_get_same,if_neg (by omega)]
theorem back_get (s h:List (List Int)) (hl:s.length=h.length) (l:List (Nat × List Int)) (j:Nat):(back s h l)[j]? = if (∃ p∈l,p.1=j) then s[j]? else h[j]? := by
 induction l generalizing h with
 | nil=>simp[back]
 | cons p r ih =>
  have h1:=ih (h.set p.1 (s.getD p.1 [])) (by simpa using hl)
  simp only[back,List.foldl_cons] at *
  rw[h1,set_get_same]
  by_cases hp:p.1=j
  ·rw[if_pos (show ∃ q∈p::r,q.1=j from ⟨p,List.mem_cons_self ..,hp⟩)]
   split
   ·rfl
   ·by_cases hlt:j<h.length
    ·rw[if_pos ⟨hp,hlt⟩,hp]
     simp[List.getD,List.getElem?_eq_getElem (show j<s.length by omega)]
    ·rw[if_neg (by omega),List.getElem?_eq_none (by omega),List.getElem?_eq_none (by omega)]
  ·rw[if_neg (show ¬ (p.1=j∧j<h.length) from fun h=>hp h.1)]
   by_cases hr:∃ q∈r,q.1=j
   ·obtain ⟨q,hq,e⟩:=hr
    rw[if_pos ⟨q,hq,e⟩,if_pos ⟨q,List.mem_cons_of_mem _ hq,e⟩]
   ·rw[if_neg hr,if_neg]
    rintro ⟨q,hq,e⟩
    rcases List.mem_cons.1 hq with rfl | hq
    ·exact hp e
    ·exact hr ⟨q,hq,e⟩
theorem back_over (s:List (List Int)) (l:List (Nat × List Int)) (L:Nat→Bool) (k:Nat):back (over s (lived L l k)) (over s l) l=over s (lived L l k):=by
 apply List.ext_getElem?
 intro j
 rw[back_get _ _ (by rw[over_length,over_length])]
 split
 ·rfl
 ·rename_i hno
  rw[over_get s l j (fun p hp e=>hno ⟨p,hp,e⟩),over_get s _ j (fun p hp e=>hno ⟨p,lived_mem hp,e⟩)]
def Fits (n:Nat) (l:List (Nat × List Int)):Prop:=∀ p∈l,p.1<n∧p.2.length=64∧Bytes p.2
theorem over_secs {s:List (List Int)} {l:List (Nat × List Int)} (hs:Secs s) (hl:∀ p∈l,p.2.length=64):Secs (over s l):=by
 induction l generalizing s with
 | nil=>exact hs
 | cons p r ih=>exact ih (hs.set_ p.1 (hl p (List.mem_cons_self ..))) (fun q hq=>hl q (List.mem_cons_of_mem _ hq))
theorem back_secs {s h:List (List Int)} {l:List (Nat × List Int)} (hs:Secs s) (hh:Secs h) (hl:∀ p∈l,p.1<s.length):Secs (back s h l):=by
 induction l generalizing h with
 | nil=>exact hh
 | cons p r ih=>exact ih (hh.set_ p.1 (hs.get p.1 (hl p (List.mem_cons_self ..)))) (fun q hq=>hl q (List.mem_cons_of_mem _ hq))
theorem wpList_alloc_row_s7 {P:Program} {w:World} {ops:Array Oper} {rest:List Oper} {o:Oper} {a:Act} {Q:Exit→Act→World→Prop} (ty:TypeId) (ho:o.op=.alloc ty) (hgd:o.guard=none) (zs:Array Value) (hz:∀ w,(zeroValue ty).run P w=.ok (.agg zs) w)
 (h:wpList P ops Q rest (a.put o.dst (.pointer (some ⟨w.heap.size,0,none⟩))) (w.alloc (.cells zs ty))):wpList P ops Q (o::rest) a w:=by
 refine wpList_plain hgd fun K hK=>?_
 unfold Oper.wp execOp
 simp only[ho,Instr.alloc,Sem.run_bind,hz,Result.andThen_ok]
 exact hK _ _ h
theorem wpList_store_fresh_s7 {P:Program} {w:World} {ops:Array Oper} {rest:List Oper} {o:Oper} {a:Act} {Q:Exit→Act→World→Prop} (x y:Operand) (ty:TypeId) (ho:o.op=.store ty x y) (hgd:o.guard=none) (w0:World) (zs cs:Array Value)
 (hx:a.eval x=.pointer (some ⟨w0.heap.size,0,none⟩)) (hy:a.eval y=.agg cs) (t:TypeId) (hw:w=w0.alloc (.cells zs t)) (hi:(P.info? ty).map (·.size)=some cs.size) (hl:zs.size=cs.size) (hone:cs.all (·.oneCell')=true)
 (h:wpList P ops Q rest (a.put o.dst undef) (w0.alloc (.cells cs t))):wpList P ops Q (o::rest) a w:=by
 subst hw
 refine wpList_store_row hgd ty x y ho w0.heap.size cs hx hy t zs (heap_alloc_last w0 _) hi hl hone ?_
 rw[World.setRow_alloc_new]
 exact h
theorem own_slice {w:World} {base m:Nat} {v:Value} {l:List (Nat × List Int)} (h:w.ownsRow base 250 65 v m (flatP l)) :
 ∃ A cap,v=.slice A m cap∧m≤cap∧(0<m→∃ g,A=some ⟨g,0,none⟩):=by
 rcases h.2 with ⟨rfl,rfl⟩ | ⟨g,cap,cur,rfl,hg,hh,hnc,hc⟩
 ·exact ⟨none,0,rfl,by omega,fun h=>absurd h (by omega)⟩
 ·exact ⟨_,cap,rfl,hnc,fun _=>⟨g,rfl⟩⟩
theorem own_write {w:World} {base m g cap:Nat} {l:List (Nat × List Int)} (h:w.ownsRow base 250 65 (.slice (some ⟨g,0,none⟩) m cap) m (flatP l)) (hl:∀ p∈l,p.2.length=64) (k:Nat) (hk:k<l.length):w.rangeAt g (k*65) (wcells l[k]):=by
 intro j v hv
 have hj:j<65:=by
  rcases Nat.lt_or_ge j 65 with h0 | h0
  ·exact h0
  ·rw[List.getElem?_eq_none (by rw[wcells_length _ (hl _ (List.getElem_mem hk))]; omega)] at hv
   cases hv
 have h1:=h.cells (g:=g) rfl (k*65+j) v (by rw[flatP_part hl k hk j hj]; exact hv)
 rw[add_plain,Nat.zero_add] at h1
 exact h1
theorem own_len {w:World} {base m:Nat} {v:Value} {l:List (Nat × List Int)} (h:w.ownsRow base 250 65 v m (flatP l)) (hl:∀ p∈l,p.2.length=64):l.length=m:=by
 have:=h.1
 rw[flatP_length hl] at this
 omega
end
section
theorem zero_write (w:World):(zeroValue 250).run Tryz.prog w=.ok (.agg (#[.int .i64 0]++cells8 (noughts 64))) w:=(Tryz.zeroValue250 w).trans rfl
theorem size_write:(Tryz.prog.info? 250).map (·.size)=some 65:=by kernel_rfl
theorem wcells_all (p:Nat × List Int):(wcells p).toArray.all (·.oneCell')=true:=Array.all_eq_true_iff_forall_mem.2 (fun v hv=>wcells_one p v (by simpa using hv))
theorem all_lives (i:Nat) (w:World):Calls Tryz.prog 162 #[.int .i64 i] w fun e w'=>e=.returned (.bool true)∧w=w':=by
 go_enter Tryz.func162,Tryz.ntmps162
 go_wp2
 go_ret
 exact ⟨rfl,rfl⟩
section
variable {w:World} {d H S n:Nat} {v:Value} {m:Nat} {P:List Value} {armed fails:Int} {dead:Bool} {ops:Int}
theorem settle_all {held safe:List (List Int)} {pend:List (Nat × List Int)} (h:Dm w d H S n v m (flat held) (flat safe) (flatP pend) armed fails dead ops) (hs:Secs safe) (hheld:held=over safe pend) (hn:safe.length=n) (hn2:n≤2048) (hf:Fits n pend) :
 Calls Tryz.prog 161 #[.pointer (some ⟨d,0,none⟩),.func (.func 162) #[] #[]] w fun e w'=>e=.returned (.tuple #[]) ∧
  Dm w' d H S n (.slice none 0 0) 0 (flat (over safe (lived (fun _=>true) pend m))) (flat (over safe (lived (fun _=>true) pend m))) [] armed fails dead ops∧Kept (fun b=>b<w.heap.size∧b≠d∧b≠H∧b≠S) w w':=by
 have hf1:∀ p∈pend,p.2.length=64:=fun p hp=>(hf p hp).2.1
 have hlen:=own_len h.own hf1
 obtain ⟨A,cap,rfl,hcap,hA⟩:=own_slice h.own
 have hm63:(m:Int)≤9223372036854775807:=by
  have hx:=h.own.2
  rcases hx with ⟨e,_⟩ | ⟨g,c,cur,e,_,_,hnc,hmx,_⟩
  ·injection e with _ e _; omega
  ·unfold maxLen at hmx; omega
 have HM:=hI h
 have HF:=hI hf
 have HF1:=hI hf1
 have HS:=hI hs
 have HLEN:=hI hlen
 have HHELD:=hI hheld
 have HN:=hI hn
 have HSL:=hI (show Secs held by rw[hheld]; exact over_secs hs hf1)
 have HHL:=hI (show held.length=n by rw[hheld,over_length,hn])
 obtain ⟨c0,c1,c2,_,_,_,_⟩:=h.cell
 have hfz2:=h.frozen 2
 have hA':=hA
 have HA:=hI hA
 clear h hf hf1 hs hlen hheld hn hA hA' hcap
 go_enter Tryz.func161,Tryz.ntmps161
 go_wp2_with fail
 go_loopw [13] (fun i wr=>∃ k:Nat,k≤m∧i=.int .i64 k∧Dm wr d H S n (.slice A m cap) m (flat held) (flat (over safe (lived (fun _=>true) pend k))) (flatP pend) armed fails dead ops∧Kept (fun b=>b<w.heap.size∧b≠d∧b≠H∧b≠S) w wr) (fun i _=>m-(intOf i).toNat)
 case atStart=>exact ⟨0,by omega,rfl,HM.out,Kept.refl _ _⟩
 case round =>
  obtain ⟨k,hk,rfl,hdm,hkp⟩:=hrel
  by_cases hlt:k<m
  ·obtain ⟨g,rfl⟩:=HA.out (by omega)
   have hkl:k<pend.length:=by have:=HLEN.out; omega
   have hrange:=own_write hdm.own HF1.out k hkl
   have hfit:=HF.out pend[k] (List.getElem_mem hkl)
   have hstep:=lived_step (fun _=>true) pend k hkl
   have hskip:=lived_skip (fun _=>true) pend k
   generalize hp:pend[k]=p at *
   have hu:=Tryz.underlying250
   have hsz:(Tryz.prog.info? 250).map (·.size)=some (wcells p).length:=by rw[size_write,wcells_length _ hfit.2.1]
   have HDM:=hI hdm
   have HKP:=hI hkp
   have HSTEP:=hI hstep
   have HSKIP:=hI hskip
   have HFIT:=hI hfit
   have HR:=hI hrange
   have HSZ:=hI hsz
   have HWL:=hI (wcells_length _ hfit.2.1)
   have hd1:=hdm.cell.2.1
   clear hdm hkp hstep hskip hfit hrange hsz
   obtain ⟨u,hu1⟩:∃ u,u=wr.alloc (.cells (wcells p).toArray 250):=⟨_,rfl⟩
   have HU:=hI hu1
   have HDU:=hI (show Dm u d H S n (.slice (some ⟨g,0,none⟩) m cap) m (flat held) (flat (over safe (lived (fun _=>true) pend k))) (flatP pend) armed fails dead ops by rw[hu1]; exact HDM.out.alloc _)
   have HBU:=hI (show Blk u wr.heap.size 250 (wcells p).toArray by rw[hu1]; exact Blk.new wr _ _)
   have HKU:=hI (show Kept (fun b=>b<w.heap.size∧b≠d∧b≠H∧b≠S) w u by rw[hu1]; exact HKP.out.alloc (fun b h=>nL h.1 HKP.out.size) _)
   have hx1:=HDU.out.cell.2.1
   have hx2:u.cell? ⟨wr.heap.size,0,none⟩=some (.int .i64 p.1):=HBU.out.cell 0
   have hx3:u.rangeAt wr.heap.size 1 (p.2.map (Value.int .u8)):=fun j v hv=>by
    rw[HBU.out.cell (1+j)]
    simp only[List.getElem?_toArray,wcells,Nat.add_comm 1 j,List.getElem?_cons_succ]
    exact hv
   clear hu1
   cases hL:(fun _=>true) k
   ·exact absurd hL (by simp)
   ·have HK1:=hI (HSTEP.out hL)
    have HL:=hI hL
    clear hL
    have hp0:(0:Int)≤(p.1:Int):=by omega
    have hp1:(p.1:Int)<(n:Int):=by have:=HFIT.out.1; omega
    have n1:d≠S:=HDU.out.dS
    have n2:wr.heap.size≠S:=fun e=>HBU.out.ne_ HDU.out.ss (by decide) e
    have kd:=fun cs=>far_cells (w:=u.drew) (g:=S) (o:=p.1*64) cs hx1 n1
    have ki:=fun cs=>far_cells (w:=u.drew) (g:=S) (o:=p.1*64) cs hx2 n2
    have kr:=fun cs=>far_cells_range (w:=u.drew) (g:=S) (o:=p.1*64) (cs:=cs) hx3 n2
    have hone:=ones8 p.2
    have hub:=Tryz.underlying186
    have hszb:(Tryz.prog.info? 186).map (·.size)=some (p.2.map (Value.int .u8)).length:=by rw[size_blk,List.length_map,HFIT.out.2.1]
    have hsec:Secs (over safe (lived (fun _=>true) pend k)):=over_secs HS.out (fun q hq=>HF1.out q (lived_mem hq))
    have hsl:(over safe (lived (fun _=>true) pend k)).length=n:=by rw[over_length,HN.out]
    have hfl:=flat_length hsec
    have hth:u.drew.there S (p.1*64) (p.2.map (Value.int .u8)).length:=Blk.there (w:=u.drew) HDU.out.ss (by simp[hfl,hsl,HFIT.out.2.1]; have:=HFIT.out.1; omega)
    have hrow:=sector_set (P:=Tryz.prog) (w:=u.drew) (L:=over safe (lived (fun _=>true) pend k)) HDU.out.ss hsec p.1 (by rw[hsl]; exact HFIT.out.1) HFIT.out.2.1
    rw[← over_snoc,← HK1.out] at hrow
    have HROW:=hI hrow
    clear hrow hsec hsl hfl
    go_wp2_with (first
     | (refine wpList_load_mid rfl 250 (.tmp 16) rfl g (k*65) rfl (wcells p) _ HR.out hu rfl HSZ.out ?_)
     | (refine wpList_alloc_row_s7 250 rfl rfl (#[.int .i64 0]++cells8 (noughts 64)) zero_write ?_)
     | (refine wpList_store_fresh_s7 (.tmp 5) (.tmp 17) 250 rfl rfl wr (#[.int .i64 0]++cells8 (noughts 64)) (wcells p).toArray rfl rfl 250 rfl (by rw[size_write]; simp[HWL.out]) (by simp[HWL.out,cells8_size,noughts_length]) (wcells_all p) ?_; rw[← HU.out])
     | (go_at_call 162; refine (all_lives k _).mono ?_; rintro e w' ⟨rfl,rfl⟩))
    go_region_held3 (fun W=>W.cell? ⟨d,1,none⟩=some (.slice (some ⟨S,0,none⟩) n n)∧W.cell? ⟨wr.heap.size,0,none⟩=some (.int .i64 p.1)∧W.rangeAt wr.heap.size 1 (p.2.map (Value.int .u8)))
     (first | exact ⟨hx1,hx2,hx3⟩ | exact ⟨kd _,ki _,kr _⟩)
     (fail)
    rw[HROW.out]
    clear kd ki kr hx1 hx2 hx3 hth
    go_wp2
    go_roundw
    case rel=>exact ⟨k+1,by omega,by go_num,HDU.out.drew.safe_ _,HKU.out.drew.setRow (fun h=>h.2.2.2 rfl) _⟩
    case measure=>(simp[intOf] <;> omega)
  ·obtain rfl:k=m:=by omega
   obtain ⟨safe',hsafe'⟩:∃ s',s'=over safe (lived (fun _=>true) pend k):=⟨_,rfl⟩
   have hsec':Secs safe':=by rw[hsafe']; exact over_secs HS.out (fun q hq=>HF1.out q (lived_mem hq))
   have hsl':safe'.length=n:=by rw[hsafe',over_length,HN.out]
   have hback:back safe' held pend=safe':=by rw[hsafe',HHELD.out]; exact back_over _ _ _ _
   rw[← hsafe'] at hdm
   have HSE:=hI hsafe'
   have HBACK:=hI hback
   have HSEC:=hI hsec'
   have HSLN:=hI hsl'
   have HDM:=hI hdm
   have HKP:=hI hkp
   obtain ⟨d0,d1,d2,_,_,_,_⟩:=hdm.cell
   clear hdm hkp hsec' hsl' hsafe' hback
   go_wp2_with fail
   clear d0 d1 d2
   go_loopw [36] (fun i wr=>∃ j:Nat,j≤k∧i=.int .i64 j∧Dm wr d H S n (.slice A k cap) k (flat (back safe' held (pend.take j))) (flat safe') (flatP pend) armed fails dead ops∧Kept (fun b=>b<w.heap.size∧b≠d∧b≠H∧b≠S) w wr) (fun i _=>k-(intOf i).toNat)
   case atStart=>exact ⟨0,by omega,rfl,HDM.out,HKP.out⟩
   case round =>
    obtain ⟨j,hj,rfl,hdm,hkp⟩:=hrel
    by_cases hjlt:j<k
    ·obtain ⟨g,rfl⟩:=HA.out (by omega)
     have hjl:j<pend.length:=by have:=HLEN.out; omega
     have hrange:=own_write hdm.own HF1.out j hjl
     have hfit:=HF.out pend[j] (List.getElem_mem hjl)
     have htake:pend.take (j+1)=pend.take j++[pend[j]]:=by rw[List.take_succ_eq_append_getElem hjl]
     generalize hp:pend[j]=p at *
     have hu:=Tryz.underlying250
     have hsz:(Tryz.prog.info? 250).map (·.size)=some (wcells p).length:=by rw[size_write,wcells_length _ hfit.2.1]
     have HDM2:=hI hdm
     have HKP2:=hI hkp
     have HTAKE:=hI htake
     have HFIT:=hI hfit
     have HR:=hI hrange
     have HSZ:=hI hsz
     have HWL:=hI (wcells_length _ hfit.2.1)
     have hd2:=hdm.cell.2.2.1
     clear hdm hkp htake hfit hrange hsz
     obtain ⟨u,hu1⟩:∃ u,u=wr.alloc (.cells (wcells p).toArray 250):=⟨_,rfl⟩
     have HU:=hI hu1
     have HDU:=hI (show Dm u d H S n (.slice (some ⟨g,0,none⟩) k cap) k (flat (back safe' held (pend.take j))) (flat safe') (flatP pend) armed fails dead ops by rw[hu1]; exact HDM2.out.alloc _)
     have HBU:=hI (show Blk u wr.heap.size 250 (wcells p).toArray by rw[hu1]; exact Blk.new wr _ _)
     have HKU:=hI (show Kept (fun b=>b<w.heap.size∧b≠d∧b≠H∧b≠S) w u by rw[hu1]; exact HKP2.out.alloc (fun b h=>nL h.1 HKP2.out.size) _)
     have hx0:=HDU.out.cell.1
     have hx1:=HDU.out.cell.2.1
     have hx2:u.cell? ⟨wr.heap.size,0,none⟩=some (.int .i64 p.1):=HBU.out.cell 0
     have hp0:(0:Int)≤(p.1:Int):=by omega
     have hp1:(p.1:Int)<(n:Int):=by have:=HFIT.out.1; omega
     have hx3:u.rangeAt S (p.1*64) ((safe'.getD p.1 []).map (Value.int .u8)):=by
      obtain ⟨b,off,e,_,hc⟩:=(Arr.rowK HDU.out.ss HSEC.out HSLN.out (S:=fun _=>True) trivial).2 (by omega)
      injection e with e
      injection e with e1 e2 _
      subst e1 e2
      have:=hc p.1 HFIT.out.1
      rwa [Nat.zero_add] at this
     have hzl:(safe'.getD p.1 []).length=64:=HSEC.out.get p.1 (by rw[HSLN.out]; exact HFIT.out.1)
     have hbs:back safe' held (pend.take (j+1))=(back safe' held (pend.take j)).set p.1 (safe'.getD p.1 []):=by rw[HTAKE.out,back_snoc]
     have HBS:=hI hbs
     clear hu1 hbs
     have n0:d≠H:=HDU.out.dH
     have n2:wr.heap.size≠H:=fun e=>HBU.out.ne_ HDU.out.hh (by decide) e
     have n3:S≠H:=HDU.out.ne.symm
     have hsecB:Secs (back safe' held (pend.take j)):=back_secs HSEC.out HSL.out (fun q hq=>by rw[HSLN.out]; exact (HF.out q (List.mem_of_mem_take hq)).1)
     have hslB:(back safe' held (pend.take j)).length=n:=by rw[back_length,HHL.out]
     have hfl:=flat_length hsecB
     have hrow:=sector_set (P:=Tryz.prog) (w:=u.drew) (L:=back safe' held (pend.take j)) HDU.out.hh hsecB p.1 (by rw[hslB]; exact HFIT.out.1) hzl
     rw[← HBS.out] at hrow
     generalize safe'.getD p.1 []=zs at *
     have kd:=fun cs=>far_cells (w:=u.drew) (g:=H) (o:=p.1*64) cs hx0 n0
     have ki:=fun cs=>far_cells (w:=u.drew) (g:=H) (o:=p.1*64) cs hx1 n0
     have kj:=fun cs=>far_cells (w:=u.drew) (g:=H) (o:=p.1*64) cs hx2 n2
     have kr:=fun cs=>far_cells_range (w:=u.drew) (g:=H) (o:=p.1*64) (cs:=cs) hx3 n3
     have hone:=ones8 zs
     have hub:=Tryz.underlying186
     have hszb:(Tryz.prog.info? 186).map (·.size)=some (zs.map (Value.int .u8)).length:=by rw[size_blk,List.length_map,hzl]
     have hth:u.drew.there H (p.1*64) (zs.map (Value.int .u8)).length:=Blk.there (w:=u.drew) HDU.out.hh (by simp[hfl,hslB,hzl]; have:=HFIT.out.1; omega)
     have HROW:=hI hrow
     clear hrow hsecB hslB hfl hzl
     go_wp2_with (first
      | (refine wpList_load_mid rfl 250 (.tmp 38) rfl g (j*65) rfl (wcells p) _ HR.out hu rfl HSZ.out ?_)
      | (refine wpList_alloc_row_s7 250 rfl rfl (#[.int .i64 0]++cells8 (noughts 64)) zero_write ?_)
      | (refine wpList_store_fresh_s7 (.tmp 7) (.tmp 39) 250 rfl rfl wr (#[.int .i64 0]++cells8 (noughts 64)) (wcells p).toArray rfl rfl 250 rfl (by rw[size_write]; simp[HWL.out]) (by simp[HWL.out,cells8_size,noughts_length]) (wcells_all p) ?_; rw[← HU.out]))
     go_region_held3 (fun W=>W.cell? ⟨d,0,none⟩=some (.slice (some ⟨H,0,none⟩) n n)∧W.cell? ⟨d,1,none⟩=some (.slice (some ⟨S,0,none⟩) n n)∧W.cell? ⟨wr.heap.size,0,none⟩=some (.int .i64 p.1)∧W.rangeAt S (p.1*64) (zs.map (Value.int .u8)))
      (first | exact ⟨hx0,hx1,hx2,hx3⟩ | exact ⟨kd _,ki _,kj _,kr _⟩)
      (fail)
     rw[HROW.out]
     clear kd ki kj kr hx0 hx1 hx2 hx3 hth
     go_wp2
     go_roundw
     case rel=>exact ⟨j+1,by omega,by go_num,HDU.out.drew.held_ _,HKU.out.drew.setRow (fun h=>h.2.2.1 rfl) _⟩
     case measure=>(simp[intOf] <;> omega)
    ·obtain rfl:j=k:=by omega
     have hcells:=hdm.cell.2.2.1
     have hfz:=hdm.frozen 2
     have ht:pend.take j=pend:=List.take_of_length_le (by rw[HLEN.out]; exact nR _)
     rw[ht,HBACK.out] at hdm
     have HDF:=hI (hdm.pend_ (v':=.slice none 0 0) (m':=0) (P':=[]) ⟨rfl,.inl ⟨rfl,rfl⟩⟩)
     have HKF:=hI (hkp.setCell (p:=⟨d,2,none⟩) (fun h=>h.2.1 rfl) (.slice none 0 0))
     clear hdm hkp ht
     go_wp2
     go_end0
     exact ⟨rfl,by rw[← HSE.out]; exact HDF.out,HKF.out⟩
end
end
section
section
variable {w:World} {d H S n:Nat} {v:Value} {m:Nat} {held safe:List Int} {P:List Value} {armed fails:Int} {dead:Bool} {ops:Int}
theorem read1_any (h:Dm w d H S n v m held safe P armed fails dead ops) (xss:List (List Int)) (hs:Secs xss) (hh:held=flat xss) (hn:xss.length=n) (hn2:n≤2048) (i:Nat) (hi:i<n) (gd gi gb:Nat) (ys:List Int) (hy:ys.length=64)
 (hgd:Blk w gd 25 #[.pointer (some ⟨d,0,none⟩)]) (hgi:Blk w gi 3 #[.int .i64 i]) (hgb:ArrB w gb ys) (hne:H≠gb) :
 Calls Tryz.prog 174 #[.pointer (some ⟨gd,0,none⟩),.pointer (some ⟨gi,0,none⟩),.pointer (some ⟨gb,0,none⟩)] w fun e w'=>e=.returned (.tuple #[])∧w'=w.drew.setRow gb (cells8 (xss.getD i [])):=by
 have c0:=h.cell.1
 have cd:=hgd.cell 0
 have ci:=hgi.cell 0
 simp only[List.getElem?_toArray,List.getElem?_cons_zero] at cd ci
 have hu:=Tryz.underlying186
 have hr:w.rangeAt H (i*64) ((xss.getD i []).map (Value.int .u8)):=by
  obtain ⟨b,off,e,_,hc⟩:=(Arr.rowK (hh▸h.hh) hs hn (S:=fun _=>True) trivial).2 (by omega)
  injection e with e
  injection e with e1 e2 _
  subst e1 e2
  have:=hc i hi
  rwa [Nat.zero_add] at this
 have hl:=hs.get i (by omega)
 generalize xss.getD i []=zs at *
 have hsz:(Tryz.prog.info? 186).map (·.size)=some (zs.map (Value.int .u8)).length:=by rw[size_blk,List.length_map,hl]
 have n1:gd≠gb:=hgd.ne_ hgb (by decide)
 have n2:gi≠gb:=hgi.ne_ hgb (by decide)
 have n3:d≠gb:=h.blk.ne_ hgb (by decide)
 have kd:=fun cs=>far_cells (w:=w.drew) (g:=gb) (o:=0) cs cd n1
 have ki:=fun cs=>far_cells (w:=w.drew) (g:=gb) (o:=0) cs ci n2
 have k0:=fun cs=>far_cells (w:=w.drew) (g:=gb) (o:=0) cs c0 n3
 have kr:=fun cs=>far_cells_range (w:=w.drew) (g:=gb) (o:=0) (cs:=cs) hr hne
 have hone:=ones8 zs
 have hth:w.drew.there gb 0 (zs.map (Value.int .u8)).length:=Blk.there (w:=w.drew) hgb (by simp[hl,hy])
 have hrow:=setCells_row (P:=Tryz.prog) (w:=w.drew) hgb 0 _ hone (by simp[hl,hy])
 have HROW:=hI hrow
 clear hrow
 have HGB:=hI hgb
 have HL:=hI hl
 have hi0:(0:Int)≤(i:Int):=by omega
 have hi1:(i:Int)<(n:Int):=by omega
 have HI:=hI hi
 clear h hgd hgi hgb hl hh hs hn
 go_enter Tryz.func174,Tryz.ntmps174
 go_region_held3 (fun W=>W.cell? ⟨gd,0,none⟩=some (.pointer (some ⟨d,0,none⟩))∧W.cell? ⟨gi,0,none⟩=some (.int .i64 i)∧W.cell? ⟨d,0,none⟩=some (.slice (some ⟨H,0,none⟩) n n)∧W.rangeAt H (i*64) (zs.map (Value.int .u8)))
  (first | exact ⟨cd,ci,c0,hr⟩ | exact ⟨kd _,ki _,k0 _,kr _⟩)
  (fail)
 go_end0
 refine ⟨rfl,?_⟩
 rw[HROW.out]
 congr 1
 simp[cells8,HL.out,hy]
end
end
section
theorem perform_refused (w:World) (d:Nat) (e:Int) (he:e≠0) (c:Bool) (f:Value) :
 Calls Tryz.prog 156 #[.pointer (some ⟨d,0,none⟩),.int .i64 e,.bool c,f] w fun r w'=>r=.returned (.int .i64 e)∧w=w':=by
 have h1:(e != 0)=true:=by simp[bne,he]
 go_enter Tryz.func156,Tryz.ntmps156
 go_wp2
 go_ret
 exact ⟨rfl,rfl⟩
section
variable {w:World} {d H S n:Nat} {v:Value} {m:Nat} {held safe:List Int} {P:List Value} {armed fails:Int} {ops:Int}
theorem pread_io (h:Dm w d H S n v m held safe P armed fails false ops) (hf0:-9223372036854775808≤fails) (hf1:fails≤9223372036854775807) (hz:fails=0) (f:Value) :
 Calls Tryz.prog 156 #[.pointer (some ⟨d,0,none⟩),.int .i64 0,.bool false,f] w fun e w'=>e=.returned (.int .i64 8)∧Dm w' d H S n v m held safe P armed (-1) false ops∧Kept (fun b=>b≠d) w w':=by
 have HD:=hI h
 have HFZ:=hI (show decide (fails=0)=true by simp[hz])
 have hst:struck fails=-1:=by subst hz; rfl
 have HST:=hI hst
 clear h hst hz
 go_enter Tryz.func156,Tryz.ntmps156
 go_wp2_with (go_at_call 199; with_reducible refine (fails_any HD.out hf0 hf1).mono ?_; rintro e w1 ⟨rfl,hd1,hk1⟩; have HD1:=hI hd1; have HK1:=hI hk1; clear hd1 hk1; rw[HFZ.out])
 go_ret
 rw[HST.out] at HD1
 exact ⟨rfl,HD1.out,HK1.out⟩
theorem pread_done (h:Dm w d H S n v m held safe P armed fails false ops) (hf0:-9223372036854775808≤fails) (hf1:fails≤9223372036854775807) (hz:fails≠0) (ha0:-9223372036854775808≤armed) (ha1:armed≤9223372036854775807) (c0 c1 c2:Value) (R:World→Prop)
 (hdo:∀ w1,Dm w1 d H S n v m held safe P armed (struck fails) false ops→Kept (fun b=>b≠d) w w1→Calls Tryz.prog 174 #[c0,c1,c2] w1 fun e w2=>e=.returned (.tuple #[])∧R w2)
 (hR:∀ w2,R w2→w2.cell? ⟨d,6,none⟩=some (.int .i64 ops)∧w2.frozen? ⟨d,6,none⟩=false) :
 Calls Tryz.prog 156 #[.pointer (some ⟨d,0,none⟩),.int .i64 0,.bool false,.func (.func 174) #[] #[c0,c1,c2]] w fun e w'=>e=.returned (.int .i64 0)∧∃ w2,R w2∧w'=w2.setCell ⟨d,6,none⟩ (.int .i64 (wrap64 (ops+1))):=by
 have HD:=hI h
 have HDO:=hI hdo
 have HRR:=hI hR
 have HFZ:=hI (show decide (fails=0)=false by simp[hz])
 clear h hz hdo hR
 go_enter Tryz.func156,Tryz.ntmps156
 go_wp2_with (first | (go_at_call 199; with_reducible refine (fails_any HD.out hf0 hf1).mono ?_; rintro e w1 ⟨rfl,hd1,hk1⟩; have HD1:=hI hd1; have HK1:=hI hk1; clear hd1 hk1; rw[HFZ.out]) | (go_at_call 174; refine (HDO.out _ HD1.out HK1.out).mono ?_; rintro e w3 ⟨rfl,hr⟩; have HR3:=hI hr; obtain ⟨hc6,hz6⟩:=HRR.out _ hr; clear hr))
 go_ret
 exact ⟨rfl,_,HR3.out,rfl⟩
theorem pwrite_io (h:Dm w d H S n v m held safe P armed fails false ops) (hf0:-9223372036854775808≤fails) (hf1:fails≤9223372036854775807) (hz:fails=0) (f:Value) :
 Calls Tryz.prog 156 #[.pointer (some ⟨d,0,none⟩),.int .i64 0,.bool true,f] w fun e w'=>e=.returned (.int .i64 8)∧Dm w' d H S n v m held safe P armed (-1) false ops∧Kept (fun b=>b≠d) w w':=by
 have HD:=hI h
 have HFZ:=hI (show decide (fails=0)=true by simp[hz])
 have hst:struck fails=-1:=by subst hz; rfl
 have HST:=hI hst
 clear h hst hz
 go_enter Tryz.func156,Tryz.ntmps156
 go_wp2_with (go_at_call 199; with_reducible refine (fails_any HD.out hf0 hf1).mono ?_; rintro e w1 ⟨rfl,hd1,hk1⟩; have HD1:=hI hd1; have HK1:=hI hk1; clear hd1 hk1; rw[HFZ.out])
 go_ret
 rw[HST.out] at HD1
 exact ⟨rfl,HD1.out,HK1.out⟩
theorem pwrite_dead (h:Dm w d H S n v m held safe P armed fails false ops) (hf0:-9223372036854775808≤fails) (hf1:fails≤9223372036854775807) (hz:fails≠0) (ha0:-9223372036854775808≤armed) (ha1:armed≤9223372036854775807) (haz:armed=0) (f:Value) :
 Calls Tryz.prog 156 #[.pointer (some ⟨d,0,none⟩),.int .i64 0,.bool true,f] w fun e w'=>e=.returned (.int .i64 7)∧Dm w' d H S n v m held safe P (-1) (struck fails) true ops∧Kept (fun b=>b≠d) w w':=by
 have HD:=hI h
 have HFZ:=hI (show decide (fails=0)=false by simp[hz])
 have HAZ:=hI (show decide (armed=0)=true by simp[haz])
 have hst:struck armed=-1:=by subst haz; rfl
 have HST:=hI hst
 clear h hst hz haz
 go_enter Tryz.func156,Tryz.ntmps156
 go_wp2_with (first | (go_at_call 199; with_reducible refine (fails_any HD.out hf0 hf1).mono ?_; rintro e w1 ⟨rfl,hd1,hk1⟩; have HD1:=hI hd1; have HK1:=hI hk1; clear hd1 hk1; rw[HFZ.out]) | (go_at_call 199; with_reducible refine (armed_any HD1.out ha0 ha1).mono ?_; rintro e w2 ⟨rfl,hd2,hk2⟩; have HD2:=hI hd2; have HK2:=hI hk2; clear hd2 hk2; rw[HAZ.out]; have hc5:=HD2.out.cell.2.2.2.2.2.1; have hz5:=HD2.out.frozen 5))
 go_ret
 have hd3:=HD2.out.dead_ true
 rw[HST.out] at hd3
 exact ⟨rfl,hd3,(HK1.out.trans HK2.out (fun b h=>h)).setCell (fun h=>h rfl) _⟩
theorem pwrite_done (h:Dm w d H S n v m held safe P armed fails false ops) (hf0:-9223372036854775808≤fails) (hf1:fails≤9223372036854775807) (hz:fails≠0) (ha0:-9223372036854775808≤armed) (ha1:armed≤9223372036854775807) (haz:armed≠0) (c0 c1 c2:Value) (R:World→Prop)
 (hdo:∀ w1,Dm w1 d H S n v m held safe P (struck armed) (struck fails) false ops→Kept (fun b=>b≠d) w w1→Calls Tryz.prog 158 #[c0,c1,c2] w1 fun e w2=>e=.returned (.tuple #[])∧R w2)
 (hR:∀ w2,R w2→w2.cell? ⟨d,6,none⟩=some (.int .i64 ops)∧w2.frozen? ⟨d,6,none⟩=false) :
 Calls Tryz.prog 156 #[.pointer (some ⟨d,0,none⟩),.int .i64 0,.bool true,.func (.func 158) #[] #[c0,c1,c2]] w fun e w'=>e=.returned (.int .i64 0)∧∃ w2,R w2∧w'=w2.setCell ⟨d,6,none⟩ (.int .i64 (wrap64 (ops+1))):=by
 have HD:=hI h
 have HDO:=hI hdo
 have HRR:=hI hR
 have HFZ:=hI (show decide (fails=0)=false by simp[hz])
 have HAZ:=hI (show decide (armed=0)=false by simp[haz])
 clear h hz haz hdo hR
 go_enter Tryz.func156,Tryz.ntmps156
 go_wp2_with (first | (go_at_call 199; with_reducible refine (fails_any HD.out hf0 hf1).mono ?_; rintro e w1 ⟨rfl,hd1,hk1⟩; have HD1:=hI hd1; have HK1:=hI hk1; clear hd1 hk1; rw[HFZ.out]) | (go_at_call 199; with_reducible refine (armed_any HD1.out ha0 ha1).mono ?_; rintro e w2 ⟨rfl,hd2,hk2⟩; have HD2:=hI hd2; have HK2:=hI hk2; clear hd2 hk2; rw[HAZ.out]; skip) | (go_at_call 158; refine (HDO.out _ HD2.out (HK1.out.trans HK2.out (fun b h=>h))).mono ?_; rintro e w3 ⟨rfl,hr⟩; have HR3:=hI hr; obtain ⟨hc6,hz6⟩:=HRR.out _ hr; clear hr))
 go_ret
 exact ⟨rfl,_,HR3.out,rfl⟩
theorem psync_done (h:Dm w d H S n v m held safe P armed fails false ops) (hf0:-9223372036854775808≤fails) (hf1:fails≤9223372036854775807) (hz:fails≠0) (ha0:-9223372036854775808≤armed) (ha1:armed≤9223372036854775807) (haz:armed≠0) (c0:Value) (R:World→Prop)
 (hdo:∀ w1,Dm w1 d H S n v m held safe P (struck armed) (struck fails) false ops→Kept (fun b=>b≠d) w w1→Calls Tryz.prog 160 #[c0] w1 fun e w2=>e=.returned (.tuple #[])∧R w2)
 (hR:∀ w2,R w2→w2.cell? ⟨d,6,none⟩=some (.int .i64 ops)∧w2.frozen? ⟨d,6,none⟩=false) :
 Calls Tryz.prog 156 #[.pointer (some ⟨d,0,none⟩),.int .i64 0,.bool true,.func (.func 160) #[] #[c0]] w fun e w'=>e=.returned (.int .i64 0)∧∃ w2,R w2∧w'=w2.setCell ⟨d,6,none⟩ (.int .i64 (wrap64 (ops+1))):=by
 have HD:=hI h
 have HDO:=hI hdo
 have HRR:=hI hR
 have HFZ:=hI (show decide (fails=0)=false by simp[hz])
 have HAZ:=hI (show decide (armed=0)=false by simp[haz])
 clear h hz haz hdo hR
 go_enter Tryz.func156,Tryz.ntmps156
 go_wp2_with (first | (go_at_call 199; with_reducible refine (fails_any HD.out hf0 hf1).mono ?_; rintro e w1 ⟨rfl,hd1,hk1⟩; have HD1:=hI hd1; have HK1:=hI hk1; clear hd1 hk1; rw[HFZ.out]) | (go_at_call 199; with_reducible refine (armed_any HD1.out ha0 ha1).mono ?_; rintro e w2 ⟨rfl,hd2,hk2⟩; have HD2:=hI hd2; have HK2:=hI hk2; clear hd2 hk2; rw[HAZ.out]; skip) | (go_at_call 160; refine (HDO.out _ HD2.out (HK1.out.trans HK2.out (fun b h=>h))).mono ?_; rintro e w3 ⟨rfl,hr⟩; have HR3:=hI hr; obtain ⟨hc6,hz6⟩:=HRR.out _ hr; clear hr))
 go_ret
 exact ⟨rfl,_,HR3.out,rfl⟩
end
end
section
section
variable {w:World} {d H S n:Nat} {v:Value} {m:Nat} {held safe:List Int} {P:List Value} {armed fails:Int} {ops:Int}
def WrR (d H S n:Nat) (v:Value) (m:Nat) (held safe:List Int) (P:List Value) (armed fails:Int) (dead:Bool) (ops:Int) (w4 w2:World):Prop :=
 ∃ v',Dm w2 d H S n v' m held safe P armed fails dead ops∧(∀ g,v'.ownBlock=some g→v.ownBlock=some g∨w4.heap.size≤g)∧Kept (fun b=>b<w4.heap.size∧b≠d∧b≠H∧v.ownBlock≠some b) w4 w2
theorem WrR.laid {dead:Bool} {w4 w2:World} (h:WrR d H S n v m held safe P armed fails dead ops w4 w2) (x:Int):WrR d H S n v m held safe P armed fails dead x w4 (w2.setCell ⟨d,6,none⟩ (.int .i64 x)):=by
 obtain ⟨v',h1,h2,h3⟩:=h
 exact ⟨v',h1.ops_ x,h2,h3.setCell (fun h=>h.2.1 rfl) _⟩
theorem WrR.same {dead:Bool} {w4 w2:World} (h:Dm w2 d H S n v m held safe P armed fails dead ops) (hk:Kept (fun b=>b≠d) w4 w2):WrR d H S n v m held safe P armed fails dead ops w4 w2 :=
 ⟨v,h,fun g hg=>.inl hg,hk.mono (fun b h=>h.2.1)⟩
theorem WrR.base {dead:Bool} {w4 w2:World} (h:WrR d H S n v m held safe P armed fails dead ops w4 w2) (hb:Below w.heap.size w w4):WrR d H S n v m held safe P armed fails dead ops w w2:=by
 obtain ⟨v',h1,h2,h3⟩:=h
 refine ⟨v',h1,fun g hg=>?_,?_⟩
 ·rcases h2 g hg with h | h
  ·exact .inl h
  ·exact .inr (nT hb.size h)
 ·exact (Kept.of_below hb (fun b h=>h.1)).trans h3 (fun b h=>⟨nL h.1 hb.size,h.2⟩)
theorem write1_kept {w1 w4:World} (hd1:Dm w1 d H S n v m held safe P armed fails false ops) (hk1:Kept (fun b=>b≠d) w4 w1) (xss:List (List Int)) (hs:Secs xss) (hh:held=flat xss) (hn:xss.length=n) (hn2:n≤2048) (i:Nat) (hi:i<n) (a:Nat) (ys:List Int) (hy:ys.length=64)
 (hgd:Blk w4 a 25 #[.pointer (some ⟨d,0,none⟩)]) (hgi:Blk w4 (a+1) 3 #[.int .i64 i]) (hgb:ArrB w4 (a+1+1) ys) (hda:d<a) (hH:H<a) (hm:m≤1000000) :
 Calls Tryz.prog 158 #[.pointer (some ⟨a+1+1,0,none⟩),.pointer (some ⟨a,0,none⟩),.pointer (some ⟨a+1,0,none⟩)] w1 fun e w2=>e=.returned (.tuple #[])∧WrR d H S n v (m+1) (flat (xss.set i ys)) safe (P++wcells (i,ys)) armed fails false ops w4 w2:=by
 refine (write1_any hd1 xss hs hh hn hn2 i hi a (a+1) (a+1+1) ys hy (hgd.kept hk1 (by omega)) (hgi.kept hk1 (by omega)) (Arr.kept hgb hk1 (by omega)) (by omega) hm).mono ?_
 rintro e w2 ⟨rfl,v',h1,h2,h3⟩
 refine ⟨rfl,v',h1,fun g hg=>?_,?_⟩
 ·rcases h2 g hg with h | h
  ·exact .inl h
  ·exact .inr (nT hk1.size h)
 ·exact (hk1.mono (fun b h=>h.2.1)).trans h3 (fun b h=>⟨nL h.1 hk1.size,h.2⟩)
theorem write_done (h:Dm w d H S n v m held safe P armed fails false ops) (i:Nat) (hi:i<n) (ys:List Int) (hy:ys.length=64) (xss:List (List Int)) (hs:Secs xss) (hh:held=flat xss) (hn:xss.length=n) (hn2:n≤2048) (hf0:-9223372036854775808≤fails) (hf1:fails≤9223372036854775807) (hz:fails≠0) (ha0:-9223372036854775808≤armed) (ha1:armed≤9223372036854775807) (haz:armed≠0) (hm:m≤1000000) :
 Calls Tryz.prog 105 #[.pointer (some ⟨d,0,none⟩),.int .i64 i,.agg (cells8 ys)] w fun e w'=>e=.returned (.int .i64 0)∧WrR d H S n v (m+1) (flat (xss.set i ys)) safe (P++wcells (i,ys)) (struck armed) (struck fails) false (wrap64 (ops+1)) w w':=by
 have hmf:∀ (fn:Fn) (first cap:Array Value) (w:World),(Instr.makeFunc fn first cap).run Tryz.prog w=.ok (.func fn first cap) w:=fun _ _ _ _=>rfl
 have HM:=hI h
 have HLT:=hI h.blk.lt
 have HY:=hI hy
 have HS:=hI hs
 have HH:=hI hh
 have HN:=hI hn
 have HZ:=hI hz
 have HAZ:=hI haz
 clear hs hh hn hz haz
 clear h hy
 go_enter Tryz.func105,Tryz.ntmps105
 go_upto_region 1 with fail
 have HM3:=hI (((HM.out.alloc (.cells #[.pointer (some ⟨d,0,none⟩)] 25)).alloc (.cells #[.int .i64 i] 3)).alloc (.cells (cells8 ys) 186))
 have HD3:=hI (show Blk (((w.alloc (.cells #[.pointer (some ⟨d,0,none⟩)] 25)).alloc (.cells #[.int .i64 i] 3)).alloc (.cells (cells8 ys) 186)) w.heap.size 25 #[.pointer (some ⟨d,0,none⟩)] from ((Blk.new w _ _).alloc _).alloc _)
 have HI3:=hI (show Blk (((w.alloc (.cells #[.pointer (some ⟨d,0,none⟩)] 25)).alloc (.cells #[.int .i64 i] 3)).alloc (.cells (cells8 ys) 186)) (w.heap.size+1) 3 #[.int .i64 i] from (blk_new2 w _ _ _).alloc _)
 have HV3:=hI (show ArrB (((w.alloc (.cells #[.pointer (some ⟨d,0,none⟩)] 25)).alloc (.cells #[.int .i64 i] 3)).alloc (.cells (cells8 ys) 186)) (w.heap.size+1+1) ys from blk_new3 w _ _ _ _)
 have HB3:=hI (show Below w.heap.size w (((w.alloc (.cells #[.pointer (some ⟨d,0,none⟩)] 25)).alloc (.cells #[.int .i64 i] 3)).alloc (.cells (cells8 ys) 186)) from (((Below.refl _ _).alloc (nR _) _).alloc (by simp) _).alloc (by simp; omega) _)
 generalize hw3:((w.alloc (.cells #[.pointer (some ⟨d,0,none⟩)] 25)).alloc (.cells #[.int .i64 i] 3)).alloc (.cells (cells8 ys) 186)=w4 at *
 have HZ3:=hI (show w.heap.size+1+1<w4.heap.size from HV3.out.lt)
 have HHL:=hI (show H<w.heap.size from HM.out.hh.lt)
 have HVL:=hI HM.out.vlt
 clear hw3
 have cd:=HD3.out.cell 0
 have ci:=HI3.out.cell 0
 simp only[List.getElem?_toArray,List.getElem?_cons_zero] at cd ci
 go_region_held3 (fun W=>W.cell? ⟨w.heap.size,0,none⟩=some (.pointer (some ⟨d,0,none⟩))∧W.cell? ⟨w.heap.size+1,0,none⟩=some (.int .i64 i))
  (first | exact ⟨cd,ci⟩ | exact ⟨ed,ei⟩)
  (first
    | (go_at_call 157; refine (reach_ok HM3.out.drew i hi).mono ?_; rintro e w' ⟨rfl,rfl⟩; simp only[Bool.false_eq_true,if_false,if_true])
    | (go_at_call 156; refine (pwrite_done HM3.out.drew hf0 hf1 HZ.out ha0 ha1 HAZ.out _ _ _ (WrR d H S n v (m+1) (flat (xss.set i ys)) safe (P++wcells (i,ys)) (struck armed) (struck fails) false ops w4.drew) (fun w1 hd1 hk1=>write1_kept hd1 hk1 xss HS.out HH.out HN.out hn2 i hi w.heap.size ys HY.out HD3.out HI3.out HV3.out HLT.out HHL.out hm) (fun w2 hr=>⟨hr.choose_spec.1.cell.2.2.2.2.2.2,hr.choose_spec.1.frozen 6⟩)).mono ?_; rintro e wf ⟨rfl,w2,hr,hwf⟩; have hf:WrR d H S n v (m+1) (flat (xss.set i ys)) safe (P++wcells (i,ys)) (struck armed) (struck fails) false (wrap64 (ops+1)) w4.drew wf:=(by rw[hwf]; exact hr.laid _); clear hr hwf; have HF:=hI hf; have ed:=((Blk.drew HD3.out).kept (HF.out.choose_spec.2.2) ⟨by show w.heap.size<w4.heap.size; have:=HZ3.out; omega,by have:=HLT.out; omega,by have:=HHL.out; omega,fun h=>by have:=HVL.out _ h; omega⟩).cell 0; have ei:=((Blk.drew HI3.out).kept (HF.out.choose_spec.2.2) ⟨by show w.heap.size+1<w4.heap.size; have:=HZ3.out; omega,by have:=HLT.out; omega,by have:=HHL.out; omega,fun h=>by have:=HVL.out _ h; omega⟩).cell 0; simp only[List.getElem?_toArray,List.getElem?_cons_zero] at ed ei; clear hf))
 all_goals
  clear ed ei cd ci
  go_wp2
  go_ret
  exact ⟨rfl,HF.out.base HB3.out.drew⟩
theorem write_io (h:Dm w d H S n v m held safe P armed fails false ops) (i:Nat) (hi:i<n) (ys:List Int) (hy:ys.length=64) (hf0:-9223372036854775808≤fails) (hf1:fails≤9223372036854775807) (hz:fails=0) :
 Calls Tryz.prog 105 #[.pointer (some ⟨d,0,none⟩),.int .i64 i,.agg (cells8 ys)] w fun e w'=>e=.returned (.int .i64 8)∧WrR d H S n v m held safe P armed (-1) false ops w w':=by
 have hmf:∀ (fn:Fn) (first cap:Array Value) (w:World),(Instr.makeFunc fn first cap).run Tryz.prog w=.ok (.func fn first cap) w:=fun _ _ _ _=>rfl
 have HM:=hI h
 have HLT:=hI h.blk.lt
 have HY:=hI hy
 have HZ:=hI hz
 clear hz
 clear h hy
 go_enter Tryz.func105,Tryz.ntmps105
 go_upto_region 1 with fail
 have HM3:=hI (((HM.out.alloc (.cells #[.pointer (some ⟨d,0,none⟩)] 25)).alloc (.cells #[.int .i64 i] 3)).alloc (.cells (cells8 ys) 186))
 have HD3:=hI (show Blk (((w.alloc (.cells #[.pointer (some ⟨d,0,none⟩)] 25)).alloc (.cells #[.int .i64 i] 3)).alloc (.cells (cells8 ys) 186)) w.heap.size 25 #[.pointer (some ⟨d,0,none⟩)] from ((Blk.new w _ _).alloc _).alloc _)
 have HI3:=hI (show Blk (((w.alloc (.cells #[.pointer (some ⟨d,0,none⟩)] 25)).alloc (.cells #[.int .i64 i] 3)).alloc (.cells (cells8 ys) 186)) (w.heap.size+1) 3 #[.int .i64 i] from (blk_new2 w _ _ _).alloc _)
 have HV3:=hI (show ArrB (((w.alloc (.cells #[.pointer (some ⟨d,0,none⟩)] 25)).alloc (.cells #[.int .i64 i] 3)).alloc (.cells (cells8 ys) 186)) (w.heap.size+1+1) ys from blk_new3 w _ _ _ _)
 have HB3:=hI (show Below w.heap.size w (((w.alloc (.cells #[.pointer (some ⟨d,0,none⟩)] 25)).alloc (.cells #[.int .i64 i] 3)).alloc (.cells (cells8 ys) 186)) from (((Below.refl _ _).alloc (nR _) _).alloc (by simp) _).alloc (by simp; omega) _)
 generalize hw3:((w.alloc (.cells #[.pointer (some ⟨d,0,none⟩)] 25)).alloc (.cells #[.int .i64 i] 3)).alloc (.cells (cells8 ys) 186)=w4 at *
 have HZ3:=hI (show w.heap.size+1+1<w4.heap.size from HV3.out.lt)
 have HHL:=hI (show H<w.heap.size from HM.out.hh.lt)
 have HVL:=hI HM.out.vlt
 clear hw3
 have cd:=HD3.out.cell 0
 have ci:=HI3.out.cell 0
 simp only[List.getElem?_toArray,List.getElem?_cons_zero] at cd ci
 go_region_held3 (fun W=>W.cell? ⟨w.heap.size,0,none⟩=some (.pointer (some ⟨d,0,none⟩))∧W.cell? ⟨w.heap.size+1,0,none⟩=some (.int .i64 i))
  (first | exact ⟨cd,ci⟩ | exact ⟨ed,ei⟩)
  (first
    | (go_at_call 157; refine (reach_ok HM3.out.drew i hi).mono ?_; rintro e w' ⟨rfl,rfl⟩; simp only[Bool.false_eq_true,if_false,if_true])
    | (go_at_call 156; refine (pwrite_io HM3.out.drew hf0 hf1 HZ.out _).mono ?_; rintro e wf ⟨rfl,hd,hk⟩; have hf:=WrR.same hd hk; clear hd hk; have HF:=hI hf; have ed:=((Blk.drew HD3.out).kept (HF.out.choose_spec.2.2) ⟨by show w.heap.size<w4.heap.size; have:=HZ3.out; omega,by have:=HLT.out; omega,by have:=HHL.out; omega,fun h=>by have:=HVL.out _ h; omega⟩).cell 0; have ei:=((Blk.drew HI3.out).kept (HF.out.choose_spec.2.2) ⟨by show w.heap.size+1<w4.heap.size; have:=HZ3.out; omega,by have:=HLT.out; omega,by have:=HHL.out; omega,fun h=>by have:=HVL.out _ h; omega⟩).cell 0; simp only[List.getElem?_toArray,List.getElem?_cons_zero] at ed ei; clear hf))
 all_goals
  clear ed ei cd ci
  go_wp2
  go_ret
  exact ⟨rfl,HF.out.base HB3.out.drew⟩
theorem write_off (h:Dm w d H S n v m held safe P armed fails false ops) (i:Nat) (hi:i<n) (ys:List Int) (hy:ys.length=64) (hf0:-9223372036854775808≤fails) (hf1:fails≤9223372036854775807) (hz:fails≠0) (ha0:-9223372036854775808≤armed) (ha1:armed≤9223372036854775807) (haz:armed=0) :
 Calls Tryz.prog 105 #[.pointer (some ⟨d,0,none⟩),.int .i64 i,.agg (cells8 ys)] w fun e w'=>e=.returned (.int .i64 7)∧WrR d H S n v m held safe P (-1) (struck fails) true ops w w':=by
 have hmf:∀ (fn:Fn) (first cap:Array Value) (w:World),(Instr.makeFunc fn first cap).run Tryz.prog w=.ok (.func fn first cap) w:=fun _ _ _ _=>rfl
 have HM:=hI h
 have HLT:=hI h.blk.lt
 have HY:=hI hy
 have HZ:=hI hz
 have HAZ:=hI haz
 clear hz haz
 clear h hy
 go_enter Tryz.func105,Tryz.ntmps105
 go_upto_region 1 with fail
 have HM3:=hI (((HM.out.alloc (.cells #[.pointer (some ⟨d,0,none⟩)] 25)).alloc (.cells #[.int .i64 i] 3)).alloc (.cells (cells8 ys) 186))
 have HD3:=hI (show Blk (((w.alloc (.cells #[.pointer (some ⟨d,0,none⟩)] 25)).alloc (.cells #[.int .i64 i] 3)).alloc (.cells (cells8 ys) 186)) w.heap.size 25 #[.pointer (some ⟨d,0,none⟩)] from ((Blk.new w _ _).alloc _).alloc _)
 have HI3:=hI (show Blk (((w.alloc (.cells #[.pointer (some ⟨d,0,none⟩)] 25)).alloc (.cells #[.int .i64 i] 3)).alloc (.cells (cells8 ys) 186)) (w.heap.size+1) 3 #[.int .i64 i] from (blk_new2 w _ _ _).alloc _)
 have HV3:=hI (show ArrB (((w.alloc (.cells #[.pointer (some ⟨d,0,none⟩)] 25)).alloc (.cells #[.int .i64 i] 3)).alloc (.cells (cells8 ys) 186)) (w.heap.size+1+1) ys from blk_new3 w _ _ _ _)
 have HB3:=hI (show Below w.heap.size w (((w.alloc (.cells #[.pointer (some ⟨d,0,none⟩)] 25)).alloc (.cells #[.int .i64 i] 3)).alloc (.cells (cells8 ys) 186)) from (((Below.refl _ _).alloc (nR _) _).alloc (by simp) _).alloc (by simp; omega) _)
 generalize hw3:((w.alloc (.cells #[.pointer (some ⟨d,0,none⟩)] 25)).alloc (.cells #[.int .i64 i] 3)).alloc (.cells (cells8 ys) 186)=w4 at *
 have HZ3:=hI (show w.heap.size+1+1<w4.heap.size from HV3.out.lt)
 have HHL:=hI (show H<w.heap.size from HM.out.hh.lt)
 have HVL:=hI HM.out.vlt
 clear hw3
 have cd:=HD3.out.cell 0
 have ci:=HI3.out.cell 0
 simp only[List.getElem?_toArray,List.getElem?_cons_zero] at cd ci
 go_region_held3 (fun W=>W.cell? ⟨w.heap.size,0,none⟩=some (.pointer (some ⟨d,0,none⟩))∧W.cell? ⟨w.heap.size+1,0,none⟩=some (.int .i64 i))
  (first | exact ⟨cd,ci⟩ | exact ⟨ed,ei⟩)
  (first
    | (go_at_call 157; refine (reach_ok HM3.out.drew i hi).mono ?_; rintro e w' ⟨rfl,rfl⟩; simp only[Bool.false_eq_true,if_false,if_true])
    | (go_at_call 156; refine (pwrite_dead HM3.out.drew hf0 hf1 HZ.out ha0 ha1 HAZ.out _).mono ?_; rintro e wf ⟨rfl,hd,hk⟩; have hf:=WrR.same hd hk; clear hd hk; have HF:=hI hf; have ed:=((Blk.drew HD3.out).kept (HF.out.choose_spec.2.2) ⟨by show w.heap.size<w4.heap.size; have:=HZ3.out; omega,by have:=HLT.out; omega,by have:=HHL.out; omega,fun h=>by have:=HVL.out _ h; omega⟩).cell 0; have ei:=((Blk.drew HI3.out).kept (HF.out.choose_spec.2.2) ⟨by show w.heap.size+1<w4.heap.size; have:=HZ3.out; omega,by have:=HLT.out; omega,by have:=HHL.out; omega,fun h=>by have:=HVL.out _ h; omega⟩).cell 0; simp only[List.getElem?_toArray,List.getElem?_cons_zero] at ed ei; clear hf))
 all_goals
  clear ed ei cd ci
  go_wp2
  go_ret
  exact ⟨rfl,HF.out.base HB3.out.drew⟩
theorem write_dead (h:Dm w d H S n v m held safe P armed fails true ops) (i:Nat) (hi:i<n) (ys:List Int) (hy:ys.length=64) :
 Calls Tryz.prog 105 #[.pointer (some ⟨d,0,none⟩),.int .i64 i,.agg (cells8 ys)] w fun e w'=>e=.returned (.int .i64 7)∧WrR d H S n v m held safe P armed fails true ops w w':=by
 have hmf:∀ (fn:Fn) (first cap:Array Value) (w:World),(Instr.makeFunc fn first cap).run Tryz.prog w=.ok (.func fn first cap) w:=fun _ _ _ _=>rfl
 have HM:=hI h
 have HLT:=hI h.blk.lt
 have HY:=hI hy
 clear h hy
 go_enter Tryz.func105,Tryz.ntmps105
 go_upto_region 1 with fail
 have HM3:=hI (((HM.out.alloc (.cells #[.pointer (some ⟨d,0,none⟩)] 25)).alloc (.cells #[.int .i64 i] 3)).alloc (.cells (cells8 ys) 186))
 have HD3:=hI (show Blk (((w.alloc (.cells #[.pointer (some ⟨d,0,none⟩)] 25)).alloc (.cells #[.int .i64 i] 3)).alloc (.cells (cells8 ys) 186)) w.heap.size 25 #[.pointer (some ⟨d,0,none⟩)] from ((Blk.new w _ _).alloc _).alloc _)
 have HI3:=hI (show Blk (((w.alloc (.cells #[.pointer (some ⟨d,0,none⟩)] 25)).alloc (.cells #[.int .i64 i] 3)).alloc (.cells (cells8 ys) 186)) (w.heap.size+1) 3 #[.int .i64 i] from (blk_new2 w _ _ _).alloc _)
 have HV3:=hI (show ArrB (((w.alloc (.cells #[.pointer (some ⟨d,0,none⟩)] 25)).alloc (.cells #[.int .i64 i] 3)).alloc (.cells (cells8 ys) 186)) (w.heap.size+1+1) ys from blk_new3 w _ _ _ _)
 have HB3:=hI (show Below w.heap.size w (((w.alloc (.cells #[.pointer (some ⟨d,0,none⟩)] 25)).alloc (.cells #[.int .i64 i] 3)).alloc (.cells (cells8 ys) 186)) from (((Below.refl _ _).alloc (nR _) _).alloc (by simp) _).alloc (by simp; omega) _)
 generalize hw3:((w.alloc (.cells #[.pointer (some ⟨d,0,none⟩)] 25)).alloc (.cells #[.int .i64 i] 3)).alloc (.cells (cells8 ys) 186)=w4 at *
 have HZ3:=hI (show w.heap.size+1+1<w4.heap.size from HV3.out.lt)
 have HHL:=hI (show H<w.heap.size from HM.out.hh.lt)
 have HVL:=hI HM.out.vlt
 clear hw3
 have cd:=HD3.out.cell 0
 have ci:=HI3.out.cell 0
 simp only[List.getElem?_toArray,List.getElem?_cons_zero] at cd ci
 go_region_held3 (fun W=>W.cell? ⟨w.heap.size,0,none⟩=some (.pointer (some ⟨d,0,none⟩))∧W.cell? ⟨w.heap.size+1,0,none⟩=some (.int .i64 i))
  (first | exact ⟨cd,ci⟩ | exact ⟨ed,ei⟩)
  (first
    | (go_at_call 157; refine (reach_ok HM3.out.drew i hi).mono ?_; rintro e w' ⟨rfl,rfl⟩; simp only[Bool.false_eq_true,if_false,if_true])
    | (go_at_call 156; refine (perform_refused _ d 7 (by decide) true _).mono ?_; rintro e wf ⟨rfl,hww⟩; have hf:=WrR.same (w4:=w4.drew) (w2:=wf) (by rw[← hww]; exact HM3.out.drew) (by rw[← hww]; exact Kept.refl _ _); clear hww; have HF:=hI hf; have ed:=((Blk.drew HD3.out).kept (HF.out.choose_spec.2.2) ⟨by show w.heap.size<w4.heap.size; have:=HZ3.out; omega,by have:=HLT.out; omega,by have:=HHL.out; omega,fun h=>by have:=HVL.out _ h; omega⟩).cell 0; have ei:=((Blk.drew HI3.out).kept (HF.out.choose_spec.2.2) ⟨by show w.heap.size+1<w4.heap.size; have:=HZ3.out; omega,by have:=HLT.out; omega,by have:=HHL.out; omega,fun h=>by have:=HVL.out _ h; omega⟩).cell 0; simp only[List.getElem?_toArray,List.getElem?_cons_zero] at ed ei; clear hf))
 all_goals
  clear ed ei cd ci
  go_wp2
  go_ret
  exact ⟨rfl,HF.out.base HB3.out.drew⟩
end
end
end Go.Proofs.YtdkbpchmnhbhcaaGreat
