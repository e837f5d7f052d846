/- Texts of StoreMoves, packed. -/
import Derived.Test.YtdkbpchmnhbhcaaGreatPackStoreMoves15
import Derived.OwnWalk
import Derived.Great.BuildSlice
import Derived.Laws.CopyRow
import Derived.Deep.Slices
import Derived.Deep.Fields
import Derived.ChangeSame
import Derived.Lib.SmallJoins
import Derived.Shelf.Bits.Mul64
import Derived.Lib.MakeNoZero
import Derived.Laws.CopyOwn
import Derived.Laws.Externs
set_option linter.unusedVariables false
set_option linter.unusedSimpArgs false
set_option maxRecDepth 100000
set_option maxHeartbeats 16000000
namespace Go.Proofs.YtdkbpchmnhbhcaaGreat
open Go.RowKit
section
attribute [local go_sem] Oper.semAt_some
abbrev rp0:Oper:=⟨some 67,.move (.tmp 10),3,"bytes.go:672",#[],none⟩
abbrev rp1:Oper:=⟨some 68,.move (.tmp 9),31,"bytes.go:672",#[],none⟩
abbrev rp2:Oper:=⟨some 69,.move (.tmp 10),3,"bytes.go:672",#[],none⟩
abbrev rp3:Oper:=⟨some 70,.slice 31 (.tmp 68) (some (.tmp 69)) none none,31,"bytes.go:672",#[⟨1,.data⟩,⟨2,.data⟩],none⟩
abbrev rp4:Oper:=⟨some 71,.move (.tmp 9),31,"bytes.go:672",#[],none⟩
abbrev rp5:Oper:=⟨some 72,.move (.tmp 11),3,"bytes.go:672",#[],none⟩
abbrev rp6:Oper:=⟨some 73,.slice 31 (.tmp 71) none (some (.tmp 72)) none,31,"bytes.go:672",#[⟨4,.data⟩,⟨5,.data⟩],none⟩
abbrev rp7:Oper:=⟨some 74,.call { callee:=.builtin Go.Builtin.copy,args:=#[.tmp 70,.tmp 73],argTypes:=#[31,31] },3,"bytes.go:672",#[⟨3,.data⟩,⟨6,.data⟩],none⟩
abbrev rp8:Oper:=⟨some 75,.binOp Go.BinOp.add 3 (.tmp 67) (.tmp 74) 3,3,"bytes.go:672",#[⟨0,.data⟩,⟨7,.data⟩],none⟩
abbrev rp9:Oper:=⟨some 10,.assign (.tmp 75),3,"bytes.go:672",#[⟨8,.data⟩,⟨7,.chain⟩,⟨0,.phase⟩,⟨1,.phase⟩,⟨2,.phase⟩,⟨3,.phase⟩,⟨4,.phase⟩,⟨5,.phase⟩,⟨6,.phase⟩,⟨7,.phase⟩,⟨8,.phase⟩],none⟩
theorem copy_known {P:Program} {w:World} {ops:Array Oper} {rest:List Oper} {o:Oper} {a:Act} {Q:Exit→Act→World→Prop} (hgd:o.guard=none) (d s:Operand) (t t':TypeId)
 (ho:o.op=.call { callee:=.builtin .copy,args:=#[d,s],argTypes:=#[t,t'] }) (v u:Value) (hd:a.eval d=v) (hs:a.eval s=u) {v':Value} {w':World}
 (hr:(Builtin.copy_ #[t,t'] o.type #[v,u]).run P w=.ok v' w') (h:wpList P ops Q rest (a.put o.dst v') w'):wpList P ops Q (o::rest) a w:=by
 refine wpList_plain hgd fun K hK=>?_
 unfold Oper.wp
 simp[execOp,ho,resolve,invoke,builtin,hd,hs,hr,Result.andThen]
 exact hK _ _ h
theorem step_copy14 {P:Program} {w:World} {ops:Array Oper} {o:Oper} {a:Act} {Q:Exit→Act→World→Prop} {K:Act→World→Prop} {E:Prop} (d s:Operand) (t t':TypeId)
 (ho:o.op=.call { callee:=.builtin .copy,args:=#[d,s],argTypes:=#[t,t'] }) (hgd:Region.wanted o (yielded ops a.tmps)=true) (v u:Value) (hd:a.eval d=v) (hs:a.eval s=u) {v':Value} {w':World}
 (hr:(Builtin.copy_ #[t,t'] o.type #[v,u]).run P w=.ok v' w') (h:K (a.put o.dst v') w'):if Region.wanted o (yielded ops a.tmps)=true then Oper.wp P o a w K Q else E:=by
 rw[if_pos hgd]
 unfold Oper.wp
 simp[execOp,ho,resolve,invoke,builtin,hd,hs,hr,Result.andThen]
 exact h
theorem mul64_one (n:Nat) (hn:n≤513) (w:World):Calls Tryz.prog 194 #[.int .u64 1,.int .u64 n] w fun e w'=>e=.returned (.tuple #[.int .u64 0,.int .u64 n])∧w'=w:=by
 have hm:bits .and .u64 (n:Int) 4294967295=n:=by
  rw[Mul64.maskN n (by omega),Nat.mod_eq_of_lt (by omega)]
 have h1:bits .and .u64 1 4294967295=1:=by decide
 have hd:(n:Int) / 4294967296=0:=Int.ediv_eq_zero_of_lt (by omega) (by omega)
 go_enter Tryz.func194,Tryz.ntmps194
 go_wp2
 skip
 go_ret2
 exact ⟨rfl,rfl⟩
theorem mul_one (n:Nat) (hn:n≤513) (w:World):Calls Tryz.prog 147 #[.int .u64 1,.int .u64 n] w fun e w'=>e=.returned (.tuple #[.int .u64 0,.int .u64 n])∧w'=w:=by
 have HM:=hI (mul64_one n hn w)
 go_enter Tryz.func147,Tryz.ntmps147
 go_wp2_with fail
 refine HM.out.mono ?_
 rintro e w1 ⟨rfl,rfl⟩
 go_wp2
 (first | go_ret | go_ret2)
 exact ⟨rfl,rfl⟩
def RepB (w0 wr:World) (g n:Nat) (b:Int) (k:Nat):Prop:=Below g w0 wr∧∃ cs,Blk wr g 5 cs∧n≤cs.size∧∀ j,j<k→cs[j]? = some (.int .u8 b)
theorem RepB.copy {w0 wr:World} {g n:Nat} {b:Int} {k:Nat} (h:RepB w0 wr g n b k) (ty:TypeId) (ch sLen dLen dCap sCap:Nat) (a:Addr) (hmin:ch=Nat.min sLen dLen) (hk:k+ch≤n) (hsrc:∀ j,j<ch→wr.cell? (a.add j)=some (.int .u8 b)) :
 ∃ wr',(Builtin.copy_ #[31,31] ty #[.slice (some ⟨g,k,none⟩) dLen dCap,.slice (some a) sLen sCap]).run Tryz.prog wr=.ok (.int .i64 ch) wr'∧RepB w0 wr' g n b (k+ch):=by
 obtain ⟨hb,cs,hB,hs,hc⟩:=h
 have hr:=run_copy_row (P:=Tryz.prog) wr 31 31 ty 5 g k dLen dCap a sLen sCap cs 5 (List.replicate ch (.int .u8 b)) Tryz.underlying31 size_u8 hB (by rw[List.length_replicate]; exact hmin)
  (fun j v hj=>by
    rw[List.getElem?_replicate] at hj
    split at hj
    ·rename_i h1
     cases hj
     exact hsrc j h1
    ·cases hj) (by rw[List.length_replicate]; omega) (fun v hv=>by rw[(List.mem_replicate.1 hv).2]; rfl)
 rw[List.length_replicate] at hr
 refine ⟨_,hr,below_setRow hb (nR _) _,_,setRow_heap _ _ _ _ _ _ hB,?_,fun j hj=>?_⟩
 ·simp
  omega
 ·have hcl:cs.toList.length=cs.size:=by simp
  rw[List.getElem?_toArray,List.append_assoc]
  rcases Nat.lt_or_ge j k with h1 | h1
  ·rw[List.getElem?_append_left (by rw[List.length_take]; omega),List.getElem?_take,if_pos h1,Array.getElem?_toList]
   exact hc j h1
  ·rw[List.getElem?_append_right (by rw[List.length_take]; omega),List.length_take,Nat.min_eq_left (by omega),List.getElem?_append_left (by rw[List.length_replicate]; omega),List.getElem?_replicate,if_pos (by omega)]
theorem RepB.cell {w0 wr:World} {g n:Nat} {b:Int} {k:Nat} (h:RepB w0 wr g n b k) (j:Nat) (hj:j<k):wr.cell? ⟨g,j,none⟩=some (.int .u8 b):=by
 obtain ⟨hb,cs,hB,hs,hc⟩:=h
 rw[← hc j hj]
 exact hB.cell j
theorem repeat_zero {S:Nat→Prop} (q o c:Nat) (b:Int) (w:World):Calls Tryz.prog 96 #[.slice (some ⟨q,o,none⟩) 1 c,.int .i64 0] w fun e w'=>(∃ g c',e=.returned (.slice (some ⟨g,0,none⟩) 0 c'))∧Below w.heap.size w w':=by
 go_enter Tryz.func96,Tryz.ntmps96
 go_wp2
 (first | go_ret | go_ret2)
 exact ⟨⟨_,_,rfl⟩,(Below.refl _ w).alloc (nR _) _⟩
theorem repeat_one (q o c n:Nat) (b:Int) (hn:n≤513) (h0:0<n) (w:World) (hq:w.cell? ⟨q,o,none⟩=some (.int .u8 b)) :
 Calls Tryz.prog 96 #[.slice (some ⟨q,o,none⟩) 1 c,.int .i64 n] w fun e w'=>(∃ g,e=.returned (.slice (some ⟨g,0,none⟩) n n)∧w.heap.size≤g∧RepB w w' g n b n):=by
 have HM:=hI (mul_one n hn w)
 have HQ:=hI hq
 obtain ⟨cs,hrunM,hle,_⟩:=Lib.run_makeNoZero (P:=Tryz.prog) w #[3] 31 5 Tryz.underlying31 n (by omega)
 have hcall:(callFunc 148 #[.int .i64 (n:Int)]).run Tryz.prog w=.ok (.value (.slice (some ⟨w.heap.size,0,none⟩) n cs.size)) ((w.alloc (.cells cs 5)).drewN 2):=by
  rw[run_callFunc_extern Tryz.func148 (by kernel_rfl) (by kernel_rfl) (by kernel_rfl) (e:=Extern.BytealgMakeNoZero.makeNoZero #[3] #[31]) (by kernel_rfl),hrunM]
  rfl
 clear hrunM hq
 have i1:(n:Int)≤(cs.size:Int):=by omega
 have hB0:RepB w ((w.alloc (.cells cs 5)).drewN 2) w.heap.size n b 0:=⟨⟨rfl,rfl,rfl,by simp,fun k hk=>heap_alloc_old w _ hk⟩,cs,Blk.new w _ _,hle,fun j hj=>by omega⟩
 obtain ⟨w1,hr1,hB1⟩:=hB0.copy 3 1 1 n n c ⟨q,o,none⟩ (by show 1=min 1 n; omega) (by omega) (fun j hj=>by
  obtain rfl:j=0:=by omega
  have h1:=World.block_lt_of_cell? w _ HQ.out
  rw[show (Addr.add ⟨q,o,none⟩ 0)=⟨q,o,none⟩ from rfl,hB0.1.cell (p:=⟨q,o,none⟩) h1]
  exact HQ.out)
 have HB1:=hI hB1
 clear hB0 hB1
 go_enter Tryz.func96,Tryz.ntmps96
 go_wp2_with fail
 refine HM.out.mono ?_
 rintro e w2 ⟨rfl,rfl⟩
 go_wp2_with (at_builtin; refine copy_known _ rfl _ _ 31 31 rfl _ _ rfl rfl hr1 ?_)
 clear hcall i1 hr1 HM HQ
 go_loopw [10] (fun v wr=>∃ k:Nat,1≤k∧k≤n∧v=.int .i64 k∧RepB w2 wr w2.heap.size n b k) (fun v _=>n-(intOf v).toNat)
 case atStart=>exact ⟨1,by omega,by omega,rfl,HB1.out⟩
 case round =>
  obtain ⟨k,hk1,hk2,rfl,hR⟩:=hrel
  have HR:=hI hR
  clear hR
  by_cases hlt:k<n
  ·obtain ⟨ch,hch⟩:∃ ch,ch=min k (n-k):=⟨_,rfl⟩
   obtain ⟨w3,hr3,hR3⟩:=(show RepB w2 wr.drew w2.heap.size n b k from ⟨HR.out.1.drew,HR.out.2⟩).copy 3 ch k (n-k) (n-k) n ⟨w2.heap.size,0,none⟩ (by rw[hch]) (by omega) (fun j hj=>by
    rw[show (Addr.add ⟨w2.heap.size,0,none⟩ j)=⟨w2.heap.size,j,none⟩ by rw[add_plain,Nat.zero_add]]
    exact HR.out.cell j (by omega))
   have HR3:=hI hR3
   have HCH:=hI hch
   have hc1:1≤ch:=by omega
   have hc2:k+ch≤n:=by omega
   have hmn:∀ (ts:Array TypeId) (t:TypeId) (W:World),(Builtin.min_ ts t #[.int .i64 (k:Int),.int .i64 (n:Int)]).run Tryz.prog W=.ok (.int .i64 (k:Int)) W:=fun ts t W=>by
    simp[Builtin.min_,Builtin.min2]
    try (intro h; omega)
   have hs1:∀ W,(Instr.slice 31 (.slice (some ⟨w2.heap.size,0,none⟩) n n) (some (.int .i64 (k:Int))) none none).run Tryz.prog W=.ok (.slice (some ⟨w2.heap.size,k,none⟩) (n-k) (n-k)) W:=fun W=>by
    have hu:Tryz.prog.underlying 31=some (.slice (Tryz.prog.elem 31)):=by kernel_rfl
    have he:Tryz.prog.elem 31=5:=by kernel_rfl
    rw[run_slice_l (P:=Tryz.prog) W 31 (some ⟨w2.heap.size,0,none⟩) n n hu .i64 k (by omega) (by omega),he,Tryz.sizeOf5]
    have hne:¬ n=k:=by omega
    simp[Result.andThen,sliced,hne,add_plain]
   have hs2:∀ W,(Instr.slice 31 (.slice (some ⟨w2.heap.size,0,none⟩) n n) none (some (.int .i64 (k:Int))) none).run Tryz.prog W=.ok (.slice (some ⟨w2.heap.size,0,none⟩) k n) W:=fun W=>by
    have hu:Tryz.prog.underlying 31=some (.slice (Tryz.prog.elem 31)):=by kernel_rfl
    have he:Tryz.prog.elem 31=5:=by kernel_rfl
    rw[run_slice_h (P:=Tryz.prog) W 31 (some ⟨w2.heap.size,0,none⟩) n n hu .i64 k (by omega) (by omega),he,Tryz.sizeOf5]
    have hne:¬ n=0:=by omega
    simp[Result.andThen,sliced,hne,add_plain]
   clear hR3 hch
   go_upto_region 20 with fail
   refine Tillst.region (fun W=>True) [] (by kernel_rfl) trivial (fun hė=>?_)
   generalize wr.drew=vd at *
   refine tK 0 rp0 (v:=?_) ?_ hė ?_
   rotate_left
   ·intro W hSW; unfold rp0; go_simp; with_reducible rfl
   simp only[rp0,Act.put,sA,sZ,sS]
   refine tK 1 rp1 (v:=?_) ?_ hė ?_
   rotate_left
   ·intro W hSW; unfold rp1; go_simp; with_reducible rfl
   simp only[rp1,Act.put,sA,sZ,sS]
   refine tK 2 rp2 (v:=?_) ?_ hė ?_
   rotate_left
   ·intro W hSW; unfold rp2; go_simp; with_reducible rfl
   simp only[rp2,Act.put,sA,sZ,sS]
   refine tK 3 rp3 (v:=?_) ?_ hė ?_
   rotate_left
   ·intro W hSW; unfold rp3; go_simp; with_reducible rfl
   simp only[rp3,Act.put,sA,sZ,sS]
   refine tK 4 rp4 (v:=?_) ?_ hė ?_
   rotate_left
   ·intro W hSW; unfold rp4; go_simp; with_reducible rfl
   simp only[rp4,Act.put,sA,sZ,sS]
   refine tK 5 rp5 (v:=?_) ?_ hė ?_
   rotate_left
   ·intro W hSW; unfold rp5; go_simp; with_reducible rfl
   simp only[rp5,Act.put,sA,sZ,sS]
   refine tK 6 rp6 (v:=?_) ?_ hė ?_
   rotate_left
   ·intro W hSW; unfold rp6; go_simp; with_reducible rfl
   simp only[rp6,Act.put,sA,sZ,sS]
   refine tO 7 rp7 ?_
   intro K hK
   refine step_copy14 (.tmp 70) (.tmp 73) 31 31 rfl rfl _ _ rfl rfl hr3 ?_
   simp only[rp7,Act.put,sA,sZ,sS]
   refine hK.out _ _ (fun _=>trivial) (fun hė=>?_)
   replace hė:=hė (by decide)
   clear hK K
   have hwr:IntKind.i64.wrap ((k:Int)+(ch:Int))=((k+ch:Nat):Int):=by rw[IntKind.wrap_i64]; omega
   refine tK 8 rp8 (v:=.int .i64 ((k+ch:Nat):Int)) ?_ hė ?_
   ·intro W hSW; clear hSW; unfold rp8; go_simp
   simp only[rp8,Act.put,sA,sZ,sS]
   refine tK 9 rp9 (v:=?_) ?_ hė ?_
   rotate_left
   ·intro W hSW; unfold rp9; go_simp; with_reducible rfl
   simp only[rp9,Act.put,sA,sZ,sS]
   refine Tillst.done (by kernel_rfl) ?_ _
   go_roundw
   case rel =>
    (repeat apply Exists.intro)
    exact ⟨⟨k+ch,by omega,hc2,by go_num,HR3.out⟩,rfl⟩
   case measure=>simp[intOf]; omega
  ·obtain rfl:k=n:=by omega
   go_wp2
   (first | go_ret | go_ret2)
   exact ⟨_,rfl,nR _,HR.out⟩
end
section
attribute [local go_sem] Oper.semAt_some
abbrev im0:Oper:=⟨some 3,.fieldAddr 74 (.tmp 1) 1,0,"law.go:34",#[],none⟩
abbrev im1:Oper:=⟨some 4,.load 3 (.tmp 3),3,"law.go:34",#[⟨0,.data⟩],none⟩
abbrev im2:Oper:=⟨some 5,.call { callee:=.value (.func 32),args:=#[.tmp 4],argTypes:=#[3] },31,"law.go:34",#[⟨1,.data⟩],none⟩
abbrev im3:Oper:=⟨some 6,.fieldAddr 74 (.tmp 1) 4,0,"law.go:34",#[],none⟩
abbrev im4:Oper:=⟨some 7,.load 30 (.tmp 6),30,"law.go:34",#[⟨3,.data⟩],none⟩
abbrev im5:Oper:=⟨some 8,.convert 30 5 (.tmp 7),5,"law.go:34",#[⟨4,.data⟩],none⟩
abbrev im6:Oper:=⟨some 9,.buildSlice 31 1 #[(0,.tmp 8)],31,"law.go:34",#[⟨5,.data⟩],none⟩
abbrev im7:Oper:=⟨some 10,.fieldAddr 74 (.tmp 1) 2,0,"law.go:34",#[],none⟩
abbrev im8:Oper:=⟨some 11,.load 3 (.tmp 10),3,"law.go:34",#[⟨7,.data⟩],none⟩
abbrev im9:Oper:=⟨some 12,.convert 3 75 (.tmp 11),75,"law.go:34",#[⟨8,.data⟩],none⟩
abbrev im10:Oper:=⟨some 13,.binOp Go.BinOp.rem 75 (.tmp 12) (.const (.int .u64 514)) 75,75,"law.go:34",#[⟨9,.data⟩],none⟩
abbrev im11:Oper:=⟨some 14,.convert 75 3 (.tmp 13),3,"law.go:34",#[⟨10,.data⟩],none⟩
abbrev im12:Oper:=⟨some 15,.call { callee:=.value (.func 96),args:=#[.tmp 9,.tmp 14],argTypes:=#[31,3] },31,"law.go:34",#[⟨6,.data⟩,⟨11,.data⟩,⟨2,.chain⟩],none⟩
abbrev im13:Oper:=⟨some 16,.fieldAddr 74 (.tmp 1) 2,0,"law.go:34",#[],none⟩
abbrev im14:Oper:=⟨some 17,.load 3 (.tmp 16),3,"law.go:34",#[⟨13,.data⟩],none⟩
abbrev im15:Oper:=⟨some 18,.convert 3 29 (.tmp 17),29,"law.go:34",#[⟨14,.data⟩],none⟩
abbrev im16:Oper:=⟨some 19,.fieldAddr 74 (.tmp 1) 5,0,"law.go:34",#[],none⟩
abbrev im17:Oper:=⟨some 20,.load 29 (.tmp 19),29,"law.go:34",#[⟨16,.data⟩],none⟩
abbrev im18:Oper:=⟨some 21,.fieldAddr 74 (.tmp 1) 4,0,"law.go:34",#[],none⟩
abbrev im19:Oper:=⟨some 22,.load 30 (.tmp 21),30,"law.go:34",#[⟨18,.data⟩],none⟩
abbrev im20:Oper:=⟨some 23,.fieldAddr 74 (.tmp 1) 2,0,"law.go:34",#[],none⟩
abbrev im21:Oper:=⟨some 24,.load 3 (.tmp 23),3,"law.go:34",#[⟨20,.data⟩],none⟩
abbrev im22:Oper:=⟨some 25,.binOp Go.BinOp.rem 3 (.tmp 24) (.const (.int .i64 2)) 3,3,"law.go:34",#[⟨21,.data⟩],none⟩
abbrev im23:Oper:=⟨some 26,.binOp Go.BinOp.eql 3 (.tmp 25) (.const (.int .i64 0)) 3,4,"law.go:34",#[⟨22,.data⟩],none⟩
abbrev im24:Oper:=⟨some 27,.build 53 #[(0,.tmp 5),(1,.tmp 15),(2,.tmp 18),(3,.tmp 20),(4,.tmp 22),(5,.tmp 26)],53,"law.go:34",#[⟨2,.data⟩,⟨12,.data⟩,⟨15,.data⟩,⟨17,.data⟩,⟨19,.data⟩,⟨23,.data⟩],none⟩
abbrev im25:Oper:=⟨none,.store 53 (.tmp 2) (.tmp 27),0,"law.go:34",#[⟨24,.data⟩,⟨12,.chain⟩,⟨0,.phase⟩,⟨1,.phase⟩,⟨2,.phase⟩,⟨3,.phase⟩,⟨4,.phase⟩,⟨5,.phase⟩,⟨6,.phase⟩,⟨7,.phase⟩,⟨8,.phase⟩,⟨9,.phase⟩,⟨10,.phase⟩,⟨11,.phase⟩,⟨12,.phase⟩,⟨13,.phase⟩,⟨14,.phase⟩,⟨15,.phase⟩,⟨16,.phase⟩,⟨17,.phase⟩,⟨18,.phase⟩,⟨19,.phase⟩,⟨20,.phase⟩,⟨21,.phase⟩,⟨22,.phase⟩,⟨23,.phase⟩,⟨24,.phase⟩],none⟩
theorem repeat_any (q n:Nat) (b:Int) (hn:n≤513) (w:World) (hq:w.cell? ⟨q,0,none⟩=some (.int .u8 b)) :
 Calls Tryz.prog 96 #[.slice (some ⟨q,0,none⟩) 1 1,.int .i64 n] w fun e w'=>∃ g c,e=.returned (.slice (some ⟨g,0,none⟩) n c)∧RowI .u8 w' (fun b=>w.heap.size≤b) (some ⟨g,0,none⟩) n (List.replicate n b)∧Below w.heap.size w w':=by
 rcases Nat.eq_zero_or_pos n with rfl | h0
 ·refine (repeat_zero (S:=fun _=>True) q 0 1 b w).mono ?_
  rintro e w1 ⟨⟨g,c',rfl⟩,hb⟩
  exact ⟨g,c',rfl,RowG.nil _ _ _ _ _,hb⟩
 ·refine (repeat_one q 0 1 n b hn h0 w hq).mono ?_
  rintro e w1 ⟨g,rfl,hg,hr⟩
  refine ⟨g,n,rfl,⟨List.length_replicate,fun _=>⟨g,0,rfl,hg,fun j hj=>?_⟩⟩,hr.1.mono hg⟩
  rw[Nat.zero_add,hr.cell j hj]
  simp[List.getD,List.getElem?_replicate,hj]
section
variable {w:World} {o:Oper} {a:Act} {Q:Exit→Act→World→Prop} {K:Act→World→Prop} {E:Prop} {ops:Array Oper}
theorem step_lit1 (x:Operand) (ho:o.op=.buildSlice 31 1 #[(0,x)]) (hgd:Region.wanted o (yielded ops a.tmps)=true) (b:Int) (hx:a.eval x=.int .u8 b)
 (h:K (a.put o.dst (.slice (some ⟨w.heap.size,0,none⟩) 1 1)) (w.alloc (.cells #[.int .u8 b] 5))) :
 if Region.wanted o (yielded ops a.tmps)=true then Oper.wp Tryz.prog o a w K Q else E:=by
 rw[if_pos hgd]
 obtain ⟨i0,hi,hz0,hz1,hz2⟩:=info_parts info_u8
 refine wp_buildSlice 31 5 1 #[(0,x)] ho #[.int .u8 b] i0 _ Tryz.underlying31 hi hz0 (by rw[hz1]; decide) (by rw[hz1]; decide) ?_ h
 rw[hz1]
 have e:(Array.map (fun (p:Nat × Operand)=>(p.1,a.eval p.2)) #[(0,x)]).toList=[(0,.int .u8 b)]:=by simp[hx]
 refine (congrArg _ e).trans ?_
 kernel_rfl
end
def itN (sz:Int):Nat:=(sz % 18446744073709551616 % 514).toNat
theorem itN_le (sz:Int):itN sz≤513:=by unfold itN; omega
abbrev itCs (g:Nat) (g2 c2:Nat) (sz x q:Int):Array Value:=#[.slice (some ⟨g,0,none⟩) 2 2,.slice (some ⟨g2,0,none⟩) (itN sz) c2,.int .u32 (sz % 4294967296),.int .u32 x,.int .u64 q,.bool (sz.tmod 2==0)]
def ItemH (w:World) (ky sz x q:Int) (e:Ending) (w':World):Prop :=
 ∃ g g2 c2,e=.returned (.agg (itCs g g2 c2 sz x q))∧w.heap.size≤g∧ArrU w' g (keyL ky)∧RowI .u8 w' (fun b=>w.heap.size≤b) (some ⟨g2,0,none⟩) (itN sz) (List.replicate (itN sz) (q % 256))∧Below w.heap.size w w'
theorem item_ok (kd ky sz at' q x:Int) (w:World) :
 Calls Tryz.prog 31 #[.agg #[.int .i64 kd,.int .i64 ky,.int .i64 sz,.int .i64 at',.int .u64 q,.int .u32 x]] w (ItemH w ky sz x q):=by
 obtain ⟨w1,hw1⟩:∃ w1,w1=(w.alloc (.cells #[.int .i64 kd,.int .i64 ky,.int .i64 sz,.int .i64 at',.int .u64 q,.int .u32 x] 74)).alloc (.cells itm0C 53):=⟨_,rfl⟩
 have hb1:Below w.heap.size w w1:=by rw[hw1]; exact ((Below.refl _ w).alloc (nR _) _).alloc (by simp) _
 have HO1:=hI (show Blk w1 w.heap.size 74 #[.int .i64 kd,.int .i64 ky,.int .i64 sz,.int .i64 at',.int .u64 q,.int .u32 x] by rw[hw1]; exact (Blk.new w _ _).alloc _)
 have HI1:=hI (show Blk w1 (w.heap.size+1) 53 itm0C by rw[hw1]; exact blk_new2 w _ _ _)
 have HC:=hI (show ∀ W,Below w1.heap.size w1 W→W.cell? ⟨w.heap.size,1,none⟩=some (.int .i64 ky)∧W.cell? ⟨w.heap.size,2,none⟩=some (.int .i64 sz)∧W.cell? ⟨w.heap.size,4,none⟩=some (.int .u64 q)∧W.cell? ⟨w.heap.size,5,none⟩=some (.int .u32 x) from fun W hW=>by
  have h9:=HO1.out.below hW HO1.out.lt
  exact ⟨h9.cell 1,h9.cell 2,h9.cell 4,h9.cell 5⟩)
 have HB1:=hI hb1
 have HW1:=hI hw1
 clear hb1 hw1
 go_enter Tryz.func31,Tryz.ntmps31
 go_upto_region 1 with fail
 rw[← HW1.out]
 refine Tillst.region (fun W=>Below w1.heap.size w1 W) [25] (by kernel_rfl) ((Below.refl _ _).drew) (fun hė=>?_)
 generalize w1.drew=vd at *
 have hw8:IntKind.u8.wrap q=q % 256:=IntKind.wrap_u8 q
 have hw64:IntKind.u64.wrap sz=sz % 18446744073709551616:=IntKind.wrap_u64 sz
 have hw32:IntKind.u32.wrap sz=sz % 4294967296:=IntKind.wrap_u32 sz
 have hwn:IntKind.i64.wrap (sz % 18446744073709551616 % 514)=(itN sz:Nat):=by rw[IntKind.wrap_i64]; unfold itN; omega
 refine Tillst.takeG (i:=0) (oi:=im0) (v:=?_) rfl (by kernel_rfl) (by kernel_rfl) (by kernel_rfl) (by kernel_rfl) (by kernel_rfl) (fun _ _ _ h=>h) (by rfl) ?_ hė ?_
 rotate_left
 ·intro W hSW; unfold im0; go_simp; with_reducible rfl
 simp only[im0,Act.put,sA,sZ,sS]
 refine Tillst.takeG (i:=1) (oi:=im1) (v:=?_) rfl (by kernel_rfl) (by kernel_rfl) (by kernel_rfl) (by kernel_rfl) (by kernel_rfl) (fun _ _ _ h=>h) (by rfl) ?_ hė ?_
 rotate_left
 ·intro W hSW; have h9:=(HC.out W hSW).1; clear hSW; unfold im1; go_simp; with_reducible rfl
 simp only[im1,Act.put,sA,sZ,sS]
 refine Tillst.takeG (i:=3) (oi:=im3) (v:=?_) rfl (by kernel_rfl) (by kernel_rfl) (by kernel_rfl) (by kernel_rfl) (by kernel_rfl) (fun _ _ _ h=>h) (by rfl) ?_ hė ?_
 rotate_left
 ·intro W hSW; unfold im3; go_simp; with_reducible rfl
 simp only[im3,Act.put,sA,sZ,sS]
 refine Tillst.takeG (i:=4) (oi:=im4) (v:=?_) rfl (by kernel_rfl) (by kernel_rfl) (by kernel_rfl) (by kernel_rfl) (by kernel_rfl) (fun _ _ _ h=>h) (by rfl) ?_ hė ?_
 rotate_left
 ·intro W hSW; have h9:=(HC.out W hSW).2.2.1; clear hSW; unfold im4; go_simp; with_reducible rfl
 simp only[im4,Act.put,sA,sZ,sS]
 refine Tillst.takeG (i:=5) (oi:=im5) (v:=.int .u8 (q % 256)) rfl (by kernel_rfl) (by kernel_rfl) (by kernel_rfl) (by kernel_rfl) (by kernel_rfl) (fun _ _ _ h=>h) (by rfl) ?_ hė ?_
 ·intro W hSW; clear hSW; unfold im5; go_simp
 simp only[im5,Act.put,sA,sZ,sS]
 refine Tillst.takeG (i:=7) (oi:=im7) (v:=?_) rfl (by kernel_rfl) (by kernel_rfl) (by kernel_rfl) (by kernel_rfl) (by kernel_rfl) (fun _ _ _ h=>h) (by rfl) ?_ hė ?_
 rotate_left
 ·intro W hSW; unfold im7; go_simp; with_reducible rfl
 simp only[im7,Act.put,sA,sZ,sS]
 refine Tillst.takeG (i:=8) (oi:=im8) (v:=?_) rfl (by kernel_rfl) (by kernel_rfl) (by kernel_rfl) (by kernel_rfl) (by kernel_rfl) (fun _ _ _ h=>h) (by rfl) ?_ hė ?_
 rotate_left
 ·intro W hSW; have h9:=(HC.out W hSW).2.1; clear hSW; unfold im8; go_simp; with_reducible rfl
 simp only[im8,Act.put,sA,sZ,sS]
 refine Tillst.takeG (i:=9) (oi:=im9) (v:=.int .u64 (sz % 18446744073709551616)) rfl (by kernel_rfl) (by kernel_rfl) (by kernel_rfl) (by kernel_rfl) (by kernel_rfl) (fun _ _ _ h=>h) (by rfl) ?_ hė ?_
 ·intro W hSW; clear hSW; unfold im9; go_simp
 simp only[im9,Act.put,sA,sZ,sS]
 refine Tillst.takeG (i:=10) (oi:=im10) (v:=.int .u64 (sz % 18446744073709551616 % 514)) rfl (by kernel_rfl) (by kernel_rfl) (by kernel_rfl) (by kernel_rfl) (by kernel_rfl) (fun _ _ _ h=>h) (by rfl) ?_ hė ?_
 ·intro W hSW; clear hSW; unfold im10; go_simp; exact Int.tmod_eq_emod_of_nonneg (by omega)
 simp only[im10,Act.put,sA,sZ,sS]
 refine Tillst.takeG (i:=11) (oi:=im11) (v:=.int .i64 (itN sz:Nat)) rfl (by kernel_rfl) (by kernel_rfl) (by kernel_rfl) (by kernel_rfl) (by kernel_rfl) (fun _ _ _ h=>h) (by rfl) ?_ hė ?_
 ·intro W hSW; clear hSW; unfold im11; go_simp
 simp only[im11,Act.put,sA,sZ,sS]
 refine Tillst.takeG (i:=13) (oi:=im13) (v:=?_) rfl (by kernel_rfl) (by kernel_rfl) (by kernel_rfl) (by kernel_rfl) (by kernel_rfl) (fun _ _ _ h=>h) (by rfl) ?_ hė ?_
 rotate_left
 ·intro W hSW; unfold im13; go_simp; with_reducible rfl
 simp only[im13,Act.put,sA,sZ,sS]
 refine Tillst.takeG (i:=14) (oi:=im14) (v:=?_) rfl (by kernel_rfl) (by kernel_rfl) (by kernel_rfl) (by kernel_rfl) (by kernel_rfl) (fun _ _ _ h=>h) (by rfl) ?_ hė ?_
 rotate_left
 ·intro W hSW; have h9:=(HC.out W hSW).2.1; clear hSW; unfold im14; go_simp; with_reducible rfl
 simp only[im14,Act.put,sA,sZ,sS]
 refine Tillst.takeG (i:=15) (oi:=im15) (v:=.int .u32 (sz % 4294967296)) rfl (by kernel_rfl) (by kernel_rfl) (by kernel_rfl) (by kernel_rfl) (by kernel_rfl) (fun _ _ _ h=>h) (by rfl) ?_ hė ?_
 ·intro W hSW; clear hSW; unfold im15; go_simp
 simp only[im15,Act.put,sA,sZ,sS]
 refine Tillst.takeG (i:=16) (oi:=im16) (v:=?_) rfl (by kernel_rfl) (by kernel_rfl) (by kernel_rfl) (by kernel_rfl) (by kernel_rfl) (fun _ _ _ h=>h) (by rfl) ?_ hė ?_
 rotate_left
 ·intro W hSW; unfold im16; go_simp; with_reducible rfl
 simp only[im16,Act.put,sA,sZ,sS]
 refine Tillst.takeG (i:=17) (oi:=im17) (v:=?_) rfl (by kernel_rfl) (by kernel_rfl) (by kernel_rfl) (by kernel_rfl) (by kernel_rfl) (fun _ _ _ h=>h) (by rfl) ?_ hė ?_
 rotate_left
 ·intro W hSW; have h9:=(HC.out W hSW).2.2.2; clear hSW; unfold im17; go_simp; with_reducible rfl
 simp only[im17,Act.put,sA,sZ,sS]
 refine Tillst.takeG (i:=18) (oi:=im18) (v:=?_) rfl (by kernel_rfl) (by kernel_rfl) (by kernel_rfl) (by kernel_rfl) (by kernel_rfl) (fun _ _ _ h=>h) (by rfl) ?_ hė ?_
 rotate_left
 ·intro W hSW; unfold im18; go_simp; with_reducible rfl
 simp only[im18,Act.put,sA,sZ,sS]
 refine Tillst.takeG (i:=19) (oi:=im19) (v:=?_) rfl (by kernel_rfl) (by kernel_rfl) (by kernel_rfl) (by kernel_rfl) (by kernel_rfl) (fun _ _ _ h=>h) (by rfl) ?_ hė ?_
 rotate_left
 ·intro W hSW; have h9:=(HC.out W hSW).2.2.1; clear hSW; unfold im19; go_simp; with_reducible rfl
 simp only[im19,Act.put,sA,sZ,sS]
 refine Tillst.takeG (i:=20) (oi:=im20) (v:=?_) rfl (by kernel_rfl) (by kernel_rfl) (by kernel_rfl) (by kernel_rfl) (by kernel_rfl) (fun _ _ _ h=>h) (by rfl) ?_ hė ?_
 rotate_left
 ·intro W hSW; unfold im20; go_simp; with_reducible rfl
 simp only[im20,Act.put,sA,sZ,sS]
 refine Tillst.takeG (i:=21) (oi:=im21) (v:=?_) rfl (by kernel_rfl) (by kernel_rfl) (by kernel_rfl) (by kernel_rfl) (by kernel_rfl) (fun _ _ _ h=>h) (by rfl) ?_ hė ?_
 rotate_left
 ·intro W hSW; have h9:=(HC.out W hSW).2.1; clear hSW; unfold im21; go_simp; with_reducible rfl
 simp only[im21,Act.put,sA,sZ,sS]
 refine Tillst.takeG (i:=22) (oi:=im22) (v:=.int .i64 (sz.tmod 2)) rfl (by kernel_rfl) (by kernel_rfl) (by kernel_rfl) (by kernel_rfl) (by kernel_rfl) (fun _ _ _ h=>h) (by rfl) ?_ hė ?_
 ·intro W hSW; clear hSW; unfold im22; go_simp
 simp only[im22,Act.put,sA,sZ,sS]
 refine Tillst.takeG (i:=23) (oi:=im23) (v:=.bool (sz.tmod 2==0)) rfl (by kernel_rfl) (by kernel_rfl) (by kernel_rfl) (by kernel_rfl) (by kernel_rfl) (fun _ _ _ h=>h) (by rfl) ?_ hė ?_
 ·intro W hSW; clear hSW; unfold im23; go_simp
 simp only[im23,Act.put,sA,sZ,sS]
 clear hw8 hw64 hw32 hwn
 refine Tillst.two (i:=2) (j:=6) (o:=im2) (o':=im6) (by kernel_rfl) rfl rfl ?_ ?_
 ·intro K hK
  refine step_call 32 #[.tmp 4] #[3] rfl rfl Tryz.func32 rfl rfl [.int .i64 ky] rfl ((key_any ky vd).mono ?_)
  rintro e w4 ⟨g,rfl,hg4,hr4,hb4⟩
  refine ⟨_,rfl,?_⟩
  simp only[im2,Act.put,sA,sZ,sS]
  have hH4:=hė.trans (hb4.mono hė.size)
  have HKY4:=hI hr4
  have HG:=hI (nT hė.size hg4)
  refine hK.out _ _ (fun _=>hH4) (fun hė=>?_)
  replace hė:=hė (by decide)
  clear hK K hH4 hr4 hb4 hg4
  refine tO 6 im6 ?_
  intro K hK
  refine step_lit1 (.tmp 8) rfl rfl (q % 256) rfl ?_
  simp only[im6,Act.put,sA,sZ,sS]
  have hal:=(Below.refl w4.heap.size w4).alloc (nR _) (.cells #[.int .u8 (q % 256)] 5)
  have HBT:=hI (Blk.new w4 5 #[.int .u8 (q % 256)])
  have HKY:=hI (Blk.below HKY4.out hal (Blk.lt HKY4.out))
  have hH5:=hė.trans (hal.mono hė.size)
  generalize w4.heap.size=qb at *
  generalize w4.alloc _=wz at *
  refine hK.out _ _ (fun _=>hH5) (fun hė=>?_)
  replace hė:=hė (by decide)
  clear hK K hH5 hal
  refine tO 12 im12 ?_
  intro K hK
  refine step_call 96 #[.tmp 9,.tmp 14] #[31,3] rfl rfl Tryz.func96 rfl rfl [.slice (some ⟨qb,0,none⟩) 1 1,.int .i64 (itN sz:Nat)] rfl ((repeat_any qb (itN sz) (q % 256) (itN_le sz) wz (HBT.out.cell 0)).mono ?_)
  rintro e w6 ⟨g2,c2,rfl,hr6,hb6⟩
  refine ⟨_,rfl,?_⟩
  simp only[im12,Act.put,sA,sZ,sS]
  have hH6:=hė.trans (hb6.mono hė.size)
  have HKY6:=hI (Blk.below HKY.out hb6 (Blk.lt HKY.out))
  have HR6:=hI (hr6.more (T:=fun b=>w1.heap.size≤b) (fun b h=>nT hė.size h))
  refine hK.out _ _ (fun _=>hH6) (fun hė=>?_)
  replace hė:=hė (by decide)
  clear hK K hH6 hr6 hb6
  refine Tillst.takeG (i:=24) (oi:=im24) (v:=.agg (itCs g g2 c2 sz x q)) rfl (by kernel_rfl) (by kernel_rfl) (by kernel_rfl) (by kernel_rfl) (by kernel_rfl) (fun _ _ _ h=>h) (by rfl) ?_ hė ?_
  ·intro W hSW; clear hSW; unfold im24; go_simp
  simp only[im24,Act.put,sA,sZ,sS]
  have HI6:=hI (HI1.out.below hė HI1.out.lt)
  refine tO 25 im25 ?_
  intro K hK
  refine step_store14 (.tmp 2) (.tmp 27) 53 rfl rfl (w.heap.size+1) (itCs g g2 c2 sz x q) rfl rfl 53 _ HI6.out size_itm rfl (by simp[Value.oneCell']) ?_
  simp only[im25,Act.put,sA,sZ,sS]
  have HH6:=hI hė
  refine hK.out _ _ (fun h=>by cases h) (fun _=>?_)
  clear hK K hė
  refine Tillst.done (by kernel_rfl) ?_ _
  go_wp2_with (with_reducible refine halt_end ?_)
  have hk7:Kept (fun b=>b≠w.heap.size+1) w6 (w6.setRow (w.heap.size+1) (itCs g g2 c2 sz x q)):=(Kept.refl _ _).setRow (fun h=>h rfl) _
  have hlt1:=HI1.out.lt
  refine Halt.ret (results_row1 rfl _ _ (w.heap.size+1) 53 (itCs g g2 c2 sz x q) _ rfl (setRow_heap _ _ _ _ _ _ HI6.out) Tryz.underlying53 rfl size_itm) rfl ⟨g,g2,c2,rfl,nT HB1.out.size HG.out,Blk.kept HKY6.out hk7 (by have:=HG.out; omega),(HR6.out.kept hk7 (fun b h=>by omega)).more (fun b h=>nT HB1.out.size h),below_setRow (HB1.out.trans (HH6.out.mono HB1.out.size)) (by omega) _⟩
 ·intro K hK
  refine step_lit1 (.tmp 8) rfl rfl (q % 256) rfl ?_
  simp only[im6,Act.put,sA,sZ,sS]
  have hal:=(Below.refl vd.heap.size vd).alloc (nR _) (.cells #[.int .u8 (q % 256)] 5)
  have HBT4:=hI (Blk.new vd 5 #[.int .u8 (q % 256)])
  have hH4:=hė.trans (hal.mono hė.size)
  generalize vd.heap.size=qb at *
  generalize vd.alloc _=w4 at *
  refine hK.out _ _ (fun _=>hH4) (fun hė=>?_)
  replace hė:=hė (by decide)
  clear hK K hH4 hal
  refine tO 2 im2 ?_
  intro K hK
  refine step_call 32 #[.tmp 4] #[3] rfl rfl Tryz.func32 rfl rfl [.int .i64 ky] rfl ((key_any ky w4).mono ?_)
  rintro e wz ⟨g,rfl,hg4,hr4,hb4⟩
  refine ⟨_,rfl,?_⟩
  simp only[im2,Act.put,sA,sZ,sS]
  have hH5:=hė.trans (hb4.mono hė.size)
  have HKY:=hI hr4
  have HG:=hI (nT hė.size hg4)
  have HBT:=hI (HBT4.out.below hb4 HBT4.out.lt)
  refine hK.out _ _ (fun _=>hH5) (fun hė=>?_)
  replace hė:=hė (by decide)
  clear hK K hH5 hr4 hb4 hg4
  refine tO 12 im12 ?_
  intro K hK
  refine step_call 96 #[.tmp 9,.tmp 14] #[31,3] rfl rfl Tryz.func96 rfl rfl [.slice (some ⟨qb,0,none⟩) 1 1,.int .i64 (itN sz:Nat)] rfl ((repeat_any qb (itN sz) (q % 256) (itN_le sz) wz (HBT.out.cell 0)).mono ?_)
  rintro e w6 ⟨g2,c2,rfl,hr6,hb6⟩
  refine ⟨_,rfl,?_⟩
  simp only[im12,Act.put,sA,sZ,sS]
  have hH6:=hė.trans (hb6.mono hė.size)
  have HKY6:=hI (Blk.below HKY.out hb6 (Blk.lt HKY.out))
  have HR6:=hI (hr6.more (T:=fun b=>w1.heap.size≤b) (fun b h=>nT hė.size h))
  refine hK.out _ _ (fun _=>hH6) (fun hė=>?_)
  replace hė:=hė (by decide)
  clear hK K hH6 hr6 hb6
  refine Tillst.takeG (i:=24) (oi:=im24) (v:=.agg (itCs g g2 c2 sz x q)) rfl (by kernel_rfl) (by kernel_rfl) (by kernel_rfl) (by kernel_rfl) (by kernel_rfl) (fun _ _ _ h=>h) (by rfl) ?_ hė ?_
  ·intro W hSW; clear hSW; unfold im24; go_simp
  simp only[im24,Act.put,sA,sZ,sS]
  have HI6:=hI (HI1.out.below hė HI1.out.lt)
  refine tO 25 im25 ?_
  intro K hK
  refine step_store14 (.tmp 2) (.tmp 27) 53 rfl rfl (w.heap.size+1) (itCs g g2 c2 sz x q) rfl rfl 53 _ HI6.out size_itm rfl (by simp[Value.oneCell']) ?_
  simp only[im25,Act.put,sA,sZ,sS]
  have HH6:=hI hė
  refine hK.out _ _ (fun h=>by cases h) (fun _=>?_)
  clear hK K hė
  refine Tillst.done (by kernel_rfl) ?_ _
  go_wp2_with (with_reducible refine halt_end ?_)
  have hk7:Kept (fun b=>b≠w.heap.size+1) w6 (w6.setRow (w.heap.size+1) (itCs g g2 c2 sz x q)):=(Kept.refl _ _).setRow (fun h=>h rfl) _
  have hlt1:=HI1.out.lt
  refine Halt.ret (results_row1 rfl _ _ (w.heap.size+1) 53 (itCs g g2 c2 sz x q) _ rfl (setRow_heap _ _ _ _ _ _ HI6.out) Tryz.underlying53 rfl size_itm) rfl ⟨g,g2,c2,rfl,nT HB1.out.size HG.out,Blk.kept HKY6.out hk7 (by have:=HG.out; omega),(HR6.out.kept hk7 (fun b h=>by omega)).more (fun b h=>nT HB1.out.size h),below_setRow (HB1.out.trans (HH6.out.mono HB1.out.size)) (by omega) _⟩
end
section
attribute [local go_sem] Oper.semAt_some
theorem same_zero14 (w:World):Calls Tryz.prog 25 #[.agg itm0C,.agg itm0C] w fun e w'=>e=.returned (.bool true)∧Below w.heap.size w w':=by
 have HB:=hI (((Below.refl w.heap.size w).alloc (nR _) (.cells itm0C 53)).alloc (by simp) (.cells itm0C 53))
 have HE:=hI (fun W:World=>equal_yes none none 0 0 0 [] (fun b=>b<W.heap.size) (fun b=>b<W.heap.size) W (RowG.nil _ _ _ _ _) (RowG.nil _ _ _ _ _) (fun b h=>h) (fun b h=>h))
 go_enter Tryz.func25,Tryz.ntmps25
 go_wp2_with fail
 refine (HE.out _ (fun j=>by simp)).mono ?_
 rintro e w1 ⟨rfl,rfl⟩
 go_wp2_with fail
 refine (HE.out _ (fun j=>by simp)).mono ?_
 rintro e w1 ⟨rfl,rfl⟩
 go_wp2_with fail
 (first | go_ret | go_ret2)
 exact ⟨rfl,HB.out⟩
end
section
attribute [local go_sem] Oper.semAt_some
theorem same_yes14 {S T:Nat→Prop} (A:Option Addr) (n c c':Nat) (A' B B':Option Addr) (m d d':Nat) (us vs:List Int) (f x q:Int) (dy:Bool) (w:World)
 (hk:RowI .u8 w S A n us) (hk':RowI .u8 w T A' n us) (hv:RowI .u8 w S B m vs) (hv':RowI .u8 w T B' m vs) (hS:∀ b,S b→b<w.heap.size) (hT:∀ b,T b→b<w.heap.size) (hu:Bytes us) (hb:Bytes vs) :
 Calls Tryz.prog 25 #[itmV A n c B m d f x q dy,itmV A' n c' B' m d' f x q dy] w fun e w'=>e=.returned (.bool true)∧Below w.heap.size w w':=by
 obtain ⟨w2,hw2⟩:∃ w2,w2=(w.alloc (.cells #[.slice A n c,.slice B m d,.int .u32 f,.int .u32 x,.int .u64 q,.bool dy] 53)).alloc (.cells #[.slice A' n c',.slice B' m d',.int .u32 f,.int .u32 x,.int .u64 q,.bool dy] 53):=⟨_,rfl⟩
 have hb2:Below w.heap.size w w2:=by rw[hw2]; exact ((Below.refl _ w).alloc (nR _) _).alloc (by simp) _
 have HA:=hI (show Blk w2 w.heap.size 53 #[.slice A n c,.slice B m d,.int .u32 f,.int .u32 x,.int .u64 q,.bool dy] by rw[hw2]; exact (Blk.new w _ _).alloc _)
 have HB:=hI (show Blk w2 (w.heap.size+1) 53 #[.slice A' n c',.slice B' m d',.int .u32 f,.int .u32 x,.int .u64 q,.bool dy] by rw[hw2]; exact blk_new2 w _ _ _)
 have hl:∀ b,b<w.heap.size→b<w2.heap.size:=fun b h=>nL h hb2.size
 have HE1:=hI (equal_yes A A' n c c' us S T w2 (hk.below hb2 hS) (hk'.below hb2 hT) (fun b h=>hl b (hS b h)) (fun b h=>hl b (hT b h)) hu)
 have HE2:=hI (equal_yes B B' m d d' vs S T w2 (hv.below hb2 hS) (hv'.below hb2 hT) (fun b h=>hl b (hS b h)) (fun b h=>hl b (hT b h)) hb)
 have HBL:=hI hb2
 have HW:=hI hw2
 have f0:w2.cell? ⟨w.heap.size,0,none⟩=some (.slice A n c):=HA.out.cell 0
 have f1:w2.cell? ⟨w.heap.size,1,none⟩=some (.slice B m d):=HA.out.cell 1
 have f2:w2.cell? ⟨w.heap.size,2,none⟩=some (.int .u32 f):=HA.out.cell 2
 have f3:w2.cell? ⟨w.heap.size,3,none⟩=some (.int .u32 x):=HA.out.cell 3
 have f4:w2.cell? ⟨w.heap.size,4,none⟩=some (.int .u64 q):=HA.out.cell 4
 have f5:w2.cell? ⟨w.heap.size,5,none⟩=some (.bool dy):=HA.out.cell 5
 have g0:w2.cell? ⟨w.heap.size+1,0,none⟩=some (.slice A' n c'):=HB.out.cell 0
 have g1:w2.cell? ⟨w.heap.size+1,1,none⟩=some (.slice B' m d'):=HB.out.cell 1
 have g2:w2.cell? ⟨w.heap.size+1,2,none⟩=some (.int .u32 f):=HB.out.cell 2
 have g3:w2.cell? ⟨w.heap.size+1,3,none⟩=some (.int .u32 x):=HB.out.cell 3
 have g4:w2.cell? ⟨w.heap.size+1,4,none⟩=some (.int .u64 q):=HB.out.cell 4
 have g5:w2.cell? ⟨w.heap.size+1,5,none⟩=some (.bool dy):=HB.out.cell 5
 clear hk hk' hv hv' hS hT hu hb hb2 hw2 hl
 go_enter Tryz.func25,Tryz.ntmps25
 go_upto_region 1 with fail
 rw[← HW.out]
 go_wp2_with fail
 refine HE1.out.mono ?_
 rintro r w3 ⟨rfl,rfl⟩
 go_wp2_with fail
 refine HE2.out.mono ?_
 rintro r w4 ⟨rfl,rfl⟩
 go_wp2_with fail
 (first | go_ret | go_ret2)
 exact ⟨rfl,HBL.out⟩
end
section
attribute [local go_sem] Oper.semAt_some
def kindT:List Int:=[0,0,0,1,2,3,4,5,6,7,8,9]
def kindI (kd:Int):Nat:=(kd % 18446744073709551616 % 12).toNat
def kindN (kd:Int):Int:=kindT.getD (kindI kd) 0
theorem kind_idx (r:Nat) (h:r<12) (W:World):(Instr.index 173 (.agg #[.int .i64 0,.int .i64 0,.int .i64 0,.int .i64 1,.int .i64 2,.int .i64 3,.int .i64 4,.int .i64 5,.int .i64 6,.int .i64 7,.int .i64 8,.int .i64 9]) (.int .u64 (r:Int))).run Tryz.prog W=.ok (.int .i64 (kindT.getD r 0)) W:=by
 obtain rfl | rfl | rfl | rfl | rfl | rfl | rfl | rfl | rfl | rfl | rfl | rfl:r=0∨r=1∨r=2∨r=3∨r=4∨r=5∨r=6∨r=7∨r=8∨r=9∨r=10∨r=11:=by omega
 all_goals kernel_rfl
theorem kind_ok (kd ky sz at' q x:Int) (w:World) :
 Calls Tryz.prog 30 #[.agg #[.int .i64 kd,.int .i64 ky,.int .i64 sz,.int .i64 at',.int .u64 q,.int .u32 x]] w fun e w'=>e=.returned (.int .i64 (kindN kd))∧Below w.heap.size w w':=by
 obtain ⟨w1,hw1⟩:∃ w1,w1=w.alloc (.cells #[.int .i64 kd,.int .i64 ky,.int .i64 sz,.int .i64 at',.int .u64 q,.int .u32 x] 74):=⟨_,rfl⟩
 have hb1:Below w.heap.size w w1:=by rw[hw1]; exact (Below.refl _ w).alloc (nR _) _
 have HO1:=hI (show Blk w1 w.heap.size 74 #[.int .i64 kd,.int .i64 ky,.int .i64 sz,.int .i64 at',.int .u64 q,.int .u32 x] by rw[hw1]; exact Blk.new w _ _)
 have c0:w1.cell? ⟨w.heap.size,0,none⟩=some (.int .i64 kd):=HO1.out.cell 0
 have hw:IntKind.u64.wrap kd=kd % 18446744073709551616:=IntKind.wrap_u64 kd
 have HB1:=hI hb1
 have HW1:=hI hw1
 have hr:(kd % 18446744073709551616).tmod 12=(kindI kd:Nat):=by
  rw[Int.tmod_eq_emod_of_nonneg (by omega)]
  unfold kindI
  omega
 have hlt:kindI kd<12:=by unfold kindI; omega
 unfold kindN
 have hix:=kind_idx (kindI kd) hlt
 generalize kindI kd=r at *
 clear hb1 hw1
 go_enter Tryz.func30,Tryz.ntmps30
 go_upto_region 1 with fail
 rw[← HW1.out]
 go_wp2
 (first | go_ret | go_ret2)
 exact ⟨rfl,HB1.out⟩
theorem few_any14 (A:Option Addr) (n c m:Nat) (hm:m=min n 50) (hnc:n≤c) (hA:A=none→c=0) (w:World):Calls Tryz.prog 29 #[.slice A n c] w fun e w'=>e=.returned (.slice A m c)∧w'=w:=by
 have HMN:=hI (show (min (n:Int) 50).toNat=m by omega)
 have h2:min (n:Int) 50≤c:=by omega
 have h3:0≤min (n:Int) 50:=by omega
 clear hm hnc
 go_enter Tryz.func29,Tryz.ntmps29
 go_wp2
 all_goals (first | go_ret | go_ret2)
 all_goals exact ⟨by rw[← HMN.out]; rfl,rfl⟩
end
section
def newer (X:Nat→Prop) (w w':World) (b:Nat):Prop:=X b∨(w.heap.size≤b∧b<w'.heap.size)
section
variable {w w':World} {X Y S:Nat→Prop} {l p d n m c pe:Nat} {s:Sup} {t:Int} {k:Dk} {sec:Int} {A:Option Addr} {xs:List Seg} {br:Bool}
theorem LogM.beside (h:LogM w X l p d n s t k sec A m c xs br) (hk:Kept S w w') (hS:∀ b,b<w.heap.size→¬ X b→S b):LogM w' (newer X w w') l p d n s t k sec A m c xs br:=by
 obtain ⟨h1,h2,R,h3,h4,h5⟩:=h
 have hl:=h1.lt
 refine ⟨h1.kept hk (hS _ h1.lt h2),fun e=>e.elim h2 (fun e=>by omega),R,StoreM.kept h3 hk (fun b hb hx=>hS b hb (fun e=>hx (.inl e))) (fun b hb h=>?_),h4.kept hk (fun b h=>hS b (h5 b h).1 (h5 b h).2.2),fun b h=>⟨nL (h5 b h).1 hk.size,(h5 b h).2.1,fun e=>e.elim (h5 b h).2.2 (fun e=>by have:=(h5 b h).1; omega)⟩⟩
 rcases h with (h | h) | h
 ·exact .inl h
 ·omega
 ·exact .inr h
theorem LgM.beside (h:LgM w X l p d n s t k xs pe) (hk:Kept S w w') (hS:∀ b,b<w.heap.size→¬ X b→S b):LgM w' (newer X w w') l p d n s t k xs pe:=by
 obtain ⟨A,c,h1,h2,h3⟩:=h.log
 exact ⟨⟨A,c,h1.beside hk hS,h2,h3⟩,h.good,h.ok,h.top,h.may,h.sin,h.dims,h.n2,h.room,h.pend⟩
end
section
variable {w w':World} {X Y S:Nat→Prop} {B C:StB} {slots slots':Nat} {s s':Sup} {xs xs':List Seg} {st st':List EntS} {bl bl':List (List Int)} {u u':Bool}
theorem StoM2.beside (h:StoM2 w X B slots s xs st bl u) (hk:Kept S w w') (hS:∀ b,b<w.heap.size→¬ X b→S b):StoM2 w' (newer X w w') B slots s xs st bl u:=by
 obtain ⟨h1,h2,h3⟩:=h.own_kept hk (fun b hb=>hS b (h.own_lt hb) (h.off b hb))
 refine ⟨h1,h2,h.num,h3,(h.log.beside hk (fun b hb hn=>hS b hb (fun e=>hn (.inl e)))).less (fun b hb=>?_),h.inv,fun b hb hx=>?_,fun b hb=>?_⟩
 ·rcases hb with (hb | hb) | hb
  ·exact .inl (.inl hb)
  ·exact .inr hb
  ·exact .inl (.inr hb)
 ·have:=h.own_lt hb
  rcases hx with hx | hx
  ·exact h.off b hb hx
  ·omega
 ·rcases hb with hb | hb
  ·exact nL (h.lt b hb) hk.size
  ·exact hb.2
structure TwoS (w:World) (Z:Nat→Prop) (X Y:Nat→Prop) (B:StB) (slots:Nat) (s:Sup) (xs:List Seg) (st:List EntS) (bl:List (List Int)) (C:StB) (slots':Nat) (s':Sup) (xs':List Seg) (st':List EntS) (bl':List (List Int)):Prop where
 one:StoM2 w X B slots s xs st bl false
 two:StoM2 w Y C slots' s' xs' st' bl' false
 all:∀ b,b<w.heap.size→X b∨Y b
 offX:∀ b,Z b→X b
 offY:∀ b,Z b→Y b
theorem TwoS.left {Z:Nat→Prop} {B2:StB} {s2:Sup} {xs2:List Seg} {st2:List EntS} {bl2:List (List Int)} (h:TwoS w Z X Y B slots s xs st bl C slots' s' xs' st' bl') (hk:Kept X w w') (h2:StoM2 w' X B2 slots s2 xs2 st2 bl2 false) :
 TwoS w' Z X (newer Y w w') B2 slots s2 xs2 st2 bl2 C slots' s' xs' st' bl'∧Kept Z w w' :=
 ⟨⟨h2,h.two.beside hk (fun b hb hn=>(h.all b hb).resolve_right hn),fun b hb=>by
  rcases Nat.lt_or_ge b w.heap.size with h1 | h1
  ·exact (h.all b h1).imp id .inl
  ·exact .inr (.inr ⟨h1,hb⟩),h.offX,fun b hb=>.inl (h.offY b hb)⟩,hk.mono h.offX⟩
theorem TwoS.grow {Z:Nat→Prop} (h:TwoS w Z X Y B slots s xs st bl C slots' s' xs' st' bl') (hb:Below w.heap.size w w') :
 TwoS w' (newer Z w w') (newer X w w') (newer Y w w') B slots s xs st bl C slots' s' xs' st' bl' :=
 ⟨h.one.grow hb,h.two.grow hb,fun b hlt=>by
  rcases Nat.lt_or_ge b w.heap.size with h1 | h1
  ·exact (h.all b h1).imp .inl .inl
  ·exact .inl (.inr ⟨h1,hlt⟩),fun b hz=>hz.imp (h.offX b) id,fun b hz=>hz.imp (h.offY b) id⟩
theorem TwoS.less {Z Z2:Nat→Prop} (h:TwoS w Z X Y B slots s xs st bl C slots' s' xs' st' bl') (hz:∀ b,Z2 b→Z b):TwoS w Z2 X Y B slots s xs st bl C slots' s' xs' st' bl' :=
 ⟨h.one,h.two,h.all,fun b hb=>h.offX b (hz b hb),fun b hb=>h.offY b (hz b hb)⟩
end
end
section
theorem RowG.bound {α:Type} {mk:α→Value} {d:α} {w:World} {S:Nat→Prop} {A:Option Addr} {n:Nat} {xs:List α} (h:RowG mk d w S A n xs):RowG mk d w (fun b=>S b∧b<w.heap.size) A n xs :=
 ⟨h.1,fun hn=>by
  obtain ⟨b,off,e,hb,hc⟩:=h.2 hn
  exact ⟨b,off,e,⟨hb,World.block_lt_of_cell? w _ (hc 0 hn)⟩,hc⟩⟩
def PutR (f x q:Int) (us vs:List Int) (m n slots:Nat) (s:Sup) (xs:List Seg) (st:List EntS) (er:Int) (s2:Sup) (xs2:List Seg) (st2:List EntS):Prop :=
 (er=230∧¬ May 1 f x q m n∧s2=s∧xs2=xs∧st2=st) ∨
 (er=6∧May 1 f x q m n∧(fullS st us slots=true∨appR s xs (cntOf (recB 1 f x q us vs).length)=none)∧s2=s∧xs2=xs∧st2=st) ∨
 (er=0∧May 1 f x q m n∧fullS st us slots=false∧(s2=s∨s2=genS s)∧∃ i ys a,appR s xs (cntOf (recB 1 f x q us vs).length)=some (i,s2,ys)∧xs2=useX ys ((cntOf (recB 1 f x q us vs).length:Nat):Int)∧st2=outS st us++[(a,recB 1 f x q us vs)])
theorem May.lens {k f x s:Int} {n m:Nat} (h:May k f x s n m):n≤250∧m≤512:=by unfold May at h; omega
section
variable {w w':World} {X Y Z:Nat→Prop} {B C:StB} {slots slots':Nat} {s s':Sup} {xs xs':List Seg} {st st':List EntS} {bl bl':List (List Int)} {A A2:Option Addr} {m c m2 c2:Nat} {us vs:List Int}
theorem TwoS.put (h:TwoS w Z X Y B slots s xs st bl C slots' s' xs' st' bl') {f x q:Int} {dy:Bool} (hk:RowI .u8 w Z A m us) (hv:RowI .u8 w Z A2 m2 vs) (hb:Bytes us) (hbv:Bytes vs) (hnc:A=none→c=0) (hnc2:A2=none→c2=0)
 (hr:Rng f x q) (hpe:B.pe≤900000) (hgm:s.g+1≤18446744073709551615) :
 Calls Tryz.prog 19 #[.pointer (some ⟨B.q,0,none⟩),itmV A m c A2 m2 c2 f x q dy] w fun e w'=>∃ er B2 s2 xs2 st2 bl2,e=.returned (.int .i64 er)∧TwoS w' Z X (newer Y w w') B2 slots s2 xs2 st2 bl2 C slots' s' xs' st' bl'∧Kept Z w w'∧B2.q=B.q∧B2.pe≤B.pe+17∧PutR f x q us vs m m2 slots s xs st er s2 xs2 st2:=by
 by_cases hm:May 1 f x q m m2
 ·have hkl:us.length=m:=hk.1
  have hkey:keyOf (recB 1 f x q us vs)=us:=by
   have h9:=rec_key (k:=1) (f:=f) (x:=x) (s:=q) (xs:=us) (ys:=vs) (zs:=[]) (by have:=hm.lens; omega)
   rwa [List.append_nil] at h9
  refine (put_s14 (c:=c) (c2:=c2) (dy:=dy) h.one (hk.more h.offX) (hv.more h.offX) hb hbv hnc hnc2 hm hr hpe hgm).mono ?_
  rintro e w1 ⟨hkp,h9⟩
  rw[hkey] at h9
  rcases h9 with ⟨hf,rfl,k',hst,_⟩ | ⟨hf,hno,rfl,k',hst,_⟩ | ⟨hf,i,s1,ys,t1,k1,hso,hs1,rfl,hst,_⟩
  ·obtain ⟨h1,h2⟩:=h.left hkp hst
   exact ⟨6,_,s,xs,st,bl,rfl,h1,h2,rfl,Nat.le_add_right _ _,.inr (.inl ⟨rfl,hm,.inl hf,rfl,rfl,rfl⟩)⟩
  ·obtain ⟨h1,h2⟩:=h.left hkp hst
   exact ⟨6,_,s,xs,st,bl,rfl,h1,h2,rfl,Nat.le_add_right _ _,.inr (.inl ⟨rfl,hm,.inr hno,rfl,rfl,rfl⟩)⟩
  ·obtain ⟨h1,h2⟩:=h.left hkp hst
   exact ⟨0,_,s1,_,_,_,rfl,h1,h2,rfl,nR _,.inr (.inr ⟨rfl,hm,hf,hs1,i,ys,_,hso,rfl,rfl⟩)⟩
 ·refine (put_bad14 B.q A m c A2 m2 c2 f x q dy w hm).mono ?_
  rintro e w1 ⟨rfl,hb1⟩
  obtain ⟨h1,h2⟩:=h.left (Kept.of_below (S:=X) hb1 h.one.lt) (h.one.below hb1)
  exact ⟨230,B,s,xs,st,bl,rfl,h1,h2,rfl,Nat.le_add_right _ _,.inl ⟨rfl,hm,rfl,rfl,rfl⟩⟩
def KillR (q:Int) (us:List Int) (m:Nat) (s:Sup) (xs:List Seg) (st:List EntS) (er:Int) (s2:Sup) (xs2:List Seg) (st2:List EntS):Prop :=
 (er=160∧¬ May 2 0 0 q m 0∧s2=s∧xs2=xs∧st2=st) ∨
 (er=6∧May 2 0 0 q m 0∧appR s xs (cntOf (recB 2 0 0 q us []).length)=none∧s2=s∧xs2=xs∧st2=st) ∨
 (er=0∧May 2 0 0 q m 0∧(s2=s∨s2=genS s)∧∃ i ys,appR s xs (cntOf (recB 2 0 0 q us []).length)=some (i,s2,ys)∧xs2=useX ys ((cntOf (recB 2 0 0 q us []).length:Nat):Int)∧st2=outS st us)
theorem TwoS.kill (h:TwoS w Z X Y B slots s xs st bl C slots' s' xs' st' bl') {q:Int} (hk:RowI .u8 w Z A m us) (hb:Bytes us) (hr:0≤q∧q≤18446744073709551615) (hpe:B.pe≤900000) (hgm:s.g+1≤18446744073709551615) :
 Calls Tryz.prog 26 #[.pointer (some ⟨B.q,0,none⟩),.slice A m c,.int .u64 q] w fun e w'=>∃ er B2 s2 xs2 st2 bl2,e=.returned (.int .i64 er)∧TwoS w' Z X (newer Y w w') B2 slots s2 xs2 st2 bl2 C slots' s' xs' st' bl'∧Kept Z w w'∧B2.q=B.q∧B2.pe≤B.pe+17∧KillR q us m s xs st er s2 xs2 st2:=by
 by_cases hm:May 2 0 0 q m 0
 ·refine (kill_s14 (c:=c) h.one (hk.more h.offX) hb hm ⟨by omega,by omega,by omega,by omega,hr.1,hr.2⟩ hpe hgm).mono ?_
  rintro e w1 ⟨hkp,h9⟩
  rcases h9 with ⟨hno,rfl,k',hst,_⟩ | ⟨i,s1,ys,t1,k1,hso,hs1,rfl,hst,_⟩
  ·obtain ⟨h1,h2⟩:=h.left hkp hst
   exact ⟨6,_,s,xs,st,bl,rfl,h1,h2,rfl,Nat.le_add_right _ _,.inr (.inl ⟨rfl,hm,hno,rfl,rfl,rfl⟩)⟩
  ·obtain ⟨h1,h2⟩:=h.left hkp hst
   exact ⟨0,_,s1,_,_,_,rfl,h1,h2,rfl,nR _,.inr (.inr ⟨rfl,hm,hs1,i,ys,hso,rfl,rfl⟩)⟩
 ·refine (kill_bad14 B.q A m c q w hm).mono ?_
  rintro e w1 ⟨rfl,hb1⟩
  obtain ⟨h1,h2⟩:=h.left (Kept.of_below (S:=X) hb1 h.one.lt) (h.one.below hb1)
  exact ⟨160,B,s,xs,st,bl,rfl,h1,h2,rfl,Nat.le_add_right _ _,.inl ⟨rfl,hm,rfl,rfl,rfl⟩⟩
theorem TwoS.flush (h:TwoS w Z X Y B slots s xs st bl C slots' s' xs' st' bl') (q:Int) (hq:q≤18446744073709551615) (hpe:B.pe≤900000) :
 Calls Tryz.prog 34 #[.pointer (some ⟨B.q,0,none⟩),.int .u64 q] w fun e w'=>∃ B2 s2,e=.returned (.int .i64 0)∧TwoS w' Z X (newer Y w w') B2 slots s2 xs st bl C slots' s' xs' st' bl'∧Kept Z w w'∧B2.q=B.q∧B2.pe=B.pe∧s2=(if q≤s.f then s else flS s q):=by
 refine (flush_s14 h.one hpe q hq).mono ?_
 rintro e w1 ⟨rfl,hkp,⟨hle,hst⟩ | ⟨hlt,hst⟩⟩
 ·obtain ⟨h1,h2⟩:=h.left hkp hst
  exact ⟨_,s,rfl,h1,h2,rfl,rfl,by rw[if_pos hle]⟩
 ·obtain ⟨h1,h2⟩:=h.left hkp hst
  exact ⟨_,flS s q,rfl,h1,h2,rfl,rfl,by rw[if_neg (by omega)]⟩
theorem TwoS.get (h:TwoS w Z X Y B slots s xs st bl C slots' s' xs' st' bl') (hk:RowI .u8 w Z A m us) (hb:Bytes us) (hm:m≤1000000) (now:Int) :
 Calls Tryz.prog 23 #[.pointer (some ⟨B.q,0,none⟩),.slice A m c,.int .u32 now] w fun e w'=>(∃ B2,TwoS w' Z X (newer Y w w') B2 slots s xs st bl C slots' s' xs' st' bl'∧B2.q=B.q∧B2.pe=B.pe)∧Kept Z w w' ∧
  ((getS st s.f now us=none∧e=.returned (.tuple #[.agg itm0C,.int .i64 4])) ∨
   ∃ bs b1 b2,getS st s.f now us=some bs∧e=.returned (.tuple #[.agg (itmC bs b1 b2),.int .i64 0])∧w.heap.size≤b1∧w.heap.size≤b2∧b1≠b2∧ArrU w' b1 (keyOf bs)∧ArrU w' b2 (valOf bs)):=by
 refine (get_s (c:=c) h.one (hk.more h.offX) hb hm now).mono ?_
 rintro e w1 ⟨⟨k',hst,_⟩,hkp,h9⟩
 obtain ⟨h1,h2⟩:=h.left hkp hst
 refine ⟨⟨_,h1,rfl,rfl⟩,h2,h9.imp id ?_⟩
 rintro ⟨bs,b1,b2,g1,g2,g3,g4,g5,g6,g7,_⟩
 exact ⟨bs,b1,b2,g1,g2,g3,g4,g5,g6,g7⟩
end
end
section
attribute [local go_sem] Oper.semAt_some
abbrev mq0:Oper:=⟨some 56,.move (.tmp 7),56,"outright.go:129",#[],none⟩
abbrev mq1:Oper:=⟨some 57,.fieldAddr 74 (.tmp 10) 1,0,"outright.go:129",#[],none⟩
abbrev mq2:Oper:=⟨some 58,.load 3 (.tmp 57),3,"outright.go:129",#[⟨1,.data⟩],none⟩
abbrev mq3:Oper:=⟨some 59,.call { callee:=.value (.func 32),args:=#[.tmp 58],argTypes:=#[3] },31,"outright.go:129",#[⟨2,.data⟩],none⟩
abbrev mq4:Oper:=⟨some 60,.fieldAddr 74 (.tmp 10) 4,0,"outright.go:129",#[],none⟩
abbrev mq5:Oper:=⟨some 61,.load 30 (.tmp 60),30,"outright.go:129",#[⟨4,.data⟩],none⟩
abbrev mq6:Oper:=⟨some 62,.call { callee:=.value (.func 26),args:=#[.tmp 56,.tmp 59,.tmp 61],argTypes:=#[56,31,30] },36,"outright.go:129",#[⟨0,.data⟩,⟨3,.data⟩,⟨5,.data⟩,⟨3,.chain⟩],none⟩
abbrev mr0:Oper:=⟨some 148,.load 53 (.tmp 20),53,"outright.go:152",#[],none⟩
abbrev mr1:Oper:=⟨some 149,.move (.tmp 19),3,"outright.go:152",#[],none⟩
abbrev mr2:Oper:=⟨some 150,.indexAddr 86 (.tmp 11) (.tmp 149),0,"outright.go:152",#[⟨1,.data⟩],none⟩
abbrev mr3:Oper:=⟨some 151,.load 53 (.tmp 150),53,"outright.go:152",#[⟨2,.data⟩],none⟩
abbrev mr4:Oper:=⟨some 152,.call { callee:=.value (.func 25),args:=#[.tmp 148,.tmp 151],argTypes:=#[53,53] },4,"outright.go:152",#[⟨0,.data⟩,⟨3,.data⟩],none⟩
abbrev mr5:Oper:=⟨some 153,.unOp Go.UnOp.not 4 (.tmp 152),4,"outright.go:152",#[⟨4,.data⟩],none⟩
abbrev mr6:Oper:=⟨some 154,.move (.tmp 153),4,"outright.go:152",#[⟨5,.data⟩,⟨4,.chain⟩],none⟩
abbrev mr7:Oper:=⟨some 155,.fieldAddr 53 (.tmp 20) 0,0,"outright.go:152",#[⟨6,.guard⟩],some (6,false)⟩
abbrev mr8:Oper:=⟨some 156,.load 31 (.tmp 155),31,"outright.go:152",#[⟨7,.data⟩,⟨6,.guard⟩],some (6,false)⟩
abbrev mr9:Oper:=⟨some 157,.call { callee:=.builtin Go.Builtin.len,args:=#[.tmp 156],argTypes:=#[31] },3,"outright.go:152",#[⟨8,.data⟩,⟨6,.guard⟩],some (6,false)⟩
abbrev mr10:Oper:=⟨some 158,.binOp Go.BinOp.gtr 3 (.tmp 157) (.const (.int .i64 0)) 3,4,"outright.go:152",#[⟨9,.data⟩,⟨6,.guard⟩],some (6,false)⟩
abbrev mr11:Oper:=⟨some 159,.move (.tmp 158),4,"outright.go:152",#[⟨10,.data⟩,⟨6,.chain⟩,⟨6,.guard⟩],some (6,false)⟩
abbrev mr12:Oper:=⟨some 160,.fieldAddr 53 (.tmp 20) 0,0,"outright.go:152",#[⟨11,.guard⟩],some (11,true)⟩
abbrev mr13:Oper:=⟨some 161,.load 31 (.tmp 160),31,"outright.go:152",#[⟨12,.data⟩,⟨11,.guard⟩],some (11,true)⟩
abbrev mr14:Oper:=⟨some 162,.move (.tmp 19),3,"outright.go:152",#[⟨11,.guard⟩],some (11,true)⟩
abbrev mr15:Oper:=⟨some 163,.call { callee:=.value (.func 32),args:=#[.tmp 162],argTypes:=#[3] },31,"outright.go:152",#[⟨14,.data⟩,⟨11,.chain⟩,⟨11,.guard⟩],some (11,true)⟩
abbrev mr16:Oper:=⟨some 164,.call { callee:=.value (.func 40),args:=#[.tmp 161,.tmp 163],argTypes:=#[31,31] },4,"outright.go:152",#[⟨13,.data⟩,⟨15,.data⟩,⟨15,.chain⟩,⟨11,.guard⟩],some (11,true)⟩
abbrev mr17:Oper:=⟨some 165,.unOp Go.UnOp.not 4 (.tmp 164),4,"outright.go:152",#[⟨16,.data⟩,⟨11,.guard⟩],some (11,true)⟩
abbrev mr18:Oper:=⟨some 166,.pick (.tmp 159) (.tmp 165) (.const (.bool false)),4,"outright.go:152",#[⟨11,.data⟩,⟨17,.data⟩,⟨6,.guard⟩],some (6,false)⟩
abbrev mr19:Oper:=⟨some 167,.pick (.tmp 154) (.const (.bool true)) (.tmp 166),4,"outright.go:152",#[⟨6,.data⟩,⟨18,.data⟩],none⟩
theorem size_opA:(Tryz.prog.info? 74).map (·.size)=some 6:=by kernel_rfl
section
variable {P:Program} {w:World} {ops:Array Oper} {rest:List Oper} {o:Oper} {a:Act} {Q:Exit→Act→World→Prop}
theorem wpList_load_at14 (x:Operand) (ty:TypeId) (ho:o.op=.load ty x) (hgd:Region.wanted o (yielded ops a.tmps)=true) (b off:Nat) (hx:a.eval x=.pointer (some ⟨b,off,none⟩))
 (cs:List Value) (d:TypeDesc) (hu:P.underlying ty=some d) (hd:d.isRow=true) (hi:(P.info? ty).map (·.size)=some cs.length) (hc:w.rangeAt b off cs)
 (h:wpList P ops Q rest (a.put o.dst (.agg cs.toArray)) w):wpList P ops Q (o::rest) a w:=by
 refine wpList_step fun K hK=>?_
 rw[if_pos hgd]
 exact wp_load_mid ty x ho b off hx cs d hc hu hd hi (hK _ _ h)
end
theorem rep_bytes (n:Nat) (q:Int):Bytes (List.replicate n (q % 256)):=by
 intro j
 by_cases h:j<n
 ·simp[List.getD,List.getElem?_replicate,h]; omega
 ·simp[List.getD,List.getElem?_replicate,h]
abbrev opC (kd ky sz pl q x:Int):Array Value:=#[.int .i64 kd,.int .i64 ky,.int .i64 sz,.int .i64 pl,.int .u64 q,.int .u32 x]
def MvI (w0:World) (b1 q i:Nat) (W:World):Prop:=∃ X B s xs st bl rs,MvM w0 b1 q W X B s xs st bl rs∧B.pe≤17*i∧s.g≤i
abbrev plC (seg:Nat) (gen:Int) (at_:Nat) (bs:List Int) (b1 b2:Nat):Array Value:=#[.int .i64 (seg:Int),.int .u64 gen,.int .i64 (at_:Int),.int .i64 (kindOf bs),.int .u32 (flagsOf bs),.int .u32 (expOf bs),.int .u64 (seqOf bs),.slice (some ⟨b1,0,none⟩) (klenOf bs) (klenOf bs),.slice (some ⟨b2,0,none⟩) (vlenOf bs) (vlenOf bs)]
abbrev arr0:Array Value:=#[.slice none 0 0,.slice none 0 0,.int .u32 0,.int .u32 0,.int .u64 0,.bool false,.slice none 0 0,.slice none 0 0,.int .u32 0,.int .u32 0,.int .u64 0,.bool false,.slice none 0 0,.slice none 0 0,.int .u32 0,.int .u32 0,.int .u64 0,.bool false,.slice none 0 0,.slice none 0 0,.int .u32 0,.int .u32 0,.int .u64 0,.bool false,.slice none 0 0,.slice none 0 0,.int .u32 0,.int .u32 0,.int .u64 0,.bool false,.slice none 0 0,.slice none 0 0,.int .u32 0,.int .u32 0,.int .u64 0,.bool false,.slice none 0 0,.slice none 0 0,.int .u32 0,.int .u32 0,.int .u64 0,.bool false,.slice none 0 0,.slice none 0 0,.int .u32 0,.int .u32 0,.int .u64 0,.bool false]
def MvG (w0:World) (b1 q i ga j:Nat) (W:World):Prop:=∃ X B s xs st bl rs,MvM w0 b1 q W X B s xs st bl rs∧(B.pe≤17*i∧s.g≤i)∧WasM W X ga (getS st s.f 0) j∧w0.heap.size≤ga
theorem moves_law14 (a1 : Int) {A : Option Addr} {n cap : Nat} {z : List OpM.Op6} {w : World} (ho : IsOps14 w A n cap z) :
 Calls Tryz.prog 6 #[.slice A n cap,.int .i64 a1] w fun e w'=>e=.returned (.bool true)∧Below w.heap.size w w':=by
 obtain ⟨m,hm⟩:∃ m,m=min n 50:=⟨_,rfl⟩
 have hm50:m≤50:=by omega
 have hmn:m≤n:=by omega
 have HO:=hI ho
 have HFEW:=hI (few_any14 A n cap m hm ho.nc ho.nA)
 clear ho hm
 go_enter Tryz.func6,Tryz.ntmps6
 go_wp2_with fail
 refine (wakes14 w).mono ?_
 rintro e w1 ⟨rfl,hb1⟩
 have HB1:=hI hb1
 clear hb1
 go_wp2_with fail
 refine (logs_any w1).mono ?_
 rintro e w2 ⟨l1,p1,d1,rfl,hl1,hb2⟩
 have HB2:=hI hb2
 have HL1:=hI hl1
 clear hb2 hl1
 go_wp2_with fail
 refine (new_s14 (slots:=8) HL1.out (fun b h=>by have:=HB2.out.size; omega) (by omega) (by omega)).mono ?_
 rintro e w4 ⟨q1,x1,F1,c1,f1,rfl,hs1,hb4⟩
 have HI:=hI (show MvI w w1.heap.size q1 0 w4 from ⟨_,_,_,_,_,_,_,MvM.start hs1 rfl ((HB1.out.trans (HB2.out.mono HB1.out.size)).trans (hb4.mono (nT HB1.out.size HB2.out.size))) HB1.out.size,nR _,Int.le_refl _⟩)
 generalize w1.heap.size=bb at *
 clear hs1 hb4 HL1 HB1 HB2
 go_wp2_with fail
 refine (HFEW.out w4).mono ?_
 rintro e w6 ⟨rfl,rfl⟩
 clear HFEW
 go_wp2_with fail
 go_loopw [42] (fun cv wr=>∃ (i:Nat),cv=.int .i64 i∧i≤m∧MvI w bb q1 i wr) (fun cv _=>m-(intOf cv).toNat)
 case atStart=>exact ⟨0,rfl,Nat.zero_le _,HI.out⟩
 case round =>
 clear HI
 obtain ⟨i,rfl,him,hm⟩:=hrel
 by_cases hlt:i<m
 ·obtain ⟨X,B,s,xs,st,bl,rs,hm,hpe,hgg⟩:=hm
  have HM:=hI hm
  have HPG:=hI (And.intro hpe hgg)
  have hpe9:B.pe≤900000:=by omega
  have hgm9:s.g+1≤18446744073709551615:=by omega
  obtain ⟨b,off,rfl,hbS,hcells⟩:=HO.out.row.2 (by omega)
  have hr:=hcells i (by omega)
  have hfin:=HO.out.fin i (by omega)
  obtain ⟨o,ho⟩:∃ o,z.getD i OpM.ent0=o:=⟨_,rfl⟩
  rw[ho] at hr hfin
  clear ho
  obtain ⟨kd,ky,sz,pl,q,x⟩:=o
  have HRNG:=hI (show wr.rangeAt b (off+i*6) (OpM.entV ⟨kd,ky,sz,pl,q,x⟩) from fun j v hv=>(hm.bel.cell (p:=⟨b,_,none⟩) hbS).trans (hr j v hv))
  have HFIN:=hI (show (0≤q∧q≤18446744073709551615)∧0≤x∧x≤4294967295 from hfin)
  clear hr hfin hcells hm
  obtain ⟨w5,hw5⟩:∃ w5,w5=wr.alloc (.cells (opC kd ky sz pl q x) 74):=⟨_,rfl⟩
  have hb5:Below wr.heap.size wr w5:=by rw[hw5]; exact (Below.refl _ _).alloc (nR _) _
  have HOP5:=hI (show Blk w5 wr.heap.size 74 (opC kd ky sz pl q x) by rw[hw5]; exact Blk.new wr _ _)
  have HM5:=hI (HM.out.grow hb5)
  have HW5:=hI hw5.symm
  clear hw5 hb5 HM
  go_upto_region 10 with (refine wpList_load_at14 (.tmp 44) 74 rfl rfl b (off+i*6) rfl (OpM.entV ⟨kd,ky,sz,pl,q,x⟩) _ Tryz.underlying74 rfl size_opA HRNG.out ?_)
  rw[HW5.out]
  go_wp2_with (refine wpList_load_rowB (.tmp 10) 74 rfl rfl wr.heap.size rfl 74 (OpM.entV ⟨kd,ky,sz,pl,q,x⟩) _ Tryz.underlying74 rfl size_opA HOP5.out ?_)
  refine (kind_ok kd ky sz pl q x w5).mono ?_
  rintro e w6 ⟨rfl,hb6⟩
  have HOP6:=hI (HOP5.out.below hb6 HOP5.out.lt)
  have HM6:=hI (HM5.out.grow hb6)
  have HZ5:=hI HOP5.out.lt
  clear hb6 HW5 HRNG
  generalize kindN kd=kn at *
  by_cases e0:kn=0
  ·subst e0
   clear HM5 HOP5
   go_wp2_with (refine wpList_load_rowB (.tmp 10) 74 rfl rfl wr.heap.size rfl 74 (OpM.entV ⟨kd,ky,sz,pl,q,x⟩) _ Tryz.underlying74 rfl size_opA HOP6.out ?_)
   refine (item_ok kd ky sz pl q x w6).mono ?_
   rintro e w7 ⟨g7,g72,c72,rfl,hg7,hr7,hv7,hb7⟩
   have HPT:=hI ((HM6.out.grow hb7).put (f:=sz % 4294967296) (x:=x) (q1:=q) (dy:=sz.tmod 2==0) (c:=2) (c2:=c72) ((Arr.rowN (S:=fun b=>b=g7) hr7 0 (n:=2) rfl rfl).more (fun b h=>.inr ⟨by omega,by have:=Blk.lt hr7; omega⟩)) (hv7.bound.more (fun b h=>.inr ⟨h.1,h.2⟩)) (keyL_bytes ky) (rep_bytes _ _) (fun h=>by cases h) (fun h=>by cases h) ⟨by omega,by omega,HFIN.out.2.1,HFIN.out.2.2,HFIN.out.1.1,HFIN.out.1.2⟩ hpe9 hgm9)
   clear hg7 hr7 hv7 hb7
   go_wp2_with fail
   refine HPT.out.mono ?_
   rintro e w8 ⟨er,B',s',xs',st',bl',rs',rfl,hm8,hk8,hp8,hg8⟩
   have HI:=hI (show MvI w bb q1 (i+1) w8 from ⟨_,_,_,_,_,_,_,hm8,by have:=HPG.out; omega,by have:=HPG.out; omega⟩)
   clear hm8 hk8 hp8 hg8 HPT HOP6 HM6
   go_wp2_with fail
   go_roundw
   case rel =>
    refine ⟨i+1,rfl,by omega,HI.out⟩
   case measure =>
    simp only[intOf]
    omega
  ·have e0b:(kn==0)=false:=by simpa using e0
   by_cases e2:kn=2
   ·subst e2
    clear e0b e0 HM5 HOP5
    have HCD:=hI (show ∀ W,Below w6.heap.size w6 W→W.cell? ⟨wr.heap.size,1,none⟩=some (.int .i64 ky)∧W.cell? ⟨wr.heap.size,4,none⟩=some (.int .u64 q) from fun W hW=>⟨(HOP6.out.below hW HOP6.out.lt).cell 1,(HOP6.out.below hW HOP6.out.lt).cell 4⟩)
    go_upto_region 14 with fail
    refine Tillst.region (fun W=>W.cell? ⟨wr.heap.size,1,none⟩=some (.int .i64 ky)∧W.cell? ⟨wr.heap.size,4,none⟩=some (.int .u64 q)) [] (by kernel_rfl) (HCD.out _ (Below.refl _ _).drew) (fun hė=>?_)
    have HBD:=hI ((Below.refl w6.heap.size w6).drew)
    generalize w6.drew=vd at *
    refine tK 0 mq0 (v:=?_) ?_ hė ?_
    rotate_left
    ·intro W hSW; unfold mq0; go_simp; with_reducible rfl
    simp only[mq0,Act.put,sA,sZ,sS]
    refine tK 1 mq1 (v:=?_) ?_ hė ?_
    rotate_left
    ·intro W hSW; unfold mq1; go_simp; with_reducible rfl
    simp only[mq1,Act.put,sA,sZ,sS]
    refine tK 2 mq2 (v:=?_) ?_ hė ?_
    rotate_left
    ·intro W hSW; obtain ⟨hs1,hs4⟩:=hSW; unfold mq2; go_simp; with_reducible rfl
    simp only[mq2,Act.put,sA,sZ,sS]
    refine tK 4 mq4 (v:=?_) ?_ hė ?_
    rotate_left
    ·intro W hSW; unfold mq4; go_simp; with_reducible rfl
    simp only[mq4,Act.put,sA,sZ,sS]
    refine tK 5 mq5 (v:=?_) ?_ hė ?_
    rotate_left
    ·intro W hSW; obtain ⟨hs1,hs4⟩:=hSW; unfold mq5; go_simp; with_reducible rfl
    simp only[mq5,Act.put,sA,sZ,sS]
    refine tO 3 mq3 ?_
    intro K hK
    refine step_call 32 #[.tmp 58] #[3] rfl rfl Tryz.func32 rfl rfl [.int .i64 ky] rfl ((key_any ky vd).mono ?_)
    rintro e w7 ⟨g7,rfl,hg7,hr7,hb7⟩
    refine ⟨_,rfl,?_⟩
    simp only[mq3,Act.put,sA,sZ,sS]
    have hc7:=HCD.out w7 (HBD.out.trans (hb7.mono HBD.out.size))
    have HPT:=hI (((HM6.out.grow HBD.out).grow hb7).kill (q1:=q) (c:=2) ((Arr.rowN (S:=fun b=>b=g7) hr7 0 (n:=2) rfl rfl).more (fun b h=>.inr ⟨by omega,by have:=Blk.lt hr7; omega⟩)) (keyL_bytes ky) HFIN.out.1 hpe9 hgm9)
    have HOP7:=hI (HOP6.out.below (HBD.out.trans (hb7.mono HBD.out.size)) HOP6.out.lt)
    refine hK.out _ _ (fun _=>hc7) (fun hė=>?_)
    replace hė:=hė (by decide)
    clear hK K hc7 hg7 hr7 hb7
    refine tO 6 mq6 ?_
    intro K hK
    refine step_call 26 #[.tmp 56,.tmp 59,.tmp 61] #[56,31,30] rfl rfl Tryz.func26 rfl rfl [.pointer (some ⟨q1,0,none⟩),.slice (some ⟨g7,0,none⟩) 2 2,.int .u64 q] rfl (HPT.out.mono ?_)
    rintro e w8 ⟨er,B',s',xs',st',bl',rs',rfl,hm8,hk8,hp8,hg8⟩
    refine ⟨_,rfl,?_⟩
    simp only[mq6,Act.put,sA,sZ,sS]
    have HI:=hI (show MvI w bb q1 (i+1) w8 from ⟨_,_,_,_,_,_,_,hm8,by have:=HPG.out; omega,by have:=HPG.out; omega⟩)
    have HOP8:=hI (HOP7.out.kept hk8 (.inl (.inl (.inl (.inr ⟨nR _,HZ5.out⟩)))))
    refine hK.out _ _ (fun _=>⟨HOP8.out.cell 1,HOP8.out.cell 4⟩) (fun hė=>?_)
    clear hK K hm8 hk8 hp8 hg8 HPT HOP6 HOP7 HOP8 HM6 HCD HBD hė
    refine Tillst.done (by kernel_rfl) ?_ _
    go_wp2_with fail
    go_roundw
    case rel =>
     refine ⟨i+1,rfl,by omega,HI.out⟩
    case measure =>
     simp only[intOf]
     omega
   ·have e2b:(kn==2)=false:=by simpa using e2
    clear e0 e2
    by_cases e4:kn=4
    ·subst e4
     clear e0b e2b HM5 HOP5
     have p4:w6.cell? ⟨wr.heap.size,4,none⟩=some (.int .u64 q):=HOP6.out.cell 4
     go_wp2_with fail
     refine (HM6.out.flush q HFIN.out.1.2 hpe9).mono ?_
     rintro e w8 ⟨er,B',s',xs',st',bl',rs',rfl,hm8,hk8,hp8,hg8⟩
     have HI:=hI (show MvI w bb q1 (i+1) w8 from ⟨_,_,_,_,_,_,_,hm8,by have:=HPG.out; omega,by have:=HPG.out; omega⟩)
     clear hm8 hk8 hp8 hg8 HOP6 HM6 p4
     go_wp2_with fail
     go_roundw
     case rel =>
      refine ⟨i+1,rfl,by omega,HI.out⟩
     case measure =>
      simp only[intOf]
      omega
    ·have e4b:(kn==4)=false:=by simpa using e4
     clear e4
     have HI:=hI (show MvI w bb q1 (i+1) w6 from ⟨_,_,_,_,_,_,_,HM6.out,by have:=HPG.out; omega,by have:=HPG.out; omega⟩)
     clear HM5 HOP5 HM6 HOP6
     go_wp2_with fail
     go_roundw
     case rel =>
      refine ⟨i+1,rfl,by omega,HI.out⟩
     case measure =>
      simp only[intOf]
      omega
 ·obtain rfl:i=m:=by omega
  clear HO
  obtain ⟨X,B,s,xs,st,bl,rs,hm,hpe,hgg⟩:=hm
  obtain ⟨wa,hwa⟩:∃ wa,wa=wr.alloc (.cells arr0 86):=⟨_,rfl⟩
  have hba:Below wr.heap.size wr wa:=by rw[hwa]; exact (Below.refl _ _).alloc (nR _) _
  have HMG:=hI (show MvG w bb q1 i wr.heap.size 0 wa from ⟨_,_,_,_,_,_,_,hm.grow hba,⟨hpe,hgg⟩,⟨.inr ⟨nR _,by rw[hwa]; simp⟩,arr0.toList,by rw[hwa]; exact Blk.new wr _ _,rfl,fun i h=>absurd h (by omega)⟩,hm.bel.size⟩)
  have HWA:=hI hwa.symm
  clear hwa hba hm hpe hgg
  go_upto_region 19 with fail
  rw[HWA.out]
  clear HWA
  generalize wr.heap.size=ga at *
  go_wp2_with fail
  go_loopw [70] (fun cv wr=>∃ (j:Nat),cv=.int .i64 j∧j≤8∧MvG w bb q1 i ga j wr) (fun cv _=>8-(intOf cv).toNat)
  case atStart=>exact ⟨0,rfl,Nat.zero_le _,HMG.out⟩
  case round =>
  clear HMG
  obtain ⟨j,rfl,hj8,hm⟩:=hrel
  by_cases hlt2:j<8
  ·obtain ⟨X,B,s,xs,st,bl,rs,hm,hpg,hws,hga⟩:=hm
   have HM:=hI hm
   have HPG:=hI hpg
   have HWS:=hI hws
   have HGA:=hI hga
   clear hm hpg hws hga
   go_wp2_with fail
   refine (key_any (j:Nat) wr).mono ?_
   rintro e w5 ⟨g5,rfl,hg5,hr5,hb5⟩
   have HGT:=hI ((HM.out.grow hb5).get (c:=2) ((Arr.rowN (S:=fun b=>b=g5) hr5 0 (n:=2) rfl rfl).more (fun b h=>.inr ⟨by omega,by have:=Blk.lt hr5; omega⟩)) (keyL_bytes _) (by omega))
   have HWS5:=hI (HWS.out.kept (Kept.of_below hb5 HM.out.sto.lt) (fun b h=>Or.inl (b:=wr.heap.size≤b∧b<w5.heap.size) h))
   clear hg5 hr5 hb5 HM HWS
   go_wp2_with fail
   refine HGT.out.mono ?_
   rintro e w6 ⟨Y,k',hxy,hm6,hh6,hk6,hc⟩
   obtain ⟨it,er,rfl,hit⟩:∃ it er,e=.returned (.tuple #[.agg it,.int .i64 er])∧ItmX w6 Y (getS st s.f 0 (keyL (j:Nat))) it:=by
    rcases hc with ⟨h1,h2⟩ | ⟨bs,a1,a2,h1,h2,h3⟩
    ·exact ⟨_,_,h2,.inl ⟨h1,rfl⟩⟩
    ·exact ⟨_,_,h2,.inr ⟨bs,a1,a2,h1,rfl,h3⟩⟩
   obtain ⟨hxg,F,hB,hF,ho⟩:=HWS5.out.kept hk6 hxy
   have HM6:=hI hm6
   have HBF:=hI hB
   have HIT:=hI hit
   have HSZ:=hI hit.size
   have HEND:=hI (by have h9:=WasM.step hxg hB hF hlt2 ho hit; rw[List.append_assoc] at h9; exact h9)
   have HXG:=hI hxg
   have HF:=hI (show j*6+6≤F.length by omega)
   clear hxy hm6 hh6 hk6 hc hit hxg hB hF ho HGT HWS5
   go_wp2_with (refine wpList_store_part (.tmp 81) (.tmp 79) 53 rfl rfl Tryz.sizeOf53 ga (j*6) it.toList rfl rfl 86 F HBF.out HSZ.out.1 HSZ.out.2 HF.out ?_)
   go_roundw
   case rel=>exact ⟨j+1,rfl,by omega,⟨_,_,_,_,_,_,_,HM6.out.write ((Kept.refl _ _).setRow (g:=ga) (fun h=>h rfl) _) HXG.out HGA.out,HPG.out,HEND.out,HGA.out⟩⟩
   case measure =>
    simp only[intOf]
    omega
  ·obtain rfl:j=8:=by omega
   obtain ⟨X,B,s,xs,st,bl,rs,hm,hpg,hws,hga⟩:=hm
   have HM:=hI hm
   have HPG:=hI hpg
   have HWS:=hI hws
   have HGA:=hI hga
   have hln:=len_s hm.sto
   have hsl:=slog_ok hm.sto
   rw[hm.bq] at hln hsl
   have HLN:=hI hln
   have HSL:=hI hsl
   obtain ⟨A9,c9,hlm,_,_⟩:=hm.sto.log.log
   have HSU:=hI (log_super hlm)
   obtain ⟨seg,hseg,k64,krem,kwr⟩:=kS_ways a1
   have HSC:=hI (hm.scan hseg)
   clear hm hpg hws hga hlm hln hsl
   go_wp2_with fail
   refine HLN.out.mono ?_
   rintro e w5 ⟨rfl,rfl⟩
   go_wp2_with fail
   refine HSL.out.mono ?_
   rintro e w6 ⟨rfl,rfl⟩
   go_wp2_with fail
   refine HSU.out.mono ?_
   rintro e w7 ⟨rfl,rfl⟩
   clear HLN HSL HSU
   go_wp2_with fail
   clear k64 krem kwr
   refine HSC.out.mono ?_
   rintro e w8 ⟨k8,A8,c8,ts,gen,used,m8,rfl,hm8,hmv,hkp,htold,hats,hlen⟩
   have HMH:=hI (show MvH w bb q1 i ga seg gen A8 ts st.length 0 w8 from ⟨_,_,_,_,_,_,_,hmv,⟨by have:=HPG.out.1; show B.pe≤_; omega,by have:=HPG.out.2; omega,rfl,HGA.out⟩,HWS.out.kept hkp (fun b h=>.inl h),htold.tl (fun b h1 h2=>.inr ⟨h1,h2⟩),hats⟩)
   clear hm8 hmv hkp htold hats HSC HM HPG HWS HGA
   generalize st.length=n0 at *
   go_wp2_with fail
   go_loopw [101] (fun cv wr=>∃ (j:Nat),cv=.int .i64 j∧j≤ts.length∧MvH w bb q1 i ga seg gen A8 ts n0 j wr) (fun cv _=>ts.length-(intOf cv).toNat)
   case atStart=>exact ⟨0,rfl,Nat.zero_le _,HMH.out.grow ((Below.refl _ _).alloc (nR _) _)⟩
   case round =>
   clear HMH
   obtain ⟨j,rfl,hjl,hm⟩:=hrel
   by_cases hj:j<ts.length
   ·obtain ⟨X,B,s,xs,st,bl,rs,hm,hpg,hws,htl,hat⟩:=hm
    obtain ⟨gp,op,e8,hgp,hcp⟩:=htl.1.2 (by omega)
    subst e8
    have hr2:=hcp j hj
    rw[show (ts.map (plV seg gen)).getD j PlM.ent0=plV seg gen ts[j] by simp[List.getD,hj]] at hr2
    obtain ⟨ht1,ht2,ht3,ht4⟩:=htl.2 ts[j] (List.getElem_mem hj)
    have hat1:=hat ts[j] (List.getElem_mem hj)
    generalize ts[j]=t at *
    obtain ⟨at_,bs,b1,b2⟩:=t
    dsimp only at ht1 ht2 ht3 ht4 hat1
    have hrk:=rok_klen hat1.rok
    have HQ1:=hI (show wr.rangeAt gp (op+j*9) [.int .i64 (seg:Int),.int .u64 gen,.int .i64 (at_:Int),.int .i64 (kindOf bs),.int .u32 (flagsOf bs),.int .u32 (expOf bs),.int .u64 (seqOf bs),.slice (some ⟨b1,0,none⟩) (klenOf bs) (klenOf bs),.slice (some ⟨b2,0,none⟩) (vlenOf bs) (vlenOf bs)] from hr2)
    obtain ⟨w5,hw5⟩:∃ w5,w5=wr.alloc (.cells (plC seg gen at_ bs b1 b2) 40):=⟨_,rfl⟩
    have hb5:Below wr.heap.size wr w5:=by rw[hw5]; exact (Below.refl _ _).alloc (nR _) _
    have HP5:=hI (show Blk w5 wr.heap.size 40 (plC seg gen at_ bs b1 b2) by rw[hw5]; exact Blk.new wr _ _)
    have hk5:Kept X wr w5:=Kept.of_below hb5 hm.sto.lt
    have HM5:=hI (hm.grow hb5)
    have HWS5:=hI (hws.kept hk5 (fun b h=>Or.inl (b:=wr.heap.size≤b∧b<w5.heap.size) h))
    have HTL5:=hI (htl.kept hk5 (fun b h=>Or.inl (b:=wr.heap.size≤b∧b<w5.heap.size) h))
    have HAR5:=hI (show ArrU w5 b1 (keyOf bs)∧ArrU w5 b2 (valOf bs) from ⟨Blk.kept ht3 hk5 ht1,Blk.kept ht4 hk5 ht2⟩)
    have HBX:=hI (And.intro ht1 ht2)
    have HPG:=hI hpg
    have HAT:=hI hat
    have HAT1:=hI hat1
    have HRK:=hI hrk
    have HW5:=hI hw5.symm
    have HJ:=hI hj
    clear hw5 hb5 hk5 hm hpg hws htl hat hgp hcp hr2 ht1 ht2 ht3 ht4 hat1 hrk
    go_upto_region 31 with (refine wpList_load_at14 (.tmp 103) 40 rfl rfl gp (op+j*9) rfl [.int .i64 (seg:Int),.int .u64 gen,.int .i64 (at_:Int),.int .i64 (kindOf bs),.int .u32 (flagsOf bs),.int .u32 (expOf bs),.int .u64 (seqOf bs),.slice (some ⟨b1,0,none⟩) (klenOf bs) (klenOf bs),.slice (some ⟨b2,0,none⟩) (vlenOf bs) (vlenOf bs)] _ Tryz.underlying40 rfl size_pl9 HQ1.out ?_)
    rw[HW5.out]
    clear HW5 HQ1
    have hlv5:=live_s14 (c:=klenOf bs) (A2:=some ⟨b2,0,none⟩) (m2:=vlenOf bs) (c2:=vlenOf bs) HM5.out.sto (seg:Int) gen (at_:Int) (kindOf bs) (flagsOf bs) (expOf bs) (seqOf bs) ((Arr.rowN (S:=fun b=>b=b1) HAR5.out.1 0 (n:=klenOf bs) HRK.out.1 rfl).more (fun b h=>by rw[h]; exact Blk.lt HAR5.out.1)) HRK.out.2.2.2.1 (by have:=HRK.out.2.2.1; omega)
    rw[HM5.out.bq] at hlv5
    have HLV5:=hI hlv5
    clear hlv5
    go_wp2_with (refine wpList_load_rowB (.tmp 16) 40 rfl rfl wr.heap.size rfl 40 (plC seg gen at_ bs b1 b2).toList _ Tryz.underlying40 rfl size_pl9 HP5.out ?_)
    refine HLV5.out.mono ?_
    rintro e w6 ⟨rfl,hb6⟩
    have hk6:=Kept.of_below hb6 HM5.out.sto.lt
    have HPL:=hI HP5.out.lt
    have HP6:=hI (HP5.out.below hb6 HP5.out.lt)
    have HM6:=hI (HM5.out.grow hb6)
    have HWS6:=hI (HWS5.out.kept hk6 (fun b h=>Or.inl (b:=w5.heap.size≤b∧b<w6.heap.size) h))
    have HTL6:=hI (HTL5.out.kept hk6 (fun b h=>Or.inl (b:=w5.heap.size≤b∧b<w6.heap.size) h))
    have HAR6:=hI (show ArrU w6 b1 (keyOf bs)∧ArrU w6 b2 (valOf bs) from ⟨Blk.below HAR5.out.1 hb6 (Blk.lt HAR5.out.1),Blk.below HAR5.out.2 hb6 (Blk.lt HAR5.out.2)⟩)
    clear hb6 hk6 HM5 HWS5 HTL5 HAR5 HLV5 HP5
    obtain ⟨lv,hlv⟩:∃ lv,liveS st s.f (seg:Int) gen (at_:Int) (kindOf bs) (seqOf bs) (keyOf bs)=lv:=⟨_,rfl⟩
    rw[hlv]
    cases lv
    ·have hmv:=move_no (c:=klenOf bs) (A2:=some ⟨b2,0,none⟩) (n2:=vlenOf bs) (c2:=vlenOf bs) HM6.out.sto (seg:Int) gen (at_:Int) (kindOf bs) (flagsOf bs) (expOf bs) (seqOf bs) ((Arr.rowN (S:=fun b=>b=b1) HAR6.out.1 0 (n:=klenOf bs) HRK.out.1 rfl).more (fun b h=>by rw[h]; exact Blk.lt HAR6.out.1)) HRK.out.2.2.2.1 (by have:=HRK.out.2.2.1; omega) hlv
     rw[HM6.out.bq] at hmv
     have HMV:=hI hmv
     have HPR:=hI (show MvH w bb q1 i ga seg gen (some ⟨gp,op,none⟩) ts n0 j w6 from ⟨_,_,_,_,_,_,_,HM6.out,HPG.out,HWS6.out,HTL6.out,HAT.out⟩)
     clear hmv hlv HM6 HPG HWS6 HTL6 HAT HAR6
     go_wp2_with (refine wpList_load_rowB (.tmp 16) 40 rfl rfl wr.heap.size rfl 40 (plC seg gen at_ bs b1 b2).toList _ Tryz.underlying40 rfl size_pl9 HP6.out ?_)
     refine HMV.out.mono ?_
     rintro e w7 ⟨rfl,hb7⟩
     have HEND:=hI (HPR.out.grow hb7).next
     clear hb7 HMV HPR HP6
     go_wp2_with fail
     go_roundw
     case rel=>exact ⟨j+1,rfl,by have:=HJ.out; omega,HEND.out⟩
     case measure =>
      simp only[intOf]
      omega
    ·have hmv:=HM6.out.move (A:=some ⟨b1,0,none⟩) (m:=klenOf bs) (c:=klenOf bs) (A2:=some ⟨b2,0,none⟩) (m2:=vlenOf bs) (c2:=vlenOf bs) HAT1.out ((Arr.rowN (S:=fun b=>b=b1) HAR6.out.1 0 (n:=klenOf bs) HRK.out.1 rfl).more (fun b h=>by rw[h]; exact .inl (.inl HBX.out.1))) ((Arr.rowN (S:=fun b=>b=b2) HAR6.out.2 0 (n:=vlenOf bs) HRK.out.2.1 rfl).more (fun b h=>by rw[h]; exact .inl (.inl HBX.out.2))) (fun h=>by cases h) (fun h=>by cases h) hlv (by have:=HPG.out.1; omega) (by have:=HPG.out.2.1; omega)
     have HMV:=hI hmv
     clear hmv hlv
     go_wp2_with (refine wpList_load_rowB (.tmp 16) 40 rfl rfl wr.heap.size rfl 40 (plC seg gen at_ bs b1 b2).toList _ Tryz.underlying40 rfl size_pl9 HP6.out ?_)
     refine HMV.out.mono ?_
     rintro e w7 ⟨er,B3,s3,xs3,st3,bl3,rs3,rfl,hm7,hk7,hp7,hg7,hf7,hhas,hl7,hats7,hor⟩
     have hge:getS st3 s3.f 0=getS st s.f 0:=funext fun us=>by rw[hf7]; exact get_has (hhas us)
     have HEND:=hI (show MvH w bb q1 i ga seg gen (some ⟨gp,op,none⟩) ts n0 (j+1) w7 from ⟨_,_,_,_,_,_,_,hm7,⟨by have:=HPG.out.1; omega,by have:=HPG.out.2.1; omega,hl7.trans HPG.out.2.2.1,HPG.out.2.2.2⟩,by rw[hge]; exact HWS6.out.kept hk7 (fun b h=>h),HTL6.out.kept hk7 (fun b h=>h),fun t ht=>hats7 _ _ (HAT.out t ht)⟩)
     rcases hor with rfl | ⟨rfl,hl0⟩
     ·clear hm7 hk7 hp7 hg7 hf7 hhas hl7 hats7 hge HMV HM6 HPG HWS6 HTL6 HAT HAR6 HP6
      go_wp2_with fail
      go_roundw
      case rel=>exact ⟨j+1,rfl,by have:=HJ.out; omega,HEND.out⟩
      case measure =>
       simp only[intOf]
       omega
     ·have HP7:=hI (HP6.out.kept hk7 (.inl (.inr ⟨nR _,HPL.out⟩)))
      have h1:=Blk.kept HAR6.out.1 hk7 (.inl (.inl HBX.out.1))
      have hlv7:=live_s14 (c:=klenOf bs) (A2:=some ⟨b2,0,none⟩) (m2:=vlenOf bs) (c2:=vlenOf bs) hm7.sto (seg:Int) gen (at_:Int) (kindOf bs) (flagsOf bs) (expOf bs) (seqOf bs) ((Arr.rowN (S:=fun b=>b=b1) h1 0 (n:=klenOf bs) HRK.out.1 rfl).more (fun b h=>by rw[h]; exact Blk.lt h1)) HRK.out.2.2.2.1 (by have:=HRK.out.2.2.1; omega)
      rw[hm7.bq,hl0] at hlv7
      have HLV7:=hI hlv7
      clear hm7 hk7 hp7 hg7 hf7 hhas hl7 hats7 hge HMV HM6 HPG HWS6 HTL6 HAT HAR6 HP6 h1 hlv7 hl0
      go_wp2_with (refine wpList_load_rowB (.tmp 16) 40 rfl rfl wr.heap.size rfl 40 (plC seg gen at_ bs b1 b2).toList _ Tryz.underlying40 rfl size_pl9 HP7.out ?_)
      refine HLV7.out.mono ?_
      rintro e w8 ⟨rfl,hb8⟩
      have HEND:=hI (HEND.out.grow hb8)
      clear hb8 HLV7 HP7
      go_wp2_with fail
      go_roundw
      case rel=>exact ⟨j+1,rfl,by have:=HJ.out; omega,HEND.out⟩
      case measure =>
       simp only[intOf]
       omega
   ·obtain rfl:j=ts.length:=by omega
    obtain ⟨X,B,s,xs,st,bl,rs,hm,hpg,hws,htl,hat⟩:=hm
    have HF:=hI (show MvF w bb q1 ga n0 wr from ⟨_,_,_,_,_,_,_,hm,hpg.2.2,hws⟩)
    clear hm hpg hws htl hat
    go_wp2_with fail
    go_loopw [138] (fun cv wr=>∃ (j:Nat),cv=.int .i64 j∧j≤8∧MvF w bb q1 ga n0 wr) (fun cv _=>8-(intOf cv).toNat)
    case atStart=>exact ⟨0,rfl,Nat.zero_le _,HF.out⟩
    case round =>
    clear HF
    obtain ⟨j,rfl,hj8,hm⟩:=hrel
    by_cases hlt4:j<8
    ·obtain ⟨X,B,s,xs,st,bl,rs,hm,hpg,hws⟩:=hm
     have HM:=hI hm
     have HPG:=hI hpg
     have HWS:=hI hws
     clear hm hpg hws
     go_wp2_with fail
     refine (key_any (j:Nat) wr).mono ?_
     rintro e w5 ⟨g5,rfl,hg5,hr5,hb5⟩
     have HGT:=hI ((HM.out.grow hb5).get (c:=2) ((Arr.rowN (S:=fun b=>b=g5) hr5 0 (n:=2) rfl rfl).more (fun b h=>.inr ⟨by omega,by have:=Blk.lt hr5; omega⟩)) (keyL_bytes _) (by omega))
     have HWS5:=hI (HWS.out.kept (Kept.of_below hb5 HM.out.sto.lt) (fun b h=>Or.inl (b:=wr.heap.size≤b∧b<w5.heap.size) h))
     clear hg5 hr5 hb5 HM HWS
     go_wp2_with fail
     refine HGT.out.mono ?_
     rintro e w6 ⟨Y,k',hxy,hm6,hh6,hk6,hc⟩
     have hws6:=HWS5.out.kept hk6 hxy
     have HMF:=hI (show MvF w bb q1 ga n0 w6 from ⟨_,_,_,_,_,_,_,hm6,HPG.out,hws6⟩)
     obtain ⟨hxg,F,hB,hF,ho⟩:=hws6
     obtain ⟨it2,hi1,hi2⟩:=ho j hlt4
     have hgl:=hB.lt
     have hrg:=was_range hB hi1
     clear HGT HWS5 hh6 hk6 hxg hB hF ho hi1
     rcases hc with ⟨hno,rfl⟩ | ⟨bs,a1',a2',hsome,rfl,hya,hyb,hA1,hA2⟩
     ·obtain rfl:it2=itm0C:=by
       rcases hi2 with ⟨_,h⟩ | ⟨bs,_,_,h,_⟩
       ·exact h
       ·rw[hno] at h; cases h
      obtain ⟨w7,hw7⟩:∃ w7,w7=(w6.alloc (.cells itm0C 53)).setRow w6.heap.size (itm0C):=⟨_,rfl⟩
      have HBN:=hI (Blk.new w6 53 itm0C)
      have hb7:Below w6.heap.size w6 w7:=by rw[hw7]; exact Kept.to_below (((Kept.refl (fun b=>b<w6.heap.size) w6).alloc (fun b h=>h) _).setRow (fun h=>by omega) _) (fun b h=>h)
      have HI7:=hI (show Blk w7 w6.heap.size 53 (itm0C) by rw[hw7]; exact setRow_heap _ _ _ _ _ _ HBN.out)
      have HW7:=hI hw7.symm
      have HB7:=hI hb7
      have HCD:=hI (show ∀ W,Below w7.heap.size w7 W→Blk W w6.heap.size 53 (itm0C)∧W.rangeAt ga (j*6) (itm0C).toList from fun W hW=>⟨HI7.out.below hW HI7.out.lt,fun i v hv=>((hb7.trans (hW.mono hb7.size)).cell (p:=⟨ga,_,none⟩) hgl).trans (hrg i v hv)⟩)
      clear hw7 hb7 hrg
      go_upto_region 40 with (refine wpList_store_rowB (.tmp 20) (.tmp 146) 53 rfl rfl w6.heap.size (itm0C) rfl rfl 53 _ HBN.out size_itm rfl (one_itm0) ?_; rw[HW7.out])
      refine Tillst.region (fun W=>Blk W w6.heap.size 53 (itm0C)∧W.rangeAt ga (j*6) (itm0C).toList) [] (by kernel_rfl) (HCD.out _ (Below.refl _ _).drew) (fun hė=>?_)
      have HBD:=hI ((Below.refl w7.heap.size w7).drew)
      generalize w7.drew=vd at *
      refine tK 0 mr0 (v:=.agg (itm0C)) ?_ hė ?_
      ·intro W hSW; exact row_runs (.tmp 20) 53 rfl w6.heap.size rfl 53 (itm0C).toList _ Tryz.underlying53 rfl size_itm hSW.1
      simp only[mr0,Act.put,sA,sZ,sS]
      refine tK 1 mr1 (v:=?_) ?_ hė ?_
      rotate_left
      ·intro W hSW; unfold mr1; go_simp; with_reducible rfl
      simp only[mr1,Act.put,sA,sZ,sS]
      refine tK 2 mr2 (v:=?_) ?_ hė ?_
      rotate_left
      ·intro W hSW; unfold mr2; go_simp; with_reducible rfl
      simp only[mr2,Act.put,sA,sZ,sS]
      refine tK 3 mr3 (v:=.agg (itm0C)) ?_ hė ?_
      ·intro W hSW; exact mid_runs (.tmp 150) 53 rfl ga (j*6) rfl (itm0C).toList _ Tryz.underlying53 rfl size_itm hSW.2
      simp only[mr3,Act.put,sA,sZ,sS]
      refine tO 4 mr4 ?_
      intro K hK
      refine step_call 25 #[.tmp 148,.tmp 151] #[53,53] rfl rfl Tryz.func25 rfl rfl [.agg (itm0C),.agg (itm0C)] rfl (((same_zero14 vd)).mono ?_)
      rintro e w8 ⟨rfl,hb8⟩
      refine ⟨_,rfl,?_⟩
      simp only[mr4,Act.put,sA,sZ,sS]
      have hc8:=HCD.out w8 (HBD.out.trans (hb8.mono HBD.out.size))
      have HB78:=hI (HBD.out.trans (hb8.mono HBD.out.size))
      have HB8:=hI (HB7.out.trans ((HBD.out.trans (hb8.mono HBD.out.size)).mono HB7.out.size))
      refine hK.out _ _ (fun _=>hc8) (fun hė=>?_)
      replace hė:=hė (by decide)
      clear hK K hc8 hb8
      refine tK 5 mr5 (v:=?_) ?_ hė ?_
      rotate_left
      ·intro W hSW; unfold mr5; go_simp; with_reducible rfl
      simp only[mr5,Act.put,sA,sZ,sS]
      refine tK 6 mr6 (v:=?_) ?_ hė ?_
      rotate_left
      ·intro W hSW; unfold mr6; go_simp; with_reducible rfl
      simp only[mr6,Act.put,sA,sZ,sS]
      refine tK 7 mr7 (v:=?_) ?_ hė ?_
      rotate_left
      ·intro W hSW; unfold mr7; go_simp; with_reducible rfl
      simp only[mr7,Act.put,sA,sZ,sS]
      refine tK 8 mr8 (v:=?_) ?_ hė ?_
      rotate_left
      ·intro W hSW; have h0:W.cell? ⟨w6.heap.size,0,none⟩=some (.slice none 0 0):=hSW.1.cell 0; unfold mr8; go_simp; with_reducible rfl
      simp only[mr8,Act.put,sA,sZ,sS]
      refine tK 9 mr9 (v:=?_) ?_ hė ?_
      rotate_left
      ·intro W hSW; unfold mr9; go_simp; with_reducible rfl
      simp only[mr9,Act.put,sA,sZ,sS]
      refine tK 10 mr10 (v:=?_) ?_ hė ?_
      rotate_left
      ·intro W hSW; unfold mr10; go_simp; with_reducible rfl
      simp only[mr10,Act.put,sA,sZ,sS]
      refine tK 11 mr11 (v:=?_) ?_ hė ?_
      rotate_left
      ·intro W hSW; unfold mr11; go_simp; with_reducible rfl
      simp only[mr11,Act.put,sA,sZ,sS]
      refine Tillst.skip (i:=12) (oi:=mr12) rfl (by kernel_rfl) (by kernel_rfl) (by kernel_rfl) (by kernel_rfl) (fun _ _ _ h=>h) (by rfl) hė ?_
      simp only[mr12,Act.put,sA,sZ,sS]
      refine Tillst.skip (i:=13) (oi:=mr13) rfl (by kernel_rfl) (by kernel_rfl) (by kernel_rfl) (by kernel_rfl) (fun _ _ _ h=>h) (by rfl) hė ?_
      simp only[mr13,Act.put,sA,sZ,sS]
      refine Tillst.skip (i:=14) (oi:=mr14) rfl (by kernel_rfl) (by kernel_rfl) (by kernel_rfl) (by kernel_rfl) (fun _ _ _ h=>h) (by rfl) hė ?_
      simp only[mr14,Act.put,sA,sZ,sS]
      refine Tillst.skip (i:=15) (oi:=mr15) rfl (by kernel_rfl) (by kernel_rfl) (by kernel_rfl) (by kernel_rfl) (fun _ _ _ h=>h) (by rfl) hė ?_
      simp only[mr15,Act.put,sA,sZ,sS]
      refine Tillst.skip (i:=16) (oi:=mr16) rfl (by kernel_rfl) (by kernel_rfl) (by kernel_rfl) (by kernel_rfl) (fun _ _ _ h=>h) (by rfl) hė ?_
      simp only[mr16,Act.put,sA,sZ,sS]
      refine Tillst.skip (i:=17) (oi:=mr17) rfl (by kernel_rfl) (by kernel_rfl) (by kernel_rfl) (by kernel_rfl) (fun _ _ _ h=>h) (by rfl) hė ?_
      simp only[mr17,Act.put,sA,sZ,sS]
      refine tK 18 mr18 (v:=?_) ?_ hė ?_
      rotate_left
      ·intro W hSW; unfold mr18; go_simp; with_reducible rfl
      simp only[mr18,Act.put,sA,sZ,sS]
      refine tK 19 mr19 (v:=?_) ?_ hė ?_
      rotate_left
      ·intro W hSW; unfold mr19; go_simp; with_reducible rfl
      simp only[mr19,Act.put,sA,sZ,sS]
      refine Tillst.done (by kernel_rfl) ?_ _
      have HEND:=hI (HMF.out.grow HB8.out)
      clear hė HCD HB7 HI7 HW7 HBD HB8 HMF
      go_wp2_with fail
      go_roundw
      case rel=>exact ⟨j+1,rfl,by omega,HEND.out⟩
      case measure =>
       simp only[intOf]
       omega
     ·obtain ⟨c1',c2',rfl,hC1,hC2⟩:∃ c1' c2',it2=itmC bs c1' c2'∧ArrU w6 c1' (keyOf bs)∧ArrU w6 c2' (valOf bs):=by
       rcases hi2 with ⟨h,_⟩ | ⟨bs',d1,d2,h,rfl,_,_,h3,h4⟩
       ·rw[hsome] at h; cases h
       ·rw[hsome] at h
        injection h with h
        subst h
        exact ⟨d1,d2,rfl,h3,h4⟩
      obtain ⟨hrk,hkey⟩:=hm6.get_rok hsome
      have hkk:=rok_klen hrk
      have hk2:klenOf bs=2:=by rw[← hkk.1,hkey]; rfl
      have HKY:=hI hkey
      have HK2:=hI hk2
      have HA:=hI (And.intro hA1 (And.intro hA2 (And.intro hC1 hC2)))
      have HKK:=hI hkk
      clear hkey hA1 hA2 hC1 hC2 hkk hrk hi2 hsome hya hyb hm6
      obtain ⟨w7,hw7⟩:∃ w7,w7=(w6.alloc (.cells itm0C 53)).setRow w6.heap.size (itmC bs a1' a2'):=⟨_,rfl⟩
      have HBN:=hI (Blk.new w6 53 itm0C)
      have hb7:Below w6.heap.size w6 w7:=by rw[hw7]; exact Kept.to_below (((Kept.refl (fun b=>b<w6.heap.size) w6).alloc (fun b h=>h) _).setRow (fun h=>by omega) _) (fun b h=>h)
      have HI7:=hI (show Blk w7 w6.heap.size 53 (itmC bs a1' a2') by rw[hw7]; exact setRow_heap _ _ _ _ _ _ HBN.out)
      have HW7:=hI hw7.symm
      have HB7:=hI hb7
      have HCD:=hI (show ∀ W,Below w7.heap.size w7 W→Blk W w6.heap.size 53 (itmC bs a1' a2')∧W.rangeAt ga (j*6) (itmC bs c1' c2').toList from fun W hW=>⟨HI7.out.below hW HI7.out.lt,fun i v hv=>((hb7.trans (hW.mono hb7.size)).cell (p:=⟨ga,_,none⟩) hgl).trans (hrg i v hv)⟩)
      clear hw7 hb7 hrg
      go_upto_region 40 with (refine wpList_store_rowB (.tmp 20) (.tmp 146) 53 rfl rfl w6.heap.size (itmC bs a1' a2') rfl rfl 53 _ HBN.out size_itm rfl (one_itm bs a1' a2') ?_; rw[HW7.out])
      refine Tillst.region (fun W=>Blk W w6.heap.size 53 (itmC bs a1' a2')∧W.rangeAt ga (j*6) (itmC bs c1' c2').toList) [] (by kernel_rfl) (HCD.out _ (Below.refl _ _).drew) (fun hė=>?_)
      have HBD:=hI ((Below.refl w7.heap.size w7).drew)
      generalize w7.drew=vd at *
      have HQ:=hI (by
       have hbv:=HB7.out.trans (HBD.out.mono HB7.out.size)
       have q1:=Blk.below HA.out.1 hbv (Blk.lt HA.out.1)
       have q2:=Blk.below HA.out.2.1 hbv (Blk.lt HA.out.2.1)
       have q3:=Blk.below HA.out.2.2.1 hbv (Blk.lt HA.out.2.2.1)
       have q4:=Blk.below HA.out.2.2.2 hbv (Blk.lt HA.out.2.2.2)
       have r1:=Arr.rowN (S:=fun b=>b<vd.heap.size) q1 0 (n:=klenOf bs) HKK.out.1 q1.lt
       have r2:=Arr.rowN (S:=fun b=>b<vd.heap.size) q2 0 (n:=vlenOf bs) HKK.out.2.1 q2.lt
       have r3:=Arr.rowN (S:=fun b=>b<vd.heap.size) q3 0 (n:=klenOf bs) HKK.out.1 q3.lt
       have r4:=Arr.rowN (S:=fun b=>b<vd.heap.size) q4 0 (n:=vlenOf bs) HKK.out.2.1 q4.lt
       exact same_yes14 (some ⟨a1',0,none⟩) (klenOf bs) (klenOf bs) (klenOf bs) (some ⟨c1',0,none⟩) (some ⟨a2',0,none⟩) (some ⟨c2',0,none⟩) (vlenOf bs) (vlenOf bs) (vlenOf bs) (keyOf bs) (valOf bs) (flagsOf bs) (expOf bs) (seqOf bs) false vd r1 r3 r2 r4 (fun b h=>h) (fun b h=>h) HKK.out.2.2.2.1 HKK.out.2.2.2.2)
      refine tK 0 mr0 (v:=.agg (itmC bs a1' a2')) ?_ hė ?_
      ·intro W hSW; exact row_runs (.tmp 20) 53 rfl w6.heap.size rfl 53 (itmC bs a1' a2').toList _ Tryz.underlying53 rfl size_itm hSW.1
      simp only[mr0,Act.put,sA,sZ,sS]
      refine tK 1 mr1 (v:=?_) ?_ hė ?_
      rotate_left
      ·intro W hSW; unfold mr1; go_simp; with_reducible rfl
      simp only[mr1,Act.put,sA,sZ,sS]
      refine tK 2 mr2 (v:=?_) ?_ hė ?_
      rotate_left
      ·intro W hSW; unfold mr2; go_simp; with_reducible rfl
      simp only[mr2,Act.put,sA,sZ,sS]
      refine tK 3 mr3 (v:=.agg (itmC bs c1' c2')) ?_ hė ?_
      ·intro W hSW; exact mid_runs (.tmp 150) 53 rfl ga (j*6) rfl (itmC bs c1' c2').toList _ Tryz.underlying53 rfl size_itm hSW.2
      simp only[mr3,Act.put,sA,sZ,sS]
      refine tO 4 mr4 ?_
      intro K hK
      refine step_call 25 #[.tmp 148,.tmp 151] #[53,53] rfl rfl Tryz.func25 rfl rfl [.agg (itmC bs a1' a2'),.agg (itmC bs c1' c2')] rfl ((HQ.out).mono ?_)
      rintro e w8 ⟨rfl,hb8⟩
      refine ⟨_,rfl,?_⟩
      simp only[mr4,Act.put,sA,sZ,sS]
      have hc8:=HCD.out w8 (HBD.out.trans (hb8.mono HBD.out.size))
      have HB78:=hI (HBD.out.trans (hb8.mono HBD.out.size))
      have HB8:=hI (HB7.out.trans ((HBD.out.trans (hb8.mono HBD.out.size)).mono HB7.out.size))
      refine hK.out _ _ (fun _=>hc8) (fun hė=>?_)
      replace hė:=hė (by decide)
      clear hK K hc8 hb8
      refine tK 5 mr5 (v:=?_) ?_ hė ?_
      rotate_left
      ·intro W hSW; unfold mr5; go_simp; with_reducible rfl
      simp only[mr5,Act.put,sA,sZ,sS]
      refine tK 6 mr6 (v:=?_) ?_ hė ?_
      rotate_left
      ·intro W hSW; unfold mr6; go_simp; with_reducible rfl
      simp only[mr6,Act.put,sA,sZ,sS]
      refine tK 7 mr7 (v:=?_) ?_ hė ?_
      rotate_left
      ·intro W hSW; unfold mr7; go_simp; with_reducible rfl
      simp only[mr7,Act.put,sA,sZ,sS]
      refine tK 8 mr8 (v:=?_) ?_ hė ?_
      rotate_left
      ·intro W hSW; have h0:W.cell? ⟨w6.heap.size,0,none⟩=some (.slice (some ⟨a1',0,none⟩) (klenOf bs) (klenOf bs)):=hSW.1.cell 0; unfold mr8; go_simp; with_reducible rfl
      simp only[mr8,Act.put,sA,sZ,sS]
      refine tK 9 mr9 (v:=?_) ?_ hė ?_
      rotate_left
      ·intro W hSW; unfold mr9; go_simp; with_reducible rfl
      simp only[mr9,Act.put,sA,sZ,sS]
      refine tK 10 mr10 (v:=.bool true) ?_ hė ?_
      ·intro W hSW; clear hSW; unfold mr10; go_simp; try simp[hk2]
      simp only[mr10,Act.put,sA,sZ,sS]
      refine tK 11 mr11 (v:=?_) ?_ hė ?_
      rotate_left
      ·intro W hSW; unfold mr11; go_simp; with_reducible rfl
      simp only[mr11,Act.put,sA,sZ,sS]
      refine tK 12 mr12 (v:=?_) ?_ hė ?_
      rotate_left
      ·intro W hSW; unfold mr12; go_simp; with_reducible rfl
      simp only[mr12,Act.put,sA,sZ,sS]
      refine tK 13 mr13 (v:=?_) ?_ hė ?_
      rotate_left
      ·intro W hSW; have h0:W.cell? ⟨w6.heap.size,0,none⟩=some (.slice (some ⟨a1',0,none⟩) (klenOf bs) (klenOf bs)):=hSW.1.cell 0; unfold mr13; go_simp; with_reducible rfl
      simp only[mr13,Act.put,sA,sZ,sS]
      refine tK 14 mr14 (v:=?_) ?_ hė ?_
      rotate_left
      ·intro W hSW; unfold mr14; go_simp; with_reducible rfl
      simp only[mr14,Act.put,sA,sZ,sS]
      refine tO 15 mr15 ?_
      intro K hK
      refine step_call 32 #[.tmp 162] #[3] rfl rfl Tryz.func32 rfl rfl [.int .i64 (j:Nat)] rfl ((key_any (j:Nat) w8).mono ?_)
      rintro e w9 ⟨g9,rfl,hg9,hr9,hb9⟩
      refine ⟨_,rfl,?_⟩
      simp only[mr15,Act.put,sA,sZ,sS]
      have hc9:=HCD.out w9 (HB78.out.trans (hb9.mono HB78.out.size))
      have HB9:=hI (HB8.out.trans (hb9.mono HB8.out.size))
      have HEQ:=hI (show Calls Tryz.prog 40 #[.slice (some ⟨a1',0,none⟩) 2 2,.slice (some ⟨g9,0,none⟩) 2 2] w9 (fun e w'=>e=.returned (.bool true)∧w9=w') by
       have q1:=Blk.below HA.out.1 HB9.out (Blk.lt HA.out.1)
       have q2:ArrU w9 a1' (keyL (j:Nat)):=by rw[← HKY.out]; exact q1
       exact equal_yes _ _ 2 2 2 (keyL (j:Nat)) (fun b=>b<w9.heap.size) (fun b=>b<w9.heap.size) w9 (Arr.rowN (S:=fun b=>b<w9.heap.size) q2 0 (n:=2) rfl q2.lt) (Arr.rowN (S:=fun b=>b<w9.heap.size) hr9 0 (n:=2) rfl hr9.lt) (fun b h=>h) (fun b h=>h) (keyL_bytes _))
      have HC9:=hI hc9
      refine hK.out _ _ (fun _=>hc9) (fun hė=>?_)
      replace hė:=hė (by decide)
      clear hK K hc9 hg9 hr9 hb9
      refine tO 16 mr16 ?_
      intro K hK
      refine step_call 40 #[.tmp 161,.tmp 163] #[31,31] rfl rfl Tryz.func40 rfl rfl [.slice (some ⟨a1',0,none⟩) 2 2,.slice (some ⟨g9,0,none⟩) 2 2] rfl (HEQ.out.mono ?_)
      rintro e w10 ⟨rfl,rfl⟩
      refine ⟨_,rfl,?_⟩
      simp only[mr16,Act.put,sA,sZ,sS]
      refine hK.out _ _ (fun _=>HC9.out) (fun hė=>?_)
      replace hė:=hė (by decide)
      clear hK K
      refine tK 17 mr17 (v:=?_) ?_ hė ?_
      rotate_left
      ·intro W hSW; unfold mr17; go_simp; with_reducible rfl
      simp only[mr17,Act.put,sA,sZ,sS]
      refine tK 18 mr18 (v:=?_) ?_ hė ?_
      rotate_left
      ·intro W hSW; unfold mr18; go_simp; with_reducible rfl
      simp only[mr18,Act.put,sA,sZ,sS]
      refine tK 19 mr19 (v:=?_) ?_ hė ?_
      rotate_left
      ·intro W hSW; unfold mr19; go_simp; with_reducible rfl
      simp only[mr19,Act.put,sA,sZ,sS]
      refine Tillst.done (by kernel_rfl) ?_ _
      have HEND:=hI (HMF.out.grow HB9.out)
      clear hė HCD HB7 HI7 HW7 HBD HB8 HB78 HB9 HMF HA HEQ HQ HC9 HKK HKY
      go_wp2_with fail
      go_roundw
      case rel=>exact ⟨j+1,rfl,by omega,HEND.out⟩
      case measure =>
       simp only[intOf]
       omega
    ·obtain ⟨X,B,s,xs,st,bl,rs,hm,hpg,hws⟩:=hm
     have hln:=len_s hm.sto
     rw[hm.bq,hpg.1] at hln
     have HLN:=hI hln
     have HBE:=hI hm.bel
     clear hm hws hln hpg
     go_wp2_with fail
     refine HLN.out.mono ?_
     rintro e w9 ⟨rfl,rfl⟩
     go_wp2_with fail
     go_ret
     exact ⟨rfl,HBE.out⟩
end
end Go.Proofs.YtdkbpchmnhbhcaaGreat
