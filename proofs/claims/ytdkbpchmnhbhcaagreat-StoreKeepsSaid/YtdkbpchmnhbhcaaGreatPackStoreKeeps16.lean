/- Texts of StoreKeeps, packed. -/
import Derived.Test.YtdkbpchmnhbhcaaGreatPackStoreKeeps15
import Derived.Shelf.Bits.Mul64
import Derived.Lib.MakeNoZero
import Derived.Laws.CopyOwn
import Derived.Laws.CopyRow
import Derived.Laws.Externs
import Derived.Great.BuildSlice
import Derived.Maps.Keyed
import Derived.OwnWalk
import Derived.Lib.Hide
import Derived.Deep.MidRow
import Derived.Deep.Grids
import Derived.SizedLaws
import Derived.ChangeArms
import Derived.Lib.SlBytesConst
set_option linter.unusedVariables false
set_option linter.unusedSimpArgs false
set_option maxRecDepth 100000
set_option maxHeartbeats 16000000
namespace Go.Proofs.YtdkbpchmnhbhcaaGreat
open Go.RowKit
section
attribute [local go_sem] Oper.semAt_some
abbrev rp0:Oper:=⟨some 67,.move (.tmp 10),3,"bytes.go:672",#[],none⟩
abbrev rp1:Oper:=⟨some 68,.move (.tmp 9),31,"bytes.go:672",#[],none⟩
abbrev rp2:Oper:=⟨some 69,.move (.tmp 10),3,"bytes.go:672",#[],none⟩
abbrev rp3:Oper:=⟨some 70,.slice 31 (.tmp 68) (some (.tmp 69)) none none,31,"bytes.go:672",#[⟨1,.data⟩,⟨2,.data⟩],none⟩
abbrev rp4:Oper:=⟨some 71,.move (.tmp 9),31,"bytes.go:672",#[],none⟩
abbrev rp5:Oper:=⟨some 72,.move (.tmp 11),3,"bytes.go:672",#[],none⟩
abbrev rp6:Oper:=⟨some 73,.slice 31 (.tmp 71) none (some (.tmp 72)) none,31,"bytes.go:672",#[⟨4,.data⟩,⟨5,.data⟩],none⟩
abbrev rp7:Oper:=⟨some 74,.call { callee:=.builtin Go.Builtin.copy,args:=#[.tmp 70,.tmp 73],argTypes:=#[31,31] },3,"bytes.go:672",#[⟨3,.data⟩,⟨6,.data⟩],none⟩
abbrev rp8:Oper:=⟨some 75,.binOp Go.BinOp.add 3 (.tmp 67) (.tmp 74) 3,3,"bytes.go:672",#[⟨0,.data⟩,⟨7,.data⟩],none⟩
abbrev rp9:Oper:=⟨some 10,.assign (.tmp 75),3,"bytes.go:672",#[⟨8,.data⟩,⟨7,.chain⟩,⟨0,.phase⟩,⟨1,.phase⟩,⟨2,.phase⟩,⟨3,.phase⟩,⟨4,.phase⟩,⟨5,.phase⟩,⟨6,.phase⟩,⟨7,.phase⟩,⟨8,.phase⟩],none⟩
theorem SV {P:Program} {w:World} {ops:Array Oper} {rest:List Oper} {o:Oper} {a:Act} {Q:Exit→Act→World→Prop} (hgd:o.guard=none) (d s:Operand) (t t':TypeId)
 (ho:o.op=.call { callee:=.builtin .copy,args:=#[d,s],argTypes:=#[t,t'] }) (v u:Value) (hd:a.eval d=v) (hs:a.eval s=u) {v':Value} {w':World}
 (hr:(Builtin.copy_ #[t,t'] o.type #[v,u]).run P w=.ok v' w') (h:wpList P ops Q rest (a.put o.dst v') w'):wpList P ops Q (o::rest) a w:=by
 refine wpList_plain hgd fun K hK=>?_
 unfold Oper.wp
 simp[execOp,ho,resolve,invoke,builtin,hd,hs,hr,Result.andThen]
 exact hK _ _ h
theorem FH {P:Program} {w:World} {ops:Array Oper} {o:Oper} {a:Act} {Q:Exit→Act→World→Prop} {K:Act→World→Prop} {E:Prop} (d s:Operand) (t t':TypeId)
 (ho:o.op=.call { callee:=.builtin .copy,args:=#[d,s],argTypes:=#[t,t'] }) (hgd:Region.wanted o (yielded ops a.tmps)=true) (v u:Value) (hd:a.eval d=v) (hs:a.eval s=u) {v':Value} {w':World}
 (hr:(Builtin.copy_ #[t,t'] o.type #[v,u]).run P w=.ok v' w') (h:K (a.put o.dst v') w'):if Region.wanted o (yielded ops a.tmps)=true then Oper.wp P o a w K Q else E:=by
 rw[if_pos hgd]
 unfold Oper.wp
 simp[execOp,ho,resolve,invoke,builtin,hd,hs,hr,Result.andThen]
 exact h
theorem La (n:Nat) (hn:n≤513) (w:World):Calls Tryz.prog 194 #[.int .u64 1,.int .u64 n] w fun e w'=>e=.returned (.tuple #[.int .u64 0,.int .u64 n])∧w'=w:=by
 have hm:bits .and .u64 (n:Int) 4294967295=n:=by
  rw[Mul64.maskN n (by omega),Nat.mod_eq_of_lt (by omega)]
 have h1:bits .and .u64 1 4294967295=1:=by decide
 have hd:(n:Int) / 4294967296=0:=Int.ediv_eq_zero_of_lt (by omega) (by omega)
 go_enter Tryz.func194,Tryz.ntmps194
 go_wp2
 skip
 go_ret2
 exact ⟨rfl,rfl⟩
theorem mul_one (n:Nat) (hn:n≤513) (w:World):Calls Tryz.prog 147 #[.int .u64 1,.int .u64 n] w fun e w'=>e=.returned (.tuple #[.int .u64 0,.int .u64 n])∧w'=w:=by
 have HM:=hI (La n hn w)
 go_enter Tryz.func147,Tryz.ntmps147
 go_wp2_with fail
 refine HM.out.mono ?_
 rintro e w1 ⟨rfl,rfl⟩
 go_wp2
 (first | go_ret | go_ret2)
 exact ⟨rfl,rfl⟩
def Q6 (w0 wr:World) (g n:Nat) (b:Int) (k:Nat):Prop:=Below g w0 wr∧∃ cs,z8 wr g 5 cs∧n≤cs.size∧∀ j,j<k→cs[j]? = some (.int .u8 b)
theorem Q6.copy {w0 wr:World} {g n:Nat} {b:Int} {k:Nat} (h:Q6 w0 wr g n b k) (ty:TypeId) (ch sLen dLen dCap sCap:Nat) (a:Addr) (hmin:ch=Nat.min sLen dLen) (hk:k+ch≤n) (hsrc:∀ j,j<ch→wr.cell? (a.add j)=some (.int .u8 b)) :
 ∃ wr',(Builtin.copy_ #[31,31] ty #[.slice (some ⟨g,k,none⟩) dLen dCap,.slice (some a) sLen sCap]).run Tryz.prog wr=.ok (.int .i64 ch) wr'∧Q6 w0 wr' g n b (k+ch):=by
 obtain ⟨hb,cs,hB,hs,hc⟩:=h
 have hr:=run_copy_row (P:=Tryz.prog) wr 31 31 ty 5 g k dLen dCap a sLen sCap cs 5 (List.replicate ch (.int .u8 b)) Tryz.underlying31 fM hB (by rw[List.length_replicate]; exact hmin)
  (fun j v hj=>by
    rw[List.getElem?_replicate] at hj
    split at hj
    ·rename_i h1
     cases hj
     exact hsrc j h1
    ·cases hj) (by rw[List.length_replicate]; omega) (fun v hv=>by rw[(List.mem_replicate.1 hv).2]; rfl)
 rw[List.length_replicate] at hr
 refine ⟨_,hr,below_setRow hb (nR _) _,_,setRow_heap _ _ _ _ _ _ hB,?_,fun j hj=>?_⟩
 ·simp
  omega
 ·have hcl:cs.toList.length=cs.size:=by simp
  rw[List.getElem?_toArray,List.append_assoc]
  rcases Nat.lt_or_ge j k with h1 | h1
  ·rw[List.getElem?_append_left (by rw[List.length_take]; omega),List.getElem?_take,if_pos h1,Array.getElem?_toList]
   exact hc j h1
  ·rw[List.getElem?_append_right (by rw[List.length_take]; omega),List.length_take,Nat.min_eq_left (by omega),List.getElem?_append_left (by rw[List.length_replicate]; omega),List.getElem?_replicate,if_pos (by omega)]
theorem Q6.cell {w0 wr:World} {g n:Nat} {b:Int} {k:Nat} (h:Q6 w0 wr g n b k) (j:Nat) (hj:j<k):wr.cell? ⟨g,j,none⟩=some (.int .u8 b):=by
 obtain ⟨hb,cs,hB,hs,hc⟩:=h
 rw[← hc j hj]
 exact hB.cell j
theorem FL {S:Nat→Prop} (q o c:Nat) (b:Int) (w:World):Calls Tryz.prog 96 #[.slice (some ⟨q,o,none⟩) 1 c,.int .i64 0] w fun e w'=>(∃ g c',e=.returned (.slice (some ⟨g,0,none⟩) 0 c'))∧Below w.heap.size w w':=by
 go_enter Tryz.func96,Tryz.ntmps96
 go_wp2
 (first | go_ret | go_ret2)
 exact ⟨⟨_,_,rfl⟩,(Below.refl _ w).alloc (nR _) _⟩
theorem R3 (q o c n:Nat) (b:Int) (hn:n≤513) (h0:0<n) (w:World) (hq:w.cell? ⟨q,o,none⟩=some (.int .u8 b)) :
 Calls Tryz.prog 96 #[.slice (some ⟨q,o,none⟩) 1 c,.int .i64 n] w fun e w'=>(∃ g,e=.returned (.slice (some ⟨g,0,none⟩) n n)∧w.heap.size≤g∧Q6 w w' g n b n):=by
 have HM:=hI (mul_one n hn w)
 have HQ:=hI hq
 obtain ⟨cs,hrunM,hle,_⟩:=Lib.run_makeNoZero (P:=Tryz.prog) w #[3] 31 5 Tryz.underlying31 n (by omega)
 have hcall:(callFunc 148 #[.int .i64 (n:Int)]).run Tryz.prog w=.ok (.value (.slice (some ⟨w.heap.size,0,none⟩) n cs.size)) ((w.alloc (.cells cs 5)).drewN 2):=by
  rw[run_callFunc_extern Tryz.func148 (by kernel_rfl) (by kernel_rfl) (by kernel_rfl) (e:=Extern.BytealgMakeNoZero.makeNoZero #[3] #[31]) (by kernel_rfl),hrunM]
  rfl
 clear hrunM hq
 have i1:(n:Int)≤(cs.size:Int):=by omega
 have hB0:Q6 w ((w.alloc (.cells cs 5)).drewN 2) w.heap.size n b 0:=⟨⟨rfl,rfl,rfl,by simp,fun k hk=>heap_alloc_old w _ hk⟩,cs,z8.new w _ _,hle,fun j hj=>by omega⟩
 obtain ⟨w1,hr1,hB1⟩:=hB0.copy 3 1 1 n n c ⟨q,o,none⟩ (by show 1=min 1 n; omega) (by omega) (fun j hj=>by
  obtain rfl:j=0:=by omega
  have h1:=World.block_lt_of_cell? w _ HQ.out
  rw[show (Addr.add ⟨q,o,none⟩ 0)=⟨q,o,none⟩ from rfl,hB0.1.cell (p:=⟨q,o,none⟩) h1]
  exact HQ.out)
 have HB1:=hI hB1
 clear hB0 hB1
 go_enter Tryz.func96,Tryz.ntmps96
 go_wp2_with fail
 refine HM.out.mono ?_
 rintro e w2 ⟨rfl,rfl⟩
 go_wp2_with (at_builtin; refine SV _ rfl _ _ 31 31 rfl _ _ rfl rfl hr1 ?_)
 clear hcall i1 hr1 HM HQ
 go_loopw [10] (fun v wr=>∃ k:Nat,1≤k∧k≤n∧v=.int .i64 k∧Q6 w2 wr w2.heap.size n b k) (fun v _=>n-(intOf v).toNat)
 case atStart=>exact ⟨1,by omega,by omega,rfl,HB1.out⟩
 case round =>
  obtain ⟨k,hk1,hk2,rfl,hR⟩:=hrel
  have HR:=hI hR
  clear hR
  by_cases hlt:k<n
  ·obtain ⟨ch,hch⟩:∃ ch,ch=min k (n-k):=⟨_,rfl⟩
   obtain ⟨w3,hr3,hR3⟩:=(show Q6 w2 wr.drew w2.heap.size n b k from ⟨HR.out.1.drew,HR.out.2⟩).copy 3 ch k (n-k) (n-k) n ⟨w2.heap.size,0,none⟩ (by rw[hch]) (by omega) (fun j hj=>by
    rw[show (Addr.add ⟨w2.heap.size,0,none⟩ j)=⟨w2.heap.size,j,none⟩ by rw[add_plain,Nat.zero_add]]
    exact HR.out.cell j (by omega))
   have HR3:=hI hR3
   have Y8:=hI hch
   have hc1:1≤ch:=by omega
   have hc2:k+ch≤n:=by omega
   have hmn:∀ (ts:Array TypeId) (t:TypeId) (W:World),(Builtin.min_ ts t #[.int .i64 (k:Int),.int .i64 (n:Int)]).run Tryz.prog W=.ok (.int .i64 (k:Int)) W:=fun ts t W=>by
    simp[Builtin.min_,Builtin.min2]
    try (intro h; omega)
   have hs1:∀ W,(Instr.slice 31 (.slice (some ⟨w2.heap.size,0,none⟩) n n) (some (.int .i64 (k:Int))) none none).run Tryz.prog W=.ok (.slice (some ⟨w2.heap.size,k,none⟩) (n-k) (n-k)) W:=fun W=>by
    have hu:Tryz.prog.underlying 31=some (.slice (Tryz.prog.elem 31)):=by kernel_rfl
    have he:Tryz.prog.elem 31=5:=by kernel_rfl
    rw[run_slice_l (P:=Tryz.prog) W 31 (some ⟨w2.heap.size,0,none⟩) n n hu .i64 k (by omega) (by omega),he,Tryz.sizeOf5]
    have hne:¬ n=k:=by omega
    simp[Result.andThen,sliced,hne,add_plain]
   have hs2:∀ W,(Instr.slice 31 (.slice (some ⟨w2.heap.size,0,none⟩) n n) none (some (.int .i64 (k:Int))) none).run Tryz.prog W=.ok (.slice (some ⟨w2.heap.size,0,none⟩) k n) W:=fun W=>by
    have hu:Tryz.prog.underlying 31=some (.slice (Tryz.prog.elem 31)):=by kernel_rfl
    have he:Tryz.prog.elem 31=5:=by kernel_rfl
    rw[run_slice_h (P:=Tryz.prog) W 31 (some ⟨w2.heap.size,0,none⟩) n n hu .i64 k (by omega) (by omega),he,Tryz.sizeOf5]
    have hne:¬ n=0:=by omega
    simp[Result.andThen,sliced,hne,add_plain]
   clear hR3 hch
   go_upto_region 20 with fail
   refine zB.region (fun W=>True) [] (by kernel_rfl) trivial (fun hė=>?_)
   generalize wr.drew=vd at *
   refine tK 0 rp0 (v:=?_) ?_ hė ?_
   rotate_left
   ·intro W hSW; unfold rp0; go_simp; with_reducible rfl
   simp only[rp0,Act.put,sA,sZ,sS]
   refine tK 1 rp1 (v:=?_) ?_ hė ?_
   rotate_left
   ·intro W hSW; unfold rp1; go_simp; with_reducible rfl
   simp only[rp1,Act.put,sA,sZ,sS]
   refine tK 2 rp2 (v:=?_) ?_ hė ?_
   rotate_left
   ·intro W hSW; unfold rp2; go_simp; with_reducible rfl
   simp only[rp2,Act.put,sA,sZ,sS]
   refine tK 3 rp3 (v:=?_) ?_ hė ?_
   rotate_left
   ·intro W hSW; unfold rp3; go_simp; with_reducible rfl
   simp only[rp3,Act.put,sA,sZ,sS]
   refine tK 4 rp4 (v:=?_) ?_ hė ?_
   rotate_left
   ·intro W hSW; unfold rp4; go_simp; with_reducible rfl
   simp only[rp4,Act.put,sA,sZ,sS]
   refine tK 5 rp5 (v:=?_) ?_ hė ?_
   rotate_left
   ·intro W hSW; unfold rp5; go_simp; with_reducible rfl
   simp only[rp5,Act.put,sA,sZ,sS]
   refine tK 6 rp6 (v:=?_) ?_ hė ?_
   rotate_left
   ·intro W hSW; unfold rp6; go_simp; with_reducible rfl
   simp only[rp6,Act.put,sA,sZ,sS]
   refine tO 7 rp7 ?_
   intro K hK
   refine FH (.tmp 70) (.tmp 73) 31 31 rfl rfl _ _ rfl rfl hr3 ?_
   simp only[rp7,Act.put,sA,sZ,sS]
   refine hU hK rfl _ _ trivial (fun hė=>?_)
   clear hK K
   have hwr:IntKind.i64.wrap ((k:Int)+(ch:Int))=((k+ch:Nat):Int):=by rw[IntKind.wrap_i64]; omega
   refine tK 8 rp8 (v:=.int .i64 ((k+ch:Nat):Int)) ?_ hė ?_
   ·intro W hSW; clear hSW; unfold rp8; go_simp
   simp only[rp8,Act.put,sA,sZ,sS]
   refine tK 9 rp9 (v:=?_) ?_ hė ?_
   rotate_left
   ·intro W hSW; unfold rp9; go_simp; with_reducible rfl
   simp only[rp9,Act.put,sA,sZ,sS]
   refine zB.done (by kernel_rfl) ?_ _
   go_roundw
   case rel =>
    (repeat apply Exists.intro)
    exact ⟨⟨k+ch,by omega,hc2,by go_num,HR3.out⟩,rfl⟩
   case measure=>simp[intOf]; omega
  ·obtain rfl:k=n:=by omega
   go_wp2
   (first | go_ret | go_ret2)
   exact ⟨_,rfl,nR _,HR.out⟩
end
section
attribute [local go_sem] Oper.semAt_some
abbrev im0:Oper:=⟨some 3,.fieldAddr 74 (.tmp 1) 1,0,"law.go:34",#[],none⟩
abbrev im1:Oper:=⟨some 4,.load 3 (.tmp 3),3,"law.go:34",#[⟨0,.data⟩],none⟩
abbrev im2:Oper:=⟨some 5,.call { callee:=.value (.func 32),args:=#[.tmp 4],argTypes:=#[3] },31,"law.go:34",#[⟨1,.data⟩],none⟩
abbrev im3:Oper:=⟨some 6,.fieldAddr 74 (.tmp 1) 4,0,"law.go:34",#[],none⟩
abbrev im4:Oper:=⟨some 7,.load 30 (.tmp 6),30,"law.go:34",#[⟨3,.data⟩],none⟩
abbrev im5:Oper:=⟨some 8,.convert 30 5 (.tmp 7),5,"law.go:34",#[⟨4,.data⟩],none⟩
abbrev im6:Oper:=⟨some 9,.buildSlice 31 1 #[(0,.tmp 8)],31,"law.go:34",#[⟨5,.data⟩],none⟩
abbrev im7:Oper:=⟨some 10,.fieldAddr 74 (.tmp 1) 2,0,"law.go:34",#[],none⟩
abbrev im8:Oper:=⟨some 11,.load 3 (.tmp 10),3,"law.go:34",#[⟨7,.data⟩],none⟩
abbrev im9:Oper:=⟨some 12,.convert 3 75 (.tmp 11),75,"law.go:34",#[⟨8,.data⟩],none⟩
abbrev I4:Oper:=⟨some 13,.binOp Go.BinOp.rem 75 (.tmp 12) (.const (.int .u64 514)) 75,75,"law.go:34",#[⟨9,.data⟩],none⟩
abbrev Ez:Oper:=⟨some 14,.convert 75 3 (.tmp 13),3,"law.go:34",#[⟨10,.data⟩],none⟩
abbrev Rn:Oper:=⟨some 15,.call { callee:=.value (.func 96),args:=#[.tmp 9,.tmp 14],argTypes:=#[31,3] },31,"law.go:34",#[⟨6,.data⟩,⟨11,.data⟩,⟨2,.chain⟩],none⟩
abbrev Ey:Oper:=⟨some 16,.fieldAddr 74 (.tmp 1) 2,0,"law.go:34",#[],none⟩
abbrev Ew:Oper:=⟨some 17,.load 3 (.tmp 16),3,"law.go:34",#[⟨13,.data⟩],none⟩
abbrev Ev:Oper:=⟨some 18,.convert 3 29 (.tmp 17),29,"law.go:34",#[⟨14,.data⟩],none⟩
abbrev Eu:Oper:=⟨some 19,.fieldAddr 74 (.tmp 1) 5,0,"law.go:34",#[],none⟩
abbrev Et:Oper:=⟨some 20,.load 29 (.tmp 19),29,"law.go:34",#[⟨16,.data⟩],none⟩
abbrev Es:Oper:=⟨some 21,.fieldAddr 74 (.tmp 1) 4,0,"law.go:34",#[],none⟩
abbrev Er:Oper:=⟨some 22,.load 30 (.tmp 21),30,"law.go:34",#[⟨18,.data⟩],none⟩
abbrev Ep:Oper:=⟨some 23,.fieldAddr 74 (.tmp 1) 2,0,"law.go:34",#[],none⟩
abbrev Eo:Oper:=⟨some 24,.load 3 (.tmp 23),3,"law.go:34",#[⟨20,.data⟩],none⟩
abbrev En:Oper:=⟨some 25,.binOp Go.BinOp.rem 3 (.tmp 24) (.const (.int .i64 2)) 3,3,"law.go:34",#[⟨21,.data⟩],none⟩
abbrev Em:Oper:=⟨some 26,.binOp Go.BinOp.eql 3 (.tmp 25) (.const (.int .i64 0)) 3,4,"law.go:34",#[⟨22,.data⟩],none⟩
abbrev Vm:Oper:=⟨some 27,.build 53 #[(0,.tmp 5),(1,.tmp 15),(2,.tmp 18),(3,.tmp 20),(4,.tmp 22),(5,.tmp 26)],53,"law.go:34",#[⟨2,.data⟩,⟨12,.data⟩,⟨15,.data⟩,⟨17,.data⟩,⟨19,.data⟩,⟨23,.data⟩],none⟩
abbrev Rm:Oper:=⟨none,.store 53 (.tmp 2) (.tmp 27),0,"law.go:34",#[⟨24,.data⟩,⟨12,.chain⟩,⟨0,.phase⟩,⟨1,.phase⟩,⟨2,.phase⟩,⟨3,.phase⟩,⟨4,.phase⟩,⟨5,.phase⟩,⟨6,.phase⟩,⟨7,.phase⟩,⟨8,.phase⟩,⟨9,.phase⟩,⟨10,.phase⟩,⟨11,.phase⟩,⟨12,.phase⟩,⟨13,.phase⟩,⟨14,.phase⟩,⟨15,.phase⟩,⟨16,.phase⟩,⟨17,.phase⟩,⟨18,.phase⟩,⟨19,.phase⟩,⟨20,.phase⟩,⟨21,.phase⟩,⟨22,.phase⟩,⟨23,.phase⟩,⟨24,.phase⟩],none⟩
theorem KF (q n:Nat) (b:Int) (hn:n≤513) (w:World) (hq:w.cell? ⟨q,0,none⟩=some (.int .u8 b)) :
 Calls Tryz.prog 96 #[.slice (some ⟨q,0,none⟩) 1 1,.int .i64 n] w fun e w'=>∃ g c,e=.returned (.slice (some ⟨g,0,none⟩) n c)∧zW .u8 w' (fun b=>w.heap.size≤b) (some ⟨g,0,none⟩) n (List.replicate n b)∧Below w.heap.size w w':=by
 rcases Nat.eq_zero_or_pos n with rfl | h0
 ·refine (FL (S:=fun _=>True) q 0 1 b w).mono ?_
  rintro e w1 ⟨⟨g,c',rfl⟩,hb⟩
  exact ⟨g,c',rfl,xD.nil _ _ _ _ _,hb⟩
 ·refine (R3 q 0 1 n b hn h0 w hq).mono ?_
  rintro e w1 ⟨g,rfl,hg,hr⟩
  refine ⟨g,n,rfl,⟨List.length_replicate,fun _=>⟨g,0,rfl,hg,fun j hj=>?_⟩⟩,hr.1.mono hg⟩
  rw[Nat.zero_add,hr.cell j hj]
  simp[List.getD,List.getElem?_replicate,hj]
section
variable {w:World} {o:Oper} {a:Act} {Q:Exit→Act→World→Prop} {K:Act→World→Prop} {E:Prop} {ops:Array Oper}
theorem WU (x:Operand) (ho:o.op=.buildSlice 31 1 #[(0,x)]) (hgd:Region.wanted o (yielded ops a.tmps)=true) (b:Int) (hx:a.eval x=.int .u8 b)
 (h:K (a.put o.dst (.slice (some ⟨w.heap.size,0,none⟩) 1 1)) (w.alloc (.cells #[.int .u8 b] 5))) :
 if Region.wanted o (yielded ops a.tmps)=true then Oper.wp Tryz.prog o a w K Q else E:=by
 rw[if_pos hgd]
 obtain ⟨i0,hi,hz0,hz1,hz2⟩:=info_parts rC
 refine wp_buildSlice 31 5 1 #[(0,x)] ho #[.int .u8 b] i0 _ Tryz.underlying31 hi hz0 (by rw[hz1]; decide) (by rw[hz1]; decide) ?_ h
 rw[hz1]
 have e:(Array.map (fun (p:Nat × Operand)=>(p.1,a.eval p.2)) #[(0,x)]).toList=[(0,.int .u8 b)]:=by simp[hx]
 refine (congrArg _ e).trans ?_
 kernel_rfl
end
def mX (sz:Int):Nat:=(sz % 18446744073709551616 % 514).toNat
theorem Lr (sz:Int):mX sz≤513:=by unfold mX; omega
abbrev rA (g:Nat) (g2 c2:Nat) (sz x q:Int):Array Value:=#[.slice (some ⟨g,0,none⟩) 2 2,.slice (some ⟨g2,0,none⟩) (mX sz) c2,.int .u32 (sz % 4294967296),.int .u32 x,.int .u64 q,.bool (sz.tmod 2==0)]
def zJk (w:World) (ky sz x q:Int) (e:Ending) (w':World):Prop :=
 ∃ g g2 c2,e=.returned (.agg (rA g g2 c2 sz x q))∧w.heap.size≤g∧zn w' g (jf ky)∧zW .u8 w' (fun b=>w.heap.size≤b) (some ⟨g2,0,none⟩) (mX sz) (List.replicate (mX sz) (q % 256))∧Below w.heap.size w w'
theorem zDE (kd ky sz at' q x:Int) (w:World) :
 Calls Tryz.prog 31 #[.agg #[.int .i64 kd,.int .i64 ky,.int .i64 sz,.int .i64 at',.int .u64 q,.int .u32 x]] w (zJk w ky sz x q):=by
 obtain ⟨w1,hw1⟩:∃ w1,w1=(w.alloc (.cells #[.int .i64 kd,.int .i64 ky,.int .i64 sz,.int .i64 at',.int .u64 q,.int .u32 x] 74)).alloc (.cells qN 53):=⟨_,rfl⟩
 have hb1:Below w.heap.size w w1:=by rw[hw1]; exact ((Below.refl _ w).alloc (nR _) _).alloc (by simp) _
 have HO1:=hI (show z8 w1 w.heap.size 74 #[.int .i64 kd,.int .i64 ky,.int .i64 sz,.int .i64 at',.int .u64 q,.int .u32 x] by rw[hw1]; exact (z8.new w _ _).alloc _)
 have HI1:=hI (show z8 w1 (w.heap.size+1) 53 qN by rw[hw1]; exact zY w _ _ _)
 have HC:=hI (show ∀ W,Below w1.heap.size w1 W→W.cell? ⟨w.heap.size,1,none⟩=some (.int .i64 ky)∧W.cell? ⟨w.heap.size,2,none⟩=some (.int .i64 sz)∧W.cell? ⟨w.heap.size,4,none⟩=some (.int .u64 q)∧W.cell? ⟨w.heap.size,5,none⟩=some (.int .u32 x) from fun W hW=>by
  have h9:=HO1.out.below hW HO1.out.lt
  exact ⟨h9.cell 1,h9.cell 2,h9.cell 4,h9.cell 5⟩)
 have HB1:=hI hb1
 have HW1:=hI hw1
 clear hb1 hw1
 go_enter Tryz.func31,Tryz.ntmps31
 go_upto_region 1 with fail
 rw[← HW1.out]
 refine zB.region (fun W=>Below w1.heap.size w1 W) [25] (by kernel_rfl) ((Below.refl _ _).drew) (fun hė=>?_)
 generalize w1.drew=vd at *
 have hw8:IntKind.u8.wrap q=q % 256:=IntKind.wrap_u8 q
 have hw64:IntKind.u64.wrap sz=sz % 18446744073709551616:=IntKind.wrap_u64 sz
 have hw32:IntKind.u32.wrap sz=sz % 4294967296:=IntKind.wrap_u32 sz
 have hwn:IntKind.i64.wrap (sz % 18446744073709551616 % 514)=(mX sz:Nat):=by rw[IntKind.wrap_i64]; unfold mX; omega
 refine zB.takeG (i:=0) (oi:=im0) (v:=?_) rfl (by kernel_rfl) (by kernel_rfl) (by kernel_rfl) (by kernel_rfl) (by kernel_rfl) (fun _ _ _ h=>h) (by rfl) ?_ hė ?_
 rotate_left
 ·intro W hSW; unfold im0; go_simp; with_reducible rfl
 simp only[im0,Act.put,sA,sZ,sS]
 refine zB.takeG (i:=1) (oi:=im1) (v:=?_) rfl (by kernel_rfl) (by kernel_rfl) (by kernel_rfl) (by kernel_rfl) (by kernel_rfl) (fun _ _ _ h=>h) (by rfl) ?_ hė ?_
 rotate_left
 ·intro W hSW; have h9:=(HC.out W hSW).1; clear hSW; unfold im1; go_simp; with_reducible rfl
 simp only[im1,Act.put,sA,sZ,sS]
 refine zB.takeG (i:=3) (oi:=im3) (v:=?_) rfl (by kernel_rfl) (by kernel_rfl) (by kernel_rfl) (by kernel_rfl) (by kernel_rfl) (fun _ _ _ h=>h) (by rfl) ?_ hė ?_
 rotate_left
 ·intro W hSW; unfold im3; go_simp; with_reducible rfl
 simp only[im3,Act.put,sA,sZ,sS]
 refine zB.takeG (i:=4) (oi:=im4) (v:=?_) rfl (by kernel_rfl) (by kernel_rfl) (by kernel_rfl) (by kernel_rfl) (by kernel_rfl) (fun _ _ _ h=>h) (by rfl) ?_ hė ?_
 rotate_left
 ·intro W hSW; have h9:=(HC.out W hSW).2.2.1; clear hSW; unfold im4; go_simp; with_reducible rfl
 simp only[im4,Act.put,sA,sZ,sS]
 refine zB.takeG (i:=5) (oi:=im5) (v:=.int .u8 (q % 256)) rfl (by kernel_rfl) (by kernel_rfl) (by kernel_rfl) (by kernel_rfl) (by kernel_rfl) (fun _ _ _ h=>h) (by rfl) ?_ hė ?_
 ·intro W hSW; clear hSW; unfold im5; go_simp
 simp only[im5,Act.put,sA,sZ,sS]
 refine zB.takeG (i:=7) (oi:=im7) (v:=?_) rfl (by kernel_rfl) (by kernel_rfl) (by kernel_rfl) (by kernel_rfl) (by kernel_rfl) (fun _ _ _ h=>h) (by rfl) ?_ hė ?_
 rotate_left
 ·intro W hSW; unfold im7; go_simp; with_reducible rfl
 simp only[im7,Act.put,sA,sZ,sS]
 refine zB.takeG (i:=8) (oi:=im8) (v:=?_) rfl (by kernel_rfl) (by kernel_rfl) (by kernel_rfl) (by kernel_rfl) (by kernel_rfl) (fun _ _ _ h=>h) (by rfl) ?_ hė ?_
 rotate_left
 ·intro W hSW; have h9:=(HC.out W hSW).2.1; clear hSW; unfold im8; go_simp; with_reducible rfl
 simp only[im8,Act.put,sA,sZ,sS]
 refine zB.takeG (i:=9) (oi:=im9) (v:=.int .u64 (sz % 18446744073709551616)) rfl (by kernel_rfl) (by kernel_rfl) (by kernel_rfl) (by kernel_rfl) (by kernel_rfl) (fun _ _ _ h=>h) (by rfl) ?_ hė ?_
 ·intro W hSW; clear hSW; unfold im9; go_simp
 simp only[im9,Act.put,sA,sZ,sS]
 refine zB.takeG (i:=10) (oi:=I4) (v:=.int .u64 (sz % 18446744073709551616 % 514)) rfl (by kernel_rfl) (by kernel_rfl) (by kernel_rfl) (by kernel_rfl) (by kernel_rfl) (fun _ _ _ h=>h) (by rfl) ?_ hė ?_
 ·intro W hSW; clear hSW; unfold I4; go_simp; exact Int.tmod_eq_emod_of_nonneg (by omega)
 simp only[I4,Act.put,sA,sZ,sS]
 refine zB.takeG (i:=11) (oi:=Ez) (v:=.int .i64 (mX sz:Nat)) rfl (by kernel_rfl) (by kernel_rfl) (by kernel_rfl) (by kernel_rfl) (by kernel_rfl) (fun _ _ _ h=>h) (by rfl) ?_ hė ?_
 ·intro W hSW; clear hSW; unfold Ez; go_simp
 simp only[Ez,Act.put,sA,sZ,sS]
 refine zB.takeG (i:=13) (oi:=Ey) (v:=?_) rfl (by kernel_rfl) (by kernel_rfl) (by kernel_rfl) (by kernel_rfl) (by kernel_rfl) (fun _ _ _ h=>h) (by rfl) ?_ hė ?_
 rotate_left
 ·intro W hSW; unfold Ey; go_simp; with_reducible rfl
 simp only[Ey,Act.put,sA,sZ,sS]
 refine zB.takeG (i:=14) (oi:=Ew) (v:=?_) rfl (by kernel_rfl) (by kernel_rfl) (by kernel_rfl) (by kernel_rfl) (by kernel_rfl) (fun _ _ _ h=>h) (by rfl) ?_ hė ?_
 rotate_left
 ·intro W hSW; have h9:=(HC.out W hSW).2.1; clear hSW; unfold Ew; go_simp; with_reducible rfl
 simp only[Ew,Act.put,sA,sZ,sS]
 refine zB.takeG (i:=15) (oi:=Ev) (v:=.int .u32 (sz % 4294967296)) rfl (by kernel_rfl) (by kernel_rfl) (by kernel_rfl) (by kernel_rfl) (by kernel_rfl) (fun _ _ _ h=>h) (by rfl) ?_ hė ?_
 ·intro W hSW; clear hSW; unfold Ev; go_simp
 simp only[Ev,Act.put,sA,sZ,sS]
 refine zB.takeG (i:=16) (oi:=Eu) (v:=?_) rfl (by kernel_rfl) (by kernel_rfl) (by kernel_rfl) (by kernel_rfl) (by kernel_rfl) (fun _ _ _ h=>h) (by rfl) ?_ hė ?_
 rotate_left
 ·intro W hSW; unfold Eu; go_simp; with_reducible rfl
 simp only[Eu,Act.put,sA,sZ,sS]
 refine zB.takeG (i:=17) (oi:=Et) (v:=?_) rfl (by kernel_rfl) (by kernel_rfl) (by kernel_rfl) (by kernel_rfl) (by kernel_rfl) (fun _ _ _ h=>h) (by rfl) ?_ hė ?_
 rotate_left
 ·intro W hSW; have h9:=(HC.out W hSW).2.2.2; clear hSW; unfold Et; go_simp; with_reducible rfl
 simp only[Et,Act.put,sA,sZ,sS]
 refine zB.takeG (i:=18) (oi:=Es) (v:=?_) rfl (by kernel_rfl) (by kernel_rfl) (by kernel_rfl) (by kernel_rfl) (by kernel_rfl) (fun _ _ _ h=>h) (by rfl) ?_ hė ?_
 rotate_left
 ·intro W hSW; unfold Es; go_simp; with_reducible rfl
 simp only[Es,Act.put,sA,sZ,sS]
 refine zB.takeG (i:=19) (oi:=Er) (v:=?_) rfl (by kernel_rfl) (by kernel_rfl) (by kernel_rfl) (by kernel_rfl) (by kernel_rfl) (fun _ _ _ h=>h) (by rfl) ?_ hė ?_
 rotate_left
 ·intro W hSW; have h9:=(HC.out W hSW).2.2.1; clear hSW; unfold Er; go_simp; with_reducible rfl
 simp only[Er,Act.put,sA,sZ,sS]
 refine zB.takeG (i:=20) (oi:=Ep) (v:=?_) rfl (by kernel_rfl) (by kernel_rfl) (by kernel_rfl) (by kernel_rfl) (by kernel_rfl) (fun _ _ _ h=>h) (by rfl) ?_ hė ?_
 rotate_left
 ·intro W hSW; unfold Ep; go_simp; with_reducible rfl
 simp only[Ep,Act.put,sA,sZ,sS]
 refine zB.takeG (i:=21) (oi:=Eo) (v:=?_) rfl (by kernel_rfl) (by kernel_rfl) (by kernel_rfl) (by kernel_rfl) (by kernel_rfl) (fun _ _ _ h=>h) (by rfl) ?_ hė ?_
 rotate_left
 ·intro W hSW; have h9:=(HC.out W hSW).2.1; clear hSW; unfold Eo; go_simp; with_reducible rfl
 simp only[Eo,Act.put,sA,sZ,sS]
 refine zB.takeG (i:=22) (oi:=En) (v:=.int .i64 (sz.tmod 2)) rfl (by kernel_rfl) (by kernel_rfl) (by kernel_rfl) (by kernel_rfl) (by kernel_rfl) (fun _ _ _ h=>h) (by rfl) ?_ hė ?_
 ·intro W hSW; clear hSW; unfold En; go_simp
 simp only[En,Act.put,sA,sZ,sS]
 refine zB.takeG (i:=23) (oi:=Em) (v:=.bool (sz.tmod 2==0)) rfl (by kernel_rfl) (by kernel_rfl) (by kernel_rfl) (by kernel_rfl) (by kernel_rfl) (fun _ _ _ h=>h) (by rfl) ?_ hė ?_
 ·intro W hSW; clear hSW; unfold Em; go_simp
 simp only[Em,Act.put,sA,sZ,sS]
 clear hw8 hw64 hw32 hwn
 refine zB.two (i:=2) (j:=6) (o:=im2) (o':=im6) (by kernel_rfl) rfl rfl ?_ ?_
 ·intro K hK
  refine zN 32 #[.tmp 4] #[3] rfl rfl Tryz.func32 rfl rfl [.int .i64 ky] rfl ((dB ky vd).mono ?_)
  rintro e w4 ⟨g,rfl,hg4,hr4,hb4⟩
  refine ⟨_,rfl,?_⟩
  simp only[im2,Act.put,sA,sZ,sS]
  have PW:=hė.trans (hb4.mono hė.size)
  have zIp:=hI hr4
  have HG:=hI (nT hė.size hg4)
  refine hU hK rfl _ _ PW (fun hė=>?_)
  clear hK K PW hr4 hb4 hg4
  refine tO 6 im6 ?_
  intro K hK
  refine WU (.tmp 8) rfl rfl (q % 256) rfl ?_
  simp only[im6,Act.put,sA,sZ,sS]
  have hal:=(Below.refl w4.heap.size w4).alloc (nR _) (.cells #[.int .u8 (q % 256)] 5)
  have BK:=hI (z8.new w4 5 #[.int .u8 (q % 256)])
  have OQ:=hI (z8.below zIp.out hal (z8.lt zIp.out))
  have hH5:=hė.trans (hal.mono hė.size)
  generalize w4.heap.size=qb at *
  generalize w4.alloc _=wz at *
  refine hU hK rfl _ _ hH5 (fun hė=>?_)
  clear hK K hH5 hal
  refine tO 12 Rn ?_
  intro K hK
  refine zN 96 #[.tmp 9,.tmp 14] #[31,3] rfl rfl Tryz.func96 rfl rfl [.slice (some ⟨qb,0,none⟩) 1 1,.int .i64 (mX sz:Nat)] rfl ((KF qb (mX sz) (q % 256) (Lr sz) wz (BK.out.cell 0)).mono ?_)
  rintro e w6 ⟨g2,c2,rfl,Xg,hb6⟩
  refine ⟨_,rfl,?_⟩
  simp only[Rn,Act.put,sA,sZ,sS]
  have hH6:=hė.trans (hb6.mono hė.size)
  have WH:=hI (z8.below OQ.out hb6 (z8.lt OQ.out))
  have pO:=hI (Xg.more (T:=fun b=>w1.heap.size≤b) (fun b h=>nT hė.size h))
  refine hU hK rfl _ _ hH6 (fun hė=>?_)
  clear hK K hH6 Xg hb6
  refine zB.takeG (i:=24) (oi:=Vm) (v:=.agg (rA g g2 c2 sz x q)) rfl (by kernel_rfl) (by kernel_rfl) (by kernel_rfl) (by kernel_rfl) (by kernel_rfl) (fun _ _ _ h=>h) (by rfl) ?_ hė ?_
  ·intro W hSW; clear hSW; unfold Vm; go_simp
  simp only[Vm,Act.put,sA,sZ,sS]
  have Y3:=hI (HI1.out.below hė HI1.out.lt)
  refine tO 25 Rm ?_
  intro K hK
  refine jS (.tmp 2) (.tmp 27) 53 rfl rfl (w.heap.size+1) (rA g g2 c2 sz x q) rfl rfl 53 _ Y3.out qo rfl (by simp[Value.oneCell']) ?_
  simp only[Rm,Act.put,sA,sZ,sS]
  have Y4:=hI hė
  refine hK.out _ _ (fun h=>by cases h) (fun _=>?_)
  clear hK K hė
  refine zB.done (by kernel_rfl) ?_ _
  go_wp2_with (with_reducible refine zJ ?_)
  have bg:Kept (fun b=>b≠w.heap.size+1) w6 (w6.setRow (w.heap.size+1) (rA g g2 c2 sz x q)):=(Kept.refl _ _).setRow (fun h=>h rfl) _
  have hlt1:=HI1.out.lt
  refine Halt.ret (jF rfl _ _ (w.heap.size+1) 53 (rA g g2 c2 sz x q) _ rfl (setRow_heap _ _ _ _ _ _ Y3.out) Tryz.underlying53 rfl qo) rfl ⟨g,g2,c2,rfl,nT HB1.out.size HG.out,z8.kept WH.out bg (by have:=HG.out; omega),(pO.out.kept bg (fun b h=>by omega)).more (fun b h=>nT HB1.out.size h),below_setRow (HB1.out.trans (Y4.out.mono HB1.out.size)) (by omega) _⟩
 ·intro K hK
  refine WU (.tmp 8) rfl rfl (q % 256) rfl ?_
  simp only[im6,Act.put,sA,sZ,sS]
  have hal:=(Below.refl vd.heap.size vd).alloc (nR _) (.cells #[.int .u8 (q % 256)] 5)
  have zJI:=hI (z8.new vd 5 #[.int .u8 (q % 256)])
  have PW:=hė.trans (hal.mono hė.size)
  generalize vd.heap.size=qb at *
  generalize vd.alloc _=w4 at *
  refine hU hK rfl _ _ PW (fun hė=>?_)
  clear hK K PW hal
  refine tO 2 im2 ?_
  intro K hK
  refine zN 32 #[.tmp 4] #[3] rfl rfl Tryz.func32 rfl rfl [.int .i64 ky] rfl ((dB ky w4).mono ?_)
  rintro e wz ⟨g,rfl,hg4,hr4,hb4⟩
  refine ⟨_,rfl,?_⟩
  simp only[im2,Act.put,sA,sZ,sS]
  have hH5:=hė.trans (hb4.mono hė.size)
  have OQ:=hI hr4
  have HG:=hI (nT hė.size hg4)
  have BK:=hI (zJI.out.below hb4 zJI.out.lt)
  refine hU hK rfl _ _ hH5 (fun hė=>?_)
  clear hK K hH5 hr4 hb4 hg4
  refine tO 12 Rn ?_
  intro K hK
  refine zN 96 #[.tmp 9,.tmp 14] #[31,3] rfl rfl Tryz.func96 rfl rfl [.slice (some ⟨qb,0,none⟩) 1 1,.int .i64 (mX sz:Nat)] rfl ((KF qb (mX sz) (q % 256) (Lr sz) wz (BK.out.cell 0)).mono ?_)
  rintro e w6 ⟨g2,c2,rfl,Xg,hb6⟩
  refine ⟨_,rfl,?_⟩
  simp only[Rn,Act.put,sA,sZ,sS]
  have hH6:=hė.trans (hb6.mono hė.size)
  have WH:=hI (z8.below OQ.out hb6 (z8.lt OQ.out))
  have pO:=hI (Xg.more (T:=fun b=>w1.heap.size≤b) (fun b h=>nT hė.size h))
  refine hU hK rfl _ _ hH6 (fun hė=>?_)
  clear hK K hH6 Xg hb6
  refine zB.takeG (i:=24) (oi:=Vm) (v:=.agg (rA g g2 c2 sz x q)) rfl (by kernel_rfl) (by kernel_rfl) (by kernel_rfl) (by kernel_rfl) (by kernel_rfl) (fun _ _ _ h=>h) (by rfl) ?_ hė ?_
  ·intro W hSW; clear hSW; unfold Vm; go_simp
  simp only[Vm,Act.put,sA,sZ,sS]
  have Y3:=hI (HI1.out.below hė HI1.out.lt)
  refine tO 25 Rm ?_
  intro K hK
  refine jS (.tmp 2) (.tmp 27) 53 rfl rfl (w.heap.size+1) (rA g g2 c2 sz x q) rfl rfl 53 _ Y3.out qo rfl (by simp[Value.oneCell']) ?_
  simp only[Rm,Act.put,sA,sZ,sS]
  have Y4:=hI hė
  refine hK.out _ _ (fun h=>by cases h) (fun _=>?_)
  clear hK K hė
  refine zB.done (by kernel_rfl) ?_ _
  go_wp2_with (with_reducible refine zJ ?_)
  have bg:Kept (fun b=>b≠w.heap.size+1) w6 (w6.setRow (w.heap.size+1) (rA g g2 c2 sz x q)):=(Kept.refl _ _).setRow (fun h=>h rfl) _
  have hlt1:=HI1.out.lt
  refine Halt.ret (jF rfl _ _ (w.heap.size+1) 53 (rA g g2 c2 sz x q) _ rfl (setRow_heap _ _ _ _ _ _ Y3.out) Tryz.underlying53 rfl qo) rfl ⟨g,g2,c2,rfl,nT HB1.out.size HG.out,z8.kept WH.out bg (by have:=HG.out; omega),(pO.out.kept bg (fun b h=>by omega)).more (fun b h=>nT HB1.out.size h),below_setRow (HB1.out.trans (Y4.out.mono HB1.out.size)) (by omega) _⟩
end
section
def newer (X:Nat→Prop) (w w':World) (b:Nat):Prop:=X b∨(w.heap.size≤b∧b<w'.heap.size)
section
variable {w w':World} {X Y S:Nat→Prop} {l p d n m c pe:Nat} {s:Sup} {t:Int} {k:Dk} {sec:Int} {A:Option Addr} {xs:List Seg} {br:Bool}
theorem qX.beside (h:qX w X l p d n s t k sec A m c xs br) (hk:Kept S w w') (hS:∀ b,b<w.heap.size→¬ X b→S b):qX w' (newer X w w') l p d n s t k sec A m c xs br:=by
 obtain ⟨h1,h2,R,h3,h4,h5⟩:=h
 have hl:=h1.lt
 refine ⟨h1.kept hk (hS _ h1.lt h2),fun e=>e.elim h2 (fun e=>by omega),R,zk.kept h3 hk (fun b hb hx=>hS b hb (fun e=>hx (.inl e))) (fun b hb h=>?_),h4.kept hk (fun b h=>hS b (h5 b h).1 (h5 b h).2.2),fun b h=>⟨nL (h5 b h).1 hk.size,(h5 b h).2.1,fun e=>e.elim (h5 b h).2.2 (fun e=>by have:=(h5 b h).1; omega)⟩⟩
 rcases h with (h | h) | h
 ·exact .inl h
 ·omega
 ·exact .inr h
theorem jJ.beside (h:jJ w X l p d n s t k xs pe) (hk:Kept S w w') (hS:∀ b,b<w.heap.size→¬ X b→S b):jJ w' (newer X w w') l p d n s t k xs pe:=by
 obtain ⟨A,c,h1,h2,h3⟩:=h.log
 exact ⟨⟨A,c,h1.beside hk hS,h2,h3⟩,h.good,h.ok,h.top,h.may,h.sin,h.dims,h.n2,h.room,h.pend⟩
end
section
variable {w w':World} {X Y S:Nat→Prop} {B C:xu} {slots yc:Nat} {s s':Sup} {xs xs':List Seg} {st st':List zm} {bl yF:List (List Int)} {u u':Bool}
theorem zT.beside (h:zT w X B slots s xs st bl u) (hk:Kept S w w') (hS:∀ b,b<w.heap.size→¬ X b→S b):zT w' (newer X w w') B slots s xs st bl u:=by
 obtain ⟨h1,h2,h3⟩:=h.own_kept hk (fun b hb=>hS b (h.own_lt hb) (h.off b hb))
 refine ⟨h1,h2,h.num,h3,(h.log.beside hk (fun b hb hn=>hS b hb (fun e=>hn (.inl e)))).less (fun b hb=>?_),h.inv,fun b hb hx=>?_,fun b hb=>?_⟩
 ·rcases hb with (hb | hb) | hb
  ·exact .inl (.inl hb)
  ·exact .inr hb
  ·exact .inl (.inr hb)
 ·have:=h.own_lt hb
  rcases hx with hx | hx
  ·exact h.off b hb hx
  ·omega
 ·rcases hb with hb | hb
  ·exact nL (h.lt b hb) hk.size
  ·exact hb.2
structure vv (w:World) (Z:Nat→Prop) (X Y:Nat→Prop) (B:xu) (slots:Nat) (s:Sup) (xs:List Seg) (st:List zm) (bl:List (List Int)) (C:xu) (yc:Nat) (s':Sup) (xs':List Seg) (st':List zm) (yF:List (List Int)):Prop where
 one:zT w X B slots s xs st bl false
 two:zT w Y C yc s' xs' st' yF false
 all:∀ b,b<w.heap.size→X b∨Y b
 offX:∀ b,Z b→X b
 offY:∀ b,Z b→Y b
theorem vv.left {Z:Nat→Prop} {B2:xu} {s2:Sup} {xs2:List Seg} {st2:List zm} {Hu:List (List Int)} (h:vv w Z X Y B slots s xs st bl C yc s' xs' st' yF) (hk:Kept X w w') (h2:zT w' X B2 slots s2 xs2 st2 Hu false) :
 vv w' Z X (newer Y w w') B2 slots s2 xs2 st2 Hu C yc s' xs' st' yF∧Kept Z w w' :=
 ⟨⟨h2,h.two.beside hk (fun b hb hn=>(h.all b hb).resolve_right hn),fun b hb=>by
  rcases Nat.lt_or_ge b w.heap.size with h1 | h1
  ·exact (h.all b h1).imp id .inl
  ·exact .inr (.inr ⟨h1,hb⟩),h.offX,fun b hb=>.inl (h.offY b hb)⟩,hk.mono h.offX⟩
theorem vv.grow {Z:Nat→Prop} (h:vv w Z X Y B slots s xs st bl C yc s' xs' st' yF) (hb:Below w.heap.size w w') :
 vv w' (newer Z w w') (newer X w w') (newer Y w w') B slots s xs st bl C yc s' xs' st' yF :=
 ⟨h.one.grow hb,h.two.grow hb,fun b hlt=>by
  rcases Nat.lt_or_ge b w.heap.size with h1 | h1
  ·exact (h.all b h1).imp .inl .inl
  ·exact .inl (.inr ⟨h1,hlt⟩),fun b hz=>hz.imp (h.offX b) id,fun b hz=>hz.imp (h.offY b) id⟩
theorem vv.less {Z Z2:Nat→Prop} (h:vv w Z X Y B slots s xs st bl C yc s' xs' st' yF) (hz:∀ b,Z2 b→Z b):vv w Z2 X Y B slots s xs st bl C yc s' xs' st' yF :=
 ⟨h.one,h.two,h.all,fun b hb=>h.offX b (hz b hb),fun b hb=>h.offY b (hz b hb)⟩
end
end
section
theorem xD.bound {α:Type} {mk:α→Value} {d:α} {w:World} {S:Nat→Prop} {A:Option Addr} {n:Nat} {xs:List α} (h:xD mk d w S A n xs):xD mk d w (fun b=>S b∧b<w.heap.size) A n xs :=
 ⟨h.1,fun hn=>by
  obtain ⟨b,off,e,hb,hc⟩:=h.2 hn
  exact ⟨b,off,e,⟨hb,World.block_lt_of_cell? w _ (hc 0 hn)⟩,hc⟩⟩
def zNI (f x q:Int) (us vs:List Int) (m n slots:Nat) (s:Sup) (xs:List Seg) (st:List zm) (er:Int) (s2:Sup) (xs2:List Seg) (st2:List zm):Prop :=
 (er=230∧¬ May 1 f x q m n∧s2=s∧xs2=xs∧st2=st) ∨
 (er=6∧May 1 f x q m n∧(vg st us slots=true∨kH s xs (zD (qI 1 f x q us vs).length)=none)∧s2=s∧xs2=xs∧st2=st) ∨
 (er=0∧May 1 f x q m n∧vg st us slots=false∧(s2=s∨s2=jR s)∧∃ i ys a,kH s xs (zD (qI 1 f x q us vs).length)=some (i,s2,ys)∧xs2=qL ys ((zD (qI 1 f x q us vs).length:Nat):Int)∧st2=qV st us++[(a,qI 1 f x q us vs)])
theorem May.lens {k f x s:Int} {n m:Nat} (h:May k f x s n m):n≤250∧m≤512:=by unfold May at h; omega
section
variable {w w':World} {X Y Z:Nat→Prop} {B C:xu} {slots yc:Nat} {s s':Sup} {xs xs':List Seg} {st st':List zm} {bl yF:List (List Int)} {A A2:Option Addr} {m c m2 c2:Nat} {us vs:List Int}
theorem vv.put (h:vv w Z X Y B slots s xs st bl C yc s' xs' st' yF) {f x q:Int} {dy:Bool} (hk:zW .u8 w Z A m us) (hv:zW .u8 w Z A2 m2 vs) (hb:Bytes us) (hbv:Bytes vs) (hnc:A=none→c=0) (fC:A2=none→c2=0)
 (hr:oJ f x q) (hpe:B.pe≤900000) (hgm:s.g+1≤18446744073709551615) :
 Calls Tryz.prog 19 #[.pointer (some ⟨B.q,0,none⟩),Zi A m c A2 m2 c2 f x q dy] w fun e w'=>∃ er B2 s2 xs2 st2 Hu,e=.returned (.int .i64 er)∧vv w' Z X (newer Y w w') B2 slots s2 xs2 st2 Hu C yc s' xs' st' yF∧Kept Z w w'∧B2.q=B.q∧B2.pe≤B.pe+17∧zNI f x q us vs m m2 slots s xs st er s2 xs2 st2:=by
 by_cases hm:May 1 f x q m m2
 ·have hkl:us.length=m:=hk.1
  have hkey:keyOf (qI 1 f x q us vs)=us:=by
   have h9:=Jp (k:=1) (f:=f) (x:=x) (s:=q) (xs:=us) (ys:=vs) (zs:=[]) (by have:=hm.lens; omega)
   rwa [List.append_nil] at h9
  refine (Jq (c:=c) (c2:=c2) (dy:=dy) h.one (hk.more h.offX) (hv.more h.offX) hb hbv hnc fC hm hr hpe hgm).mono ?_
  rintro e w1 ⟨hkp,h9⟩
  rw[hkey] at h9
  rcases h9 with ⟨hf,rfl,k',hst,_⟩ | ⟨hf,hno,rfl,k',hst,_⟩ | ⟨hf,i,s1,ys,t1,k1,hso,hs1,rfl,hst,_⟩
  ·obtain ⟨h1,h2⟩:=h.left hkp hst
   exact ⟨6,_,s,xs,st,bl,rfl,h1,h2,rfl,Nat.le_add_right _ _,.inr (.inl ⟨rfl,hm,.inl hf,rfl,rfl,rfl⟩)⟩
  ·obtain ⟨h1,h2⟩:=h.left hkp hst
   exact ⟨6,_,s,xs,st,bl,rfl,h1,h2,rfl,Nat.le_add_right _ _,.inr (.inl ⟨rfl,hm,.inr hno,rfl,rfl,rfl⟩)⟩
  ·obtain ⟨h1,h2⟩:=h.left hkp hst
   exact ⟨0,_,s1,_,_,_,rfl,h1,h2,rfl,nR _,.inr (.inr ⟨rfl,hm,hf,hs1,i,ys,_,hso,rfl,rfl⟩)⟩
 ·refine (Qw B.q A m c A2 m2 c2 f x q dy w hm).mono ?_
  rintro e w1 ⟨rfl,hb1⟩
  obtain ⟨h1,h2⟩:=h.left (Kept.of_below (S:=X) hb1 h.one.lt) (h.one.below hb1)
  exact ⟨230,B,s,xs,st,bl,rfl,h1,h2,rfl,Nat.le_add_right _ _,.inl ⟨rfl,hm,rfl,rfl,rfl⟩⟩
def zJj (q:Int) (us:List Int) (m:Nat) (s:Sup) (xs:List Seg) (st:List zm) (er:Int) (s2:Sup) (xs2:List Seg) (st2:List zm):Prop :=
 (er=160∧¬ May 2 0 0 q m 0∧s2=s∧xs2=xs∧st2=st) ∨
 (er=6∧May 2 0 0 q m 0∧kH s xs (zD (qI 2 0 0 q us []).length)=none∧s2=s∧xs2=xs∧st2=st) ∨
 (er=0∧May 2 0 0 q m 0∧(s2=s∨s2=jR s)∧∃ i ys,kH s xs (zD (qI 2 0 0 q us []).length)=some (i,s2,ys)∧xs2=qL ys ((zD (qI 2 0 0 q us []).length:Nat):Int)∧st2=qV st us)
theorem vv.kill (h:vv w Z X Y B slots s xs st bl C yc s' xs' st' yF) {q:Int} (hk:zW .u8 w Z A m us) (hb:Bytes us) (hr:0≤q∧q≤18446744073709551615) (hpe:B.pe≤900000) (hgm:s.g+1≤18446744073709551615) :
 Calls Tryz.prog 26 #[.pointer (some ⟨B.q,0,none⟩),.slice A m c,.int .u64 q] w fun e w'=>∃ er B2 s2 xs2 st2 Hu,e=.returned (.int .i64 er)∧vv w' Z X (newer Y w w') B2 slots s2 xs2 st2 Hu C yc s' xs' st' yF∧Kept Z w w'∧B2.q=B.q∧B2.pe≤B.pe+17∧zJj q us m s xs st er s2 xs2 st2:=by
 by_cases hm:May 2 0 0 q m 0
 ·refine (Zg (c:=c) h.one (hk.more h.offX) hb hm ⟨by omega,by omega,by omega,by omega,hr.1,hr.2⟩ hpe hgm).mono ?_
  rintro e w1 ⟨hkp,h9⟩
  rcases h9 with ⟨hno,rfl,k',hst,_⟩ | ⟨i,s1,ys,t1,k1,hso,hs1,rfl,hst,_⟩
  ·obtain ⟨h1,h2⟩:=h.left hkp hst
   exact ⟨6,_,s,xs,st,bl,rfl,h1,h2,rfl,Nat.le_add_right _ _,.inr (.inl ⟨rfl,hm,hno,rfl,rfl,rfl⟩)⟩
  ·obtain ⟨h1,h2⟩:=h.left hkp hst
   exact ⟨0,_,s1,_,_,_,rfl,h1,h2,rfl,nR _,.inr (.inr ⟨rfl,hm,hs1,i,ys,hso,rfl,rfl⟩)⟩
 ·refine (Zh B.q A m c q w hm).mono ?_
  rintro e w1 ⟨rfl,hb1⟩
  obtain ⟨h1,h2⟩:=h.left (Kept.of_below (S:=X) hb1 h.one.lt) (h.one.below hb1)
  exact ⟨160,B,s,xs,st,bl,rfl,h1,h2,rfl,Nat.le_add_right _ _,.inl ⟨rfl,hm,rfl,rfl,rfl⟩⟩
theorem vv.flush (h:vv w Z X Y B slots s xs st bl C yc s' xs' st' yF) (q:Int) (hq:q≤18446744073709551615) (hpe:B.pe≤900000) :
 Calls Tryz.prog 34 #[.pointer (some ⟨B.q,0,none⟩),.int .u64 q] w fun e w'=>∃ B2 s2,e=.returned (.int .i64 0)∧vv w' Z X (newer Y w w') B2 slots s2 xs st bl C yc s' xs' st' yF∧Kept Z w w'∧B2.q=B.q∧B2.pe=B.pe∧s2=(if q≤s.f then s else JN s q):=by
 refine (JJ h.one hpe q hq).mono ?_
 rintro e w1 ⟨rfl,hkp,⟨hle,hst⟩ | ⟨hlt,hst⟩⟩
 ·obtain ⟨h1,h2⟩:=h.left hkp hst
  exact ⟨_,s,rfl,h1,h2,rfl,rfl,by rw[if_pos hle]⟩
 ·obtain ⟨h1,h2⟩:=h.left hkp hst
  exact ⟨_,JN s q,rfl,h1,h2,rfl,rfl,by rw[if_neg (by omega)]⟩
theorem vv.get (h:vv w Z X Y B slots s xs st bl C yc s' xs' st' yF) (hk:zW .u8 w Z A m us) (hb:Bytes us) (hm:m≤1000000) (now:Int) :
 Calls Tryz.prog 23 #[.pointer (some ⟨B.q,0,none⟩),.slice A m c,.int .u32 now] w fun e w'=>(∃ B2,vv w' Z X (newer Y w w') B2 slots s xs st bl C yc s' xs' st' yF∧B2.q=B.q∧B2.pe=B.pe)∧Kept Z w w' ∧
  ((kF st s.f now us=none∧e=.returned (.tuple #[.agg qN,.int .i64 4])) ∨
   ∃ bs b1 b2,kF st s.f now us=some bs∧e=.returned (.tuple #[.agg (bZ bs b1 b2),.int .i64 0])∧w.heap.size≤b1∧w.heap.size≤b2∧b1≠b2∧zn w' b1 (keyOf bs)∧zn w' b2 (valOf bs)):=by
 refine (Bh (c:=c) h.one (hk.more h.offX) hb hm now).mono ?_
 rintro e w1 ⟨⟨k',hst,_⟩,hkp,h9⟩
 obtain ⟨h1,h2⟩:=h.left hkp hst
 refine ⟨⟨_,h1,rfl,rfl⟩,h2,h9.imp id ?_⟩
 rintro ⟨bs,b1,b2,g1,g2,g3,g4,g5,g6,g7,_⟩
 exact ⟨bs,b1,b2,g1,g2,g3,g4,g5,g6,g7⟩
end
end
section
structure Fit (s:Sup) (xs:List Seg):Prop where
 ok:qp s.b xs
 top:y8 xs≤s.g
 b:s.b=24
 pos:0<xs.length
section
variable {w:World} {X Y Z:Nat→Prop} {B C:xu} {slots yc:Nat} {s s' s2 s2':Sup} {xs xs' xs2 zQF:List Seg} {st su st2 su2:List zm} {bl yF:List (List Int)} {us vs kw:List Int} {f x q er er':Int} {m n:Nat} {u:Bool}
theorem GQ {k:Int} (h:May k f x q us.length vs.length):keyOf (qI k f x q us vs)=us:=by
 have h9:=Jp (k:=k) (f:=f) (x:=x) (s:=q) (xs:=us) (ys:=vs) (zs:=[]) (by have:=h.lens; omega)
 rwa [List.append_nil] at h9
theorem YD.start (kw:List Int) (s:Sup) (xs:List Seg):YD kw s xs [] s xs [] :=
 ⟨rfl,rfl,.inr ⟨rfl,Int.le_refl _⟩,by unfold bG; simp,by simp⟩
end
end
section
open Go.RowKit Go.Maps Go.ChangeMaps
attribute [local go_sem] Oper.semAt_some
structure KE where
 k:Nat
 a:Nat
 a2:Nat
 n2:Nat
 c2:Nat
 f:Int
 x:Int
 q:Int
 vs:List Int
abbrev KE.bs (e:KE):List Int:=qI 1 e.f e.x e.q (jf e.k) e.vs
abbrev kfK (e:KE):Lit:=.int .i64 (e.k:Nat)
abbrev vfK (e:KE):Value:=Zi (some ⟨e.a,0,none⟩) 2 2 (some ⟨e.a2,0,none⟩) e.n2 e.c2 e.f e.x e.q false
theorem uw:Keyed Tryz.prog 3:=int_keyed Tryz.underlying3
theorem r9 {k:Nat} (h:k<8):Go.keyOf Tryz.prog 3 (.int .i64 (k:Nat))=some (Lit.int .i64 (k:Nat)):=keyOf_int_mk Tryz.underlying3 (by simp[Lit.wf,IntKind.min,IntKind.max,IntKind.signed,IntKind.bits]; omega)
theorem Ei {k:Nat} (h:k<8):WideAt.IsKeyLit (Lit.int .i64 (k:Nat)):=by
 first
  | (simp[WideAt.IsKeyLit,Lit.wf,IntKind.min,IntKind.max,IntKind.signed,IntKind.bits]; done)
  | (simp[WideAt.IsKeyLit,Lit.wf,IntKind.min,IntKind.max,IntKind.signed,IntKind.bits]; omega)
theorem Qk (w:World):(zeroValue 53).run Tryz.prog w=.ok (.agg qN) w:=(Tryz.zeroValue53 w).trans rfl
structure nP (W:World) (X:Nat→Prop) (e:KE):Prop where
 k8:e.k<8
 xa:X e.a
 key:zn W e.a (jf e.k)
 val:zW .u8 W X (some ⟨e.a2,0,none⟩) e.n2 e.vs
 may:May 1 e.f e.x e.q 2 e.n2
 rng:oJ e.f e.x e.q
 byt:Bytes e.vs
def HR (st:List zm) (fs:List KE):Prop:=(∀ e,e∈fs→(jC st (jf (e.k:Nat))).map Prod.snd=some e.bs)∧∀ i:Nat,i<8→(∀ e,e∈fs→e.k≠i)→jC st (jf (i:Nat))=none
abbrev Q8 (W:World) (mp:Nat) (fs:List KE):Prop:=jo Tryz.prog 3 kfK vfK W mp fs
structure lF (w0:World) (b1 q mp:Nat) (fl:Int) (W:World) (X:Nat→Prop) (B:xu) (s:Sup) (xs:List Seg) (st:List zm) (bl:List (List Int)) (rs:Nat→List (Nat × List Int)) (fs:List KE):Prop where
 m:qz w0 b1 q W X B s xs st bl rs
 may:pY st bl
 fl:s.f=fl
 xm:X mp
 m0:w0.heap.size≤mp
 map:Q8 W mp fs
 ent:∀ e,e∈fs→nP W X e
 has:HR st fs
section
variable {w0:World} {b1 q mp:Nat} {fl:Int} {W W':World} {X Y:Nat→Prop} {B B':xu} {s s':Sup} {xs xs':List Seg} {st st':List zm} {bl yF:List (List Int)} {rs rs':Nat→List (Nat × List Int)} {fs:List KE} {e:KE}
theorem nP.kept (h:nP W X e) (hk:Kept X W W') (hx:∀ b,X b→Y b):nP W' Y e :=
 ⟨h.k8,hx _ h.xa,z8.kept h.key hk h.xa,(h.val.kept hk (fun b h=>h)).more hx,h.may,h.rng,h.byt⟩
theorem lF.grow (h:lF w0 b1 q mp fl W X B s xs st bl rs fs) (hb:Below W.heap.size W W'):lF w0 b1 q mp fl W' (fun b=>X b∨(W.heap.size≤b∧b<W'.heap.size)) B s xs st bl rs fs :=
 have hk:Kept X W W':=Kept.of_below hb h.m.sto.lt
 ⟨h.m.grow hb,h.may,h.fl,.inl h.xm,h.m0,h.map.kept hk h.xm,fun e he=>(h.ent e he).kept hk (fun b h=>.inl h),h.has⟩
theorem HR.same (h:HR st fs) (hh:∀ us,(jC st' us).map Prod.snd=(jC st us).map Prod.snd):HR st' fs :=
 ⟨fun e he=>(hh _).trans (h.1 e he),fun i hi hn=>by
  have h1:=hh (jf (i:Nat))
  rw[h.2 i hi hn] at h1
  cases e:jC st' (jf (i:Nat)) with
  | none=>rfl
  | some p=>rw[e] at h1; cases h1⟩
theorem lF.on (h:lF w0 b1 q mp fl W X B s xs st bl rs fs) (hm:qz w0 b1 q W' Y B' s' xs' st' yF rs') (hy:pY st' yF) (hf:s'.f=fl) (hk:Kept X W W') (hx:∀ b,X b→Y b) (hh:∀ us,(jC st' us).map Prod.snd=(jC st us).map Prod.snd):lF w0 b1 q mp fl W' Y B' s' xs' st' yF rs' fs :=
 ⟨hm,hy,hf,hx _ h.xm,h.m0,h.map.kept hk h.xm,fun e he=>(h.ent e he).kept hk hx,h.has.same hh⟩
theorem qz.writeK (h:qz w0 b1 q W X B s xs st bl rs) {ga:Nat} (hk:Kept (fun b=>b<W.heap.size∧b≠ga) W W') (hx:X ga) (hga:w0.heap.size≤ga):qz w0 b1 q W' X B s xs st bl rs :=
 ⟨h.sto.offX hk (fun b hb hn=>⟨hb,fun e=>hn (e▸hx)⟩),h.hist,h.zer,h.x0,h.b0,h.bel.trans (hk.to_below fun b hb=>⟨nL hb h.bel.size,fun e=>by omega⟩),h.bq,h.sab,h.nd⟩
theorem Jz {i j:Nat} (hi:i<8) (hj:j<8) (h:i≠j):jf (i:Nat)≠jf (j:Nat):=fun e=>by
 have:=(El (i:=(i:Nat)) (j:=(j:Nat)) ⟨by omega,by omega⟩ ⟨by omega,by omega⟩).1 e
 omega
theorem zHd (hk:May 1 e.f e.x e.q 2 e.n2) (hv:e.vs.length=e.n2):keyOf e.bs=jf e.k:=GQ (by rw[hv]; exact hk)
def nY (fs:List KE) (e:KE):List KE:=if fs.any (fun x=>decide (x.k=e.k))=true then fs.map (fun x=>if x.k=e.k then e else x) else e::fs
theorem Bq {x:KE} (h:x∈nY fs e):x=e∨(x∈fs∧x.k≠e.k):=by
 unfold nY at h
 split at h
 ·obtain ⟨y,hy,rfl⟩:=List.mem_map.1 h
  split
  ·exact .inl rfl
  ·rename_i h2; exact .inr ⟨hy,h2⟩
 ·rename_i h2
  rcases List.mem_cons.1 h with h3 | h3
  ·exact .inl h3
  ·refine .inr ⟨h3,fun h4=>h2 ?_⟩
   rw[List.any_eq_true]
   exact ⟨x,h3,by simpa using h4⟩
theorem TS:e∈nY fs e:=by
 unfold nY
 split
 ·rename_i h
  rw[List.any_eq_true] at h
  obtain ⟨x,hx,h2⟩:=h
  exact List.mem_map.2 ⟨x,hx,by rw[if_pos (by simpa using h2)]⟩
 ·simp
theorem zCP {x:KE} (h:x∈fs) (hk:x.k≠e.k):x∈nY fs e:=by
 unfold nY
 split
 ·exact List.mem_map.2 ⟨x,h,by rw[if_neg hk]⟩
 ·exact List.mem_cons_of_mem _ h
theorem Ov:(nY fs e).length≤fs.length+1:=by
 unfold nY
 split
 ·rw[List.length_map]; omega
 ·simp
theorem HR.put (h:HR st fs) (h8:e.k<8) (hf:∀ x,x∈fs→x.k<8) {a:Int × Int × Int} (hk:keyOf e.bs=jf (e.k:Nat)):HR (qV st (jf (e.k:Nat))++[(a,e.bs)]) (nY fs e):=by
 refine ⟨fun x hx=>?_,fun i hi hn=>?_⟩
 ·rcases Bq hx with rfl | ⟨h1,h2⟩
  ·rw[uH hk]; rfl
  ·rw[uG hk (Jz (hf x h1) h8 h2)]
   exact h.1 x h1
 ·have hne:i≠e.k:=fun e1=>hn e TS e1.symm
  rw[uG hk (Jz hi h8 hne)]
  refine h.2 i hi fun x hx e1=>?_
  by_cases e2:x.k=e.k
  ·omega
  ·exact hn x (zCP hx e2) e1
theorem HR.kill (h:HR st fs) {k:Nat} (h8:k<8) (hf:∀ x,x∈fs→x.k<8):HR (qV st (jf (k:Nat))) (fs.filter fun x=>decide (x.k≠k)):=by
 refine ⟨fun x hx=>?_,fun i hi hn=>?_⟩
 ·obtain ⟨h1,h2⟩:=List.mem_filter.1 hx
  have h3:x.k≠k:=by simpa using h2
  rw[Zn (Jz (hf x h1) h8 h3)]
  exact h.1 x h1
 ·by_cases e1:i=k
  ·subst e1
   exact Kc
  ·rw[Zn (Jz hi h8 e1)]
   refine h.2 i hi fun x hx e2=>?_
   exact hn x (List.mem_filter.2 ⟨hx,by simp; omega⟩) e2
theorem zCp (h:Q8 W mp fs) (hl:fs.length≤1000000) (h8:e.k<8):∃ W',(Instr.mapUpdate 71 (.map (some mp)) (.int .i64 (e.k:Nat)) (vfK e)).run Tryz.prog W=.ok () W'∧Q8 W' mp (nY fs e)∧W.mapTurned W' mp:=by
 by_cases hany:fs.any (fun x=>decide (x.k=e.k))=true
 ·obtain ⟨x,hx,h2⟩:=List.any_eq_true.1 hany
  have h3:x.k=e.k:=by simpa using h2
  have hkey:Go.keyOf Tryz.prog 3 (.int .i64 (e.k:Nat))=some (kfK x):=by
   show _=some (Lit.int .i64 (x.k:Nat))
   rw[h3]; exact r9 h8
  obtain ⟨W',h4,h5,h6⟩:=jo.again uw Tryz.underlying71 h (by omega) hx (vfK e) (fun y=>if y.k=e.k then e else y) (fun y=>by
   by_cases e1:y.k=e.k
   ·simp[e1]
   ·simp[e1]) (by simp[h3]) (fun y hy hne=>by
    have e1:y.k≠e.k:=fun e1=>hne (by show Lit.int .i64 (y.k:Nat)=Lit.int .i64 (x.k:Nat); rw[e1,h3])
    simp[e1]) hkey
  refine ⟨W',h4,?_,h6⟩
  unfold nY
  rw[if_pos hany]
  exact h5
 ·obtain ⟨W',h4,h5,h6⟩:=jo.store uw Tryz.underlying71 h (by omega) e (Ei h8) (fun y hy e1=>hany (by
   rw[List.any_eq_true]
   refine ⟨y,hy,?_⟩
   have e2:Lit.int .i64 (y.k:Nat)=Lit.int .i64 (e.k:Nat):=e1
   injection e2 with _ e2
   simp
   omega)) (r9 h8)
  refine ⟨W',h4,?_,h6⟩
  unfold nY
  rw[if_neg hany]
  exact h5
theorem mJ.delNo {α:Type} {kf:α→Lit} {vf:α→Value} {D:DataW Value} {es:List α} (h:mJ kf vf D es) {k:Lit} (hno:∀ x,x∈es→kf x≠k):mJ kf vf (D.del k) es:=by
 refine ⟨h.tidy.del _,fun k'=>?_,fun x hx z=>?_,h.nd,?_,h.key⟩
 ·by_cases e:k'=k
  ·subst e
   rw[has_del_same]
   constructor
   ·intro h; cases h
   ·rintro ⟨x,h1,h2⟩; exact absurd h2 (hno x h1)
  ·rw[has_del_other e,h.has]
 ·rw[atKey_del_other (hno x hx)]
  exact h.at_ x hx z
 ·have h1:=size_del (k:=k) h.tidy
  rw[h.hasNo hno,h.size] at h1
  simpa using h1
theorem zCq (h:Q8 W mp fs) {k:Nat} (h8:k<8):∃ W',(Builtin.delete_ #[71,3] 0 #[.map (some mp),.int .i64 (k:Nat)]).run Tryz.prog W=.ok (.tuple #[]) W'∧Q8 W' mp (fs.filter fun x=>decide (x.k≠k))∧W.mapTurned W' mp:=by
 by_cases hany:∃ x,x∈fs∧x.k=k
 ·obtain ⟨x,hx,h3⟩:=hany
  have hkey:Go.keyOf Tryz.prog 3 (.int .i64 (k:Nat))=some (kfK x):=by
   show _=some (Lit.int .i64 (x.k:Nat))
   rw[h3]; exact r9 h8
  exact jo.drop uw Tryz.underlying71 h hx hkey (fun x=>decide (x.k≠k)) (fun y hy=>by
   constructor
   ·intro h1 h2
    have e2:Lit.int .i64 (y.k:Nat)=Lit.int .i64 (x.k:Nat):=h2
    injection e2 with _ e2
    simp at h1
    omega
   ·intro h1
    simp only[decide_eq_true_eq]
    intro h2
    exact h1 (by show Lit.int .i64 (y.k:Nat)=Lit.int .i64 (x.k:Nat); rw[h2,h3])) _
 ·obtain ⟨D,ho,ha⟩:=h
  obtain ⟨W',hrun,r1,r2⟩:=ho.drop uw Tryz.underlying71 (r9 h8) 0
  have h3:=ha.delNo (k:=Lit.int .i64 (k:Nat)) (fun x hx e1=>hany ⟨x,hx,by
   have e2:Lit.int .i64 (x.k:Nat)=Lit.int .i64 (k:Nat):=e1
   injection e2 with _ e2
   omega⟩)
  have hf:(fs.filter fun x=>decide (x.k≠k))=fs:=List.filter_eq_self.2 fun x hx=>by
   simp only[decide_eq_true_eq]
   exact fun e1=>hany ⟨x,hx,e1⟩
  exact ⟨W',hrun,by rw[hf]; exact ⟨_,aD r1 h3.size,h3⟩,r2⟩
theorem Tp {Z:Nat→Prop} {A:Option Addr} {n:Nat} {us:List Int} (h:zW .u8 W Z A n us) (hm:Q8 W mp fs):zW .u8 W (fun b=>Z b∧b≠mp) A n us:=by
 refine ⟨h.1,fun hn=>?_⟩
 obtain ⟨b,off,e,hS,hc⟩:=h.2 hn
 exact ⟨b,off,e,⟨hS,fun e1=>hm.noCell (hc 0 hn) e1⟩,hc⟩
theorem nP.turn {Z:Nat→Prop} {x:KE} (h:nP W Z x) (hk:Kept (fun b=>b<W.heap.size∧b≠mp) W W') (hm:Q8 W mp fs) (hz:∀ b,Z b→b<W.heap.size):nP W' Z x :=
 ⟨h.k8,h.xa,z8.kept h.key hk ⟨z8.lt h.key,hm.ne h.key⟩,((Tp h.val hm).kept hk (fun b h=>⟨hz b h.1,h.2⟩)).more (fun b h=>h.1),h.may,h.rng,h.byt⟩
theorem nP.more {x:KE} (h:nP W X x) (hx:∀ b,X b→Y b):nP W Y x:=⟨h.k8,hx _ h.xa,h.key,h.val.more hx,h.may,h.rng,h.byt⟩
theorem lF.put1 {Z:Nat→Prop} {g:Nat} {a:Int × Int × Int} (h:lF w0 b1 q mp fl W X B s xs st bl rs fs) (hm:qz w0 b1 q W' X B' s' xs' st' yF rs') (hy:pY st' yF) (hf:s'.f=fl) (hk:Kept X W W')
 (hZ:∀ b,Z b→X b) (hent:∀ x,x∈fs→nP W Z x) (he:nP W Z e) (hmp:Z mp) (hg:X g) (hgz:¬ Z g) (hg0:w0.heap.size≤g) (hl:fs.length≤1000000) (hst:st'=qV st (keyOf e.bs)++[(a,e.bs)]) :
 ∃ w11,(Instr.mapUpdate 71 (.map (some mp)) (.int .i64 (e.k:Nat)) (vfK e)).run Tryz.prog (W'.setCell ⟨g,5,none⟩ (.bool false))=.ok () w11∧lF w0 b1 q mp fl w11 X B' s' xs' st' yF rs' (nY fs e)∧Kept (fun b=>X b∧b≠g∧b≠mp) W' w11:=by
 have hk10:Kept (fun b=>b≠g) W' (W'.setCell ⟨g,5,none⟩ (.bool false)):=(Kept.refl _ W').setCell (p:=⟨g,5,none⟩) (fun h=>h rfl) _
 have hmg:mp≠g:=fun e=>hgz (e▸hmp)
 have hmap:Q8 (W'.setCell ⟨g,5,none⟩ (.bool false)) mp fs:=(h.map.kept hk h.xm).kept hk10 hmg
 have zGX:(W'.setCell ⟨g,5,none⟩ (.bool false)).heap.size=W'.heap.size:=by simp[World.setCell]
 have zMm:=hm.write hk10 hg hg0
 generalize W'.setCell ⟨g,5,none⟩ (.bool false)=w10 at *
 obtain ⟨w11,h1,h2,h3⟩:=zCp (e:=e) hmap hl he.k8
 have mZ:=Xc h3
 have hzl:∀ b,Z b→b<w10.heap.size:=fun b hb=>by rw[zGX]; exact hm.sto.lt b (hZ b hb)
 have hall:∀ x,nP W Z x→nP w11 X x:=fun x hx=>by
  have g1:nP W' Z x:=hx.kept (hk.mono hZ) (fun b h=>h)
  have g2:nP w10 Z x:=g1.kept (hk10.mono (fun b hb e=>hgz (e▸hb))) (fun b h=>h)
  exact (g2.turn mZ hmap hzl).more hZ
 have hkey:=zHd he.may (show e.vs.length=e.n2 from he.val.1)
 refine ⟨w11,h1,⟨zMm.writeK mZ h.xm h.m0,hy,hf,h.xm,h.m0,h2,fun x hx=>?_,?_⟩,?_⟩
 ·rcases Bq hx with rfl | ⟨g1,_⟩
  ·exact hall _ he
  ·exact hall _ (hent x g1)
 ·rw[hst,hkey]
  exact h.has.put he.k8 (fun x hx=>(h.ent x hx).k8) hkey
 ·exact (hk10.mono (fun b hb=>hb.2.1)).trans (mZ.mono (fun b hb=>hb)) (fun b hb=>⟨by rw[zGX]; exact hm.sto.lt b hb.1,hb.2.2⟩)
theorem lF.del1 {k:Nat} (h:lF w0 b1 q mp fl W X B s xs st bl rs fs) (hm:qz w0 b1 q W' X B' s' xs' st' yF rs') (hy:pY st' yF) (hf:s'.f=fl) (hk:Kept X W W') (h8:k<8) (hst:st'=qV st (jf (k:Nat))) :
 ∃ w11,(Builtin.delete_ #[71,3] 0 #[.map (some mp),.int .i64 (k:Nat)]).run Tryz.prog W'=.ok (.tuple #[]) w11∧lF w0 b1 q mp fl w11 X B' s' xs' st' yF rs' (fs.filter fun x=>decide (x.k≠k)):=by
 have hmap:Q8 W' mp fs:=h.map.kept hk h.xm
 obtain ⟨w11,h1,h2,h3⟩:=zCq hmap h8
 have mZ:=Xc h3
 refine ⟨w11,h1,⟨hm.writeK mZ h.xm h.m0,hy,hf,h.xm,h.m0,h2,fun x hx=>?_,?_⟩⟩
 ·exact ((h.ent x (List.mem_filter.1 hx).1).kept hk (fun b h=>h)).turn mZ hmap hm.sto.lt
 ·rw[hst]
  exact h.has.kill h8 (fun x hx=>(h.ent x hx).k8)
end
end
end Go.Proofs.YtdkbpchmnhbhcaaGreat
namespace Go.Proofs.YtdkbpchmnhbhcaaGreat.OpM
open Go.RowKit
open Go.Proofs.YtdkbpchmnhbhcaaGreat
structure Op6 where
 kd:Int
 ky:Int
 sz:Int
 pl:Int
 q:Int
 x:Int
abbrev ent0:Op6:=⟨0,0,0,0,0,0⟩
abbrev entV (e:Op6):List Value:=[.int .i64 e.kd,.int .i64 e.ky,.int .i64 e.sz,.int .i64 e.pl,.int .u64 e.q,.int .u32 e.x]
abbrev RowE:=wI entV 6 ent0
def flatG (L:List Op6):List Value:=L.flatMap entV
theorem q9 (L:List Op6):(flatG L).length=L.length*6:=by
 induction L with
 | nil=>rfl
 | cons x r ih =>
  simp only[flatG,List.flatMap_cons,List.length_append,List.length_cons] at *
  rw[ih]
  simp only[entV,List.length_cons,List.length_nil]
  omega
theorem jV:∀ (L:List Op6) (t:Nat),t<L.length*6→(flatG L)[t]? = (entV (L.getD (t / 6) ent0))[t % 6]?
 | [],t,h=>by simp at h
 | y :: L, t, h => by
  unfold flatG
  rw[List.flatMap_cons]
  by_cases h4:t<6
  ·rw[List.getElem?_append_left (by simpa using h4)]
   rw[show t / 6=0 by omega,show t % 6=t by omega]
   rfl
  ·have e:t-(entV y).length=t-6:=by simp
   rw[List.getElem?_append_right (by simp; omega),e]
   have ih:=jV L (t-6) (by simp at h; omega)
   unfold flatG at ih
   rw[ih,show t / 6=(t-6) / 6+1 by omega,show t % 6=(t-6) % 6 by omega]
   rfl
def ArrS (w:World) (g:Nat) (L:List Op6):Prop:=z8 w g 74 (flatG L).toArray
theorem row_of_flat {w:World} {g:Nat} {t:TypeId} {L:List Op6} {X:List Value} (h:z8 w g t (flatG L++X).toArray) {S:Nat→Prop} (hS:S g) {n:Nat} (hn:L.length=n):RowE w S (some ⟨g,0,none⟩) n L :=
 ⟨hn,fun _=>⟨g,0,rfl,hS,fun i hi j v hv=>by
  have hj:j<6:=by have:=(List.getElem?_eq_some_iff.1 hv).1; simpa using this
  show w.cell? ⟨g,0+i*6+j,none⟩=some v
  rw[h.cell,Nat.zero_add]
  have hlt:i*6+j<(flatG L).length:=by rw[q9]; omega
  rw[List.getElem?_toArray,List.getElem?_append_left hlt,jV L _ (by rw[q9] at hlt; exact hlt),show (i*6+j) / 6=i by omega,show (i*6+j) % 6=j by omega]
  exact hv⟩⟩
theorem ArrS.row {w:World} {g:Nat} {L:List Op6} (h:ArrS w g L) {S:Nat→Prop} (hS:S g) {n:Nat} (hn:L.length=n):RowE w S (some ⟨g,0,none⟩) n L :=
 row_of_flat (X:=[]) (by simpa [ArrS] using h) hS hn
theorem ArrS.setRow {w:World} {g:Nat} {L:List Op6} (h:ArrS w g L) (M:List Op6):ArrS (w.setRow g (flatG M).toArray) g M:=setRow_heap w g _ _ _ _ h
theorem ArrS.alloc {w:World} {g:Nat} {L:List Op6} (h:ArrS w g L) (o:Obj):ArrS (w.alloc o) g L:=z8.alloc h o
theorem ArrS.below {w w':World} {g B:Nat} {L:List Op6} (h:ArrS w g L) (hb:Below B w w') (hg:g<B):ArrS w' g L:=z8.below h hb hg
end Go.Proofs.YtdkbpchmnhbhcaaGreat.OpM

namespace Go.Proofs.YtdkbpchmnhbhcaaGreat
open Go.RowKit
section
open Go.RowKit Go.ChangeShapes Go.WideShapes Go.Deep Go.Joins
def JX (o:OpM.Op6):Prop:=(0≤o.q∧o.q≤18446744073709551615)∧0≤o.x∧o.x≤4294967295
structure WC (w:World) (A:Option Addr) (n c:Nat) (z:List OpM.Op6):Prop where
 row:OpM.RowE w (·<w.heap.size) A n z
 nc:n≤c
 n63:n≤9223372036854775807
 nA:A=none→c=0
 fin:∀ i,i<n→JX (z.getD i OpM.ent0)
section
variable {H:Type} {enc:TypeId × Value→H} {w:World} {held:Bool}
theorem BQ {fuel:Nat} {l:List Value} {y:DataW H × List MemPlace} (iU:l.length=6) (h:DataW.trod enc Tryz.prog w 0 (fun _=>true) held fuel 74 l=some y) :
 ∃ s:OpM.Op6,JX s∧l=OpM.entV s:=by
 obtain ⟨ys,fu,_,_,_,hyl,hg⟩:=DataW.trod_struct Tryz.underlying74 h
 have hone:∀ t,t=3∨t=29∨t=30→Tryz.prog.cellsOf t=1:=by
  rintro t (rfl | rfl | rfl) <;> kernel_rfl
 have H6:ys.length=6:=hyl
 match l,iU with
 | [v0,v1,v2,v3,v4,v5],_ =>
  have g0:DataW.trod enc Tryz.prog w 0 (fun _=>true) held fu 3 (([v0,v1,v2,v3,v4,v5].drop 0).take (Tryz.prog.cellsOf 3))=ys[0]? := hg 0 _ rfl
  have g1:DataW.trod enc Tryz.prog w 0 (fun _=>true) held fu 3 (([v0,v1,v2,v3,v4,v5].drop 1).take (Tryz.prog.cellsOf 3))=ys[1]? := hg 1 _ rfl
  have g2:DataW.trod enc Tryz.prog w 0 (fun _=>true) held fu 3 (([v0,v1,v2,v3,v4,v5].drop 2).take (Tryz.prog.cellsOf 3))=ys[2]? := hg 2 _ rfl
  have g3:DataW.trod enc Tryz.prog w 0 (fun _=>true) held fu 3 (([v0,v1,v2,v3,v4,v5].drop 3).take (Tryz.prog.cellsOf 3))=ys[3]? := hg 3 _ rfl
  have g4:DataW.trod enc Tryz.prog w 0 (fun _=>true) held fu 30 (([v0,v1,v2,v3,v4,v5].drop 4).take (Tryz.prog.cellsOf 30))=ys[4]? := hg 4 _ rfl
  have g5:DataW.trod enc Tryz.prog w 0 (fun _=>true) held fu 29 (([v0,v1,v2,v3,v4,v5].drop 5).take (Tryz.prog.cellsOf 29))=ys[5]? := hg 5 _ rfl
  simp only[hone _ (.inl rfl),hone _ (.inr (.inl rfl)),hone _ (.inr (.inr rfl)),List.drop_zero,List.drop_succ_cons,List.take_succ_cons,List.take_zero] at g0 g1 g2 g3 g4 g5
  rw[List.getElem?_eq_getElem (by omega)] at g0 g1 g2 g3 g4 g5
  obtain ⟨a0,e0,_,f0⟩:=DataW.trod_int Tryz.underlying3 g0
  injection e0 with e0 _
  obtain ⟨a1,e1,_,f1⟩:=DataW.trod_int Tryz.underlying3 g1
  injection e1 with e1 _
  obtain ⟨a2,e2,_,f2⟩:=DataW.trod_int Tryz.underlying3 g2
  injection e2 with e2 _
  obtain ⟨a3,e3,_,f3⟩:=DataW.trod_int Tryz.underlying3 g3
  injection e3 with e3 _
  obtain ⟨a4,e4,_,f4⟩:=DataW.trod_int Tryz.underlying30 g4
  injection e4 with e4 _
  obtain ⟨a5,e5,_,f5⟩:=DataW.trod_int Tryz.underlying29 g5
  injection e5 with e5 _
  subst e0 e1 e2 e3 e4 e5
  have i4:0≤a4∧a4≤18446744073709551615:=by simpa [Lit.wf,IntKind.min,IntKind.max,IntKind.signed,IntKind.bits] using f4
  have i5:0≤a5∧a5≤4294967295:=by simpa [Lit.wf,IntKind.min,IntKind.max,IntKind.signed,IntKind.bits] using f5
  exact ⟨⟨a0,a1,a2,a3,a4,a5⟩,⟨i4,i5⟩,rfl⟩
theorem RO {t:TypeId} {fuel:Nat} {cs:List Value} {x:DataW H × List MemPlace} (ht:Tryz.prog.underlying t=some (.slice 74))
 (h:DataW.trod enc Tryz.prog w 0 (fun _=>true) held fuel t cs=some x) :
 ∃ a len cap zs,cs=[.slice a len cap]∧OpM.RowE w (·<w.heap.size) a len zs∧len≤cap∧len≤9223372036854775807∧(a=none→cap=0)∧∀ i,i<len→JX (zs.getD i OpM.ent0):=by
 have QX:Tryz.prog.cellsOf 74=6:=by kernel_rfl
 rcases open_slice ht h with ⟨rfl,_⟩ | ⟨a,len,cap,m,n,D,Pl,rfl,hb,hl,hm,hmm,rfl,hi⟩
 ·exact ⟨none,0,0,[],rfl,wI.nil _ _ _ _ _ _,nR _,by omega,fun _=>rfl,fun i hi=>absurd hi (by omega)⟩
 ·simp only[if_true] at hmm
  subst hmm
  have key:∀ i,i<m→∃ z:OpM.Op6,JX z∧∀ j,j<6→w.cell? (a.add (i*6+j))=(OpM.entV z)[j]? := by
   intro i him
   obtain ⟨cs',hc,ht'⟩:=hi i him
   rw[QX] at hc
   obtain ⟨_,hcl,hat⟩:=World.cells?_some hc
   obtain ⟨z,hzp,rfl⟩:=BQ hcl ht'
   refine ⟨z,hzp,fun j hj=>?_⟩
   have h1:=hat j hj
   rw[Go.Deep.add_add] at h1
   exact h1
  have:∀ k,k≤m→∃ zs:List OpM.Op6,zs.length=k∧∀ i,i<k→JX (zs.getD i OpM.ent0)∧∀ j,j<6→w.cell? (a.add (i*6+j))=(OpM.entV (zs.getD i OpM.ent0))[j]? := by
   intro k
   induction k with
   | zero=>intro _; exact ⟨[],rfl,fun i hi=>by omega⟩
   | succ k ih =>
    intro hk
    obtain ⟨zs,hzl,hz⟩:=ih (by omega)
    obtain ⟨z,h1,h2⟩:=key k (by omega)
    refine ⟨zs++[z],by simp[hzl],fun i hi=>?_⟩
    by_cases e:i<k
    ·have e2:(zs++[z]).getD i OpM.ent0=zs.getD i OpM.ent0:=by simp[List.getD,List.getElem?_append_left (show i<zs.length by omega)]
     rw[e2]
     exact hz i e
    ·obtain rfl:i=k:=by omega
     have e2:(zs++[z]).getD i OpM.ent0=z:=by simp[List.getD,List.getElem?_append_right (show zs.length≤i by omega),hzl]
     rw[e2]
     exact ⟨h1,h2⟩
  obtain ⟨zs,hzl,hz⟩:=this m (nR _)
  have hget:∀ i,i<len→(zs.take len).getD i OpM.ent0=zs.getD i OpM.ent0:=fun i hi=>by simp[List.getD,List.getElem?_take,hi]
  refine ⟨some a,len,m,zs.take len,rfl,⟨by simp; omega,fun hn=>?_⟩,hl,by have:=hm; unfold maxLen at this; omega,(by intro h; cases h),fun i hi=>by rw[hget i hi]; exact (hz i (by omega)).1⟩
  obtain ⟨b,off,spot⟩:=a
  have h0:=(hz 0 (by omega)).2 0 (by omega)
  have h0':w.cell? ⟨b,off,spot⟩=some (.int .i64 (zs.getD 0 OpM.ent0).1):=by simpa [Addr.add] using h0
  have hspot:spot=none:=World.cell?_spot h0'
  subst hspot
  refine ⟨b,off,rfl,block_lt_of_cell h0',fun i hi j v hv=>?_⟩
  rw[hget i hi] at hv
  have hj:j<6:=by have:=(List.getElem?_eq_some_iff.1 hv).1; simpa using this
  have h2:=(hz i (by omega)).2 j hj
  rw[add_plain] at h2
  rw[Nat.add_assoc,h2,hv]
end
end
section
def nO:List Int:=qI 1 0 0 1 [107,97] [120]
def wb2:List Int:=qI 2 0 0 2 [107,97] []
theorem VQ:keyOf nO=[107,97]:=by decide +kernel
theorem zCI:valOf nO=[120]:=by decide +kernel
theorem zCJ:zo nO=1:=by decide +kernel
theorem zCK:qA nO=0:=by decide +kernel
theorem Om:zO nO=1:=by decide +kernel
theorem zCL:zD nO.length=1:=by decide +kernel
theorem zCH:zD wb2.length=1:=by decide +kernel
theorem F9:zL 24 fJ=fJ:=by
 unfold zL
 rw[if_neg]
 unfold jP
 split
 ·decide
 ·rw[if_pos (by rw[zCE]; decide)]; decide
theorem M0:kH l8 fJ 1=some (0,jR l8,qC fJ 1):=by
 unfold kH
 have h1:=zCF
 rw[if_neg (by show ¬ ((1:Nat):Int)≤jB 24 fJ; omega),if_neg (by rw[Fz]; decide),Fz,show zL l8.b fJ=fJ from F9]
 rfl
theorem Ol:jB 24 (qL (qC fJ 1) (1:Nat))=22:=by decide +kernel
theorem zCG:∃ r,kH (jR l8) (qL (qC fJ 1) (1:Nat)) 1=some r:=by
 unfold kH
 rw[if_pos (by show ((1:Nat):Int)≤jB 24 _; rw[Ol]; decide)]
 exact ⟨_,rfl⟩
theorem zDY:ny (rJ (List.replicate 4 (List.replicate 128 0)) 0 [107,97]) [107,97]=true:=by decide +kernel
theorem Rj:jf 0=[107,97]:=by decide
theorem zEb {a:Int × Int × Int}:jC [(a,nO)] [107,97]=some (a,nO):=by
 unfold jC
 rw[List.find?_cons_of_pos (by rw[VQ]; decide)]
theorem MO {a:Int × Int × Int}:kF [(a,nO)] 0 0 [107,97]=some nO:=by
 unfold kF
 rw[zEb]
 exact if_neg (by rw[zCJ,zCK]; decide)
theorem zCe {a:Int × Int × Int}:qV [(a,nO)] [107,97]=[]:=by
 unfold qV
 rw[List.filter_cons_of_neg (by rw[VQ]; decide)]
 rfl
theorem Au:qV [] [107,97]=[]:=rfl
theorem LX:vg [] [107,97] 2=false:=by decide
end
section
attribute [local go_sem] Oper.semAt_some
theorem zCM (w:World):Calls Tryz.prog 15 #[] w fun e w'=>e=.returned (.bool true)∧Below w.heap.size w w':=by
 go_enter Tryz.func15,Tryz.ntmps15
 go_wp2_with fail
 refine (D9 w).mono ?_
 rintro e w1 ⟨l,p,d,rfl,hl,hb1⟩
 have eD:=hI hl
 have HB1:=hI hb1
 clear hl hb1
 go_wp2_with fail
 refine (MQ (slots:=2) eD.out (fun b h=>nL h HB1.out.size) (by omega) (by omega)).mono ?_
 rintro e w2 ⟨q,x,F,c,fs,rfl,hm,hb2⟩
 obtain ⟨B,hB⟩:∃ B:xu,(⟨l,p,d,98,q,x,F,c,0,mU,0,fs⟩:xu)=B:=⟨_,rfl⟩
 rw[hB] at hm
 have HBQ:=hI (show B.q=q∧B.pe=0∧B.k=mU by rw[← hB]; exact ⟨rfl,rfl,rfl⟩)
 have bJ:=hI hm
 have HB2:=hI (HB1.out.trans (hb2.mono HB1.out.size))
 clear hm hb2 hB
 go_wp2_with fail
 refine (dB 0 w2).mono ?_
 rintro e w3 ⟨g3,rfl,hg3,hr3,hb3⟩
 rw[Rj] at hr3
 have HR3:=hI hr3
 have mE:=hI (show w2.heap.size≤g3∧g3<w3.heap.size from ⟨hg3,z8.lt hr3⟩)
 have HB3:=hI hb3
 clear hr3 hb3 hg3
 have hc1:=Go.Lib.run_convert_bytes_const (P:=Tryz.prog) w3 31 5 #[.int .u8 120] 1 1 Tryz.underlying31 Tryz.underlying5
 go_wp2_with fail
 clear hc1
 obtain ⟨w4,hw4⟩:∃ w4,w4=w3.alloc (.cells #[.int .u8 120] 5 (1,2)):=⟨_,rfl⟩
 have hb4:Below w3.heap.size w3 w4:=by rw[hw4]; exact (Below.refl _ _).alloc (nR _) _
 have DL:w4.heap.size=w3.heap.size+1:=by rw[hw4]; simp
 have hV:zW .u8 w4 (fun b=>b=w3.heap.size) (some ⟨w3.heap.size,0,none⟩) 1 [120]:=by rw[hw4]; exact KA w3 [120] (1,2) 1 rfl (S:=fun b=>b=w3.heap.size) rfl
 have hKr:zW .u8 w4 (fun b=>b=g3) (some ⟨g3,0,none⟩) 2 [107,97]:=qF.rowN (S:=fun b=>b=g3) (z8.below HR3.out hb4 mE.out.2) 0 rfl rfl
 have kM:=hI (bJ.out.grow (HB3.out.trans (hb4.mono HB3.out.size)))
 have hg3:=mE.out
 have hs3:=HB3.out.size
 have zAW:=hI (Jq (dy:=false) (f0:=0) (x0:=0) (q0:=1) kM.out (hKr.more (fun b h=>.inr ⟨by omega,by omega⟩)) (hV.more (fun b h=>.inr ⟨by omega,by omega⟩)) (by intro j; match j with | 0=>simp | 1=>simp | (j+2)=>simp) (by intro j; match j with | 0=>simp | (j+1)=>simp) (fun h=>by cases h) (fun h=>by cases h) (c:=2) (c2:=1) (by unfold May; omega) ⟨by omega,by omega,by omega,by omega,by omega,by omega⟩ (by rw[HBQ.out.2.1]; omega) (by decide))
 rw[HBQ.out.1,show qI 1 0 0 1 [107,97] [120]=nO by unfold nO; rfl] at zAW
 have zq:=hI (HB2.out.trans ((HB3.out.trans (hb4.mono HB3.out.size)).mono HB2.out.size))
 rw[← hw4]
 clear hw4 hb4 DL hV hKr hg3 hs3
 refine zAW.out.mono ?_
 rintro e w5 ⟨hk5,h5⟩
 rw[zCL,VQ] at h5
 rcases h5 with ⟨hf,_⟩ | ⟨_,hno,_⟩ | ⟨_,i,s1,xs1,t1,k1,hsome,hs1,rfl,PO,_⟩
 ·rw[LX] at hf; cases hf
 ·rw[M0] at hno; cases hno
 rw[M0] at hsome
 have Lx:=Option.some.inj hsome
 obtain ⟨ei,e2⟩:=Prod.mk.inj Lx
 obtain ⟨es,ex⟩:=Prod.mk.inj e2
 subst ei es ex
 clear Lx e2
 rw[Au,List.nil_append] at PO
 have wJ:=hI PO
 have qM:=hI (zq.out.trans (hk5.to_below (B:=w.heap.size) (fun b hb=>.inl hb)))
 clear hk5 PO zAW hs1 hsome
 go_wp2_with fail
 refine (dB 0 w5).mono ?_
 rintro e w6 ⟨g6,rfl,KY,Xg,hb6⟩
 rw[Rj] at Xg
 have qQ:=hI (wJ.out.grow hb6)
 have eF:=hI (Bh (c:=2) qQ.out ((qF.rowN (S:=fun b=>b=g6) Xg 0 (n:=2) rfl rfl).more (fun b h=>.inr ⟨by omega,by have:=z8.lt Xg; omega⟩)) (by intro j; match j with | 0=>simp | 1=>simp | (j+2)=>simp) (by omega) 0)
 have qK:=hI (qM.out.trans (hb6.mono qM.out.size))
 clear KY Xg hb6
 have hq6:({ B with t:=t1,k:=k1,pe:=B.pe+17 }:xu).q=q:=HBQ.out.1
 rw[hq6] at eF
 clear hq6
 go_wp2_with fail
 refine eF.out.mono ?_
 rintro e w7 ⟨⟨k7,U5,bg⟩,mY,h7⟩
 rcases h7 with ⟨hno,_⟩ | ⟨bs,b1,b2,hyes,rfl,_,_,_,_,hv7,_⟩
 ·rw[show (jR l8).f=0 from rfl,MO] at hno; cases hno
 rw[show (jR l8).f=0 from rfl,MO] at hyes
 injection hyes with hyes
 subst hyes
 rw[zCI] at hv7
 have OB:=hI hv7
 have kL:=hI (U5.less (X:=fun x=>x<w.heap.size) (fun b h=>.inl (.inl h)))
 have kN:=hI (qK.out.trans (mY.to_below (B:=w.heap.size) (fun b hb=>.inl (.inl hb))))
 clear U5 bg mY hv7 eF
 obtain ⟨w8,hw8⟩:∃ w8,w8=w7.alloc (.cells (bZ nO b1 b2) 53):=⟨_,rfl⟩
 have jK:Below w7.heap.size w7 w8:=by rw[hw8]; exact (Below.refl _ _).alloc (nR _) _
 have nW:=hI (show z8 w8 w7.heap.size 53 (bZ nO b1 b2) by rw[hw8]; exact z8.new w7 _ _)
 have jA:=hI (kL.out.below jK)
 have yj:=hI (kN.out.trans (jK.mono kN.out.size))
 have NA:=hI (z8.below OB.out jK (z8.lt OB.out))
 have nH:=hI hw8
 clear jK hw8
 go_upto_region 6 with fail
 rw[← nH.out]
 obtain ⟨tt,ht,hnt⟩:=pX (P:=Tryz.prog) w8 31 9 5 Tryz.underlying31 Tryz.underlying5 Tryz.underlying9 1 (qF.rowN (S:=fun b=>b<w8.heap.size) (show zn w8 b2 [120] from NA.out) 0 (n:=1) rfl (z8.lt NA.out)).toRow (by intro j; match j with | 0=>simp | (j+1)=>simp)
 obtain rfl:tt=⟨#[120]⟩:=Gy (hnt.trans rfl)
 have i1:w8.cell? ⟨w7.heap.size,1,none⟩=some (.slice (some ⟨b2,0,none⟩) 1 1):=by
  have h9:=nW.out.cell 1
  rw[show (bZ nO b1 b2)[1]? = some (.slice (some ⟨b2,0,none⟩) (zO nO) (zO nO)) from rfl,Om] at h9
  exact h9
 clear hnt
 go_wp2_with fail
 clear ht i1
 refine (dB 0 w8).mono ?_
 rintro e w9 ⟨g9,rfl,iV,Xe,bC⟩
 rw[Rj] at Xe
 have nV:=hI (jA.out.below bC)
 have oq:=hI (yj.out.trans (bC.mono yj.out.size))
 have Py:=hI (MR (c:=2) nV.out (by unfold rJ; rw[List.length_set,List.length_replicate]; decide) (qF.rowN (S:=fun b=>b<w9.heap.size) Xe 0 (n:=2) rfl (z8.lt Xe)) (by intro j; match j with | 0=>simp | 1=>simp | (j+2)=>simp) (by omega))
 rw[show (List.replicate fJ.length (List.replicate 128 (0:Int)))=List.replicate 4 (List.replicate 128 0) from rfl,zDY] at Py
 replace Py:=hI (show Calls Tryz.prog 21 #[.pointer (some ⟨q,0,none⟩),.slice (some ⟨g9,0,none⟩) 2 2] w9 (fun e w'=>e=.returned (.bool true)∧Below w9.heap.size w9 w') from Py.out)
 clear Xe bC iV
 go_wp2_with fail
 refine Py.out.mono ?_
 rintro e w10 ⟨rfl,xP⟩
 have oV:=hI (nV.out.below xP)
 have nJ:=hI (oq.out.trans (xP.mono oq.out.size))
 have lM:=hI (show Calls Tryz.prog 39 #[.pointer (some ⟨q,0,none⟩)] w10 (fun e w'=>e=.returned (.int .i64 1)∧w'=w10) from zAt oV.out)
 clear xP Py
 go_wp2_with fail
 refine lM.out.mono ?_
 rintro e w11 ⟨rfl,rfl⟩
 clear lM
 go_wp2_with fail
 refine (dB 0 w11).mono ?_
 rintro e w12 ⟨g12,rfl,zMr,Ry,tq⟩
 rw[Rj] at Ry
 have zNZ:=hI (oV.out.grow tq)
 have TL:=hI (nJ.out.trans (tq.mono nJ.out.size))
 have Cr:=hI (Zg (c:=2) (q0:=2) zNZ.out ((qF.rowN (S:=fun b=>b=g12) Ry 0 (n:=2) rfl rfl).more (fun b h=>.inr ⟨by omega,by have:=z8.lt Ry; omega⟩)) (by intro j; match j with | 0=>simp | 1=>simp | (j+2)=>simp) (by unfold May; omega) ⟨by omega,by omega,by omega,by omega,by omega,by omega⟩ (show B.pe+17≤900000 by rw[HBQ.out.2.1]; omega) (by decide))
 rw[show qI 2 0 0 2 [107,97] []=wb2 by unfold wb2; rfl] at Cr
 replace Cr:=hI (show Calls Tryz.prog 26 #[.pointer (some ⟨q,0,none⟩),.slice (some ⟨g12,0,none⟩) 2 2,.int .u64 2] w12 _ from Cr.out)
 clear zMr Ry tq
 go_wp2_with fail
 refine Cr.out.mono ?_
 rintro e w13 ⟨dO,h13⟩
 rw[zCH,zCe] at h13
 rcases h13 with ⟨hno,_⟩ | ⟨i2,s2,xs2,t2,k2,_,_,rfl,Vs,_⟩
 ·obtain ⟨r,hr⟩:=zCG
  rw[hr] at hno; cases hno
 have wM:=hI (TL.out.trans (dO.to_below (B:=w.heap.size) (fun b hb=>.inl hb)))
 have lM:=hI (show Calls Tryz.prog 39 #[.pointer (some ⟨q,0,none⟩)] w13 (fun e w'=>e=.returned (.int .i64 0)∧w'=w13) from zAt Vs)
 clear dO Vs Cr
 go_wp2_with fail
 refine lM.out.mono ?_
 rintro e w14 ⟨rfl,rfl⟩
 clear lM
 go_wp2_with fail
 go_ret
 exact ⟨rfl,wM.out⟩
end
section
attribute [local go_sem] Oper.semAt_some
theorem Nz {S T:Nat→Prop} (A:Option Addr) (n c c':Nat) (A' B B':Option Addr) (m d d':Nat) (us vs:List Int) (f x q:Int) (dy:Bool) (w:World)
 (hk:zW .u8 w S A n us) (hk':zW .u8 w T A' n us) (hv:zW .u8 w S B m vs) (hv':zW .u8 w T B' m vs) (hS:∀ b,S b→b<w.heap.size) (hT:∀ b,T b→b<w.heap.size) (hu:Bytes us) (hb:Bytes vs) :
 Calls Tryz.prog 25 #[Zi A n c B m d f x q dy,Zi A' n c' B' m d' f x q dy] w fun e w'=>e=.returned (.bool true)∧Below w.heap.size w w':=by
 obtain ⟨w2,hw2⟩:∃ w2,w2=(w.alloc (.cells #[.slice A n c,.slice B m d,.int .u32 f,.int .u32 x,.int .u64 q,.bool dy] 53)).alloc (.cells #[.slice A' n c',.slice B' m d',.int .u32 f,.int .u32 x,.int .u64 q,.bool dy] 53):=⟨_,rfl⟩
 have hb2:Below w.heap.size w w2:=by rw[hw2]; exact ((Below.refl _ w).alloc (nR _) _).alloc (by simp) _
 have HA:=hI (show z8 w2 w.heap.size 53 #[.slice A n c,.slice B m d,.int .u32 f,.int .u32 x,.int .u64 q,.bool dy] by rw[hw2]; exact (z8.new w _ _).alloc _)
 have HB:=hI (show z8 w2 (w.heap.size+1) 53 #[.slice A' n c',.slice B' m d',.int .u32 f,.int .u32 x,.int .u64 q,.bool dy] by rw[hw2]; exact zY w _ _ _)
 have hl:∀ b,b<w.heap.size→b<w2.heap.size:=fun b h=>nL h hb2.size
 have yS:=hI (JO A A' n c c' us S T w2 (hk.below hb2 hS) (hk'.below hb2 hT) (fun b h=>hl b (hS b h)) (fun b h=>hl b (hT b h)) hu)
 have HE2:=hI (JO B B' m d d' vs S T w2 (hv.below hb2 hS) (hv'.below hb2 hT) (fun b h=>hl b (hS b h)) (fun b h=>hl b (hT b h)) hb)
 have bM:=hI hb2
 have HW:=hI hw2
 have f0:w2.cell? ⟨w.heap.size,0,none⟩=some (.slice A n c):=HA.out.cell 0
 have f1:w2.cell? ⟨w.heap.size,1,none⟩=some (.slice B m d):=HA.out.cell 1
 have f2:w2.cell? ⟨w.heap.size,2,none⟩=some (.int .u32 f):=HA.out.cell 2
 have f3:w2.cell? ⟨w.heap.size,3,none⟩=some (.int .u32 x):=HA.out.cell 3
 have f4:w2.cell? ⟨w.heap.size,4,none⟩=some (.int .u64 q):=HA.out.cell 4
 have f5:w2.cell? ⟨w.heap.size,5,none⟩=some (.bool dy):=HA.out.cell 5
 have g0:w2.cell? ⟨w.heap.size+1,0,none⟩=some (.slice A' n c'):=HB.out.cell 0
 have g1:w2.cell? ⟨w.heap.size+1,1,none⟩=some (.slice B' m d'):=HB.out.cell 1
 have g2:w2.cell? ⟨w.heap.size+1,2,none⟩=some (.int .u32 f):=HB.out.cell 2
 have g3:w2.cell? ⟨w.heap.size+1,3,none⟩=some (.int .u32 x):=HB.out.cell 3
 have g4:w2.cell? ⟨w.heap.size+1,4,none⟩=some (.int .u64 q):=HB.out.cell 4
 have g5:w2.cell? ⟨w.heap.size+1,5,none⟩=some (.bool dy):=HB.out.cell 5
 clear hk hk' hv hv' hS hT hu hb hb2 hw2 hl
 go_enter Tryz.func25,Tryz.ntmps25
 go_upto_region 1 with fail
 rw[← HW.out]
 go_wp2_with fail
 refine yS.out.mono ?_
 rintro r w3 ⟨rfl,rfl⟩
 go_wp2_with fail
 refine HE2.out.mono ?_
 rintro r w4 ⟨rfl,rfl⟩
 go_wp2_with fail
 (first | go_ret | go_ret2)
 exact ⟨rfl,bM.out⟩
end
section
attribute [local go_sem] Oper.semAt_some
def zBB:List Int:=[0,0,0,1,2,3,4,5,6,7,8,9]
def Zf (kd:Int):Nat:=(kd % 18446744073709551616 % 12).toNat
def Ri (kd:Int):Int:=zBB.getD (Zf kd) 0
theorem Ee (r:Nat) (h:r<12) (W:World):(Instr.index 173 (.agg #[.int .i64 0,.int .i64 0,.int .i64 0,.int .i64 1,.int .i64 2,.int .i64 3,.int .i64 4,.int .i64 5,.int .i64 6,.int .i64 7,.int .i64 8,.int .i64 9]) (.int .u64 (r:Int))).run Tryz.prog W=.ok (.int .i64 (zBB.getD r 0)) W:=by
 obtain rfl | rfl | rfl | rfl | rfl | rfl | rfl | rfl | rfl | rfl | rfl | rfl:r=0∨r=1∨r=2∨r=3∨r=4∨r=5∨r=6∨r=7∨r=8∨r=9∨r=10∨r=11:=by omega
 all_goals kernel_rfl
theorem zDA (kd ky sz at' q x:Int) (w:World) :
 Calls Tryz.prog 30 #[.agg #[.int .i64 kd,.int .i64 ky,.int .i64 sz,.int .i64 at',.int .u64 q,.int .u32 x]] w fun e w'=>e=.returned (.int .i64 (Ri kd))∧Below w.heap.size w w':=by
 obtain ⟨w1,hw1⟩:∃ w1,w1=w.alloc (.cells #[.int .i64 kd,.int .i64 ky,.int .i64 sz,.int .i64 at',.int .u64 q,.int .u32 x] 74):=⟨_,rfl⟩
 have hb1:Below w.heap.size w w1:=by rw[hw1]; exact (Below.refl _ w).alloc (nR _) _
 have HO1:=hI (show z8 w1 w.heap.size 74 #[.int .i64 kd,.int .i64 ky,.int .i64 sz,.int .i64 at',.int .u64 q,.int .u32 x] by rw[hw1]; exact z8.new w _ _)
 have c0:w1.cell? ⟨w.heap.size,0,none⟩=some (.int .i64 kd):=HO1.out.cell 0
 have hw:IntKind.u64.wrap kd=kd % 18446744073709551616:=IntKind.wrap_u64 kd
 have HB1:=hI hb1
 have HW1:=hI hw1
 have hr:(kd % 18446744073709551616).tmod 12=(Zf kd:Nat):=by
  rw[Int.tmod_eq_emod_of_nonneg (by omega)]
  unfold Zf
  omega
 have hlt:Zf kd<12:=by unfold Zf; omega
 unfold Ri
 have hix:=Ee (Zf kd) hlt
 generalize Zf kd=r at *
 clear hb1 hw1
 go_enter Tryz.func30,Tryz.ntmps30
 go_upto_region 1 with fail
 rw[← HW1.out]
 go_wp2
 (first | go_ret | go_ret2)
 exact ⟨rfl,HB1.out⟩
theorem UZ (A:Option Addr) (n c m:Nat) (hm:m=min n 50) (hnc:n≤c) (hA:A=none→c=0) (w:World):Calls Tryz.prog 29 #[.slice A n c] w fun e w'=>e=.returned (.slice A m c)∧w'=w:=by
 have OM:=hI (show (min (n:Int) 50).toNat=m by omega)
 have h2:min (n:Int) 50≤c:=by omega
 have h3:0≤min (n:Int) 50:=by omega
 clear hm hnc
 go_enter Tryz.func29,Tryz.ntmps29
 go_wp2
 all_goals (first | go_ret | go_ret2)
 all_goals exact ⟨by rw[← OM.out]; rfl,rfl⟩
end
end Go.Proofs.YtdkbpchmnhbhcaaGreat
