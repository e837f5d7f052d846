/- Texts of StoreKeeps, packed. -/
import Derived.Test.YtdkbpchmnhbhcaaGreatPackStoreKeeps16
import Derived.OwnWalk
import Derived.Great.BuildSlice
import Derived.Laws.CopyRow
import Derived.Deep.Slices
import Derived.Deep.Fields
import Derived.ChangeSame
import Derived.Lib.SmallJoins
import Derived.Deep.DeepCutAuto
import Derived.Deep.CutBlock
set_option linter.unusedVariables false
set_option linter.unusedSimpArgs false
set_option maxRecDepth 100000
set_option maxHeartbeats 16000000
namespace Go.Proofs.YtdkbpchmnhbhcaaGreat
open Go.RowKit
section
attribute [local go_sem] Oper.semAt_some
abbrev kq0:Oper:=⟨some 77,.move (.tmp 7),56,"outright.go:37",#[],none⟩
abbrev kq1:Oper:=⟨some 78,.move (.tmp 13),3,"outright.go:37",#[],none⟩
abbrev kq2:Oper:=⟨some 79,.call { callee:=.value (.func 32),args:=#[.tmp 78],argTypes:=#[3] },31,"outright.go:37",#[⟨1,.data⟩],none⟩
abbrev kq3:Oper:=⟨some 80,.fieldAddr 74 (.tmp 12) 4,0,"outright.go:37",#[],none⟩
abbrev kq4:Oper:=⟨some 81,.load 30 (.tmp 80),30,"outright.go:37",#[⟨3,.data⟩],none⟩
abbrev kq5:Oper:=⟨some 82,.call { callee:=.value (.func 26),args:=#[.tmp 77,.tmp 79,.tmp 81],argTypes:=#[56,31,30] },36,"outright.go:37",#[⟨0,.data⟩,⟨2,.data⟩,⟨4,.data⟩,⟨2,.chain⟩],none⟩
abbrev kq6:Oper:=⟨some 83,.binOp Go.BinOp.eql 36 (.tmp 82) (.const (.int .i64 0)) 36,4,"outright.go:37",#[⟨5,.data⟩],none⟩
abbrev ks0:Oper:=⟨some 105,.move (.tmp 7),56,"outright.go:50",#[],none⟩
abbrev ks1:Oper:=⟨some 106,.call { callee:=.value (.func 35),args:=#[.tmp 105],argTypes:=#[56] },24,"outright.go:50",#[⟨0,.data⟩],none⟩
abbrev Mr:Oper:=⟨some 107,.call { callee:=.value (.func 11),args:=#[.tmp 106],argTypes:=#[24] },45,"outright.go:50",#[⟨1,.data⟩,⟨1,.chain⟩],none⟩
abbrev ks3:Oper:=⟨some 108,.fieldAddr 74 (.tmp 12) 3,0,"outright.go:50",#[],none⟩
abbrev ks4:Oper:=⟨some 109,.load 3 (.tmp 108),3,"outright.go:50",#[⟨3,.data⟩],none⟩
abbrev ks5:Oper:=⟨some 110,.convert 3 75 (.tmp 109),75,"outright.go:50",#[⟨4,.data⟩],none⟩
abbrev ks6:Oper:=⟨some 111,.binOp Go.BinOp.rem 75 (.tmp 110) (.const (.int .u64 4)) 75,75,"outright.go:50",#[⟨5,.data⟩],none⟩
abbrev ks7:Oper:=⟨some 112,.convert 75 3 (.tmp 111),3,"outright.go:50",#[⟨6,.data⟩],none⟩
abbrev PI:Oper:=⟨some 113,.call { callee:=.value (.func 10),args:=#[.tmp 107,.tmp 112],argTypes:=#[45,3] },43,"outright.go:50",#[⟨2,.data⟩,⟨7,.data⟩,⟨2,.chain⟩],none⟩
abbrev QS:Oper:=⟨some 104,.move (.tmp 113),43,"outright.go:50",#[⟨8,.data⟩],none⟩
abbrev tZ:Oper:=⟨some 114,.extract (.tmp 104) 0,42,"outright.go:50",#[⟨9,.data⟩],none⟩
abbrev tY:Oper:=⟨some 115,.extract (.tmp 104) 1,36,"outright.go:50",#[⟨9,.data⟩,{ on:=13,ground:=Go.Ground.gcOnly Go.Departure.lateStores }],none⟩
abbrev J9:Oper:=⟨some 16,.alloc 42,0,"outright.go:50",#[],none⟩
abbrev J8:Oper:=⟨none,.store 42 (.tmp 16) (.tmp 114),0,"outright.go:50",#[⟨12,.data⟩,⟨10,.data⟩,⟨8,.chain⟩,⟨0,.phase⟩,⟨1,.phase⟩,⟨2,.phase⟩,⟨3,.phase⟩,⟨4,.phase⟩,⟨5,.phase⟩,⟨6,.phase⟩,⟨7,.phase⟩,⟨8,.phase⟩,⟨9,.phase⟩,⟨10,.phase⟩,{ on:=11,ground:=Go.Ground.textOnly Go.Departure.lateStores },⟨12,.phase⟩],none⟩
abbrev tX:Oper:=⟨some 17,.assign (.tmp 115),36,"outright.go:50",#[⟨11,.data⟩,⟨13,.chain⟩,⟨0,.phase⟩,⟨1,.phase⟩,⟨2,.phase⟩,⟨3,.phase⟩,⟨4,.phase⟩,⟨5,.phase⟩,⟨6,.phase⟩,⟨7,.phase⟩,⟨8,.phase⟩,⟨9,.phase⟩,⟨10,.phase⟩,⟨11,.phase⟩,⟨12,.phase⟩,⟨13,.phase⟩],none⟩
theorem YH:(Tryz.prog.info? 74).map (·.size)=some 6:=by kernel_rfl
section
variable {P:Program} {w:World} {ops:Array Oper} {rest:List Oper} {o:Oper} {a:Act} {Q:Exit→Act→World→Prop}
theorem uV (x:Operand) (ty:TypeId) (ho:o.op=.load ty x) (hgd:Region.wanted o (yielded ops a.tmps)=true) (b off:Nat) (hx:a.eval x=.pointer (some ⟨b,off,none⟩))
 (cs:List Value) (d:TypeDesc) (hu:P.underlying ty=some d) (hd:d.isRow=true) (hi:(P.info? ty).map (·.size)=some cs.length) (hc:w.rangeAt b off cs)
 (h:wpList P ops Q rest (a.put o.dst (.agg cs.toArray)) w):wpList P ops Q (o::rest) a w:=by
 refine wpList_step fun K hK=>?_
 rw[if_pos hgd]
 exact wp_load_mid ty x ho b off hx cs d hc hu hd hi (hK _ _ h)
end
theorem WZ (n:Nat) (q:Int):Bytes (List.replicate n (q % 256)):=by
 intro j
 by_cases h:j<n
 ·simp[List.getD,List.getElem?_replicate,h]; omega
 ·simp[List.getD,List.getElem?_replicate,h]
abbrev opC (kd ky sz pl q x:Int):Array Value:=#[.int .i64 kd,.int .i64 ky,.int .i64 sz,.int .i64 pl,.int .u64 q,.int .u32 x]
abbrev LH (seg:Nat) (gen:Int) (at_:Nat) (bs:List Int) (b1 b2:Nat):Array Value:=#[.int .i64 (seg:Int),.int .u64 gen,.int .i64 (at_:Int),.int .i64 (kindOf bs),.int .u32 (flagsOf bs),.int .u32 (qA bs),.int .u64 (zo bs),.slice (some ⟨b1,0,none⟩) (zH bs) (zH bs),.slice (some ⟨b2,0,none⟩) (zO bs) (zO bs)]
theorem zDC (a:Int):∃ k:Nat,k<8∧IntKind.u64.wrap a=a % 18446744073709551616∧(a % 18446744073709551616).tmod 8=(k:Int)∧IntKind.i64.wrap (k:Int)=(k:Int)∧jf a=jf (k:Nat):=by
 refine ⟨(a % 18446744073709551616 % 8).toNat,by omega,IntKind.wrap_u64 a,?_,?_,?_⟩
 ·rw[Int.tmod_eq_emod_of_nonneg (by omega)]; omega
 ·rw[IntKind.wrap_i64]; omega
 ·rw[← Ej a]; congr 1; omega
def sQ (w0:World) (b1 q mp:Nat) (fl:Int) (u:Nat) (W:World):Prop:=∃ X B s xs st bl rs fs,lF w0 b1 q mp fl W X B s xs st bl rs fs∧B.pe≤17*u∧s.g≤u∧fs.length≤u
theorem sQ.le {w0:World} {b1 q mp u u':Nat} {fl:Int} {W:World} (h:sQ w0 b1 q mp fl u W) (hu:u≤u'):sQ w0 b1 q mp fl u' W:=by
 obtain ⟨X,B,s,xs,st,bl,rs,fs,h1,h2,h3,h4⟩:=h
 exact ⟨X,B,s,xs,st,bl,rs,fs,h1,by omega,by omega,by omega⟩
theorem sQ.grow {w0:World} {b1 q mp u:Nat} {fl:Int} {W W':World} (h:sQ w0 b1 q mp fl u W) (hb:Below W.heap.size W W'):sQ w0 b1 q mp fl u W':=by
 obtain ⟨X,B,s,xs,st,bl,rs,fs,h1,h2⟩:=h
 exact ⟨_,B,s,xs,st,bl,rs,fs,h1.grow hb,h2⟩
def Uz (w0:World) (b1 q mp:Nat) (fl:Int) (u seg:Nat) (tv ev:Value) (W:World):Prop:=∃ g A c ts gen used X B s xs st bl rs fs,tv=.pointer (some ⟨g,0,none⟩)∧ev=.int .i64 0∧z8 W g 42 (ji gen used (.slice A ts.length c))∧lF w0 b1 q mp fl W X B s xs st bl rs fs ∧
 (B.pe≤17*u∧s.g≤u∧fs.length≤u)∧CB W X seg gen A ts∧(∀ t,t∈ts→AtR B.k s xs ((seg:Int),gen,(t.at_:Int)) t.bs)∧ts.length≤24
def Xr (w0:World) (b1 q mp:Nat) (fl:Int) (u seg:Nat) (gen:Int) (A:Option Addr) (ts:List Tl) (j:Nat) (W:World):Prop:=∃ X B s xs st bl rs fs,lF w0 b1 q mp fl W X B s xs st bl rs fs∧(B.pe≤17*(u+j)∧s.g≤u+j∧fs.length≤u)∧CB W X seg gen A ts∧∀ t,t∈ts→AtR B.k s xs ((seg:Int),gen,(t.at_:Int)) t.bs
theorem Xr.grow {w0:World} {b1 q mp u seg j:Nat} {fl gen:Int} {A:Option Addr} {ts:List Tl} {W W':World} (h:Xr w0 b1 q mp fl u seg gen A ts j W) (hb:Below W.heap.size W W'):Xr w0 b1 q mp fl u seg gen A ts j W':=by
 obtain ⟨X,B,s,xs,st,bl,rs,fs,h1,h2,h3,h4⟩:=h
 have hk:Kept X W W':=Kept.of_below hb h1.m.sto.lt
 exact ⟨_,B,s,xs,st,bl,rs,fs,h1.grow hb,h2,h3.kept hk (fun b h=>.inl h),h4⟩
theorem Xr.next {w0:World} {b1 q mp u seg j:Nat} {fl gen:Int} {A:Option Addr} {ts:List Tl} {W:World} (h:Xr w0 b1 q mp fl u seg gen A ts j W):Xr w0 b1 q mp fl u seg gen A ts (j+1) W:=by
 obtain ⟨X,B,s,xs,st,bl,rs,fs,h1,⟨h2,h5,h6⟩,h3,h4⟩:=h
 exact ⟨X,B,s,xs,st,bl,rs,fs,h1,⟨by omega,by omega,h6⟩,h3,h4⟩
abbrev lY:Array Value:=#[.int .u64 0,.int .i64 0,.slice none 0 0]
theorem lT (w:World):(zeroValue 42).run Tryz.prog w=.ok (.agg lY) w:=(Tryz.zeroValue42 w).trans rfl
def KpF (w0:World) (b1 q mp:Nat) (fl:Int) (W:World):Prop:=∃ X B s xs st bl rs fs,lF w0 b1 q mp fl W X B s xs st bl rs fs
abbrev iC (y:KE):Array Value:=#[.slice (some ⟨y.a,0,none⟩) 2 2,.slice (some ⟨y.a2,0,none⟩) y.n2 y.c2,.int .u32 y.f,.int .u32 y.x,.int .u64 y.q,.bool false]
theorem KG {f x q:Int} {us vs:List Int} (hm:May 1 f x q us.length vs.length) (hr:oJ f x q):keyOf (qI 1 f x q us vs)=us∧flagsOf (qI 1 f x q us vs)=f∧qA (qI 1 f x q us vs)=x∧zo (qI 1 f x q us vs)=q∧valOf (qI 1 f x q us vs)=vs:=by
 have hl:=hm.lens
 obtain ⟨a1,a2,a3,a4,a5,a6⟩:=hr
 have h1:=Wh (k:=1) (f:=f) (x:=x) (s:=q) (xs:=us) (ys:=vs) (zs:=[]) a1 a2
 have h2:=MF (k:=1) (f:=f) (x:=x) (s:=q) (xs:=us) (ys:=vs) (zs:=[]) a3 a4
 have h3:=ME (k:=1) (f:=f) (x:=x) (s:=q) (xs:=us) (ys:=vs) (zs:=[]) a5 a6
 have h4:=zCW (k:=1) (f:=f) (x:=x) (s:=q) (xs:=us) (ys:=vs) (zs:=[]) (by omega) (by omega)
 rw[List.append_nil] at h1 h2 h3 h4
 exact ⟨GQ hm,h1,h2,h3,h4⟩
abbrev Vl (y:KE) (b1 b2:Nat):Array Value:=#[.slice (some ⟨b1,0,none⟩) 2 2,.slice (some ⟨b2,0,none⟩) y.n2 y.n2,.int .u32 y.f,.int .u32 y.x,.int .u64 y.q,.bool false]
theorem zDD {W:World} {X:Nat→Prop} {y:KE} (h:nP W X y) (b1 b2:Nat):bZ y.bs b1 b2=Vl y b1 b2∧Go.Proofs.YtdkbpchmnhbhcaaGreat.keyOf y.bs=jf (y.k:Nat)∧valOf y.bs=y.vs:=by
 have hvl:y.vs.length=y.n2:=h.val.1
 have hm:May 1 y.f y.x y.q (jf (y.k:Nat)).length y.vs.length:=by rw[hvl]; exact h.may
 have hl:=hm.lens
 obtain ⟨g1,g2,g3,g4,g5⟩:=KG hm h.rng
 have h1:=ug (k:=1) (f:=y.f) (x:=y.x) (s:=y.q) (xs:=jf (y.k:Nat)) (ys:=y.vs) (zs:=[]) (by omega)
 have h2:=ZT (k:=1) (f:=y.f) (x:=y.x) (s:=y.q) (xs:=jf (y.k:Nat)) (ys:=y.vs) (zs:=[]) (by omega)
 rw[List.append_nil] at h1 h2
 refine ⟨?_,g1,g5⟩
 show #[_,_,_,_,_,_]=_
 rw[h1,h2,g2,g3,g4,hvl]
 rfl
theorem FX (now : Int) {A : Option Addr} {n cap : Nat} {z : List OpM.Op6} {w : World} (ho : WC w A n cap z) (zGb : 0 ≤ now ∧ now ≤ 4294967295) :
 Calls Tryz.prog 5 #[.slice A n cap,.int .u32 now] w fun e w'=>e=.returned (.bool true)∧Below w.heap.size w w':=by
 obtain ⟨m,hm⟩:∃ m,m=min n 50:=⟨_,rfl⟩
 have zQI:m≤50:=by omega
 have hmn:m≤n:=by omega
 have HO:=hI ho
 have zQU:=hI zGb
 have zJB:=hI (UZ A n cap m hm ho.nc ho.nA)
 clear ho hm zGb
 go_enter Tryz.func5,Tryz.ntmps5
 go_wp2_with fail
 refine (zCM w).mono ?_
 rintro e w1 ⟨rfl,hb1⟩
 have HB1:=hI hb1
 clear hb1
 go_wp2_with fail
 refine (D9 w1).mono ?_
 rintro e w2 ⟨l1,p1,d1,rfl,hl1,hb2⟩
 have HB2:=hI hb2
 have eD:=hI hl1
 clear hb2 hl1
 go_wp2_with fail
 refine (MQ (slots:=8) eD.out (fun b h=>by have:=HB2.out.size; omega) (by omega) (by omega)).mono ?_
 rintro e w4 ⟨q1,x1,F1,c1,f1,rfl,hs1,hb4⟩
 have hst:=qz.start hs1 rfl ((HB1.out.trans (HB2.out.mono HB1.out.size)).trans (hb4.mono (nT HB1.out.size HB2.out.size))) HB1.out.size
 have hbm:Below w4.heap.size w4 (w4.alloc (.map #[] 0)):=(Below.refl _ _).alloc (nR _) _
 have HI:=hI (show sQ w w1.heap.size q1 w4.heap.size 0 0 (w4.alloc (.map #[] 0)) from ⟨_,_,_,_,_,_,_,[],⟨hst.grow hbm,⟨fun p hp=>(by cases hp),hs1.fm.bits⟩,rfl,.inr ⟨nR _,by simp⟩,hst.bel.size,jo.made w4,fun e he=>(by cases he),⟨fun e he=>(by cases he),fun i _ _=>rfl⟩⟩,nR _,Int.le_refl _,nR _⟩)
 generalize w1.heap.size=bb at *
 clear hs1 hb4 eD HB1 HB2 hst hbm
 have hmm:=@run_makeMap Tryz.prog
 go_wp2_with fail
 clear hmm
 generalize w4.heap.size=mp at *
 generalize w4.alloc (.map #[] 0)=w4 at *
 refine (zJB.out w4).mono ?_
 rintro e w6 ⟨rfl,rfl⟩
 clear zJB
 go_wp2_with fail
 go_loopw [10,47] (fun fv cv wr=>∃ (i:Nat) (fl:Int),cv=.int .i64 i∧i≤m∧fv=.int .u64 fl∧(0≤fl∧fl≤18446744073709551615)∧sQ w bb q1 mp fl (25*i) wr) (fun _ cv _=>m-(intOf cv).toNat)
 case atStart=>exact ⟨0,0,rfl,Nat.zero_le _,rfl,by omega,HI.out⟩
 case round =>
 clear HI
 obtain ⟨i,fl,rfl,him,rfl,hfl,hm⟩:=hrel
 have gP:=hI hfl
 clear hfl
 by_cases hlt:i<m
 ·obtain ⟨X, B, s, xs, st, bl, rs, fs, hm, hpe, hgg, hfn⟩ := hm
  have HM:=hI hm
  have yh:=hI (And.intro hpe (And.intro hgg hfn))
  have IE:B.pe≤900000:=by omega
  have zGm:s.g+1≤18446744073709551615:=by omega
  obtain ⟨b,off,rfl,hbS,hcells⟩:=HO.out.row.2 (by omega)
  have hr:=hcells i (by omega)
  have hfin:=HO.out.fin i (by omega)
  obtain ⟨o,ho⟩:∃ o,z.getD i OpM.ent0=o:=⟨_,rfl⟩
  rw[ho] at hr hfin
  clear ho
  obtain ⟨kd,ky,sz,pl,q,x⟩:=o
  have QB:=hI (show wr.rangeAt b (off+i*6) (OpM.entV ⟨kd,ky,sz,pl,q,x⟩) from fun j v hv=>(hm.m.bel.cell (p:=⟨b,_,none⟩) hbS).trans (hr j v hv))
  have wo:=hI (show (0≤q∧q≤18446744073709551615)∧0≤x∧x≤4294967295 from hfin)
  clear hr hfin hcells hm
  obtain ⟨w5,jH⟩:∃ w5,w5=wr.alloc (.cells (opC kd ky sz pl q x) 74):=⟨_,rfl⟩
  have hb5:Below wr.heap.size wr w5:=by rw[jH]; exact (Below.refl _ _).alloc (nR _) _
  have oQ:=hI (show z8 w5 wr.heap.size 74 (opC kd ky sz pl q x) by rw[jH]; exact z8.new wr _ _)
  have wJ:=hI (HM.out.grow hb5)
  have pK:=hI jH.symm
  clear jH hb5 HM
  obtain ⟨k,kE,k64,zMT,kwr,zGE⟩:=zDC ky
  have HKEY:=hI zGE
  clear zGE
  go_upto_region 12 with (refine uV (.tmp 49) 74 rfl rfl b (off+i*6) rfl (OpM.entV ⟨kd,ky,sz,pl,q,x⟩) _ Tryz.underlying74 rfl YH QB.out ?_)
  rw[pK.out]
  have o1:w5.cell? ⟨wr.heap.size,1,none⟩=some (.int .i64 ky):=oQ.out.cell 1
  go_wp2_with (refine zV (.tmp 12) 74 rfl rfl wr.heap.size rfl 74 (OpM.entV ⟨kd,ky,sz,pl,q,x⟩) _ Tryz.underlying74 rfl YH oQ.out ?_)
  clear k64 zMT kwr o1
  refine (zDA kd ky sz pl q x w5).mono ?_
  rintro e w6 ⟨rfl,hb6⟩
  have wh:=hI (oQ.out.below hb6 oQ.out.lt)
  have qQ:=hI (wJ.out.grow hb6)
  have xK:=hI oQ.out.lt
  clear hb6 pK QB
  generalize Ri kd=kn at *
  by_cases e0:kn=0
  ·subst e0
   clear wJ oQ
   go_wp2_with (refine zV (.tmp 12) 74 rfl rfl wr.heap.size rfl 74 (OpM.entV ⟨kd,ky,sz,pl,q,x⟩) _ Tryz.underlying74 rfl YH wh.out ?_)
   refine (zDE kd ky sz pl q x w6).mono ?_
   rintro e w7 ⟨g7,g72,c72,rfl,aQ,KV,hv7,jy⟩
   rw[HKEY.out] at KV
   obtain ⟨w8,hw8⟩:∃ w8,w8=(w7.alloc (.cells qN 53)).setRow w7.heap.size (rA g7 g72 c72 sz x q):=⟨_,rfl⟩
   have wL:=hI (z8.new w7 53 qN)
   have jK:Below w7.heap.size w7 w8:=by rw[hw8]; exact Kept.to_below (((Kept.refl (fun b=>b<w7.heap.size) w7).alloc (fun b h=>h) _).setRow (fun h=>by omega) _) (fun b h=>h)
   have nW:=hI (show z8 w8 w7.heap.size 53 (rA g7 g72 c72 sz x q) by rw[hw8]; exact setRow_heap _ _ _ _ _ _ wL.out)
   have nH:=hI hw8.symm
   have jA:=hI ((qQ.out.grow jy).grow jK)
   have bI:=hI (show zn w8 g7 (jf (k:Nat))∧zW .u8 w8 (fun b=>w6.heap.size≤b∧b<w7.heap.size) (some ⟨g72,0,none⟩) (mX sz) (List.replicate (mX sz) (q % 256))∧w6.heap.size≤g7∧g7<w7.heap.size∧w7.heap.size<w8.heap.size from ⟨z8.below KV jK KV.lt,hv7.bound.below jK (fun b h=>h.2),aQ,KV.lt,nW.out.lt⟩)
   have V9:=hI (jA.out.m.putK jA.out.may (f:=sz % 4294967296) (x:=x) (q1:=q) (dy:=sz.tmod 2==0) (c:=2) (c2:=c72) (m:=2) (us:=jf (k:Nat)) (vs:=List.replicate (mX sz) (q % 256)) ((qF.rowN (S:=fun b=>b=g7) bI.out.1 0 (n:=2) rfl rfl).more (fun b h=>.inl (.inr ⟨by have:=bI.out.2.2.1; omega,by have:=bI.out.2.2.2.1; omega⟩))) (bI.out.2.1.more (fun b h=>.inl (.inr ⟨h.1,h.2⟩))) (mW _) (WZ _ _) (fun h=>by cases h) (fun h=>by cases h) ⟨by omega,by omega,wo.out.2.1,wo.out.2.2,wo.out.1.1,wo.out.1.2⟩ IE zGm)
   have kN:=hI jy
   have yj:=hI jK
   clear aQ KV hv7 jy hw8 jK
   go_wp2_with (first
    | (refine zF (.tmp 14) (.tmp 61) 53 rfl rfl w7.heap.size (rA g7 g72 c72 sz x q) rfl rfl 53 _ wL.out qo rfl (by simp[Value.oneCell']) ?_; rw[nH.out])
    | (refine zV (.tmp 14) 53 rfl rfl w7.heap.size rfl 53 (rA g7 g72 c72 sz x q).toList _ Tryz.underlying53 rfl qo nW.out ?_))
   refine V9.out.mono ?_
   rintro e w9 ⟨er,B',s',xs',st',yF,rs',rfl,hm9,hy9,xI,U1,iV,PU,hor⟩
   rcases hor with ⟨rfl,hmay,a9,Rt⟩ | ⟨her,Rt⟩
   ·have hent:∀ x,x∈fs→nP w8 _ x:=fun x hx=>((qQ.out.grow kN.out).ent x hx).kept (Kept.of_below yj.out (qQ.out.grow kN.out).m.sto.lt) (fun b h=>h)
    obtain ⟨w11,hrun,hkp,hkk⟩:=jA.out.put1 (e:=⟨k,g7,g72,mX sz,c72,sz % 4294967296,x,q,List.replicate (mX sz) (q % 256)⟩) (g:=w7.heap.size) hm9 hy9 (PU.trans jA.out.fl) xI (fun b h=>.inl h) hent
     ⟨kE,.inr ⟨by have:=bI.out.2.2.1; omega,by have:=bI.out.2.2.2.1; omega⟩,bI.out.1,bI.out.2.1.more (fun b h=>.inr ⟨h.1,h.2⟩),hmay,(show oJ (sz % 4294967296) x q from ⟨by omega,by omega,wo.out.2.1,wo.out.2.2,wo.out.1.1,wo.out.1.2⟩),WZ _ _⟩
     (qQ.out.grow kN.out).xm (.inr ⟨nR _,bI.out.2.2.2.2⟩) (fun h=>by have:=(qQ.out.grow kN.out).m.sto.lt _ h; omega) ((qQ.out.grow kN.out).m.bel.size) (by have:=yh.out; omega) Rt
    have NK:=hI (nW.out.kept xI (.inr ⟨nR _,bI.out.2.2.2.2⟩))
    have zNk:=hI (show z8 (w9.setCell ⟨w7.heap.size,5,none⟩ (.bool false)) w7.heap.size 53 #[.slice (some ⟨g7,0,none⟩) 2 2,.slice (some ⟨g72,0,none⟩) (mX sz) c72,.int .u32 (sz % 4294967296),.int .u32 x,.int .u64 q,.bool false] from NK.out.set_ 5 (.bool false))
    have yx:=hI (show sQ w bb q1 mp fl (25*(i+1)) w11 from ⟨_,_,_,_,_,_,_,_,hkp,by have:=yh.out; omega,by have:=yh.out; omega,nT Ov (by have:=yh.out; omega)⟩)
    have c5:w9.cell? ⟨w7.heap.size,5,none⟩=some (.bool (sz.tmod 2==0)):=NK.out.cell 5
    have f5:=NK.out.frozen 5
    clear hm9 hy9 xI U1 iV PU Rt hent hkp hkk hmay V9 jA bI nW NK wh qQ wL kN yj
    go_wp2_with (refine zV (.tmp 14) 53 rfl rfl w7.heap.size rfl 53 [.slice (some ⟨g7,0,none⟩) 2 2,.slice (some ⟨g72,0,none⟩) (mX sz) c72,.int .u32 (sz % 4294967296),.int .u32 x,.int .u64 q,.bool false] _ Tryz.underlying53 rfl qo zNk.out ?_)
    go_roundw
    case rel =>
     refine ⟨i+1,fl,rfl,by omega,by first | rfl | (congr 1; omega),gP.out,yx.out⟩
    case measure =>
     simp only[intOf]
     omega
   ·subst Rt
    have yx:=hI (show sQ w bb q1 mp fl (25*(i+1)) w9 from ⟨_,_,_,_,_,_,_,_,jA.out.on hm9 hy9 (PU.trans jA.out.fl) xI (fun b h=>h) (fun _=>rfl),by have:=yh.out; omega,by have:=yh.out; omega,by have:=yh.out; omega⟩)
    clear hm9 hy9 xI U1 iV PU V9 jA bI nW wh qQ wL kN yj
    rcases her with rfl | rfl
    ·go_wp2_with fail
     go_roundw
     case rel =>
      refine ⟨i+1,fl,rfl,by omega,by first | rfl | (congr 1; omega),gP.out,yx.out⟩
     case measure =>
      simp only[intOf]
      omega
    ·go_wp2_with fail
     go_roundw
     case rel =>
      refine ⟨i+1,fl,rfl,by omega,by first | rfl | (congr 1; omega),gP.out,yx.out⟩
     case measure =>
      simp only[intOf]
      omega
  ·have e0b : (kn == 0) = false := by simpa using e0
   by_cases e2:kn=2
   ·subst e2
    clear e0b e0 wJ oQ
    have HCD:=hI (show ∀ W,Below w6.heap.size w6 W→W.cell? ⟨wr.heap.size,4,none⟩=some (.int .u64 q) from fun W hW=>(wh.out.below hW wh.out.lt).cell 4)
    go_upto_region 25 with fail
    refine zB.region (fun W=>W.cell? ⟨wr.heap.size,4,none⟩=some (.int .u64 q)) [] (by kernel_rfl) (HCD.out _ (Below.refl _ _).drew) (fun hė=>?_)
    have Ji:=hI ((Below.refl w6.heap.size w6).drew)
    generalize w6.drew=vd at *
    refine tK 0 kq0 (v:=?_) ?_ hė ?_
    rotate_left
    ·intro W hSW; unfold kq0; go_simp; with_reducible rfl
    simp only[kq0,Act.put,sA,sZ,sS]
    refine tK 1 kq1 (v:=?_) ?_ hė ?_
    rotate_left
    ·intro W hSW; unfold kq1; go_simp; with_reducible rfl
    simp only[kq1,Act.put,sA,sZ,sS]
    refine tK 3 kq3 (v:=?_) ?_ hė ?_
    rotate_left
    ·intro W hSW; unfold kq3; go_simp; with_reducible rfl
    simp only[kq3,Act.put,sA,sZ,sS]
    refine tK 4 kq4 (v:=?_) ?_ hė ?_
    rotate_left
    ·intro W hSW; unfold kq4; go_simp; with_reducible rfl
    simp only[kq4,Act.put,sA,sZ,sS]
    refine tO 2 kq2 ?_
    intro K hK
    refine zN 32 #[.tmp 78] #[3] rfl rfl Tryz.func32 rfl rfl [.int .i64 k] rfl ((dB k vd).mono ?_)
    rintro e w7 ⟨g7,rfl,aQ,KV,jy⟩
    refine ⟨_,rfl,?_⟩
    simp only[kq2,Act.put,sA,sZ,sS]
    have Df:=HCD.out w7 (Ji.out.trans (jy.mono Ji.out.size))
    have kL:=hI ((qQ.out.grow Ji.out).grow jy)
    have V9:=hI (kL.out.m.killK kL.out.may (q1:=q) (c:=2) ((qF.rowN (S:=fun b=>b=g7) KV 0 (n:=2) rfl rfl).more (fun b h=>.inr ⟨by omega,by have:=z8.lt KV; omega⟩)) (mW k) wo.out.1 IE zGm)
    have zId:=hI (wh.out.below (Ji.out.trans (jy.mono Ji.out.size)) wh.out.lt)
    refine hU hK rfl _ _ Df (fun hė=>?_)
    clear hK K Df aQ KV jy
    refine tO 5 kq5 ?_
    intro K hK
    refine zN 26 #[.tmp 77,.tmp 79,.tmp 81] #[56,31,30] rfl rfl Tryz.func26 rfl rfl [.pointer (some ⟨q1,0,none⟩),.slice (some ⟨g7,0,none⟩) 2 2,.int .u64 q] rfl (V9.out.mono ?_)
    rintro e w8 ⟨er,B',s',xs',st',yF,rs',rfl,vW,DN,wX,QW,lC,sN,hor⟩
    refine ⟨_,rfl,?_⟩
    simp only[kq5,Act.put,sA,sZ,sS]
    have zIc:=hI (zId.out.kept wX (.inl (.inl (.inl (.inr ⟨nR _,xK.out⟩)))))
    have Cw:=hI (show qz w bb q1 w8 _ B' s' xs' st' yF rs'∧pY st' yF∧Kept _ w7 w8∧B'.pe≤B.pe+17∧s'.g≤s.g+1∧s'.f=s.f∧((er=0∧st'=qV st (jf k))∨(er≠0∧st'=st)) from ⟨vW,DN,wX,QW,lC,sN,hor⟩)
    refine hU hK rfl _ _ (zIc.out.cell 4) (fun hė=>?_)
    clear hK K vW DN wX QW lC sN hor V9 wh zId zIc qQ HCD Ji
    refine tK 6 kq6 (v:=?_) ?_ hė ?_
    rotate_left
    ·intro W hSW; unfold kq6; go_simp; with_reducible rfl
    simp only[kq6,Act.put,sA,sZ,sS]
    refine zB.done (by kernel_rfl) ?_ _
    obtain ⟨vW,DN,wX,QW,lC,sN,hor⟩:=Cw.out
    rcases hor with ⟨rfl,Ru⟩ | ⟨hne,Ru⟩
    ·obtain ⟨w11,hrun,hkp⟩:=kL.out.del1 vW DN (sN.trans kL.out.fl) wX kE Ru
     have yx:=hI (show sQ w bb q1 mp fl (25*(i+1)) w11 from ⟨_,_,_,_,_,_,_,_,hkp,by have:=yh.out; omega,by have:=yh.out; omega,nT (List.length_filter_le _ _) (by have:=yh.out; omega)⟩)
     clear vW DN wX QW lC sN Ru hkp Cw kL hė
     go_wp2_with fail
     go_roundw
     case rel =>
      refine ⟨i+1,fl,rfl,by omega,by first | rfl | (congr 1; omega),gP.out,yx.out⟩
     case measure =>
      simp only[intOf]
      omega
    ·subst Ru
     have yx:=hI (show sQ w bb q1 mp fl (25*(i+1)) w8 from ⟨_,_,_,_,_,_,_,_,kL.out.on vW DN (sN.trans kL.out.fl) wX (fun b h=>h) (fun _=>rfl),by have:=yh.out; omega,by have:=yh.out; omega,by have:=yh.out; omega⟩)
     have hneb:(er==0)=false:=by simpa using hne
     clear vW DN wX QW lC sN Cw kL hė hne
     go_wp2_with fail
     go_roundw
     case rel =>
      refine ⟨i+1,fl,rfl,by omega,by first | rfl | (congr 1; omega),gP.out,yx.out⟩
     case measure =>
      simp only[intOf]
      omega
   ·have e2b : (kn == 2) = false := by simpa using e2
    clear e0 e2
    by_cases e3:kn=3
    ·subst e3
     clear e0b e2b wJ oQ
     have V9:=hI qQ.out.m.syncK
     go_wp2_with fail
     refine V9.out.mono ?_
     rintro e w8 ⟨rfl,wX,vW⟩
     have yx:=hI (show sQ w bb q1 mp fl (25*(i+1)) w8 from ⟨_,_,_,_,_,_,_,_,qQ.out.on vW qQ.out.may qQ.out.fl wX (fun b h=>h) (fun _=>rfl),by have:=yh.out; show B.pe≤_; omega,by have:=yh.out; omega,by have:=yh.out; omega⟩)
     clear vW wX V9 wh qQ
     go_wp2_with fail
     go_roundw
     case rel =>
      refine ⟨i+1,fl,rfl,by omega,by first | rfl | (congr 1; omega),gP.out,yx.out⟩
     case measure =>
      simp only[intOf]
      omega
    ·have e3b : (kn == 3) = false := by simpa using e3
     clear e3
     by_cases e4:kn=4
     ·subst e4
      clear e0b e2b e3b wJ oQ
      have p4:w6.cell? ⟨wr.heap.size,4,none⟩=some (.int .u64 q):=wh.out.cell 4
      go_wp2_with fail
      refine (qQ.out.m.flushK q wo.out.1.2 IE).mono ?_
      rintro e w8 ⟨B',s',rs',rfl,vW,wX,QW,lC,sN⟩
      have p8:w8.cell? ⟨wr.heap.size,4,none⟩=some (.int .u64 q):=(wh.out.kept wX (.inl (.inr ⟨nR _,xK.out⟩))).cell 4
      have hmx:max fl q=max s.f q:=by rw[qQ.out.fl]
      have hfq:0≤q∧q≤18446744073709551615:=wo.out.1
      by_cases hlq:fl<q
      ·have yx:=hI (show sQ w bb q1 mp q (25*(i+1)) w8 from ⟨_,_,_,_,_,_,_,_,⟨vW,qQ.out.may,by rw[sN,← hmx]; omega,qQ.out.xm,qQ.out.m0,qQ.out.map.kept wX qQ.out.xm,fun x hx=>(qQ.out.ent x hx).kept wX (fun b h=>h),qQ.out.has⟩,by have:=yh.out; omega,by have:=yh.out; omega,by have:=yh.out; omega⟩)
       clear vW wX QW lC sN hmx hfq wh qQ p4
       go_wp2_with fail
       go_roundw
       case rel =>
        refine ⟨i+1,q,rfl,by omega,by first | rfl | (congr 1; omega),wo.out.1,yx.out⟩
       case measure =>
        simp only[intOf]
        omega
      ·have zQK:q≤fl:=by omega
       have yx:=hI (show sQ w bb q1 mp fl (25*(i+1)) w8 from ⟨_,_,_,_,_,_,_,_,⟨vW,qQ.out.may,by rw[sN,← hmx]; omega,qQ.out.xm,qQ.out.m0,qQ.out.map.kept wX qQ.out.xm,fun x hx=>(qQ.out.ent x hx).kept wX (fun b h=>h),qQ.out.has⟩,by have:=yh.out; omega,by have:=yh.out; omega,by have:=yh.out; omega⟩)
       clear vW wX QW lC sN hmx hfq wh qQ p4 hlq
       go_wp2_with fail
       go_roundw
       case rel =>
        refine ⟨i+1,fl,rfl,by omega,by first | rfl | (congr 1; omega),gP.out,yx.out⟩
       case measure =>
        simp only[intOf]
        omega
     ·have e4b : (kn == 4) = false := by simpa using e4
      clear e4
      by_cases e5:kn=5
      ·subst e5
       clear e0b e2b e3b e4b wJ oQ
       have Y9:=hI (show ∀ W,Below w6.heap.size w6 W→W.cell? ⟨wr.heap.size,3,none⟩=some (.int .i64 pl) from fun W hW=>(wh.out.below hW wh.out.lt).cell 3)
       obtain ⟨seg,hseg,s64,srem,swr⟩:=zDB pl
       go_upto_region 35 with fail
       go_cut [16,17] (fun tv ev wy=>Uz w bb q1 mp fl (25*i) seg tv ev wy)
       case first J KK hJ bE =>
        refine zB.region (fun W=>W.cell? ⟨wr.heap.size,3,none⟩=some (.int .i64 pl)) [] (by kernel_rfl) (Y9.out _ (Below.refl _ _).drew) (fun hė=>?_)
        have Ji:=hI ((Below.refl w6.heap.size w6).drew)
        have jc:=hI (qQ.out.grow Ji.out)
        have HZD:=hI (show w6.heap.size≤w6.drew.heap.size from nR _)
        have Y9:=hI (show ∀ W,Below w6.drew.heap.size w6.drew W→W.cell? ⟨wr.heap.size,3,none⟩=some (.int .i64 pl) from fun W hW=>Y9.out W (Ji.out.trans hW))
        have gK:=hI (show wr.heap.size<w6.heap.size from wh.out.lt)
        generalize w6.drew=vd at *
        have Xx:=hI (show ∀ W,Below vd.heap.size vd W→Calls Tryz.prog 35 #[.pointer (some ⟨q1,0,none⟩)] W fun e w'=>e=.returned (.pointer (some ⟨B.l,0,none⟩))∧w'=W from fun W hW=>by
         have h:=zCU (jc.out.grow hW).m.sto
         rw[jc.out.m.bq] at h
         exact h)
        have HSU:=hI (show ∀ W,Below vd.heap.size vd W→Calls Tryz.prog 11 #[.pointer (some ⟨B.l,0,none⟩)] W fun e w'=>e=.returned (.pointer (some ⟨B.p,0,none⟩))∧w'=W from fun W hW=>by
         obtain ⟨A9,c9,hlm,_,_⟩:=(jc.out.grow hW).m.sto.log.log
         exact aJ hlm)
        obtain ⟨va,hva⟩:∃ va,va=vd.alloc (.cells lY 42):=⟨_,rfl⟩
        have HVA:=hI hva.symm
        have mH:=hI (show Below vd.heap.size vd va by rw[hva]; exact (Below.refl _ _).alloc (nR _) _)
        have Qd:=hI (show z8 va vd.heap.size 42 lY by rw[hva]; exact z8.new vd _ _)
        have lK:=hI (jc.out.grow mH.out)
        clear hva qQ wh
        refine tK 0 ks0 (v:=?_) ?_ hė ?_
        rotate_left
        ·intro W hSW; unfold ks0; go_simp; with_reducible rfl
        simp only[ks0,Act.put,sA,sZ,sS]
        refine tK 3 ks3 (v:=?_) ?_ hė ?_
        rotate_left
        ·intro W hSW; unfold ks3; go_simp; with_reducible rfl
        simp only[ks3,Act.put,sA,sZ,sS]
        refine tK 4 ks4 (v:=?_) ?_ hė ?_
        rotate_left
        ·intro W hSW; unfold ks4; go_simp; with_reducible rfl
        simp only[ks4,Act.put,sA,sZ,sS]
        refine tK 5 ks5 (v:=?_) ?_ hė ?_
        rotate_left
        ·intro W hSW; unfold ks5; go_simp; with_reducible rfl
        simp only[ks5,Act.put,sA,sZ,sS]
        refine tK 6 ks6 (v:=?_) ?_ hė ?_
        rotate_left
        ·intro W hSW; unfold ks6; go_simp; with_reducible rfl
        simp only[ks6,Act.put,sA,sZ,sS]
        refine tK 7 ks7 (v:=?_) ?_ hė ?_
        rotate_left
        ·intro W hSW; unfold ks7; go_simp; with_reducible rfl
        simp only[ks7,Act.put,sA,sZ,sS]
        refine zB.two (i:=1) (j:=12) (o:=ks1) (o':=J9) (by kernel_rfl) rfl rfl ?_ ?_
        ·intro K hK
         refine zN 35 #[.tmp 105] #[56] rfl rfl Tryz.func35 rfl rfl [.pointer (some ⟨q1,0,none⟩)] rfl ((Xx.out _ (Below.refl _ _)).mono ?_)
         rintro e w7 ⟨rfl,hw7⟩
         have hw7:=hw7.symm
         subst hw7
         refine ⟨_,rfl,?_⟩
         simp only[ks1,Act.put,sA,sZ,sS]
         refine hU hK rfl _ _ hė (fun hė=>?_)
         clear hK K
         refine zB.two (i:=2) (j:=12) (o:=Mr) (o':=J9) (by kernel_rfl) rfl rfl ?_ ?_
         ·intro K hK
          refine zN 11 #[.tmp 106] #[24] rfl rfl Tryz.func11 rfl rfl [.pointer (some ⟨B.l,0,none⟩)] rfl ((HSU.out _ (Below.refl _ _)).mono ?_)
          rintro e w7 ⟨rfl,hw7⟩
          have hw7:=hw7.symm
          subst hw7
          refine ⟨_,rfl,?_⟩
          simp only[Mr,Act.put,sA,sZ,sS]
          refine hU hK rfl _ _ hė (fun hė=>?_)
          clear hK K
          refine zB.two (i:=8) (j:=12) (o:=PI) (o':=J9) (by kernel_rfl) rfl rfl ?_ ?_
          ·intro K hK
           refine zN 10 #[.tmp 107,.tmp 112] #[45,3] rfl rfl Tryz.func10 rfl rfl [.pointer (some ⟨B.p,0,none⟩),.int .i64 (seg:Nat)] rfl ((jc.out.m.scan hseg).mono ?_)
           rintro e w8 ⟨k8,A8,c8,ts,gen,used,m8,rfl,vW,hmv,hkp,htold,oD,hlen⟩
           refine ⟨_,rfl,?_⟩
           simp only[PI,Act.put,sA,sZ,sS]
           have hc8:w8.cell? ⟨wr.heap.size,3,none⟩=some (.int .i64 pl):=(hkp.cell (p:=⟨wr.heap.size,3,none⟩) (.inl (.inl (.inr ⟨nR _,xK.out⟩)))).trans hė
           obtain ⟨wb,hwb⟩:∃ wb,wb=w8.alloc (.cells lY 42):=⟨_,rfl⟩
           have HVB:=hI hwb.symm
           have bN:=hI (show Below w8.heap.size w8 wb by rw[hwb]; exact (Below.refl _ _).alloc (nR _) _)
           have Qe:=hI (show z8 wb w8.heap.size 42 lY by rw[hwb]; exact z8.new w8 _ _)
           have Cz:=hI hc8
           have aZ:=hI hkp.size
           have gQ:=hI (show Uz w bb q1 mp fl (25*i) seg (.pointer (some ⟨w8.heap.size,0,none⟩)) (.int .i64 0) (wb.setRow w8.heap.size (ji gen used (.slice A8 ts.length c8))) by
            have pF:Kept (fun b=>b≠w8.heap.size) wb (wb.setRow w8.heap.size (ji gen used (.slice A8 ts.length c8))):=(Kept.refl _ wb).setRow (fun h=>h rfl) _
            refine ⟨w8.heap.size,A8,c8,ts,gen,used,_,_,s,xs,st,bl,_,fs,rfl,rfl,setRow_heap _ _ _ _ _ _ Qe.out,jc.out.on ((hmv.grow bN.out).write pF (.inr ⟨nR _,Qe.out.lt⟩) (nT jc.out.m.bel.size hkp.size)) jc.out.may jc.out.fl ((hkp.trans (Kept.of_below bN.out (fun b h=>nL (jc.out.m.sto.lt b h) hkp.size)) (fun b h=>h)).trans pF (fun b h=>by have:=jc.out.m.sto.lt b h; have:=hkp.size; omega)) (fun b h=>.inl (.inl h)) (fun _=>rfl),⟨by have:=yh.out; show B.pe≤_; omega,by have:=yh.out; omega,by have:=yh.out; omega⟩,?_,oD,hlen⟩
            exact ((htold.tl (X:=fun b=>m8≤b∧b<w8.heap.size) (fun b h1 h2=>⟨h1,h2⟩)).kept (Kept.of_below bN.out (fun b h=>h.2)) (fun b h=>h)).kept (pF.mono (fun b h=>by omega)) (fun b h=>.inl (.inr h)))
           refine hU hK rfl _ _ hc8 (fun hė=>?_)
           clear hK K hc8 vW hmv hkp htold oD hlen hwb
           refine tK 9 QS (v:=?_) ?_ hė ?_
           rotate_left
           ·intro W hSW; unfold QS; go_simp; with_reducible rfl
           simp only[QS,Act.put,sA,sZ,sS]
           refine tK 10 tZ (v:=?_) ?_ hė ?_
           rotate_left
           ·intro W hSW; unfold tZ; go_simp; with_reducible rfl
           simp only[tZ,Act.put,sA,sZ,sS]
           refine tK 11 tY (v:=?_) ?_ hė ?_
           rotate_left
           ·intro W hSW; unfold tY; go_simp; with_reducible rfl
           simp only[tY,Act.put,sA,sZ,sS]
           refine tO 12 J9 ?_
           intro K hK
           refine y9 42 rfl rfl lY lT ?_
           simp only[J9,Act.put,sA,sZ,sS]
           rw[HVB.out]
           have hcb:wb.cell? ⟨wr.heap.size,3,none⟩=some (.int .i64 pl):=(bN.out.cell (p:=⟨wr.heap.size,3,none⟩) (by show wr.heap.size<w8.heap.size; have:=gK.out; have:=HZD.out; have:=aZ.out; omega)).trans Cz.out
           have HCB:=hI hcb
           refine hU hK rfl _ _ hcb (fun hė=>?_)
           clear hK K hcb
           refine tO 13 J8 ?_
           intro K hK
           refine jS (.tmp 16) (.tmp 114) 42 rfl rfl w8.heap.size (ji gen used (.slice A8 ts.length c8)) rfl rfl 42 _ Qe.out kg rfl (by simp[Value.oneCell']) ?_
           simp only[J8,Act.put,sA,sZ,sS]
           have JF:(wb.setRow w8.heap.size (ji gen used (.slice A8 ts.length c8))).cell? ⟨wr.heap.size,3,none⟩=some (.int .i64 pl):=(((Kept.refl (fun b=>b≠w8.heap.size) wb).setRow (fun h=>h rfl) _).cell (p:=⟨wr.heap.size,3,none⟩) (by show wr.heap.size≠w8.heap.size; have:=gK.out; have:=HZD.out; have:=aZ.out; omega)).trans HCB.out
           refine hU hK rfl _ _ JF (fun hė=>?_)
           clear hK K JF
           refine tK 14 tX (v:=?_) ?_ hė ?_
           rotate_left
           ·intro W hSW; unfold tX; go_simp; with_reducible rfl
           simp only[tX,Act.put,sA,sZ,sS]
           refine zB.done (by kernel_rfl) ?_ _
           refine bE _ _ (Met.intro (hJ _ _ ?_))
           (repeat apply Exists.intro)
           exact ⟨gQ.out,rfl⟩
          ·intro K hK
           refine y9 42 rfl rfl lY lT ?_
           simp only[J9,Act.put,sA,sZ,sS]
           rw[HVA.out]
           refine hU hK rfl _ _ (Y9.out _ mH.out) (fun hė=>?_)
           clear hK K
           refine tO 8 PI ?_
           intro K hK
           refine zN 10 #[.tmp 107,.tmp 112] #[45,3] rfl rfl Tryz.func10 rfl rfl [.pointer (some ⟨B.p,0,none⟩),.int .i64 (seg:Nat)] rfl ((lK.out.m.scan hseg).mono ?_)
           rintro e w8 ⟨k8,A8,c8,ts,gen,used,m8,rfl,vW,hmv,hkp,htold,oD,hlen⟩
           refine ⟨_,rfl,?_⟩
           simp only[PI,Act.put,sA,sZ,sS]
           have hc8:w8.cell? ⟨wr.heap.size,3,none⟩=some (.int .i64 pl):=(hkp.cell (p:=⟨wr.heap.size,3,none⟩) (.inl (.inl (.inl (.inr ⟨nR _,xK.out⟩))))).trans (Y9.out _ mH.out)
           have Qe:=hI (Qd.out.kept hkp (.inr ⟨nR _,Qd.out.lt⟩))
           have gQ:=hI (show Uz w bb q1 mp fl (25*i) seg (.pointer (some ⟨vd.heap.size,0,none⟩)) (.int .i64 0) (w8.setRow vd.heap.size (ji gen used (.slice A8 ts.length c8))) by
            have pF:Kept (fun b=>b≠vd.heap.size) w8 (w8.setRow vd.heap.size (ji gen used (.slice A8 ts.length c8))):=(Kept.refl _ w8).setRow (fun h=>h rfl) _
            have hga:vd.heap.size<m8:=nL Qd.out.lt vW
            refine ⟨vd.heap.size,A8,c8,ts,gen,used,_,_,s,xs,st,bl,_,fs,rfl,rfl,setRow_heap _ _ _ _ _ _ Qe.out,jc.out.on (hmv.write pF (.inl (.inr ⟨nR _,Qd.out.lt⟩)) jc.out.m.bel.size) jc.out.may jc.out.fl ((((Kept.of_below mH.out jc.out.m.sto.lt).trans hkp (fun b h=>.inl h)).trans pF (fun b h=>by have:=jc.out.m.sto.lt b h; omega))) (fun b h=>.inl (.inl h)) (fun _=>rfl),⟨by have:=yh.out; show B.pe≤_; omega,by have:=yh.out; omega,by have:=yh.out; omega⟩,?_,oD,hlen⟩
            exact (htold.tl (X:=fun b=>m8≤b∧b<w8.heap.size) (fun b h1 h2=>⟨h1,h2⟩)).kept (pF.mono (fun b h=>by omega)) (fun b h=>.inr h))
           refine hU hK rfl _ _ hc8 (fun hė=>?_)
           clear hK K hc8 vW hmv hkp htold oD hlen
           refine tK 9 QS (v:=?_) ?_ hė ?_
           rotate_left
           ·intro W hSW; unfold QS; go_simp; with_reducible rfl
           simp only[QS,Act.put,sA,sZ,sS]
           refine tK 10 tZ (v:=?_) ?_ hė ?_
           rotate_left
           ·intro W hSW; unfold tZ; go_simp; with_reducible rfl
           simp only[tZ,Act.put,sA,sZ,sS]
           refine tK 11 tY (v:=?_) ?_ hė ?_
           rotate_left
           ·intro W hSW; unfold tY; go_simp; with_reducible rfl
           simp only[tY,Act.put,sA,sZ,sS]
           refine tO 13 J8 ?_
           intro K hK
           refine jS (.tmp 16) (.tmp 114) 42 rfl rfl vd.heap.size (ji gen used (.slice A8 ts.length c8)) rfl rfl 42 _ Qe.out kg rfl (by simp[Value.oneCell']) ?_
           simp only[J8,Act.put,sA,sZ,sS]
           have JF:(w8.setRow vd.heap.size (ji gen used (.slice A8 ts.length c8))).cell? ⟨wr.heap.size,3,none⟩=some (.int .i64 pl):=(((Kept.refl (fun b=>b≠vd.heap.size) w8).setRow (fun h=>h rfl) _).cell (p:=⟨wr.heap.size,3,none⟩) (by show wr.heap.size≠vd.heap.size; have:=gK.out; have:=HZD.out; omega)).trans hė
           refine hU hK rfl _ _ JF (fun hė=>?_)
           clear hK K JF
           refine tK 14 tX (v:=?_) ?_ hė ?_
           rotate_left
           ·intro W hSW; unfold tX; go_simp; with_reducible rfl
           simp only[tX,Act.put,sA,sZ,sS]
           refine zB.done (by kernel_rfl) ?_ _
           refine bE _ _ (Met.intro (hJ _ _ ?_))
           (repeat apply Exists.intro)
           exact ⟨gQ.out,rfl⟩
         ·intro K hK
          refine y9 42 rfl rfl lY lT ?_
          simp only[J9,Act.put,sA,sZ,sS]
          rw[HVA.out]
          refine hU hK rfl _ _ (Y9.out _ mH.out) (fun hė=>?_)
          clear hK K
          refine tO 2 Mr ?_
          intro K hK
          refine zN 11 #[.tmp 106] #[24] rfl rfl Tryz.func11 rfl rfl [.pointer (some ⟨B.l,0,none⟩)] rfl ((HSU.out _ mH.out).mono ?_)
          rintro e w7 ⟨rfl,hw7⟩
          have hw7:=hw7.symm
          subst hw7
          refine ⟨_,rfl,?_⟩
          simp only[Mr,Act.put,sA,sZ,sS]
          refine hU hK rfl _ _ hė (fun hė=>?_)
          clear hK K
          refine tO 8 PI ?_
          intro K hK
          refine zN 10 #[.tmp 107,.tmp 112] #[45,3] rfl rfl Tryz.func10 rfl rfl [.pointer (some ⟨B.p,0,none⟩),.int .i64 (seg:Nat)] rfl ((lK.out.m.scan hseg).mono ?_)
          rintro e w8 ⟨k8,A8,c8,ts,gen,used,m8,rfl,vW,hmv,hkp,htold,oD,hlen⟩
          refine ⟨_,rfl,?_⟩
          simp only[PI,Act.put,sA,sZ,sS]
          have hc8:w8.cell? ⟨wr.heap.size,3,none⟩=some (.int .i64 pl):=(hkp.cell (p:=⟨wr.heap.size,3,none⟩) (.inl (.inl (.inl (.inr ⟨nR _,xK.out⟩))))).trans (Y9.out _ mH.out)
          have Qe:=hI (Qd.out.kept hkp (.inr ⟨nR _,Qd.out.lt⟩))
          have gQ:=hI (show Uz w bb q1 mp fl (25*i) seg (.pointer (some ⟨vd.heap.size,0,none⟩)) (.int .i64 0) (w8.setRow vd.heap.size (ji gen used (.slice A8 ts.length c8))) by
           have pF:Kept (fun b=>b≠vd.heap.size) w8 (w8.setRow vd.heap.size (ji gen used (.slice A8 ts.length c8))):=(Kept.refl _ w8).setRow (fun h=>h rfl) _
           have hga:vd.heap.size<m8:=nL Qd.out.lt vW
           refine ⟨vd.heap.size,A8,c8,ts,gen,used,_,_,s,xs,st,bl,_,fs,rfl,rfl,setRow_heap _ _ _ _ _ _ Qe.out,jc.out.on (hmv.write pF (.inl (.inr ⟨nR _,Qd.out.lt⟩)) jc.out.m.bel.size) jc.out.may jc.out.fl ((((Kept.of_below mH.out jc.out.m.sto.lt).trans hkp (fun b h=>.inl h)).trans pF (fun b h=>by have:=jc.out.m.sto.lt b h; omega))) (fun b h=>.inl (.inl h)) (fun _=>rfl),⟨by have:=yh.out; show B.pe≤_; omega,by have:=yh.out; omega,by have:=yh.out; omega⟩,?_,oD,hlen⟩
           exact (htold.tl (X:=fun b=>m8≤b∧b<w8.heap.size) (fun b h1 h2=>⟨h1,h2⟩)).kept (pF.mono (fun b h=>by omega)) (fun b h=>.inr h))
          refine hU hK rfl _ _ hc8 (fun hė=>?_)
          clear hK K hc8 vW hmv hkp htold oD hlen
          refine tK 9 QS (v:=?_) ?_ hė ?_
          rotate_left
          ·intro W hSW; unfold QS; go_simp; with_reducible rfl
          simp only[QS,Act.put,sA,sZ,sS]
          refine tK 10 tZ (v:=?_) ?_ hė ?_
          rotate_left
          ·intro W hSW; unfold tZ; go_simp; with_reducible rfl
          simp only[tZ,Act.put,sA,sZ,sS]
          refine tK 11 tY (v:=?_) ?_ hė ?_
          rotate_left
          ·intro W hSW; unfold tY; go_simp; with_reducible rfl
          simp only[tY,Act.put,sA,sZ,sS]
          refine tO 13 J8 ?_
          intro K hK
          refine jS (.tmp 16) (.tmp 114) 42 rfl rfl vd.heap.size (ji gen used (.slice A8 ts.length c8)) rfl rfl 42 _ Qe.out kg rfl (by simp[Value.oneCell']) ?_
          simp only[J8,Act.put,sA,sZ,sS]
          have JF:(w8.setRow vd.heap.size (ji gen used (.slice A8 ts.length c8))).cell? ⟨wr.heap.size,3,none⟩=some (.int .i64 pl):=(((Kept.refl (fun b=>b≠vd.heap.size) w8).setRow (fun h=>h rfl) _).cell (p:=⟨wr.heap.size,3,none⟩) (by show wr.heap.size≠vd.heap.size; have:=gK.out; have:=HZD.out; omega)).trans hė
          refine hU hK rfl _ _ JF (fun hė=>?_)
          clear hK K JF
          refine tK 14 tX (v:=?_) ?_ hė ?_
          rotate_left
          ·intro W hSW; unfold tX; go_simp; with_reducible rfl
          simp only[tX,Act.put,sA,sZ,sS]
          refine zB.done (by kernel_rfl) ?_ _
          refine bE _ _ (Met.intro (hJ _ _ ?_))
          (repeat apply Exists.intro)
          exact ⟨gQ.out,rfl⟩
        ·intro K hK
         refine y9 42 rfl rfl lY lT ?_
         simp only[J9,Act.put,sA,sZ,sS]
         rw[HVA.out]
         refine hU hK rfl _ _ (Y9.out _ mH.out) (fun hė=>?_)
         clear hK K
         refine tO 1 ks1 ?_
         intro K hK
         refine zN 35 #[.tmp 105] #[56] rfl rfl Tryz.func35 rfl rfl [.pointer (some ⟨q1,0,none⟩)] rfl ((Xx.out _ mH.out).mono ?_)
         rintro e w7 ⟨rfl,hw7⟩
         have hw7:=hw7.symm
         subst hw7
         refine ⟨_,rfl,?_⟩
         simp only[ks1,Act.put,sA,sZ,sS]
         refine hU hK rfl _ _ hė (fun hė=>?_)
         clear hK K
         refine tO 2 Mr ?_
         intro K hK
         refine zN 11 #[.tmp 106] #[24] rfl rfl Tryz.func11 rfl rfl [.pointer (some ⟨B.l,0,none⟩)] rfl ((HSU.out _ mH.out).mono ?_)
         rintro e w7 ⟨rfl,hw7⟩
         have hw7:=hw7.symm
         subst hw7
         refine ⟨_,rfl,?_⟩
         simp only[Mr,Act.put,sA,sZ,sS]
         refine hU hK rfl _ _ hė (fun hė=>?_)
         clear hK K
         refine tO 8 PI ?_
         intro K hK
         refine zN 10 #[.tmp 107,.tmp 112] #[45,3] rfl rfl Tryz.func10 rfl rfl [.pointer (some ⟨B.p,0,none⟩),.int .i64 (seg:Nat)] rfl ((lK.out.m.scan hseg).mono ?_)
         rintro e w8 ⟨k8,A8,c8,ts,gen,used,m8,rfl,vW,hmv,hkp,htold,oD,hlen⟩
         refine ⟨_,rfl,?_⟩
         simp only[PI,Act.put,sA,sZ,sS]
         have hc8:w8.cell? ⟨wr.heap.size,3,none⟩=some (.int .i64 pl):=(hkp.cell (p:=⟨wr.heap.size,3,none⟩) (.inl (.inl (.inl (.inr ⟨nR _,xK.out⟩))))).trans (Y9.out _ mH.out)
         have Qe:=hI (Qd.out.kept hkp (.inr ⟨nR _,Qd.out.lt⟩))
         have gQ:=hI (show Uz w bb q1 mp fl (25*i) seg (.pointer (some ⟨vd.heap.size,0,none⟩)) (.int .i64 0) (w8.setRow vd.heap.size (ji gen used (.slice A8 ts.length c8))) by
          have pF:Kept (fun b=>b≠vd.heap.size) w8 (w8.setRow vd.heap.size (ji gen used (.slice A8 ts.length c8))):=(Kept.refl _ w8).setRow (fun h=>h rfl) _
          have hga:vd.heap.size<m8:=nL Qd.out.lt vW
          refine ⟨vd.heap.size,A8,c8,ts,gen,used,_,_,s,xs,st,bl,_,fs,rfl,rfl,setRow_heap _ _ _ _ _ _ Qe.out,jc.out.on (hmv.write pF (.inl (.inr ⟨nR _,Qd.out.lt⟩)) jc.out.m.bel.size) jc.out.may jc.out.fl ((((Kept.of_below mH.out jc.out.m.sto.lt).trans hkp (fun b h=>.inl h)).trans pF (fun b h=>by have:=jc.out.m.sto.lt b h; omega))) (fun b h=>.inl (.inl h)) (fun _=>rfl),⟨by have:=yh.out; show B.pe≤_; omega,by have:=yh.out; omega,by have:=yh.out; omega⟩,?_,oD,hlen⟩
          exact (htold.tl (X:=fun b=>m8≤b∧b<w8.heap.size) (fun b h1 h2=>⟨h1,h2⟩)).kept (pF.mono (fun b h=>by omega)) (fun b h=>.inr h))
         refine hU hK rfl _ _ hc8 (fun hė=>?_)
         clear hK K hc8 vW hmv hkp htold oD hlen
         refine tK 9 QS (v:=?_) ?_ hė ?_
         rotate_left
         ·intro W hSW; unfold QS; go_simp; with_reducible rfl
         simp only[QS,Act.put,sA,sZ,sS]
         refine tK 10 tZ (v:=?_) ?_ hė ?_
         rotate_left
         ·intro W hSW; unfold tZ; go_simp; with_reducible rfl
         simp only[tZ,Act.put,sA,sZ,sS]
         refine tK 11 tY (v:=?_) ?_ hė ?_
         rotate_left
         ·intro W hSW; unfold tY; go_simp; with_reducible rfl
         simp only[tY,Act.put,sA,sZ,sS]
         refine tO 13 J8 ?_
         intro K hK
         refine jS (.tmp 16) (.tmp 114) 42 rfl rfl vd.heap.size (ji gen used (.slice A8 ts.length c8)) rfl rfl 42 _ Qe.out kg rfl (by simp[Value.oneCell']) ?_
         simp only[J8,Act.put,sA,sZ,sS]
         have JF:(w8.setRow vd.heap.size (ji gen used (.slice A8 ts.length c8))).cell? ⟨wr.heap.size,3,none⟩=some (.int .i64 pl):=(((Kept.refl (fun b=>b≠vd.heap.size) w8).setRow (fun h=>h rfl) _).cell (p:=⟨wr.heap.size,3,none⟩) (by show wr.heap.size≠vd.heap.size; have:=gK.out; have:=HZD.out; omega)).trans hė
         refine hU hK rfl _ _ JF (fun hė=>?_)
         clear hK K JF
         refine tK 14 tX (v:=?_) ?_ hė ?_
         rotate_left
         ·intro W hSW; unfold tX; go_simp; with_reducible rfl
         simp only[tX,Act.put,sA,sZ,sS]
         refine zB.done (by kernel_rfl) ?_ _
         refine bE _ _ (Met.intro (hJ _ _ ?_))
         (repeat apply Exists.intro)
         exact ⟨gQ.out,rfl⟩
       case rest =>
        obtain ⟨gs,A8,c8,ts,gen,used,X,B,s,xs,st,bl,rs,fs,rfl,rfl,hbs,hkp,hpg,htl,hat,hlen⟩:=hcut
        have HMJ:=hI (show Xr w bb q1 mp fl (25*i) seg gen A8 ts 0 wc from ⟨_,_,_,_,_,_,_,_,hkp,⟨by omega,by omega,by omega⟩,htl,hat⟩)
        have b2:wc.cell? ⟨gs,2,none⟩=some (.slice A8 ts.length c8):=hbs.cell 2
        clear hbs hkp hpg htl hat qQ wh Y9 s64 srem swr
        go_wp2_with fail
        go_loopw [121] (fun cv wr=>∃ (j:Nat),cv=.int .i64 j∧j≤ts.length∧Xr w bb q1 mp fl (25*i) seg gen A8 ts j wr) (fun cv _=>ts.length-(intOf cv).toNat)
        case atStart=>exact ⟨0,rfl,Nat.zero_le _,HMJ.out⟩
        case round =>
         clear HMJ
         obtain ⟨j,rfl,hjl,hm⟩:=hrel
         by_cases hj:j<ts.length
         ·obtain ⟨X,B,s,xs,st,bl,rs,fs,hm,hpg,htl,hat⟩:=hm
          obtain ⟨gp,op,e8,hgp,hcp⟩:=htl.1.2 (by omega)
          subst e8
          have hr2:=hcp j hj
          rw[show (ts.map (Gb seg gen)).getD j PlM.ent0=Gb seg gen ts[j] by simp[List.getD,hj]] at hr2
          obtain ⟨ht1,ht2,ht3,ht4⟩:=htl.2 ts[j] (List.getElem_mem hj)
          have SE:=hat ts[j] (List.getElem_mem hj)
          generalize ts[j]=t at *
          obtain ⟨at_,bs,b1,b2⟩:=t
          dsimp only at ht1 ht2 ht3 ht4 SE
          have hrk:=YJ SE.rok
          have HQ1:=hI (show wr.rangeAt gp (op+j*9) [.int .i64 (seg:Int),.int .u64 gen,.int .i64 (at_:Int),.int .i64 (kindOf bs),.int .u32 (flagsOf bs),.int .u32 (qA bs),.int .u64 (zo bs),.slice (some ⟨b1,0,none⟩) (zH bs) (zH bs),.slice (some ⟨b2,0,none⟩) (zO bs) (zO bs)] from hr2)
          obtain ⟨w5,jH⟩:∃ w5,w5=wr.alloc (.cells (LH seg gen at_ bs b1 b2) 40):=⟨_,rfl⟩
          have hb5:Below wr.heap.size wr w5:=by rw[jH]; exact (Below.refl _ _).alloc (nR _) _
          have VA:=hI (show z8 w5 wr.heap.size 40 (LH seg gen at_ bs b1 b2) by rw[jH]; exact z8.new wr _ _)
          have hk5:Kept X wr w5:=Kept.of_below hb5 hm.m.sto.lt
          have wJ:=hI (hm.grow hb5)
          have zIL:=hI (htl.kept hk5 (fun b h=>Or.inl (b:=wr.heap.size≤b∧b<w5.heap.size) h))
          have Yr:=hI (show zn w5 b1 (keyOf bs)∧zn w5 b2 (valOf bs) from ⟨z8.kept ht3 hk5 ht1,z8.kept ht4 hk5 ht2⟩)
          have HBX:=hI (And.intro ht1 ht2)
          have Pv:=hI hpg
          have HAT:=hI hat
          have zOE:=hI SE
          have ak:=hI hrk
          have pK:=hI jH.symm
          have HJ:=hI hj
          clear jH hb5 hk5 hm hpg htl hat hgp hcp hr2 ht1 ht2 ht3 ht4 SE hrk
          go_upto_region 41 with (refine uV (.tmp 123) 40 rfl rfl gp (op+j*9) rfl [.int .i64 (seg:Int),.int .u64 gen,.int .i64 (at_:Int),.int .i64 (kindOf bs),.int .u32 (flagsOf bs),.int .u32 (qA bs),.int .u64 (zo bs),.slice (some ⟨b1,0,none⟩) (zH bs) (zH bs),.slice (some ⟨b2,0,none⟩) (zO bs) (zO bs)] _ Tryz.underlying40 rfl nZ HQ1.out ?_)
          rw[pK.out]
          clear pK HQ1
          have IK:=YT (c:=zH bs) (A2:=some ⟨b2,0,none⟩) (m2:=zO bs) (c2:=zO bs) wJ.out.m.sto (seg:Int) gen (at_:Int) (kindOf bs) (flagsOf bs) (qA bs) (zo bs) ((qF.rowN (S:=fun b=>b=b1) Yr.out.1 0 (n:=zH bs) ak.out.1 rfl).more (fun b h=>by rw[h]; exact z8.lt Yr.out.1)) ak.out.2.2.2.1 (by have:=ak.out.2.2.1; omega)
          rw[wJ.out.m.bq] at IK
          have zIk:=hI IK
          clear IK
          go_wp2_with (refine zV (.tmp 19) 40 rfl rfl wr.heap.size rfl 40 (LH seg gen at_ bs b1 b2).toList _ Tryz.underlying40 rfl nZ VA.out ?_)
          refine zIk.out.mono ?_
          rintro e w6 ⟨rfl,hb6⟩
          have xU:=Kept.of_below hb6 wJ.out.m.sto.lt
          have Z5:=hI VA.out.lt
          have HP6:=hI (VA.out.below hb6 VA.out.lt)
          have qQ:=hI (wJ.out.grow hb6)
          have Sq:=hI (zIL.out.kept xU (fun b h=>Or.inl (b:=w5.heap.size≤b∧b<w6.heap.size) h))
          have WO:=hI (show zn w6 b1 (keyOf bs)∧zn w6 b2 (valOf bs) from ⟨z8.below Yr.out.1 hb6 (z8.lt Yr.out.1),z8.below Yr.out.2 hb6 (z8.lt Yr.out.2)⟩)
          obtain ⟨lv,hlv⟩:∃ lv,vO st s.f (seg:Int) gen (at_:Int) (kindOf bs) (zo bs) (keyOf bs)=lv:=⟨_,rfl⟩
          have Xu:=hI hlen
          clear hb6 xU wJ zIL Yr zIk VA
          rw[hlv]
          cases lv
          ·have hmv:=zCj (c:=zH bs) (A2:=some ⟨b2,0,none⟩) (n2:=zO bs) (c2:=zO bs) qQ.out.m.sto (seg:Int) gen (at_:Int) (kindOf bs) (flagsOf bs) (qA bs) (zo bs) ((qF.rowN (S:=fun b=>b=b1) WO.out.1 0 (n:=zH bs) ak.out.1 rfl).more (fun b h=>by rw[h]; exact z8.lt WO.out.1)) ak.out.2.2.2.1 (by have:=ak.out.2.2.1; omega) hlv
           rw[qQ.out.m.bq] at hmv
           have OL:=hI hmv
           have HPR:=hI (show Xr w bb q1 mp fl (25*i) seg gen (some ⟨gp,op,none⟩) ts j w6 from ⟨_,_,_,_,_,_,_,_,qQ.out,Pv.out,Sq.out,HAT.out⟩)
           clear hmv hlv qQ Pv Sq HAT WO
           go_wp2_with (refine zV (.tmp 19) 40 rfl rfl wr.heap.size rfl 40 (LH seg gen at_ bs b1 b2).toList _ Tryz.underlying40 rfl nZ HP6.out ?_)
           refine OL.out.mono ?_
           rintro e w7 ⟨rfl,jy⟩
           have yx:=hI (HPR.out.grow jy).next
           clear jy OL HPR HP6
           go_wp2_with fail
           go_roundw
           case rel=>exact ⟨j+1,rfl,by have:=HJ.out; omega,yx.out⟩
           case measure =>
            simp only[intOf]
            omega
          ·have hmv:=qQ.out.m.moveK qQ.out.may (A:=some ⟨b1,0,none⟩) (m:=zH bs) (c:=zH bs) (A2:=some ⟨b2,0,none⟩) (m2:=zO bs) (c2:=zO bs) zOE.out ((qF.rowN (S:=fun b=>b=b1) WO.out.1 0 (n:=zH bs) ak.out.1 rfl).more (fun b h=>by rw[h]; exact .inl (.inl HBX.out.1))) ((qF.rowN (S:=fun b=>b=b2) WO.out.2 0 (n:=zO bs) ak.out.2.1 rfl).more (fun b h=>by rw[h]; exact .inl (.inl HBX.out.2))) (fun h=>by cases h) (fun h=>by cases h) hlv (by have:=Pv.out.1; have:=Xu.out; have:=HJ.out; omega) (by have:=Pv.out.2.1; have:=Xu.out; have:=HJ.out; omega)
           have OL:=hI hmv
           clear hmv hlv
           go_wp2_with (refine zV (.tmp 19) 40 rfl rfl wr.heap.size rfl 40 (LH seg gen at_ bs b1 b2).toList _ Tryz.underlying40 rfl nZ HP6.out ?_)
           refine OL.out.mono ?_
           rintro e w7 ⟨er,B3,s3,xs3,st3,bl3,rs3,rfl,U5,hy7,bg,hp7,aQ,hf7,hhas,zBS⟩
           have yx:=hI (show Xr w bb q1 mp fl (25*i) seg gen (some ⟨gp,op,none⟩) ts (j+1) w7 from ⟨_,_,_,_,_,_,_,_,qQ.out.on U5 hy7 (hf7.trans qQ.out.fl) bg (fun b h=>h) hhas,⟨by have:=Pv.out.1; omega,by have:=Pv.out.2.1; omega,Pv.out.2.2⟩,Sq.out.kept bg (fun b h=>h),fun t ht=>zBS _ _ (HAT.out t ht)⟩)
           clear U5 hy7 bg hp7 aQ hf7 hhas zBS OL qQ Pv Sq HAT WO HP6
           by_cases her:er=0
           ·subst her
            go_wp2_with fail
            go_roundw
            case rel=>exact ⟨j+1,rfl,by have:=HJ.out; omega,yx.out⟩
            case measure =>
             simp only[intOf]
             omega
           ·have zQP:(er==0)=false:=by simpa using her
            go_wp2_with fail
            go_roundw
            case rel=>exact ⟨j+1,rfl,by have:=HJ.out; omega,yx.out⟩
            case measure =>
             simp only[intOf]
             omega
         ·obtain rfl:j=ts.length:=by omega
          obtain ⟨X,B,s,xs,st,bl,rs,fs,hm,hpg,htl,hat⟩:=hm
          have yx:=hI (show sQ w bb q1 mp fl (25*(i+1)) wr from ⟨_,_,_,_,_,_,_,_,hm,by omega,by omega,by omega⟩)
          clear hm hpg htl hat
          go_wp2_with fail
          go_roundw
          case rel =>
           refine ⟨i+1,fl,rfl,by omega,by first | rfl | (congr 1; omega),gP.out,yx.out⟩
          case measure =>
           simp only[intOf]
           omega
      ·have e5b:(kn==5)=false:=by simpa using e5
       clear e5
       have yx:=hI (show sQ w bb q1 mp fl (25*(i+1)) w6 from ⟨_,_,_,_,_,_,_,_,qQ.out,by have:=yh.out; omega,by have:=yh.out; omega,by have:=yh.out; omega⟩)
       clear wJ oQ qQ wh
       go_wp2_with fail
       go_roundw
       case rel =>
        refine ⟨i+1,fl,rfl,by omega,by first | rfl | (congr 1; omega),gP.out,yx.out⟩
       case measure =>
        simp only[intOf]
        omega
 ·obtain rfl:i=m:=by omega
  clear HO
  obtain ⟨X,B,s,xs,st,bl,rs,fs,hm,hpe,hgg,hfn⟩:=hm
  have hdg:=vB hm.m.sto
  rw[hm.m.bq] at hdg
  have HDG:=hI hdg
  have NJ:=hI (show KpF w bb q1 mp fl wr from ⟨_,_,_,_,_,_,_,_,hm⟩)
  clear hm hpe hgg hfn hdg
  go_wp2_with fail
  refine HDG.out.mono ?_
  rintro e w5 ⟨rfl,rfl⟩
  clear HDG
  go_wp2_with fail
  go_loopw [140] (fun cv wr=>∃ (j:Nat),cv=.int .i64 j∧j≤8∧KpF w bb q1 mp fl wr) (fun cv _=>8-(intOf cv).toNat)
  case atStart=>exact ⟨0,rfl,Nat.zero_le _,NJ.out⟩
  case round =>
  clear NJ
  obtain ⟨j,rfl,hj8,hm⟩:=hrel
  by_cases hlt3:j<8
  ·obtain ⟨X,B,s,xs,st,bl,rs,fs,hm⟩:=hm
   have HM:=hI hm
   clear hm
   go_wp2_with fail
   refine (dB (j:Nat) wr).mono ?_
   rintro e w5 ⟨g5,rfl,hg5,hr5,hb5⟩
   have wJ:=hI (HM.out.grow hb5)
   have eF:=hI (wJ.out.m.getK (c:=2) ((qF.rowN (S:=fun b=>b=g5) hr5 0 (n:=2) rfl rfl).more (fun b h=>.inr ⟨by omega,by have:=z8.lt hr5; omega⟩)) (mW _) (by omega) now)
   clear hg5 hr5 hb5 HM
   go_wp2_with fail
   refine eF.out.mono ?_
   rintro e w6 ⟨Y,k',hxy,hm6,xU,hc⟩
   have qQ:=hI (wJ.out.on hm6 wJ.out.may wJ.out.fl xU hxy (fun _=>rfl))
   clear hxy hm6 xU eF wJ
   by_cases hex:∃ x,x∈fs∧x.k=j
   ·obtain ⟨y,hy,rfl⟩:=hex
    have hhas:=qQ.out.has.1 y hy
    have hke:=qQ.out.ent y hy
    have hvl:y.vs.length=y.n2:=hke.val.1
    have zBP:May 1 y.f y.x y.q (jf (y.k:Nat)).length y.vs.length:=by rw[hvl]; exact hke.may
    have hbs:=KG zBP hke.rng
    have hq2:=hke.rng
    obtain ⟨_,_,hx0,hx1,hq0,hq1⟩:=hq2
    have hget:kF st s.f now (jf (y.k:Nat))=if y.q≤fl∨(0<y.x∧y.x≤now) then none else some y.bs:=by
     unfold kF
     cases e9:jC st (jf (y.k:Nat)) with
     | none=>rw[e9] at hhas; cases hhas
     | some p =>
      rw[e9] at hhas
      have e8:p.2=y.bs:=Option.some.inj hhas
      dsimp only
      rw[e8,hbs.2.2.2.1,hbs.2.2.1,qQ.out.fl]
    have BG:=hI hget
    have mG:=hI hbs
    have HX0:=hI (And.intro hx0 hx1)
    clear hget hbs hhas zBP
    by_cases hth:y.q≤fl∨(0<y.x∧y.x≤now)
    ·obtain rfl:e=.returned (.tuple #[.agg qN,.int .i64 4]):=by
      rcases hc with ⟨_,h⟩ | ⟨bs,_,_,h,_⟩
      ·exact h
      ·rw[BG.out,if_pos hth] at h; cases h
     clear hc hke hvl BG mG
     obtain ⟨w7,hw7⟩:∃ w7,w7=(w6.alloc (.cells qN 53)).setRow w6.heap.size (qN):=⟨_,rfl⟩
     have QG:=hI (z8.new w6 53 qN)
     have jy:Below w6.heap.size w6 w7:=by rw[hw7]; exact Kept.to_below (((Kept.refl (fun b=>b<w6.heap.size) w6).alloc (fun b h=>h) _).setRow (fun h=>by omega) _) (fun b h=>h)
     have Qg:=hI (show z8 w7 w6.heap.size 53 (qN) by rw[hw7]; exact setRow_heap _ _ _ _ _ _ QG.out)
     have Po:=hI hw7.symm
     have kL:=hI (qQ.out.grow jy)
     have hlk:(Instr.lookup 71 (.map (some mp)) (.int .i64 _) true).run Tryz.prog w7=.ok (.tuple #[.agg ((iC y)),.bool true]) w7:=(jo.look uw Tryz.underlying71 kL.out.map (Qk w7) hy (r9 hlt3)).1
     obtain ⟨w8,hw8⟩:∃ w8,w8=(w7.alloc (.cells qN 53)).setRow w7.heap.size ((iC y)):=⟨_,rfl⟩
     have QF:=hI (z8.new w7 53 qN)
     have jK:Below w7.heap.size w7 w8:=by rw[hw8]; exact Kept.to_below (((Kept.refl (fun b=>b<w7.heap.size) w7).alloc (fun b h=>h) _).setRow (fun h=>by omega) _) (fun b h=>h)
     have nW:=hI (show z8 w8 w7.heap.size 53 ((iC y)) by rw[hw8]; exact setRow_heap _ _ _ _ _ _ QF.out)
     have nH:=hI hw8.symm
     have TB:=hI (Qg.out.below jK Qg.out.lt)
     have jA:=hI (kL.out.grow jK)
     have TH:=hI (jy.trans (jK.mono jy.size))
     clear hw7 jy hw8 jK kL
     have c3:w8.cell? ⟨w7.heap.size,3,none⟩=some (.int .u32 y.x):=nW.out.cell 3
     have c4:w8.cell? ⟨w7.heap.size,4,none⟩=some (.int .u64 y.q):=nW.out.cell 4
     by_cases hqf:y.q≤fl
     ·clear hth
      go_upto_region 52 with (refine zF (.tmp 22) (.tmp 149) 53 rfl rfl w6.heap.size (qN) rfl rfl 53 _ QG.out qo rfl (by simp[Value.oneCell']) ?_; rw[Po.out])
      go_upto_region 53 with (refine zF (.tmp 24) (.tmp 155) 53 rfl rfl w7.heap.size ((iC y)) rfl rfl 53 _ QF.out qo rfl (by simp[Value.oneCell']) ?_; rw[nH.out])
      go_upto_region 54 with fail
      go_wp2_with fail
      go_roundw
      case rel=>exact ⟨y.k+1,rfl,by omega,⟨_,_,_,_,_,_,_,_,jA.out⟩⟩
      case measure =>
       simp only[intOf]
       omega
     ·have zMf:fl<y.q:=by omega
      have hxp:0<y.x∧y.x≤now:=by
       rcases hth with h | h
       ·exact absurd h hqf
       ·exact h
      obtain ⟨hx2,hx3⟩:=hxp
      have hxb:(y.x==0)=false:=by simp; omega
      clear hth hqf
      go_upto_region 52 with (refine zF (.tmp 22) (.tmp 149) 53 rfl rfl w6.heap.size (qN) rfl rfl 53 _ QG.out qo rfl (by simp[Value.oneCell']) ?_; rw[Po.out])
      go_upto_region 53 with (refine zF (.tmp 24) (.tmp 155) 53 rfl rfl w7.heap.size ((iC y)) rfl rfl 53 _ QF.out qo rfl (by simp[Value.oneCell']) ?_; rw[nH.out])
      go_upto_region 54 with fail
      go_wp2_with fail
      go_roundw
      case rel=>exact ⟨y.k+1,rfl,by omega,⟨_,_,_,_,_,_,_,_,jA.out⟩⟩
      case measure =>
       simp only[intOf]
       omega
    ·obtain ⟨b1,b2,rfl,hA1,hA2⟩:∃ b1 b2,e=.returned (.tuple #[.agg (Vl y b1 b2),.int .i64 0])∧zn w6 b1 (jf (y.k:Nat))∧zn w6 b2 y.vs:=by
      rcases hc with ⟨h,_⟩ | ⟨bs,b1,b2,h,rfl,h2⟩
      ·rw[BG.out,if_neg hth] at h; cases h
      ·rw[BG.out,if_neg hth] at h
       injection h with h
       subst h
       obtain ⟨g1,g2,g3⟩:=zDD hke b1 b2
       rw[g1]
       rw[g2,g3] at h2
       exact ⟨b1,b2,rfl,h2.2.2.1,h2.2.2.2⟩
     have Cb:=hI (And.intro hA1 hA2)
     have BD:=hI hke
     have dW:=hI hvl
     have zMf:fl<y.q:=by omega
     have hxx:y.x=0∨now<y.x:=by omega
     have zMU:(y.x==0)=true∨((y.x==0)=false∧now<y.x):=by
      rcases hxx with h | h
      ·exact .inl (by simp[h])
      ·by_cases h0:y.x=0
       ·exact .inl (by simp[h0])
       ·exact .inr ⟨by simpa using h0,h⟩
     clear hc hke hvl BG hA1 hA2 hth hxx
     obtain ⟨w7,hw7⟩:∃ w7,w7=(w6.alloc (.cells qN 53)).setRow w6.heap.size ((Vl y b1 b2)):=⟨_,rfl⟩
     have QG:=hI (z8.new w6 53 qN)
     have jy:Below w6.heap.size w6 w7:=by rw[hw7]; exact Kept.to_below (((Kept.refl (fun b=>b<w6.heap.size) w6).alloc (fun b h=>h) _).setRow (fun h=>by omega) _) (fun b h=>h)
     have Qg:=hI (show z8 w7 w6.heap.size 53 ((Vl y b1 b2)) by rw[hw7]; exact setRow_heap _ _ _ _ _ _ QG.out)
     have Po:=hI hw7.symm
     have kL:=hI (qQ.out.grow jy)
     have hlk:(Instr.lookup 71 (.map (some mp)) (.int .i64 _) true).run Tryz.prog w7=.ok (.tuple #[.agg ((iC y)),.bool true]) w7:=(jo.look uw Tryz.underlying71 kL.out.map (Qk w7) hy (r9 hlt3)).1
     obtain ⟨w8,hw8⟩:∃ w8,w8=(w7.alloc (.cells qN 53)).setRow w7.heap.size ((iC y)):=⟨_,rfl⟩
     have QF:=hI (z8.new w7 53 qN)
     have jK:Below w7.heap.size w7 w8:=by rw[hw8]; exact Kept.to_below (((Kept.refl (fun b=>b<w7.heap.size) w7).alloc (fun b h=>h) _).setRow (fun h=>by omega) _) (fun b h=>h)
     have nW:=hI (show z8 w8 w7.heap.size 53 ((iC y)) by rw[hw8]; exact setRow_heap _ _ _ _ _ _ QF.out)
     have nH:=hI hw8.symm
     have TB:=hI (Qg.out.below jK Qg.out.lt)
     have jA:=hI (kL.out.grow jK)
     have TH:=hI (jy.trans (jK.mono jy.size))
     clear hw7 jy hw8 jK kL
     have c3:w8.cell? ⟨w7.heap.size,3,none⟩=some (.int .u32 y.x):=nW.out.cell 3
     have c4:w8.cell? ⟨w7.heap.size,4,none⟩=some (.int .u64 y.q):=nW.out.cell 4
     rcases zMU with hxb | ⟨hxb,hxn⟩
     all_goals (
      go_upto_region 52 with (refine zF (.tmp 22) (.tmp 149) 53 rfl rfl w6.heap.size ((Vl y b1 b2)) rfl rfl 53 _ QG.out qo rfl (by simp[Value.oneCell']) ?_; rw[Po.out])
      go_upto_region 53 with (refine zF (.tmp 24) (.tmp 155) 53 rfl rfl w7.heap.size ((iC y)) rfl rfl 53 _ QF.out qo rfl (by simp[Value.oneCell']) ?_; rw[nH.out])
      go_upto_region 54 with fail
      have HQ:=hI (by
       have q1:=z8.below Cb.out.1 TH.out (z8.lt Cb.out.1)
       have q2:=z8.below Cb.out.2 TH.out (z8.lt Cb.out.2)
       have hen:=jA.out.ent y hy
       have r1:=qF.rowN (S:=fun b=>b<w8.heap.size) q1 0 (n:=2) rfl q1.lt
       have r2:=qF.rowN (S:=fun b=>b<w8.heap.size) q2 0 (n:=y.n2) dW.out q2.lt
       have r3:=qF.rowN (S:=fun b=>b<w8.heap.size) hen.key 0 (n:=2) rfl (z8.lt hen.key)
       have r4:zW .u8 w8 (fun b=>b<w8.heap.size) (some ⟨y.a2,0,none⟩) y.n2 y.vs:=hen.val.more jA.out.m.sto.lt
       exact Nz (some ⟨b1,0,none⟩) 2 2 2 (some ⟨y.a,0,none⟩) (some ⟨b2,0,none⟩) (some ⟨y.a2,0,none⟩) y.n2 y.n2 y.c2 (jf (y.k:Nat)) y.vs y.f y.x y.q false w8 r1 r3 r2 r4 (fun b h=>h) (fun b h=>h) (mW _) hen.byt)
      go_wp2_with (first
       | (refine zV (.tmp 22) 53 rfl rfl w6.heap.size rfl 53 (Vl y b1 b2).toList _ Tryz.underlying53 rfl qo TB.out ?_)
       | (refine zV (.tmp 24) 53 rfl rfl w7.heap.size rfl 53 (iC y).toList _ Tryz.underlying53 rfl qo nW.out ?_))
      refine HQ.out.mono ?_
      rintro e w9 ⟨rfl,bC⟩
      have nV:=hI (jA.out.grow bC)
      clear bC HQ TB nW c3 c4 qQ
      go_wp2_with fail
      refine (dB (y.k:Nat) w9).mono ?_
      rintro e w10 ⟨g10,rfl,Yb,IC,xP⟩
      have oV:=hI (nV.out.grow xP)
      have hmy:=MR (c:=2) oV.out.m.sto (by rw[oV.out.m.sto.num,oV.out.m.len]; omega) (qF.rowN (S:=fun b=>b<w10.heap.size) IC 0 (n:=2) rfl IC.lt) (mW _) (by omega)
      rw[oV.out.m.bq,oV.out.may.has (oV.out.has.1 y hy)] at hmy
      have Py:=hI hmy
      clear Yb IC xP hmy nV
      go_wp2_with fail
      refine Py.out.mono ?_
      rintro e w11 ⟨rfl,oC⟩
      have jA:=hI (oV.out.grow oC)
      clear oC Py oV
      go_wp2_with fail
      go_roundw
      case rel=>exact ⟨y.k+1,rfl,by omega,⟨_,_,_,_,_,_,_,_,jA.out⟩⟩
      case measure =>
       simp only[intOf]
       omega)
   ·obtain rfl:e=.returned (.tuple #[.agg qN,.int .i64 4]):=by
     have h0:=qQ.out.has.2 j hlt3 (fun x hx e1=>hex ⟨x,hx,e1⟩)
     rcases hc with ⟨_,h⟩ | ⟨bs,_,_,h,_⟩
     ·exact h
     ·unfold kF at h; rw[h0] at h; cases h
    clear hc
    obtain ⟨w7,hw7⟩:∃ w7,w7=(w6.alloc (.cells qN 53)).setRow w6.heap.size (qN):=⟨_,rfl⟩
    have QG:=hI (z8.new w6 53 qN)
    have jy:Below w6.heap.size w6 w7:=by rw[hw7]; exact Kept.to_below (((Kept.refl (fun b=>b<w6.heap.size) w6).alloc (fun b h=>h) _).setRow (fun h=>by omega) _) (fun b h=>h)
    have Qg:=hI (show z8 w7 w6.heap.size 53 (qN) by rw[hw7]; exact setRow_heap _ _ _ _ _ _ QG.out)
    have Po:=hI hw7.symm
    have kL:=hI (qQ.out.grow jy)
    have hlk:(Instr.lookup 71 (.map (some mp)) (.int .i64 _) true).run Tryz.prog w7=.ok (.tuple #[.agg (qN),.bool false]) w7:=(jo.lookNo uw Tryz.underlying71 kL.out.map (Qk w7) (fun x hx e1=>hex ⟨x,hx,by injection e1 with _ e1; omega⟩) (r9 hlt3)).1
    obtain ⟨w8,hw8⟩:∃ w8,w8=(w7.alloc (.cells qN 53)).setRow w7.heap.size (qN):=⟨_,rfl⟩
    have QF:=hI (z8.new w7 53 qN)
    have jK:Below w7.heap.size w7 w8:=by rw[hw8]; exact Kept.to_below (((Kept.refl (fun b=>b<w7.heap.size) w7).alloc (fun b h=>h) _).setRow (fun h=>by omega) _) (fun b h=>h)
    have nW:=hI (show z8 w8 w7.heap.size 53 (qN) by rw[hw8]; exact setRow_heap _ _ _ _ _ _ QF.out)
    have nH:=hI hw8.symm
    have TB:=hI (Qg.out.below jK Qg.out.lt)
    have jA:=hI (kL.out.grow jK)
    have TH:=hI (jy.trans (jK.mono jy.size))
    clear hw7 jy hw8 jK kL
    go_upto_region 52 with (refine zF (.tmp 22) (.tmp 149) 53 rfl rfl w6.heap.size (qN) rfl rfl 53 _ QG.out qo rfl (by simp[Value.oneCell']) ?_; rw[Po.out])
    go_upto_region 53 with (refine zF (.tmp 24) (.tmp 155) 53 rfl rfl w7.heap.size (qN) rfl rfl 53 _ QF.out qo rfl (by simp[Value.oneCell']) ?_; rw[nH.out])
    go_upto_region 54 with fail
    go_wp2_with fail
    go_roundw
    case rel=>exact ⟨j+1,rfl,by omega,⟨_,_,_,_,_,_,_,_,jA.out⟩⟩
    case measure =>
     simp only[intOf]
     omega
  ·obtain rfl:j=8:=by omega
   obtain ⟨X,B,s,xs,st,bl,rs,fs,hm⟩:=hm
   have HBE:=hI hm.m.bel
   clear hm
   go_wp2_with fail
   go_ret
   exact ⟨rfl,HBE.out⟩
end
end Go.Proofs.YtdkbpchmnhbhcaaGreat
