/- Texts of StoreKeeps, packed. -/
import Derived.Test.YtdkbpchmnhbhcaaGreatPackStoreKeeps7
import Derived.Deep.DeepCutAuto
set_option linter.unusedVariables false
set_option linter.unusedSimpArgs false
set_option maxRecDepth 100000
set_option maxHeartbeats 16000000
namespace Go.Proofs.YtdkbpchmnhbhcaaGreat
open Go.RowKit
section
abbrev Mf:Oper:=⟨some 36,.move (.tmp 0),24,"log.go:293",#[],none⟩
abbrev Me:Oper:=⟨some 37,.nilCheck (.tmp 36),0,"log.go:293",#[⟨0,.data⟩],none⟩
abbrev Md:Oper:=⟨some 38,.fieldAddr 103 (.tmp 37) 0,0,"log.go:293",#[⟨1,.data⟩],none⟩
abbrev Mc:Oper:=⟨some 39,.load 45 (.tmp 38),45,"log.go:293",#[⟨2,.data⟩],none⟩
abbrev lb4:Oper:=⟨some 40,.load 115 (.tmp 5),115,"log.go:293",#[],none⟩
abbrev lb5:Oper:=⟨some 41,.call { callee:=.value (.func 61),args:=#[.tmp 39,.tmp 40],argTypes:=#[45,115] },36,"log.go:293",#[⟨3,.data⟩,⟨4,.data⟩],none⟩
abbrev Ma:Oper:=⟨some 6,.assign (.tmp 41),36,"log.go:293",#[⟨5,.data⟩,⟨5,.chain⟩,⟨0,.phase⟩,⟨1,.phase⟩,⟨2,.phase⟩,⟨3,.phase⟩,⟨4,.phase⟩,⟨5,.phase⟩],none⟩
abbrev MZ:Oper:=⟨some 46,.move (.tmp 0),24,"log.go:296",#[],none⟩
abbrev MX:Oper:=⟨some 47,.nilCheck (.tmp 46),0,"log.go:296",#[⟨0,.data⟩],none⟩
abbrev MW:Oper:=⟨some 48,.fieldAddr 103 (.tmp 47) 1,0,"log.go:296",#[⟨1,.data⟩],none⟩
abbrev lc3:Oper:=⟨some 49,.load 95 (.tmp 48),95,"log.go:296",#[⟨2,.data⟩],none⟩
abbrev MV:Oper:=⟨some 50,.fieldAddr 115 (.tmp 5) 2,0,"log.go:296",#[],none⟩
abbrev MU:Oper:=⟨some 51,.load 30 (.tmp 50),30,"log.go:296",#[⟨4,.data⟩],none⟩
abbrev P9:Oper:=⟨some 52,.call { callee:=.value (.func 169),args:=#[.tmp 49,.tmp 51],argTypes:=#[95,30] },257,"log.go:296",#[⟨3,.data⟩,⟨5,.data⟩],none⟩
abbrev QO:Oper:=⟨some 45,.move (.tmp 52),257,"log.go:296",#[⟨6,.data⟩],none⟩
abbrev QN:Oper:=⟨some 53,.extract (.tmp 45) 0,95,"log.go:296",#[⟨7,.data⟩],none⟩
abbrev QM:Oper:=⟨some 54,.extract (.tmp 45) 1,3,"log.go:296",#[⟨7,.data⟩,{ on:=12,ground:=Go.Ground.gcOnly Go.Departure.lateStores }],none⟩
abbrev tV:Oper:=⟨some 55,.extract (.tmp 45) 2,36,"log.go:296",#[⟨7,.data⟩,{ on:=13,ground:=Go.Ground.gcOnly Go.Departure.lateStores }],none⟩
abbrev J6:Oper:=⟨some 7,.alloc 95,0,"log.go:296",#[],none⟩
abbrev J5:Oper:=⟨none,.store 95 (.tmp 7) (.tmp 53),0,"log.go:296",#[⟨11,.data⟩,⟨8,.data⟩,⟨6,.chain⟩,⟨0,.phase⟩,⟨1,.phase⟩,⟨2,.phase⟩,⟨3,.phase⟩,⟨4,.phase⟩,⟨5,.phase⟩,⟨6,.phase⟩,⟨7,.phase⟩,⟨8,.phase⟩,{ on:=9,ground:=Go.Ground.textOnly Go.Departure.lateStores },{ on:=10,ground:=Go.Ground.textOnly Go.Departure.lateStores },⟨11,.phase⟩],none⟩
abbrev tT:Oper:=⟨some 8,.assign (.tmp 54),3,"log.go:296",#[⟨9,.data⟩,⟨12,.chain⟩,⟨0,.phase⟩,⟨1,.phase⟩,⟨2,.phase⟩,⟨3,.phase⟩,⟨4,.phase⟩,⟨5,.phase⟩,⟨6,.phase⟩,⟨7,.phase⟩,⟨8,.phase⟩,⟨9,.phase⟩,{ on:=10,ground:=Go.Ground.textOnly Go.Departure.lateStores },⟨11,.phase⟩,⟨12,.phase⟩],none⟩
abbrev tQ:Oper:=⟨some 9,.assign (.tmp 55),36,"log.go:296",#[⟨10,.data⟩,⟨13,.chain⟩,⟨0,.phase⟩,⟨1,.phase⟩,⟨2,.phase⟩,⟨3,.phase⟩,⟨4,.phase⟩,⟨5,.phase⟩,⟨6,.phase⟩,⟨7,.phase⟩,⟨8,.phase⟩,⟨9,.phase⟩,⟨10,.phase⟩,⟨11,.phase⟩,⟨12,.phase⟩,⟨13,.phase⟩],none⟩
def bT (k:Dk) (s:Sup) (t:Int):Dk:=(k.wr (Dk.put (vT t) (wT s.a s.b (s.g+1) s.r s.v s.f (qy t)))).wr Dk.sync
abbrev jR (s:Sup):Sup:=⟨s.a,s.b,s.g+1,s.r,s.v,s.f⟩
def vo (k:Dk) (s:Sup) (t:Int) (i:Int):Dk:=((bT k s t).wr (Dk.put (2+i*s.b).toNat (fD i.toNat (s.g+1)))).wr Dk.sync
section
variable {w w':World} {X Y:Nat→Prop} {l p d n m c:Nat} {s:Sup} {t:Int} {k:Dk} {sec:Int} {A:Option Addr} {xs:List Seg} {br:Bool}
theorem zCB {k:Dk} (h:k.wre=0) (i:Nat) (ys:List Int):fH k i [ys]=(k.wr (Dk.put i ys),0):=by
 unfold fH
 rw[if_pos h]
 rfl
theorem PV (i:Nat) (g:Int) (hi:i≤15):Bytes (fD i g):=KJ _ _ _ (fun j=>by
 rcases j with _ | _ | j
 ·show 0≤(i:Int) / 256∧(i:Int) / 256≤255; omega
 ·show 0≤(i:Int)∧(i:Int)≤255; omega
 ·simp[List.getD])
theorem Ph {g0:Nat} {ys:List Int} (hs:xQ w Y p d n (jR s) t k) (hY:∀ b,Y b→b<w.heap.size) (hl:Y l) (c0:w.cell? ⟨l,0,none⟩=some (.pointer (some ⟨p,0,none⟩))) (hg0:Y g0) (hb:z8 w g0 186 (zA ys)) (hly:ys.length=64) (hby:Bytes ys)
 (i:Nat) (hi:(i:Int)<s.a) (hm:s.May) (hroom:2+s.a*s.b≤(n:Int)) (hn:n≤2048) (hg:Good k) (hp:k.pend=[]) :
 Calls Tryz.prog 120 #[.pointer (some ⟨l,0,none⟩),.int .i64 i,.int .i64 0,.slice (some ⟨g0,0,none⟩) 1 1] w fun e w'=>e=.returned (.int .i64 0)∧xQ w' Y p d n (jR s) t (k.wr (Dk.put (2+(i:Int)*s.b).toNat ys))∧Kept Y w w':=by
 obtain ⟨h1,h2,h3,h4,_⟩:=hm
 have hpos:0≤(i:Int)*s.b:=Int.mul_nonneg (by omega) (by omega)
 have hle:((i:Int)+1)*s.b≤s.a*s.b:=Int.mul_le_mul_of_nonneg_right (by omega) (by omega)
 rw[Int.add_mul,Int.one_mul] at hle
 have hi0:(((2+(i:Int)*s.b).toNat:Nat):Int)=2+(i:Int)*s.b:=Int.toNat_of_nonneg (by omega)
 have h:=WR (A:=some ⟨g0,0,none⟩) (m:=1) (c:=1) (xss:=[ys]) hs hY hl c0 ⟨rfl,fun _=>⟨g0,0,rfl,hg0,fun j hj=>by
  obtain rfl:j=0:=by omega
  exact (show qB w g0 ys from hb).range⟩⟩ (fun j=>by
  rcases j with _ | j
  ·exact hby
  ·intro q; simp[List.getD]) (fun x hx=>by
  obtain rfl:x=ys:=by simpa using hx
  exact hly) i 0 (2+(i:Int)*s.b).toNat hi h2 ⟨by show 0≤s.b; omega,h4⟩ (by rw[hi0]; show _=2+(i:Int)*s.b+((0:Nat):Int); simp) (by omega) hn (by rw[hp]; simp)
 rw[zCB hg.wre] at h
 exact h
def Jm (w:World) (X:Nat→Prop) (l p d n:Nat) (s:Sup) (t:Int) (k:Dk) (sec:Int) (xs:List Seg) (e:Ending) (w':World):Prop :=
 ∃ kk ys A c,e=.returned (.int .i64 (zZ sec (zL sec xs) (s.g+1)))∧qX w' X l p d n (jR s) (qy t) kk sec A ys.length c ys false∧Kept X w w'∧ys.length≤c∧(A=none→c=0) ∧
  (zZ sec (zL sec xs) (s.g+1)≠0∧kk=bT k s t∧ys=zL sec xs∨zZ sec (zL sec xs) (s.g+1)=0∧kk=vo k s t (jQ (zL sec xs))∧ys=qC (zL sec xs) (s.g+1))
theorem qX.len9 (h:qX w X l p d n s t k sec A m c xs br):xs.length=m:=h.now.1
theorem F6.no {e:Ending} (hE:zZ sec (zL sec xs) (s.g+1)≠0) (he:e=.returned (.int .i64 (zZ sec (zL sec xs) (s.g+1)))) (h:qX w' X l p d n (jR s) (qy t) (bT k s t) sec A m c (zL sec xs) false) (hk:Kept X w w') (hmc:m≤c) (hnil:A=none→c=0):Jm w X l p d n s t k sec xs e w' :=
 ⟨_,_,A,c,he,by rw[h.len9]; exact h,hk,by rw[h.len9]; exact hmc,hnil,.inl ⟨hE,rfl,rfl⟩⟩
theorem F6.yes {A2:Option Addr} {c2:Nat} {e:Ending} (hE:zZ sec (zL sec xs) (s.g+1)=0) (he:e=.returned (.int .i64 (zZ sec (zL sec xs) (s.g+1)))) (h:qX w' X l p d n (jR s) (qy t) (vo k s t (jQ (zL sec xs))) sec A2 (qC (zL sec xs) (s.g+1)).length c2 (qC (zL sec xs) (s.g+1)) false) (hk:Kept X w w') (hmc:(qC (zL sec xs) (s.g+1)).length≤c2) (hnil:A2=none→c2=0):Jm w X l p d n s t k sec xs e w' :=
 ⟨_,_,A2,c2,he,h,hk,hmc,hnil,.inr ⟨hE,rfl,rfl⟩⟩
theorem qX.lay {R:Nat→Prop} {A2:Option Addr} {m2 c2:Nat} {ys:List Seg} {zMQ:Int} (h1:z8 w l 103 (DC p zMQ A m c br)) (hx:¬ X l) (hs:xQ w (fun b=>X b∨b=l∨R b) p d n s t k) (hr:qH w R A2 m2 ys) (hR:∀ b,R b→b<w.heap.size∧b≠l∧¬ X b) :
 qX ((w.setCell ⟨l,1,none⟩ (.int .i64 sec)).setCell ⟨l,2,none⟩ (.slice A2 m2 c2)) X l p d n s t k sec A2 m2 c2 ys br:=by
 have hk:Kept (fun b=>b≠l) w ((w.setCell ⟨l,1,none⟩ (.int .i64 sec)).setCell ⟨l,2,none⟩ (.slice A2 m2 c2)) :=
  ((Kept.refl _ w).setCell (p:=⟨l,1,none⟩) (fun h=>h rfl) _).setCell (p:=⟨l,2,none⟩) (fun h=>h rfl) _
 exact ⟨(h1.set_ 1 (.int .i64 sec)).set_ 2 (.slice A2 m2 c2),hx,R,zk.kept hs hk (fun b hb hx e=>hx (.inr (.inl e))) (fun b hb h=>h),hr.kept hk (fun b h=>(hR b h).2.1),fun b h=>⟨nL (hR b h).1 hk.size,(hR b h).2⟩⟩
theorem Sj (h:qX w X l p d n s t k sec A m c xs false) (hX:∀ b,X b→b<w.heap.size) (hmc:m≤c) (hnil:A=none→c=0) (hg:Good k) (hp:k.pend.length≤900000) (hsm:s.May) (hsi:s.In) (hgm:s.g+1≤18446744073709551615) (hn:2≤n) (hn2:n≤2048) (hma:(m:Int)=s.a) (hroom:2+s.a*s.b≤(n:Int)) :
 Calls Tryz.prog 117 #[.pointer (some ⟨l,0,none⟩)] w fun e w'=>Jm w X l p d n s t k sec xs e w':=by
 have lK:=hI hma
 have NG:=hI hroom
 have Xw:=hI hn2
 have HL:=hI h
 have HX:=hI hX
 have HG:=hI hg
 have HP:=hI hp
 have xg:=hI hsm
 have Pp:=hI hsi
 have HLEN:=hI h.now.1
 obtain ⟨_,c1,c2,_⟩:=yU h
 have jv:=hI (AU (cap:=c) h.now sec)
 have HMC:=hI (And.intro hmc hnil)
 have hg0:0≤s.g:=hsi.2.2.2.2.1
 clear h hX hmc hnil hg hp hsm hsi hma hroom hn2
 go_enter Tryz.func117,Tryz.ntmps117
 go_wp2_with fail
 refine jv.out.mono ?_
 rintro e w2 ⟨hcase,hb2⟩
 rcases hcase with ⟨hz,v7,rfl,A6,n6,cap6,rfl,hown6⟩ | ⟨hno,rfl⟩
 ·obtain rfl:m=n6:=by rw[← hown6.1,AQ]; exact HLEN.out.symm
  have hal:=(Below.refl w2.heap.size w2).alloc (nR _) (.cells #[.int .i64 sec,.slice A6 m cap6] 95)
  have hbz:=hb2.trans (hal.mono hb2.size)
  have hput:=HL.out.put HX.out hbz (hown6.below hal)
  have Qi:=hI (show zJP w X l p d n s t k sec m (zL sec xs) _ from ⟨A6,cap6,by unfold zL; rw[if_pos hz]; exact hput.1,hput.2,hown6.2.2.2,hown6.2.2.1⟩)
  have hlz:=HL.out.below hbz
  obtain ⟨_,b1,b2,_⟩:=yU hlz
  obtain ⟨f1,f2⟩:=And.intro (hlz.1.frozen 1) (hlz.1.frozen 2)
  obtain ⟨k0,k1⟩:=qG (z8.new w2 95 #[.int .i64 sec,.slice A6 m cap6])
  have NI:=hI HL.out.1.lt
  have zQX:=hI hb2.size
  have hll:=HL.out.1.lt
  have zMx:=hb2.size
  have hneq:w2.heap.size≠l:=by omega
  clear hown6 hal hbz hput hlz hb2 hz c1 c2 hll zMx
  go_upto_region 4 with fail
  have hz0:True:=trivial
  generalize ((w2.alloc (.cells #[.int .i64 sec,.slice A6 m cap6] 95)).setCell ⟨l,1,none⟩ (.int .i64 sec)).setCell ⟨l,2,none⟩ (.slice A6 m cap6)=wx at *
  clear b1 b2 f1 f2 k0 k1 hneq hz0
  obtain ⟨A2,c3,hlm,hkx,Vr,KW⟩:=Qi.out
  obtain ⟨hb,hxl,R,hs,hrow,hR⟩:=hlm
  have nX:=hI hb
  have HS:=hI hs
  have Pq:=hI hrow
  have HRR:=hI hR
  have BA:=hI hkx
  have Cj:=hI (And.intro Vr KW)
  have wB:=hI hxl
  have QZ:=hI (show ∀ b,(X b∨b=l∨R b)→b<wx.heap.size from fun b h=>by
   rcases h with h | h | h
   ·exact nL (HX.out b h) hkx.size
   ·rw[h]; exact hb.lt
   ·exact (hR b h).1)
  have c0:wx.cell? ⟨l,0,none⟩=some (.pointer (some ⟨p,0,none⟩)):=hb.cell 0
  clear hb hxl hs hrow hR hkx Vr KW
  go_wp2_with fail
  refine (rG HS.out).mono ?_
  rintro e w4 ⟨rfl,hb4⟩
  have hbk:Below wx.heap.size wx (w4.alloc (.cells #[.int .i64 s.a,.int .i64 s.b,.int .u64 s.g,.int .u64 s.r,.int .u64 s.v,.int .u64 s.f] 115)):=hb4.alloc hb4.size _
  have hb5:Below wx.heap.size wx (w4.alloc (.cells #[.int .i64 s.a,.int .i64 s.b,.int .u64 (s.g+1),.int .u64 s.r,.int .u64 s.v,.int .u64 s.f] 115)):=hb4.alloc hb4.size _
  have sW:=hI (show z8 (w4.alloc (.cells #[.int .i64 s.a,.int .i64 s.b,.int .u64 s.g,.int .u64 s.r,.int .u64 s.v,.int .u64 s.f] 115)) w4.heap.size 115 (qR s.a s.b s.g s.r s.v s.f) from z8.new w4 _ _)
  have kS:=hI (show z8 (w4.alloc (.cells #[.int .i64 s.a,.int .i64 s.b,.int .u64 (s.g+1),.int .u64 s.r,.int .u64 s.v,.int .u64 s.f] 115)) w4.heap.size 115 (qR s.a s.b (s.g+1) s.r s.v s.f) from z8.new w4 _ _)
  have qM:=hI hb5
  have xK:=hI (show wx.heap.size≤w4.heap.size from hb4.size)
  have g2:(w4.alloc (.cells #[.int .i64 s.a,.int .i64 s.b,.int .u64 s.g,.int .u64 s.r,.int .u64 s.v,.int .u64 s.f] 115)).cell? ⟨w4.heap.size,2,none⟩=some (.int .u64 s.g):=sW.out.cell 2
  have f2:=sW.out.frozen 2
  clear hb4 hbk hb5 c0
  go_upto_region 6 with fail
  generalize (w4.alloc (.cells #[.int .i64 s.a,.int .i64 s.b,.int .u64 (s.g+1),.int .u64 s.r,.int .u64 s.v,.int .u64 s.f] 115))=w5 at *
  clear g2 f2
  have aj:=hI (zk.grow HS.out qM.out.drew)
  have sU:=hI (wH (w':=w5.drew) QZ.out qM.out.drew.size)
  have UJ:w5.drew.rangeAt w4.heap.size 0 (qR s.a s.b (s.g+1) s.r s.v s.f).toList:=z8.rangeL (cs:=(qR s.a s.b (s.g+1) s.r s.v s.f).toList) kS.out.drew
  have QX:w5.drew.cell? ⟨l,0,none⟩=some (.pointer (some ⟨p,0,none⟩)):=(nX.out.below qM.out.drew nX.out.lt).cell 0
  have DT:=Tryz.underlying115
  have DU:(Tryz.prog.info? 115).map (·.size)=some (qR s.a s.b (s.g+1) s.r s.v s.f).toList.length:=uZ
  have iF:=hI (G6 aj.out sU.out (s.g+1) s.r s.v s.f (by obtain ⟨h1,h2,h3,h4,h5⟩:=xg.out; exact ⟨h1,h2,h3,h4,by omega⟩) (by have h:=Pp.out; unfold Sup.In lG at h; unfold lG; omega) (by unfold bO; omega) hn (by have:=HP.out; omega) HG.out.wre (HG.out.put _ _).wre)
  refine wp_region_noPanic ?_
  refine zB.region (fun W=>W.cell? ⟨l,0,none⟩=some (.pointer (some ⟨p,0,none⟩))∧W.rangeAt w4.heap.size 0 (qR s.a s.b (s.g+1) s.r s.v s.f).toList) [] (by kernel_rfl) ⟨QX,UJ⟩ (fun hė=>?_)
  have Cx:=hI (show w4.heap.size<w5.drew.heap.size from kS.out.drew.lt)
  have ou:=hI qM.out.drew
  have Y0:=hI kS.out.drew
  generalize w5.drew=vd at *
  refine tK 0 Mf (v:=?_) ?_ hė ?_
  rotate_left
  ·intro W hSW; unfold Mf; go_simp; with_reducible rfl
  simp only[Mf,Act.put,sA,sZ,sS]
  refine tK 1 Me (v:=?_) ?_ hė ?_
  rotate_left
  ·intro W hSW; unfold Me; go_simp; with_reducible rfl
  simp only[Me,Act.put,sA,sZ,sS]
  refine tK 2 Md (v:=?_) ?_ hė ?_
  rotate_left
  ·intro W hSW; unfold Md; go_simp; with_reducible rfl
  simp only[Md,Act.put,sA,sZ,sS]
  refine tK 3 Mc (v:=?_) ?_ hė ?_
  rotate_left
  ·intro W' hSW; have c0:=hSW.1; unfold Mc; go_simp; with_reducible rfl
  simp only[Mc,Act.put,sA,sZ,sS]
  refine tK 4 lb4 (v:=?_) ?_ hė ?_
  rotate_left
  ·intro W' hSW; refine qw (.tmp 5) 115 ?_ w4.heap.size 0 ?_ (qR s.a s.b (s.g+1) s.r s.v s.f).toList _ DT rfl DU hSW.2 <;> rfl
  simp only[lb4,Act.put,sA,sZ,sS]
  refine tO 5 lb5 ?_
  intro K hK
  refine zN 61 #[.tmp 39,.tmp 40] #[45,115] rfl rfl Tryz.func61 rfl rfl [.pointer (some ⟨p,0,none⟩),.agg (qR s.a s.b (s.g+1) s.r s.v s.f)] rfl ?_
  refine iF.out.mono ?_
  rintro e v6 ⟨rfl,hs6,xU⟩
  have vL:=hI hs6
  have je:=hI xU
  have sO:=And.intro (show v6.cell? ⟨l,0,none⟩=some (.pointer (some ⟨p,0,none⟩)) from (xU.cell (p:=⟨l,0,none⟩) (.inl (.inr (.inl rfl)))).trans hė.1) (show v6.rangeAt w4.heap.size 0 (qR s.a s.b (s.g+1) s.r s.v s.f).toList from fun q u hu=>(xU.cell (p:=⟨w4.heap.size,0+q,none⟩) (.inr ⟨xK.out,Cx.out⟩)).trans (hė.2 q u hu))
  clear hs6 xU
  refine ⟨_,rfl,?_⟩
  simp only[lb5,Act.put,sA,sZ,sS]
  refine hU hK rfl _ _ sO (fun hė=>?_)
  clear hK K sO
  refine tO 6 Ma ?_
  intro K hK
  refine qg ?_ rfl ?_ ?_
  rotate_left
  ·unfold Ma; go_simp; with_reducible rfl
  simp only[Ma,Act.put,sA,sZ,sS]
  refine hU hK rfl _ _ hė (fun hė=>?_)
  clear hK K
  refine zB.done (by kernel_rfl) ?_ _
  refine NoPanic.normal ?_
  clear hė UJ QX DU DT
  have pO:=hI ((Pq.out.below ou.out (fun b h=>(HRR.out b h).1)).kept je.out (fun b h=>.inl (.inr (.inr h))))
  have gT:=hI ((nX.out.below ou.out nX.out.lt).kept je.out (.inl (.inr (.inl rfl))))
  have Q9:=hI (nT ou.out.size je.out.size)
  have zAU:=hI (show xQ v6 (fun b=>X b∨b=l∨R b) p d n (jR s) (qy t) (bT k s t) from zk.kept (Z:=fun _=>True) vL.out (Kept.refl _ _) (fun _ _ _=>trivial) (fun b _ h=>.inl h))
  have dJ:=hI (show qX v6 X l p d n ⟨s.a,s.b,s.g+1,s.r,s.v,s.f⟩ (qy t) (bT k s t) sec A2 m c3 (zL sec xs) false from ⟨gT.out,wB.out,R,zk.kept (Z:=fun _=>True) vL.out (Kept.refl _ _) (fun _ _ _=>trivial) (fun b _ h=>.inl h),pO.out,fun b h=>⟨nL (HRR.out b h).1 Q9.out,(HRR.out b h).2⟩⟩)
  have wm:=hI (BA.out.trans (Kept.of_below ou.out (fun b (h:X b)=>QZ.out b (.inl h)) |>.trans je.out (fun b h=>.inl (.inl h))) (fun b h=>h))
  have QD:=hI (Y0.out.kept je.out (.inr ⟨xK.out,Cx.out⟩))
  clear qM sW kS ou Y0 iF aj sU vL je Cx HS Pq nX
  go_upto_region 9 with fail
  go_cut [7,8,9] (fun t i e wy=>iE v6.drew sec (zL sec xs) (s.g+1) t i e wy)
  case first J KK hJ bE =>
   have Z6:=hI (show ∀ W,Below v6.drew.heap.size v6.drew W→qH W (·<W.heap.size) A2 m (zL sec xs) from fun W hW=>(dJ.out.now.below ((Below.refl v6.heap.size v6).drew.trans hW) (fun b h=>h)).more (fun b h=>nL h (by have:=hW.size; have:=(Below.refl v6.heap.size v6).drew.size; omega)))
   have eD:=hI (show ∀ W,Below v6.drew.heap.size v6.drew W→W.rangeAt l 1 [.int .i64 sec,.slice A2 m c3] from fun W hW q u hu=>by
    have hb:=gT.out.drew.below hW gT.out.drew.lt
    match q,hu with
    | 0,hu=>exact (hb.cell 1).trans hu
    | 1,hu=>exact (hb.cell 2).trans hu)
   have HG2:=hI (show ∀ W,Below v6.drew.heap.size v6.drew W→W.cell? ⟨w4.heap.size,2,none⟩=some (.int .u64 (s.g+1)) from fun W hW=>(QD.out.drew.below hW QD.out.drew.lt).cell 2)
   have DR:=Tryz.underlying95
   refine wp_region_noPanic ?_
   refine zB.region (fun W=>Below v6.drew.heap.size v6.drew W) [] (by kernel_rfl) (Below.refl _ _) (fun hė=>?_)
   refine tK 0 MZ (v:=?_) ?_ hė ?_
   rotate_left
   ·intro W hSW; unfold MZ; go_simp; with_reducible rfl
   simp only[MZ,Act.put,sA,sZ,sS]
   refine tK 1 MX (v:=?_) ?_ hė ?_
   rotate_left
   ·intro W hSW; unfold MX; go_simp; with_reducible rfl
   simp only[MX,Act.put,sA,sZ,sS]
   refine tK 2 MW (v:=?_) ?_ hė ?_
   rotate_left
   ·intro W hSW; unfold MW; go_simp; with_reducible rfl
   simp only[MW,Act.put,sA,sZ,sS]
   refine tK 3 lc3 (v:=?_) ?_ hė ?_
   rotate_left
   ·intro W' hSW; refine qw (.tmp 48) 95 ?_ l 1 ?_ [.int .i64 sec,.slice A2 m c3] _ DR rfl qZ (eD.out W' hSW) <;> rfl
   simp only[lc3,Act.put,sA,sZ,sS]
   refine tK 4 MV (v:=?_) ?_ hė ?_
   rotate_left
   ·intro W hSW; unfold MV; go_simp; with_reducible rfl
   simp only[MV,Act.put,sA,sZ,sS]
   refine tK 5 MU (v:=?_) ?_ hė ?_
   rotate_left
   ·intro W' hSW; have c2:=HG2.out W' hSW; unfold MU; go_simp; with_reducible rfl
   simp only[MU,Act.put,sA,sZ,sS]
   refine zB.two (i:=6) (j:=11) (o:=P9) (o':=J6) (by kernel_rfl) rfl rfl ?_ ?_
   ·intro K hK
    refine zN 169 #[.tmp 49,.tmp 51] #[95,30] rfl rfl Tryz.func169 rfl rfl [.agg #[.int .i64 sec,.slice A2 m c3],.int .u64 (s.g+1)] rfl ?_
    refine (ZY (Z6.out _ hė) sec (s.g+1)).mono ?_
    intro e v8 hopen
    obtain ⟨A9,c9,rfl,hown,hbn⟩:=hopen.told9
    have HOW:=hI hown
    have wL:=hI hbn
    have vZ:=hbn
    clear hopen hown hbn
    refine ⟨_,rfl,?_⟩
    simp only[P9,Act.put,sA,sZ,sS]
    refine hU hK rfl _ _ vZ (fun hė=>?_)
    clear hK K vZ
    refine tK 7 QO (v:=?_) ?_ hė ?_
    rotate_left
    ·intro W hSW; unfold QO; go_simp; with_reducible rfl
    simp only[QO,Act.put,sA,sZ,sS]
    refine tK 8 QN (v:=?_) ?_ hė ?_
    rotate_left
    ·intro W hSW; unfold QN; go_simp; with_reducible rfl
    simp only[QN,Act.put,sA,sZ,sS]
    refine tK 9 QM (v:=?_) ?_ hė ?_
    rotate_left
    ·intro W hSW; unfold QM; go_simp; with_reducible rfl
    simp only[QM,Act.put,sA,sZ,sS]
    refine tK 10 tV (v:=?_) ?_ hė ?_
    rotate_left
    ·intro W hSW; unfold tV; go_simp; with_reducible rfl
    simp only[tV,Act.put,sA,sZ,sS]
    refine tO 11 J6 ?_
    intro K hK
    have vY:=hė.trans (((Below.refl (v8).heap.size (v8)).alloc (nR _) (.cells #[.int .i64 0,.slice none 0 0] 95)).mono hė.size)
    refine yM 95 rfl rfl #[.int .i64 0,.slice none 0 0] oz ?_
    simp only[J6,Act.put,sA,sZ,sS]
    refine hU hK rfl _ _ vY (fun hė=>?_)
    clear hK K vY
    refine tO 12 J5 ?_
    intro K hK
    have vY:=below_setRow hė (g:=v8.heap.size) wL.out.size #[.int .i64 (kQ (zZ sec (zL sec xs) (s.g+1)) sec),.slice A9 (xG (zZ sec (zL sec xs) (s.g+1)) (qC (zL sec xs) (s.g+1))).length c9]
    refine yL (.tmp 7) (.tmp 53) 95 rfl rfl (v8.heap.size) #[.int .i64 (kQ (zZ sec (zL sec xs) (s.g+1)) sec),.slice A9 (xG (zZ sec (zL sec xs) (s.g+1)) (qC (zL sec xs) (s.g+1))).length c9] rfl rfl 95 #[.int .i64 0,.slice none 0 0] (z8.new v8 _ _) qZ rfl (ZR _ _ _ _) ?_
    simp only[J5,Act.put,sA,sZ,sS]
    refine hU hK rfl _ _ vY (fun hė=>?_)
    clear hK K vY
    refine tO 13 tT ?_
    intro K hK
    refine qg ?_ rfl ?_ ?_
    rotate_left
    ·unfold tT; go_simp; with_reducible rfl
    simp only[tT,Act.put,sA,sZ,sS]
    refine hU hK rfl _ _ hė (fun hė=>?_)
    clear hK K
    refine tO 14 tQ ?_
    intro K hK
    refine qg ?_ rfl ?_ ?_
    rotate_left
    ·unfold tQ; go_simp; with_reducible rfl
    simp only[tQ,Act.put,sA,sZ,sS]
    refine hU hK rfl _ _ hė (fun hė=>?_)
    clear hK K
    refine zB.done (by kernel_rfl) ?_ _
    refine bE _ _ (Met.intro (hJ _ _ ?_))
    (repeat apply Exists.intro)
    exact ⟨iE.call HOW.out wL.out,rfl⟩
   ·intro K hK
    have vY:=hė.trans (((Below.refl (v6.drew).heap.size (v6.drew)).alloc (nR _) (.cells #[.int .i64 0,.slice none 0 0] 95)).mono hė.size)
    refine yM 95 rfl rfl #[.int .i64 0,.slice none 0 0] oz ?_
    simp only[J6,Act.put,sA,sZ,sS]
    refine hU hK rfl _ _ vY (fun hė=>?_)
    clear hK K vY
    refine tO 6 P9 ?_
    intro K hK
    refine zN 169 #[.tmp 49,.tmp 51] #[95,30] rfl rfl Tryz.func169 rfl rfl [.agg #[.int .i64 sec,.slice A2 m c3],.int .u64 (s.g+1)] rfl ?_
    refine (ZY (Z6.out _ hė) sec (s.g+1)).mono ?_
    intro e v8 hopen
    obtain ⟨A9,c9,rfl,hown,hbn⟩:=hopen.told9
    have HOW:=hI hown
    have wL:=hI hbn
    have vZ:=hė.trans (hbn.mono hė.size)
    clear hopen hown hbn
    refine ⟨_,rfl,?_⟩
    simp only[P9,Act.put,sA,sZ,sS]
    refine hU hK rfl _ _ vZ (fun hė=>?_)
    clear hK K vZ
    refine tK 7 QO (v:=?_) ?_ hė ?_
    rotate_left
    ·intro W hSW; unfold QO; go_simp; with_reducible rfl
    simp only[QO,Act.put,sA,sZ,sS]
    refine tK 8 QN (v:=?_) ?_ hė ?_
    rotate_left
    ·intro W hSW; unfold QN; go_simp; with_reducible rfl
    simp only[QN,Act.put,sA,sZ,sS]
    refine tK 9 QM (v:=?_) ?_ hė ?_
    rotate_left
    ·intro W hSW; unfold QM; go_simp; with_reducible rfl
    simp only[QM,Act.put,sA,sZ,sS]
    refine tK 10 tV (v:=?_) ?_ hė ?_
    rotate_left
    ·intro W hSW; unfold tV; go_simp; with_reducible rfl
    simp only[tV,Act.put,sA,sZ,sS]
    refine tO 12 J5 ?_
    intro K hK
    have vY:=below_setRow hė (g:=v6.drew.heap.size) (nR _) #[.int .i64 (kQ (zZ sec (zL sec xs) (s.g+1)) sec),.slice A9 (xG (zZ sec (zL sec xs) (s.g+1)) (qC (zL sec xs) (s.g+1))).length c9]
    refine yL (.tmp 7) (.tmp 53) 95 rfl rfl (v6.drew.heap.size) #[.int .i64 (kQ (zZ sec (zL sec xs) (s.g+1)) sec),.slice A9 (xG (zZ sec (zL sec xs) (s.g+1)) (qC (zL sec xs) (s.g+1))).length c9] rfl rfl 95 #[.int .i64 0,.slice none 0 0] (z8.below (z8.new v6.drew _ _) wL.out (by simp)) qZ rfl (ZR _ _ _ _) ?_
    simp only[J5,Act.put,sA,sZ,sS]
    refine hU hK rfl _ _ vY (fun hė=>?_)
    clear hK K vY
    refine tO 13 tT ?_
    intro K hK
    refine qg ?_ rfl ?_ ?_
    rotate_left
    ·unfold tT; go_simp; with_reducible rfl
    simp only[tT,Act.put,sA,sZ,sS]
    refine hU hK rfl _ _ hė (fun hė=>?_)
    clear hK K
    refine tO 14 tQ ?_
    intro K hK
    refine qg ?_ rfl ?_ ?_
    rotate_left
    ·unfold tQ; go_simp; with_reducible rfl
    simp only[tQ,Act.put,sA,sZ,sS]
    refine hU hK rfl _ _ hė (fun hė=>?_)
    clear hK K
    refine zB.done (by kernel_rfl) ?_ _
    refine bE _ _ (Met.intro (hJ _ _ ?_))
    (repeat apply Exists.intro)
    exact ⟨iE.laid HOW.out wL.out,rfl⟩
  case rest =>
   obtain ⟨rfl,rfl,nb,A9,c9,rfl,hnb,hblk,hown,hbl⟩:=hcut
   have ay:=hI hnb
   have Je:=hI hblk
   have HOW:=hI hown
   have bM:=hI hbl
   clear hnb hblk hown hbl
   have qK:=hI ((Below.refl v6.heap.size v6).drew.trans bM.out)
   obtain ⟨E,hE⟩:∃ E,zZ sec (zL sec xs) (s.g+1)=E:=⟨_,rfl⟩
   rw[hE] at Je HOW
   have hE2:=hE
   have HE:=hI hE2
   clear hE2
   by_cases hz:E=0
   case neg =>
    have d1:(E != 0)=true:=by simpa using hz
    simp only[hE]
    have VJ:=hI hz
    clear hE hz
    go_wp2_with fail
    go_ret
    refine F6.no (by rw[HE.out]; exact VJ.out) (by rw[HE.out]; rfl) ?_ ?_ Cj.out.1 Cj.out.2
    ·exact dJ.out.below qK.out
    ·exact wm.out.trans (Kept.of_below qK.out (fun b h=>nL (HX.out b h) wm.out.size)) (fun b h=>h)
   subst hz
   simp only[hE]
   rw[XR,rR] at Je
   rw[rR] at HOW
   obtain ⟨i,him,hi⟩:∃ i:Nat,i<m∧jQ (zL sec xs)=(i:Int):=by
    rcases Wt (zL sec xs) with h | ⟨i,h1,h2⟩
    ·exact absurd h (Gp HE.out)
    ·exact ⟨i,by rw[← qX.len9 dJ.out]; exact h1,h2⟩
   rw[hi]
   have HI:=hI hi
   have VH:=hI him
   have YA:=hI (Zk i (s.g+1) wc (by have:=xg.out.2.1; have:=lK.out; omega) ⟨by omega,hgm⟩)
   have g3:wc.cell? ⟨w4.heap.size,2,none⟩=some (.int .u64 (s.g+1)):=(QD.out.below qK.out QD.out.lt).cell 2
   clear hE hi him
   go_wp2_with fail
   refine YA.out.mono ?_
   rintro e w10 ⟨rfl,xP⟩
   have nJ:=hI xP
   obtain ⟨ys,hys⟩:∃ ys,fD i (s.g+1)=ys:=⟨_,rfl⟩
   have fq:=hI (show ys.length=64 by rw[← hys]; exact rV _ _)
   rw[hys]
   have CV:=hI hys
   clear xP hys g3 YA
   go_upto_region 15 with (first | (refine zG rfl rfl ?_) | (refine zU (.tmp 10) (.tmp 64) rfl rfl w10 ys rfl rfl (noughts 64) rfl (zC 64) fq.out ?_))
   have fG:=hI (show Below wc.heap.size wc ((w10.alloc (.cells (zA ys) 186)).alloc (.cells (zA ys) 186)) from nJ.out.trans ((((Below.refl w10.heap.size w10).alloc (nR _) (.cells (zA ys) 186)).alloc (by simp) (.cells (zA ys) 186)).mono nJ.out.size))
   have tC:=hI (show Below v6.heap.size v6 ((w10.alloc (.cells (zA ys) 186)).alloc (.cells (zA ys) 186)) from qK.out.trans (fG.out.mono qK.out.size))
   have fZ:=hI (show xQ ((w10.alloc (.cells (zA ys) 186)).alloc (.cells (zA ys) 186)) (fun b=>(X b∨b=l∨R b)∨(v6.heap.size≤b∧b<((w10.alloc (.cells (zA ys) 186)).alloc (.cells (zA ys) 186)).heap.size)) p d n (jR s) (qy t) (bT k s t) from zk.grow zAU.out tC.out)
   have O6:=hI (show ∀ b,(fun b=>(X b∨b=l∨R b)∨(v6.heap.size≤b∧b<((w10.alloc (.cells (zA ys) 186)).alloc (.cells (zA ys) 186)).heap.size)) b→b<((w10.alloc (.cells (zA ys) 186)).alloc (.cells (zA ys) 186)).heap.size from wH (fun b h=>nL (QZ.out b h) Q9.out) tC.out.size)
   have OU:=hI (show Good (bT k s t) from (HG.out.put _ _).sync)
   have Jd:=hI (show (bT k s t).pend=[] from (HG.out.put _ _).pend_sync)
   have VL:=hI (show ((w10.alloc (.cells (zA ys) 186)).alloc (.cells (zA ys) 186)).cell? ⟨l,0,none⟩=some (.pointer (some ⟨p,0,none⟩)) from (gT.out.below tC.out gT.out.lt).cell 0)
   have hwr:=(Ph fZ.out O6.out (.inl (.inr (.inl rfl))) VL.out (.inr ⟨by have:=qK.out.size; have:=nJ.out.size; have h:(w10.alloc (.cells (zA ys) 186)).heap.size=w10.heap.size+1:=(by simp); omega,by simp⟩) (z8.new (w10.alloc (.cells (zA ys) 186)) _ _) fq.out (show Bytes ys by rw[← CV.out]; exact PV _ _ (by have:=VH.out; have:=lK.out; have:=xg.out.2.1; omega)) i (by have:=VH.out; have:=lK.out; omega) xg.out NG.out Xw.out OU.out Jd.out)
   rw[show (w10.alloc (.cells (zA ys) 186)).heap.size=w10.heap.size+1 from (by simp)] at hwr
   have Pn:=hI hwr
   clear hwr
   have HRL:=hI (show (w10.alloc (.cells (zA ys) 186)).rangeAt w10.heap.size 0 (ys.map (Value.int .u8)) from (show qB (w10.alloc (.cells (zA ys) 186)) w10.heap.size ys from z8.new w10 _ _).range)
   have hll:l<v6.heap.size:=gT.out.lt
   have Cm:=hI hll
   clear hll
   go_wp2_with (first | (refine zQ (.tmp 10) rfl rfl w10.heap.size 0 rfl ys fq.out HRL.out ?_) | (refine vD (.tmp 71) rfl rfl ys rfl fq.out ?_))
   refine Pn.out.mono ?_
   rintro e w12 ⟨rfl,DV,DZ⟩
   have gM:=hI DV
   have fE:=hI DZ
   clear DV DZ
   have c0:w12.cell? ⟨l,0,none⟩=some (.pointer (some ⟨p,0,none⟩)):=(fE.out.cell (p:=⟨l,0,none⟩) (.inl (.inr (.inl rfl)))).trans VL.out
   go_wp2_with fail
   refine (uX gM.out).mono ?_
   rintro e w' ⟨rfl,rfl⟩
   go_wp2_with fail
   have hsy:=Qm gM.out.2.1 (fun b h=>by rcases h with h | h; exact nL (O6.out b h) fE.out.size; rw[h]; exact gM.out.1.lt)
   rw[(OU.out.put _ _).wre] at hsy
   refine hsy.mono ?_
   rintro e w13 ⟨rfl,Dc,dO⟩
   have zAV:=hI (show xQ w13 (fun b=>(X b∨b=l∨R b)∨(v6.heap.size≤b∧b<((w10.alloc (.cells (zA ys) 186)).alloc (.cells (zA ys) 186)).heap.size)) p d n (jR s) (qy t) (vo k s t (i:Int)) from by unfold vo; rw[Int.toNat_natCast,CV.out]; exact ⟨gM.out.1.kept dO (.inr rfl),Dc,gM.out.2.2⟩)
   have Jh:=hI (fE.out.trans dO (fun b h=>.inl h))
   clear c0 hsy Dc dO gM fE Pn fZ
   have wM:=hI ((gT.out.below tC.out gT.out.lt).kept Jh.out (.inl (.inr (.inl rfl))))
   have zAX:=hI ((Je.out.below fG.out Je.out.lt).kept Jh.out (.inr ⟨ay.out,nL Je.out.lt fG.out.size⟩))
   have Cg:=hI ((HOW.out.row.below fG.out (fun b h=>h.2)).kept Jh.out (fun b h=>.inr ⟨h.1,nL h.2 fG.out.size⟩))
   obtain ⟨k0,k1⟩:=qG zAX.out
   obtain ⟨f1,f2⟩:=And.intro (wM.out.frozen 1) (wM.out.frozen 2)
   have hneq:nb≠l:=by have h1:=Cm.out; have h2:v6.heap.size≤nb:=ay.out; omega
   have b1:w13.cell? ⟨l,1,none⟩=some (.int .i64 sec):=wM.out.cell 1
   have b2:w13.cell? ⟨l,2,none⟩=some (.slice A2 m c3):=wM.out.cell 2
   go_wp2_with fail
   go_ret
   have zMy:wc.heap.size≤w13.heap.size:=nT fG.out.size Jh.out.size
   have hsub:∀ b,(X b∨b=l∨From v6.drew.heap.size wc b)→(fun b=>(X b∨b=l∨R b)∨(v6.heap.size≤b∧b<((w10.alloc (.cells (zA ys) 186)).alloc (.cells (zA ys) 186)).heap.size)) b:=fun b h=>by
    rcases h with h | h | h
    ·exact .inl (.inl h)
    ·exact .inl (.inr (.inl h))
    ·exact .inr ⟨h.1,nL h.2 fG.out.size⟩
   have hfr:∀ b,From v6.drew.heap.size wc b→b<w13.heap.size∧b≠l∧¬ X b:=fun b h=>by
    have h1:=Cm.out
    have h2:v6.heap.size≤b:=h.1
    have h3:=h.2
    refine ⟨by omega,by omega,fun hx=>?_⟩
    have h4:=HX.out b hx
    have h5:=wm.out.size
    omega
   have DY:=qX.lay (sec:=sec) (c2:=c9) wM.out wB.out (zk.kept (Z:=fun _=>True) zAV.out (Kept.refl _ _) (fun _ _ _=>trivial) (fun b _ h=>hsub b h)) Cg.out hfr
   refine F6.yes HE.out (by rw[HE.out]; rfl) (by rw[HI.out]; exact DY) ?_ HOW.out.2.2.2 HOW.out.2.2.1
   exact (((wm.out.trans (Kept.of_below tC.out (fun b h=>nL (HX.out b h) wm.out.size)) (fun b h=>h)).trans Jh.out (fun b h=>.inl (.inl h))).setCell (p:=⟨l,1,none⟩) wB.out _).setCell (p:=⟨l,2,none⟩) wB.out _
 ·have hal:=(Below.refl w2.heap.size w2).alloc (nR _) (.cells #[.int .i64 0,.slice none 0 0] 95)
  have hbz:=hb2.trans (hal.mono hb2.size)
  have Qi:=hI (show zJP w X l p d n s t k sec m (zL sec xs) (w2.alloc (.cells #[.int .i64 0,.slice none 0 0] 95)) from ⟨A,c,by unfold zL; rw[if_neg hno]; exact HL.out.below hbz,Kept.of_below hbz HX.out,HMC.out.1,HMC.out.2⟩)
  have d1:(jP sec xs==0)=false:=by simpa using hno
  generalize jP sec xs=E at *
  clear hal hbz hb2 c1 c2 hno
  go_upto_region 4 with fail
  generalize w2.alloc (.cells #[.int .i64 0,.slice none 0 0] 95)=wx at *
  clear d1
  obtain ⟨A2,c3,hlm,hkx,Vr,KW⟩:=Qi.out
  obtain ⟨hb,hxl,R,hs,hrow,hR⟩:=hlm
  have nX:=hI hb
  have HS:=hI hs
  have Pq:=hI hrow
  have HRR:=hI hR
  have BA:=hI hkx
  have Cj:=hI (And.intro Vr KW)
  have wB:=hI hxl
  have QZ:=hI (show ∀ b,(X b∨b=l∨R b)→b<wx.heap.size from fun b h=>by
   rcases h with h | h | h
   ·exact nL (HX.out b h) hkx.size
   ·rw[h]; exact hb.lt
   ·exact (hR b h).1)
  have c0:wx.cell? ⟨l,0,none⟩=some (.pointer (some ⟨p,0,none⟩)):=hb.cell 0
  clear hb hxl hs hrow hR hkx Vr KW
  go_wp2_with fail
  refine (rG HS.out).mono ?_
  rintro e w4 ⟨rfl,hb4⟩
  have hbk:Below wx.heap.size wx (w4.alloc (.cells #[.int .i64 s.a,.int .i64 s.b,.int .u64 s.g,.int .u64 s.r,.int .u64 s.v,.int .u64 s.f] 115)):=hb4.alloc hb4.size _
  have hb5:Below wx.heap.size wx (w4.alloc (.cells #[.int .i64 s.a,.int .i64 s.b,.int .u64 (s.g+1),.int .u64 s.r,.int .u64 s.v,.int .u64 s.f] 115)):=hb4.alloc hb4.size _
  have sW:=hI (show z8 (w4.alloc (.cells #[.int .i64 s.a,.int .i64 s.b,.int .u64 s.g,.int .u64 s.r,.int .u64 s.v,.int .u64 s.f] 115)) w4.heap.size 115 (qR s.a s.b s.g s.r s.v s.f) from z8.new w4 _ _)
  have kS:=hI (show z8 (w4.alloc (.cells #[.int .i64 s.a,.int .i64 s.b,.int .u64 (s.g+1),.int .u64 s.r,.int .u64 s.v,.int .u64 s.f] 115)) w4.heap.size 115 (qR s.a s.b (s.g+1) s.r s.v s.f) from z8.new w4 _ _)
  have qM:=hI hb5
  have xK:=hI (show wx.heap.size≤w4.heap.size from hb4.size)
  have g2:(w4.alloc (.cells #[.int .i64 s.a,.int .i64 s.b,.int .u64 s.g,.int .u64 s.r,.int .u64 s.v,.int .u64 s.f] 115)).cell? ⟨w4.heap.size,2,none⟩=some (.int .u64 s.g):=sW.out.cell 2
  have f2:=sW.out.frozen 2
  clear hb4 hbk hb5 c0
  go_upto_region 6 with fail
  generalize (w4.alloc (.cells #[.int .i64 s.a,.int .i64 s.b,.int .u64 (s.g+1),.int .u64 s.r,.int .u64 s.v,.int .u64 s.f] 115))=w5 at *
  clear g2 f2
  have aj:=hI (zk.grow HS.out qM.out.drew)
  have sU:=hI (wH (w':=w5.drew) QZ.out qM.out.drew.size)
  have UJ:w5.drew.rangeAt w4.heap.size 0 (qR s.a s.b (s.g+1) s.r s.v s.f).toList:=z8.rangeL (cs:=(qR s.a s.b (s.g+1) s.r s.v s.f).toList) kS.out.drew
  have QX:w5.drew.cell? ⟨l,0,none⟩=some (.pointer (some ⟨p,0,none⟩)):=(nX.out.below qM.out.drew nX.out.lt).cell 0
  have DT:=Tryz.underlying115
  have DU:(Tryz.prog.info? 115).map (·.size)=some (qR s.a s.b (s.g+1) s.r s.v s.f).toList.length:=uZ
  have iF:=hI (G6 aj.out sU.out (s.g+1) s.r s.v s.f (by obtain ⟨h1,h2,h3,h4,h5⟩:=xg.out; exact ⟨h1,h2,h3,h4,by omega⟩) (by have h:=Pp.out; unfold Sup.In lG at h; unfold lG; omega) (by unfold bO; omega) hn (by have:=HP.out; omega) HG.out.wre (HG.out.put _ _).wre)
  refine wp_region_noPanic ?_
  refine zB.region (fun W=>W.cell? ⟨l,0,none⟩=some (.pointer (some ⟨p,0,none⟩))∧W.rangeAt w4.heap.size 0 (qR s.a s.b (s.g+1) s.r s.v s.f).toList) [] (by kernel_rfl) ⟨QX,UJ⟩ (fun hė=>?_)
  have Cx:=hI (show w4.heap.size<w5.drew.heap.size from kS.out.drew.lt)
  have ou:=hI qM.out.drew
  have Y0:=hI kS.out.drew
  generalize w5.drew=vd at *
  refine tK 0 Mf (v:=?_) ?_ hė ?_
  rotate_left
  ·intro W hSW; unfold Mf; go_simp; with_reducible rfl
  simp only[Mf,Act.put,sA,sZ,sS]
  refine tK 1 Me (v:=?_) ?_ hė ?_
  rotate_left
  ·intro W hSW; unfold Me; go_simp; with_reducible rfl
  simp only[Me,Act.put,sA,sZ,sS]
  refine tK 2 Md (v:=?_) ?_ hė ?_
  rotate_left
  ·intro W hSW; unfold Md; go_simp; with_reducible rfl
  simp only[Md,Act.put,sA,sZ,sS]
  refine tK 3 Mc (v:=?_) ?_ hė ?_
  rotate_left
  ·intro W' hSW; have c0:=hSW.1; unfold Mc; go_simp; with_reducible rfl
  simp only[Mc,Act.put,sA,sZ,sS]
  refine tK 4 lb4 (v:=?_) ?_ hė ?_
  rotate_left
  ·intro W' hSW; refine qw (.tmp 5) 115 ?_ w4.heap.size 0 ?_ (qR s.a s.b (s.g+1) s.r s.v s.f).toList _ DT rfl DU hSW.2 <;> rfl
  simp only[lb4,Act.put,sA,sZ,sS]
  refine tO 5 lb5 ?_
  intro K hK
  refine zN 61 #[.tmp 39,.tmp 40] #[45,115] rfl rfl Tryz.func61 rfl rfl [.pointer (some ⟨p,0,none⟩),.agg (qR s.a s.b (s.g+1) s.r s.v s.f)] rfl ?_
  refine iF.out.mono ?_
  rintro e v6 ⟨rfl,hs6,xU⟩
  have vL:=hI hs6
  have je:=hI xU
  have sO:=And.intro (show v6.cell? ⟨l,0,none⟩=some (.pointer (some ⟨p,0,none⟩)) from (xU.cell (p:=⟨l,0,none⟩) (.inl (.inr (.inl rfl)))).trans hė.1) (show v6.rangeAt w4.heap.size 0 (qR s.a s.b (s.g+1) s.r s.v s.f).toList from fun q u hu=>(xU.cell (p:=⟨w4.heap.size,0+q,none⟩) (.inr ⟨xK.out,Cx.out⟩)).trans (hė.2 q u hu))
  clear hs6 xU
  refine ⟨_,rfl,?_⟩
  simp only[lb5,Act.put,sA,sZ,sS]
  refine hU hK rfl _ _ sO (fun hė=>?_)
  clear hK K sO
  refine tO 6 Ma ?_
  intro K hK
  refine qg ?_ rfl ?_ ?_
  rotate_left
  ·unfold Ma; go_simp; with_reducible rfl
  simp only[Ma,Act.put,sA,sZ,sS]
  refine hU hK rfl _ _ hė (fun hė=>?_)
  clear hK K
  refine zB.done (by kernel_rfl) ?_ _
  refine NoPanic.normal ?_
  clear hė UJ QX DU DT
  have pO:=hI ((Pq.out.below ou.out (fun b h=>(HRR.out b h).1)).kept je.out (fun b h=>.inl (.inr (.inr h))))
  have gT:=hI ((nX.out.below ou.out nX.out.lt).kept je.out (.inl (.inr (.inl rfl))))
  have Q9:=hI (nT ou.out.size je.out.size)
  have zAU:=hI (show xQ v6 (fun b=>X b∨b=l∨R b) p d n (jR s) (qy t) (bT k s t) from zk.kept (Z:=fun _=>True) vL.out (Kept.refl _ _) (fun _ _ _=>trivial) (fun b _ h=>.inl h))
  have dJ:=hI (show qX v6 X l p d n ⟨s.a,s.b,s.g+1,s.r,s.v,s.f⟩ (qy t) (bT k s t) sec A2 m c3 (zL sec xs) false from ⟨gT.out,wB.out,R,zk.kept (Z:=fun _=>True) vL.out (Kept.refl _ _) (fun _ _ _=>trivial) (fun b _ h=>.inl h),pO.out,fun b h=>⟨nL (HRR.out b h).1 Q9.out,(HRR.out b h).2⟩⟩)
  have wm:=hI (BA.out.trans (Kept.of_below ou.out (fun b (h:X b)=>QZ.out b (.inl h)) |>.trans je.out (fun b h=>.inl (.inl h))) (fun b h=>h))
  have QD:=hI (Y0.out.kept je.out (.inr ⟨xK.out,Cx.out⟩))
  clear qM sW kS ou Y0 iF aj sU vL je Cx HS Pq nX
  go_upto_region 9 with fail
  go_cut [7,8,9] (fun t i e wy=>iE v6.drew sec (zL sec xs) (s.g+1) t i e wy)
  case first J KK hJ bE =>
   have Z6:=hI (show ∀ W,Below v6.drew.heap.size v6.drew W→qH W (·<W.heap.size) A2 m (zL sec xs) from fun W hW=>(dJ.out.now.below ((Below.refl v6.heap.size v6).drew.trans hW) (fun b h=>h)).more (fun b h=>nL h (by have:=hW.size; have:=(Below.refl v6.heap.size v6).drew.size; omega)))
   have eD:=hI (show ∀ W,Below v6.drew.heap.size v6.drew W→W.rangeAt l 1 [.int .i64 sec,.slice A2 m c3] from fun W hW q u hu=>by
    have hb:=gT.out.drew.below hW gT.out.drew.lt
    match q,hu with
    | 0,hu=>exact (hb.cell 1).trans hu
    | 1,hu=>exact (hb.cell 2).trans hu)
   have HG2:=hI (show ∀ W,Below v6.drew.heap.size v6.drew W→W.cell? ⟨w4.heap.size,2,none⟩=some (.int .u64 (s.g+1)) from fun W hW=>(QD.out.drew.below hW QD.out.drew.lt).cell 2)
   have DR:=Tryz.underlying95
   refine wp_region_noPanic ?_
   refine zB.region (fun W=>Below v6.drew.heap.size v6.drew W) [] (by kernel_rfl) (Below.refl _ _) (fun hė=>?_)
   refine tK 0 MZ (v:=?_) ?_ hė ?_
   rotate_left
   ·intro W hSW; unfold MZ; go_simp; with_reducible rfl
   simp only[MZ,Act.put,sA,sZ,sS]
   refine tK 1 MX (v:=?_) ?_ hė ?_
   rotate_left
   ·intro W hSW; unfold MX; go_simp; with_reducible rfl
   simp only[MX,Act.put,sA,sZ,sS]
   refine tK 2 MW (v:=?_) ?_ hė ?_
   rotate_left
   ·intro W hSW; unfold MW; go_simp; with_reducible rfl
   simp only[MW,Act.put,sA,sZ,sS]
   refine tK 3 lc3 (v:=?_) ?_ hė ?_
   rotate_left
   ·intro W' hSW; refine qw (.tmp 48) 95 ?_ l 1 ?_ [.int .i64 sec,.slice A2 m c3] _ DR rfl qZ (eD.out W' hSW) <;> rfl
   simp only[lc3,Act.put,sA,sZ,sS]
   refine tK 4 MV (v:=?_) ?_ hė ?_
   rotate_left
   ·intro W hSW; unfold MV; go_simp; with_reducible rfl
   simp only[MV,Act.put,sA,sZ,sS]
   refine tK 5 MU (v:=?_) ?_ hė ?_
   rotate_left
   ·intro W' hSW; have c2:=HG2.out W' hSW; unfold MU; go_simp; with_reducible rfl
   simp only[MU,Act.put,sA,sZ,sS]
   refine zB.two (i:=6) (j:=11) (o:=P9) (o':=J6) (by kernel_rfl) rfl rfl ?_ ?_
   ·intro K hK
    refine zN 169 #[.tmp 49,.tmp 51] #[95,30] rfl rfl Tryz.func169 rfl rfl [.agg #[.int .i64 sec,.slice A2 m c3],.int .u64 (s.g+1)] rfl ?_
    refine (ZY (Z6.out _ hė) sec (s.g+1)).mono ?_
    intro e v8 hopen
    obtain ⟨A9,c9,rfl,hown,hbn⟩:=hopen.told9
    have HOW:=hI hown
    have wL:=hI hbn
    have vZ:=hbn
    clear hopen hown hbn
    refine ⟨_,rfl,?_⟩
    simp only[P9,Act.put,sA,sZ,sS]
    refine hU hK rfl _ _ vZ (fun hė=>?_)
    clear hK K vZ
    refine tK 7 QO (v:=?_) ?_ hė ?_
    rotate_left
    ·intro W hSW; unfold QO; go_simp; with_reducible rfl
    simp only[QO,Act.put,sA,sZ,sS]
    refine tK 8 QN (v:=?_) ?_ hė ?_
    rotate_left
    ·intro W hSW; unfold QN; go_simp; with_reducible rfl
    simp only[QN,Act.put,sA,sZ,sS]
    refine tK 9 QM (v:=?_) ?_ hė ?_
    rotate_left
    ·intro W hSW; unfold QM; go_simp; with_reducible rfl
    simp only[QM,Act.put,sA,sZ,sS]
    refine tK 10 tV (v:=?_) ?_ hė ?_
    rotate_left
    ·intro W hSW; unfold tV; go_simp; with_reducible rfl
    simp only[tV,Act.put,sA,sZ,sS]
    refine tO 11 J6 ?_
    intro K hK
    have vY:=hė.trans (((Below.refl (v8).heap.size (v8)).alloc (nR _) (.cells #[.int .i64 0,.slice none 0 0] 95)).mono hė.size)
    refine yM 95 rfl rfl #[.int .i64 0,.slice none 0 0] oz ?_
    simp only[J6,Act.put,sA,sZ,sS]
    refine hU hK rfl _ _ vY (fun hė=>?_)
    clear hK K vY
    refine tO 12 J5 ?_
    intro K hK
    have vY:=below_setRow hė (g:=v8.heap.size) wL.out.size #[.int .i64 (kQ (zZ sec (zL sec xs) (s.g+1)) sec),.slice A9 (xG (zZ sec (zL sec xs) (s.g+1)) (qC (zL sec xs) (s.g+1))).length c9]
    refine yL (.tmp 7) (.tmp 53) 95 rfl rfl (v8.heap.size) #[.int .i64 (kQ (zZ sec (zL sec xs) (s.g+1)) sec),.slice A9 (xG (zZ sec (zL sec xs) (s.g+1)) (qC (zL sec xs) (s.g+1))).length c9] rfl rfl 95 #[.int .i64 0,.slice none 0 0] (z8.new v8 _ _) qZ rfl (ZR _ _ _ _) ?_
    simp only[J5,Act.put,sA,sZ,sS]
    refine hU hK rfl _ _ vY (fun hė=>?_)
    clear hK K vY
    refine tO 13 tT ?_
    intro K hK
    refine qg ?_ rfl ?_ ?_
    rotate_left
    ·unfold tT; go_simp; with_reducible rfl
    simp only[tT,Act.put,sA,sZ,sS]
    refine hU hK rfl _ _ hė (fun hė=>?_)
    clear hK K
    refine tO 14 tQ ?_
    intro K hK
    refine qg ?_ rfl ?_ ?_
    rotate_left
    ·unfold tQ; go_simp; with_reducible rfl
    simp only[tQ,Act.put,sA,sZ,sS]
    refine hU hK rfl _ _ hė (fun hė=>?_)
    clear hK K
    refine zB.done (by kernel_rfl) ?_ _
    refine bE _ _ (Met.intro (hJ _ _ ?_))
    (repeat apply Exists.intro)
    exact ⟨iE.call HOW.out wL.out,rfl⟩
   ·intro K hK
    have vY:=hė.trans (((Below.refl (v6.drew).heap.size (v6.drew)).alloc (nR _) (.cells #[.int .i64 0,.slice none 0 0] 95)).mono hė.size)
    refine yM 95 rfl rfl #[.int .i64 0,.slice none 0 0] oz ?_
    simp only[J6,Act.put,sA,sZ,sS]
    refine hU hK rfl _ _ vY (fun hė=>?_)
    clear hK K vY
    refine tO 6 P9 ?_
    intro K hK
    refine zN 169 #[.tmp 49,.tmp 51] #[95,30] rfl rfl Tryz.func169 rfl rfl [.agg #[.int .i64 sec,.slice A2 m c3],.int .u64 (s.g+1)] rfl ?_
    refine (ZY (Z6.out _ hė) sec (s.g+1)).mono ?_
    intro e v8 hopen
    obtain ⟨A9,c9,rfl,hown,hbn⟩:=hopen.told9
    have HOW:=hI hown
    have wL:=hI hbn
    have vZ:=hė.trans (hbn.mono hė.size)
    clear hopen hown hbn
    refine ⟨_,rfl,?_⟩
    simp only[P9,Act.put,sA,sZ,sS]
    refine hU hK rfl _ _ vZ (fun hė=>?_)
    clear hK K vZ
    refine tK 7 QO (v:=?_) ?_ hė ?_
    rotate_left
    ·intro W hSW; unfold QO; go_simp; with_reducible rfl
    simp only[QO,Act.put,sA,sZ,sS]
    refine tK 8 QN (v:=?_) ?_ hė ?_
    rotate_left
    ·intro W hSW; unfold QN; go_simp; with_reducible rfl
    simp only[QN,Act.put,sA,sZ,sS]
    refine tK 9 QM (v:=?_) ?_ hė ?_
    rotate_left
    ·intro W hSW; unfold QM; go_simp; with_reducible rfl
    simp only[QM,Act.put,sA,sZ,sS]
    refine tK 10 tV (v:=?_) ?_ hė ?_
    rotate_left
    ·intro W hSW; unfold tV; go_simp; with_reducible rfl
    simp only[tV,Act.put,sA,sZ,sS]
    refine tO 12 J5 ?_
    intro K hK
    have vY:=below_setRow hė (g:=v6.drew.heap.size) (nR _) #[.int .i64 (kQ (zZ sec (zL sec xs) (s.g+1)) sec),.slice A9 (xG (zZ sec (zL sec xs) (s.g+1)) (qC (zL sec xs) (s.g+1))).length c9]
    refine yL (.tmp 7) (.tmp 53) 95 rfl rfl (v6.drew.heap.size) #[.int .i64 (kQ (zZ sec (zL sec xs) (s.g+1)) sec),.slice A9 (xG (zZ sec (zL sec xs) (s.g+1)) (qC (zL sec xs) (s.g+1))).length c9] rfl rfl 95 #[.int .i64 0,.slice none 0 0] (z8.below (z8.new v6.drew _ _) wL.out (by simp)) qZ rfl (ZR _ _ _ _) ?_
    simp only[J5,Act.put,sA,sZ,sS]
    refine hU hK rfl _ _ vY (fun hė=>?_)
    clear hK K vY
    refine tO 13 tT ?_
    intro K hK
    refine qg ?_ rfl ?_ ?_
    rotate_left
    ·unfold tT; go_simp; with_reducible rfl
    simp only[tT,Act.put,sA,sZ,sS]
    refine hU hK rfl _ _ hė (fun hė=>?_)
    clear hK K
    refine tO 14 tQ ?_
    intro K hK
    refine qg ?_ rfl ?_ ?_
    rotate_left
    ·unfold tQ; go_simp; with_reducible rfl
    simp only[tQ,Act.put,sA,sZ,sS]
    refine hU hK rfl _ _ hė (fun hė=>?_)
    clear hK K
    refine zB.done (by kernel_rfl) ?_ _
    refine bE _ _ (Met.intro (hJ _ _ ?_))
    (repeat apply Exists.intro)
    exact ⟨iE.laid HOW.out wL.out,rfl⟩
  case rest =>
   obtain ⟨rfl,rfl,nb,A9,c9,rfl,hnb,hblk,hown,hbl⟩:=hcut
   have ay:=hI hnb
   have Je:=hI hblk
   have HOW:=hI hown
   have bM:=hI hbl
   clear hnb hblk hown hbl
   have qK:=hI ((Below.refl v6.heap.size v6).drew.trans bM.out)
   obtain ⟨E,hE⟩:∃ E,zZ sec (zL sec xs) (s.g+1)=E:=⟨_,rfl⟩
   rw[hE] at Je HOW
   have hE2:=hE
   have HE:=hI hE2
   clear hE2
   by_cases hz:E=0
   case neg =>
    have d1:(E != 0)=true:=by simpa using hz
    simp only[hE]
    have VJ:=hI hz
    clear hE hz
    go_wp2_with fail
    go_ret
    refine F6.no (by rw[HE.out]; exact VJ.out) (by rw[HE.out]; rfl) ?_ ?_ Cj.out.1 Cj.out.2
    ·exact dJ.out.below qK.out
    ·exact wm.out.trans (Kept.of_below qK.out (fun b h=>nL (HX.out b h) wm.out.size)) (fun b h=>h)
   subst hz
   simp only[hE]
   rw[XR,rR] at Je
   rw[rR] at HOW
   obtain ⟨i,him,hi⟩:∃ i:Nat,i<m∧jQ (zL sec xs)=(i:Int):=by
    rcases Wt (zL sec xs) with h | ⟨i,h1,h2⟩
    ·exact absurd h (Gp HE.out)
    ·exact ⟨i,by rw[← qX.len9 dJ.out]; exact h1,h2⟩
   rw[hi]
   have HI:=hI hi
   have VH:=hI him
   have YA:=hI (Zk i (s.g+1) wc (by have:=xg.out.2.1; have:=lK.out; omega) ⟨by omega,hgm⟩)
   have g3:wc.cell? ⟨w4.heap.size,2,none⟩=some (.int .u64 (s.g+1)):=(QD.out.below qK.out QD.out.lt).cell 2
   clear hE hi him
   go_wp2_with fail
   refine YA.out.mono ?_
   rintro e w10 ⟨rfl,xP⟩
   have nJ:=hI xP
   obtain ⟨ys,hys⟩:∃ ys,fD i (s.g+1)=ys:=⟨_,rfl⟩
   have fq:=hI (show ys.length=64 by rw[← hys]; exact rV _ _)
   rw[hys]
   have CV:=hI hys
   clear xP hys g3 YA
   go_upto_region 15 with (first | (refine zG rfl rfl ?_) | (refine zU (.tmp 10) (.tmp 64) rfl rfl w10 ys rfl rfl (noughts 64) rfl (zC 64) fq.out ?_))
   have fG:=hI (show Below wc.heap.size wc ((w10.alloc (.cells (zA ys) 186)).alloc (.cells (zA ys) 186)) from nJ.out.trans ((((Below.refl w10.heap.size w10).alloc (nR _) (.cells (zA ys) 186)).alloc (by simp) (.cells (zA ys) 186)).mono nJ.out.size))
   have tC:=hI (show Below v6.heap.size v6 ((w10.alloc (.cells (zA ys) 186)).alloc (.cells (zA ys) 186)) from qK.out.trans (fG.out.mono qK.out.size))
   have fZ:=hI (show xQ ((w10.alloc (.cells (zA ys) 186)).alloc (.cells (zA ys) 186)) (fun b=>(X b∨b=l∨R b)∨(v6.heap.size≤b∧b<((w10.alloc (.cells (zA ys) 186)).alloc (.cells (zA ys) 186)).heap.size)) p d n (jR s) (qy t) (bT k s t) from zk.grow zAU.out tC.out)
   have O6:=hI (show ∀ b,(fun b=>(X b∨b=l∨R b)∨(v6.heap.size≤b∧b<((w10.alloc (.cells (zA ys) 186)).alloc (.cells (zA ys) 186)).heap.size)) b→b<((w10.alloc (.cells (zA ys) 186)).alloc (.cells (zA ys) 186)).heap.size from wH (fun b h=>nL (QZ.out b h) Q9.out) tC.out.size)
   have OU:=hI (show Good (bT k s t) from (HG.out.put _ _).sync)
   have Jd:=hI (show (bT k s t).pend=[] from (HG.out.put _ _).pend_sync)
   have VL:=hI (show ((w10.alloc (.cells (zA ys) 186)).alloc (.cells (zA ys) 186)).cell? ⟨l,0,none⟩=some (.pointer (some ⟨p,0,none⟩)) from (gT.out.below tC.out gT.out.lt).cell 0)
   have hwr:=(Ph fZ.out O6.out (.inl (.inr (.inl rfl))) VL.out (.inr ⟨by have:=qK.out.size; have:=nJ.out.size; have h:(w10.alloc (.cells (zA ys) 186)).heap.size=w10.heap.size+1:=(by simp); omega,by simp⟩) (z8.new (w10.alloc (.cells (zA ys) 186)) _ _) fq.out (show Bytes ys by rw[← CV.out]; exact PV _ _ (by have:=VH.out; have:=lK.out; have:=xg.out.2.1; omega)) i (by have:=VH.out; have:=lK.out; omega) xg.out NG.out Xw.out OU.out Jd.out)
   rw[show (w10.alloc (.cells (zA ys) 186)).heap.size=w10.heap.size+1 from (by simp)] at hwr
   have Pn:=hI hwr
   clear hwr
   have HRL:=hI (show (w10.alloc (.cells (zA ys) 186)).rangeAt w10.heap.size 0 (ys.map (Value.int .u8)) from (show qB (w10.alloc (.cells (zA ys) 186)) w10.heap.size ys from z8.new w10 _ _).range)
   have hll:l<v6.heap.size:=gT.out.lt
   have Cm:=hI hll
   clear hll
   go_wp2_with (first | (refine zQ (.tmp 10) rfl rfl w10.heap.size 0 rfl ys fq.out HRL.out ?_) | (refine vD (.tmp 71) rfl rfl ys rfl fq.out ?_))
   refine Pn.out.mono ?_
   rintro e w12 ⟨rfl,DV,DZ⟩
   have gM:=hI DV
   have fE:=hI DZ
   clear DV DZ
   have c0:w12.cell? ⟨l,0,none⟩=some (.pointer (some ⟨p,0,none⟩)):=(fE.out.cell (p:=⟨l,0,none⟩) (.inl (.inr (.inl rfl)))).trans VL.out
   go_wp2_with fail
   refine (uX gM.out).mono ?_
   rintro e w' ⟨rfl,rfl⟩
   go_wp2_with fail
   have hsy:=Qm gM.out.2.1 (fun b h=>by rcases h with h | h; exact nL (O6.out b h) fE.out.size; rw[h]; exact gM.out.1.lt)
   rw[(OU.out.put _ _).wre] at hsy
   refine hsy.mono ?_
   rintro e w13 ⟨rfl,Dc,dO⟩
   have zAV:=hI (show xQ w13 (fun b=>(X b∨b=l∨R b)∨(v6.heap.size≤b∧b<((w10.alloc (.cells (zA ys) 186)).alloc (.cells (zA ys) 186)).heap.size)) p d n (jR s) (qy t) (vo k s t (i:Int)) from by unfold vo; rw[Int.toNat_natCast,CV.out]; exact ⟨gM.out.1.kept dO (.inr rfl),Dc,gM.out.2.2⟩)
   have Jh:=hI (fE.out.trans dO (fun b h=>.inl h))
   clear c0 hsy Dc dO gM fE Pn fZ
   have wM:=hI ((gT.out.below tC.out gT.out.lt).kept Jh.out (.inl (.inr (.inl rfl))))
   have zAX:=hI ((Je.out.below fG.out Je.out.lt).kept Jh.out (.inr ⟨ay.out,nL Je.out.lt fG.out.size⟩))
   have Cg:=hI ((HOW.out.row.below fG.out (fun b h=>h.2)).kept Jh.out (fun b h=>.inr ⟨h.1,nL h.2 fG.out.size⟩))
   obtain ⟨k0,k1⟩:=qG zAX.out
   obtain ⟨f1,f2⟩:=And.intro (wM.out.frozen 1) (wM.out.frozen 2)
   have hneq:nb≠l:=by have h1:=Cm.out; have h2:v6.heap.size≤nb:=ay.out; omega
   have b1:w13.cell? ⟨l,1,none⟩=some (.int .i64 sec):=wM.out.cell 1
   have b2:w13.cell? ⟨l,2,none⟩=some (.slice A2 m c3):=wM.out.cell 2
   go_wp2_with fail
   go_ret
   have zMy:wc.heap.size≤w13.heap.size:=nT fG.out.size Jh.out.size
   have hsub:∀ b,(X b∨b=l∨From v6.drew.heap.size wc b)→(fun b=>(X b∨b=l∨R b)∨(v6.heap.size≤b∧b<((w10.alloc (.cells (zA ys) 186)).alloc (.cells (zA ys) 186)).heap.size)) b:=fun b h=>by
    rcases h with h | h | h
    ·exact .inl (.inl h)
    ·exact .inl (.inr (.inl h))
    ·exact .inr ⟨h.1,nL h.2 fG.out.size⟩
   have hfr:∀ b,From v6.drew.heap.size wc b→b<w13.heap.size∧b≠l∧¬ X b:=fun b h=>by
    have h1:=Cm.out
    have h2:v6.heap.size≤b:=h.1
    have h3:=h.2
    refine ⟨by omega,by omega,fun hx=>?_⟩
    have h4:=HX.out b hx
    have h5:=wm.out.size
    omega
   have DY:=qX.lay (sec:=sec) (c2:=c9) wM.out wB.out (zk.kept (Z:=fun _=>True) zAV.out (Kept.refl _ _) (fun _ _ _=>trivial) (fun b _ h=>hsub b h)) Cg.out hfr
   refine F6.yes HE.out (by rw[HE.out]; rfl) (by rw[HI.out]; exact DY) ?_ HOW.out.2.2.2 HOW.out.2.2.1
   exact (((wm.out.trans (Kept.of_below tC.out (fun b h=>nL (HX.out b h) wm.out.size)) (fun b h=>h)).trans Jh.out (fun b h=>.inl (.inl h))).setCell (p:=⟨l,1,none⟩) wB.out _).setCell (p:=⟨l,2,none⟩) wB.out _
end
end
section
abbrev ly0:Oper:=⟨some 24,.move (.tmp 6),3,"log.go:320",#[],none⟩
abbrev ly1:Oper:=⟨some 25,.move (.tmp 0),24,"log.go:320",#[],none⟩
abbrev ly2:Oper:=⟨some 26,.nilCheck (.tmp 25),0,"log.go:320",#[⟨1,.data⟩],none⟩
abbrev ly3:Oper:=⟨some 27,.fieldAddr 103 (.tmp 26) 1,0,"log.go:320",#[⟨2,.data⟩],none⟩
abbrev ly4:Oper:=⟨some 28,.fieldAddr 95 (.tmp 27) 1,0,"log.go:320",#[⟨3,.data⟩],none⟩
abbrev ly5:Oper:=⟨some 29,.load 93 (.tmp 28),93,"log.go:320",#[⟨4,.data⟩],none⟩
abbrev ly6:Oper:=⟨some 30,.move (.tmp 6),3,"log.go:320",#[],none⟩
abbrev ly7:Oper:=⟨some 31,.indexAddr 93 (.tmp 29) (.tmp 30),0,"log.go:320",#[⟨5,.data⟩,⟨6,.data⟩],none⟩
abbrev ly8:Oper:=⟨some 32,.fieldAddr 126 (.tmp 31) 1,0,"log.go:320",#[⟨7,.data⟩],none⟩
abbrev ly9:Oper:=⟨some 33,.load 30 (.tmp 32),30,"log.go:320",#[⟨8,.data⟩],none⟩
abbrev EP:Oper:=⟨some 34,.move (.tmp 0),24,"log.go:320",#[],none⟩
abbrev EO:Oper:=⟨some 35,.nilCheck (.tmp 34),0,"log.go:320",#[⟨10,.data⟩],none⟩
abbrev EN:Oper:=⟨some 36,.fieldAddr 103 (.tmp 35) 1,0,"log.go:320",#[⟨11,.data⟩],none⟩
abbrev EM:Oper:=⟨some 37,.fieldAddr 95 (.tmp 36) 1,0,"log.go:320",#[⟨12,.data⟩],none⟩
abbrev EL:Oper:=⟨some 38,.load 93 (.tmp 37),93,"log.go:320",#[⟨13,.data⟩],none⟩
abbrev EK:Oper:=⟨some 39,.move (.tmp 6),3,"log.go:320",#[],none⟩
abbrev EJ:Oper:=⟨some 40,.indexAddr 93 (.tmp 38) (.tmp 39),0,"log.go:320",#[⟨14,.data⟩,⟨15,.data⟩],none⟩
abbrev EI:Oper:=⟨some 41,.fieldAddr 126 (.tmp 40) 2,0,"log.go:320",#[⟨16,.data⟩],none⟩
abbrev EH:Oper:=⟨some 42,.load 3 (.tmp 41),3,"log.go:320",#[⟨17,.data⟩],none⟩
abbrev EG:Oper:=⟨some 43,.build 35 #[(0,.tmp 24),(1,.tmp 33),(2,.tmp 42)],35,"log.go:320",#[⟨0,.data⟩,⟨9,.data⟩,⟨18,.data⟩],none⟩
abbrev zFA:Oper:=⟨some 8,.alloc 35,0,"log.go:320",#[],none⟩
abbrev zEz:Oper:=⟨none,.store 35 (.tmp 8) (.tmp 43),0,"log.go:320",#[⟨20,.data⟩,⟨19,.data⟩,⟨0,.phase⟩,⟨1,.phase⟩,⟨2,.phase⟩,⟨3,.phase⟩,⟨4,.phase⟩,⟨5,.phase⟩,⟨6,.phase⟩,⟨7,.phase⟩,⟨8,.phase⟩,⟨9,.phase⟩,⟨10,.phase⟩,⟨11,.phase⟩,⟨12,.phase⟩,⟨13,.phase⟩,⟨14,.phase⟩,⟨15,.phase⟩,⟨16,.phase⟩,⟨17,.phase⟩,⟨18,.phase⟩,⟨19,.phase⟩,⟨20,.phase⟩],none⟩
theorem Ql (w:World):(zeroValue 35).run Tryz.prog w=.ok (.agg #[.int .i64 0,.int .u64 0,.int .i64 0]) w:=(Tryz.zeroValue35 w).trans rfl
theorem kD:(Tryz.prog.info? 35).map (·.size)=some 3:=by kernel_rfl
theorem zAH (a b c:Int):(#[Value.int .i64 a,Value.int .u64 b,Value.int .i64 c]:Array Value).all (·.oneCell')=true:=by simp[Value.oneCell']
def LyC (v:World) (a b c:Int) (t:Value) (wy:World):Prop :=
 ∃ nb,t=.pointer (some ⟨nb,0,none⟩)∧v.heap.size≤nb∧z8 wy nb 35 #[.int .i64 a,.int .u64 b,.int .i64 c]∧Below v.heap.size v wy
theorem LyC.new (v:World) (a b c:Int):LyC v a b c (.pointer (some ⟨v.drew.heap.size,0,none⟩)) ((v.drew.alloc (.cells #[.int .i64 0,.int .u64 0,.int .i64 0] 35)).setRow v.drew.heap.size #[.int .i64 a,.int .u64 b,.int .i64 c]) :=
 ⟨_,rfl,nR _,setRow_heap _ _ _ _ _ _ (z8.new v.drew _ _),below_setRow ((Below.refl v.heap.size v).drew.alloc (nR _) _) (nR _) _⟩
section
variable {w w':World} {X Y:Nat→Prop} {l p d n m c:Nat} {s:Sup} {t:Int} {k:Dk} {sec:Int} {A:Option Addr} {xs:List Seg} {br:Bool}
def zNJ (w:World) (X:Nat→Prop) (l p d n:Nat) (s:Sup) (t:Int) (k:Dk) (sec:Int) (i:Nat) (xs:List Seg) (n0:Nat) (bs:List Int) (e:Ending) (w':World):Prop :=
 e=.returned (.tuple #[.agg #[.int .i64 (i:Int),.int .u64 (zM xs i),.int .i64 (zI xs i)],.int .i64 0])∧∃ A c,qX w' X l p d n s t (fH k (2+(i:Int)*s.b+zI xs i).toNat (qh (zM xs i) (zI xs i) bs)).1 sec A (qL xs ((zD n0:Nat):Int)).length c (qL xs ((zD n0:Nat):Int)) false∧Kept X w w'∧(qL xs ((zD n0:Nat):Int)).length≤c∧(A=none→c=0)
theorem YE:∀ (xss:List (List Int)) (k:Dk) (i:Nat),Good k→(fH k i xss).2=0∧Good (fH k i xss).1
 | [],k,i,h=>⟨rfl,h⟩
 | ys::r,k,i,h=>by
  unfold fH
  rw[if_pos h.wre]
  exact YE r _ _ (h.put _ _)
theorem Li {xss:List (List Int)} (hs:xQ w Y p d n s t k) (hY:∀ b,Y b→b<w.heap.size) (hl:Y l) (c0:w.cell? ⟨l,0,none⟩=some (.pointer (some ⟨p,0,none⟩))) (hrow:RowK w Y A m xss) (hby:∀ i,Bytes (xss.getD i [])) (hss:qY xss)
 (i:Nat) (u:Int) (hu:0≤u) (hi:(i:Int)<s.a) (hm:s.May) (hfit:u+(m:Int)≤s.b) (hroom:2+s.a*s.b≤(n:Int)) (hn:n≤2048) (hp:k.pend.length≤900000) (hg:Good k) :
 Calls Tryz.prog 120 #[.pointer (some ⟨l,0,none⟩),.int .i64 i,.int .i64 u,.slice A m c] w fun e w'=>e=.returned (.int .i64 0)∧xQ w' Y p d n s t (fH k (2+(i:Int)*s.b+u).toNat xss).1∧Kept Y w w':=by
 obtain ⟨h1,h2,h3,h4,_⟩:=hm
 have hpos:0≤(i:Int)*s.b:=Int.mul_nonneg (by omega) (by omega)
 have hle:((i:Int)+1)*s.b≤s.a*s.b:=Int.mul_le_mul_of_nonneg_right (by omega) (by omega)
 rw[Int.add_mul,Int.one_mul] at hle
 have hi0:(((2+(i:Int)*s.b+u).toNat:Nat):Int)=2+(i:Int)*s.b+u:=Int.toNat_of_nonneg (by omega)
 have hu2:((u.toNat:Nat):Int)=u:=Int.toNat_of_nonneg hu
 have h:=WR (c:=c) hs hY hl c0 hrow hby hss i u.toNat (2+(i:Int)*s.b+u).toNat hi h2 ⟨by omega,h4⟩ (by rw[hi0,hu2]) (by omega) hn hp
 rw[hu2,(YE xss k _ hg).1] at h
 exact h
theorem Ea {i:Nat} {B:Option Addr} {n0 c0:Nat} {bs:List Int} (h:qX w X l p d n s t k sec A m c xs false) (hX:∀ b,X b→b<w.heap.size) (hmc:m≤c) (hnil:A=none→c=0) (hg:Good k)
 (he:xM sec xs=0) (hi:y7 sec xs=(i:Int)) (him:i<m)
 (hb:zW .u8 w (·<w.heap.size) B n0 bs) (hbn:B=none→c0=0) (hbc:n0≤c0) (hn0:n0≤16384) (hgen:1≤zM xs i∧zM xs i≤18446744073709551615) (Bc:0≤zI xs i∧zI xs i≤64) (hue:dL sec xs ((zD n0:Nat):Int)=0)
 (hby:Bytes bs) (hia:(i:Int)<s.a) (hsm:s.May) (hfit:zI xs i+zD n0≤s.b) (hroom:2+s.a*s.b≤(n:Int)) (hn2:n≤2048) (hp:k.pend.length≤900000) :
 Calls Tryz.prog 49 #[.pointer (some ⟨l,0,none⟩),.slice B n0 c0] w fun e w'=>zNJ w X l p d n s t k sec i xs n0 bs e w':=by
 have HL:=hI h
 have HX:=hI hX
 have HG:=hI hg
 have HMC:=hI (And.intro hmc hnil)
 have VH:=hI him
 have mH:=hI ((Below.refl w.heap.size w).alloc (nR _) (.cells #[.int .i64 0,.int .u64 0,.int .i64 0] 35))
 have HL0:=hI (h.below mH.out)
 obtain ⟨_,c1,c2,_⟩:=yU HL0.out
 have hop:=lq (cap:=c) HL0.out.now sec
 rw[he,hi] at hop
 have Z6:=hI hop
 have mG:=hI hb
 have YA:=hI (And.intro hbn (And.intro hbc hn0))
 have BG:=hI hgen
 have HUS:=hI Bc
 have HUE:=hI hue
 have qm:=hI hby
 have HIA:=hI hia
 have xg:=hI hsm
 have wK:=hI hfit
 have NG:=hI hroom
 have Xw:=hI hn2
 have sV:=hI hp
 clear hue hby hia hsm hfit hroom hn2 hp h hX hmc hnil hg he hi him hop hb hbn hbc hn0 hgen Bc
 go_enter Tryz.func49,Tryz.ntmps49
 go_wp2_with fail
 refine Z6.out.mono ?_
 rintro e w1 ⟨rfl,hb1⟩
 have HB1:=hI (mH.out.trans (hb1.mono mH.out.size))
 have eD:=hI (HL.out.below HB1.out)
 have HA1:=hI (show z8 w1 w.heap.size 35 #[.int .i64 0,.int .u64 0,.int .i64 0] from (z8.new w _ _).below hb1 (by simp))
 clear hb1 c1 c2
 go_upto_region 4 with fail
 go_cut [8] (fun t wy=>LyC w1 i (zM xs i) (zI xs i) t wy)
 case first J KK hJ bE =>
  obtain ⟨bA,off,rfl,hbA,hcs⟩:=VW eD.out.now VH.out
  obtain ⟨g0,g1,g2⟩:=hcs i VH.out
  have e2:w1.cell? ⟨l,2,none⟩=some (.slice (some ⟨bA,off,none⟩) m c):=(yU eD.out).2.2.1
  have him:(i:Int)<(m:Int):=by have:=VH.out; omega
  have Vr:m≤c:=HMC.out.1
  have hl1:=eD.out.1.lt
  have HS:=hI (show ∀ W,Below w1.heap.size w1 W→W.cell? ⟨l,2,none⟩=some (.slice (some ⟨bA,off,none⟩) m c)∧W.cell? ⟨bA,off+i*3+1,none⟩=some (.int .u64 (zM xs i))∧W.cell? ⟨bA,off+i*3+2,none⟩=some (.int .i64 (zI xs i)) from fun W hW =>
   ⟨(hW.cell (p:=⟨l,2,none⟩) hl1).trans e2,(hW.cell (p:=⟨bA,_,none⟩) hbA).trans g1,(hW.cell (p:=⟨bA,_,none⟩) hbA).trans g2⟩)
  clear hcs hbA g0 g1 g2 e2 hl1
  refine wp_region_noPanic ?_
  refine zB.region (fun W=>Below w1.heap.size w1 W) [] (by kernel_rfl) (Below.refl _ _).drew (fun hė=>?_)
  refine tK 0 ly0 (v:=?_) ?_ hė ?_
  rotate_left
  ·intro W' hSW; obtain ⟨s0,s1,s2⟩:=HS.out W' hSW; unfold ly0; go_simp; with_reducible rfl
  simp only[ly0,Act.put,sA,sZ,sS]
  refine tK 1 ly1 (v:=?_) ?_ hė ?_
  rotate_left
  ·intro W' hSW; obtain ⟨s0,s1,s2⟩:=HS.out W' hSW; unfold ly1; go_simp; with_reducible rfl
  simp only[ly1,Act.put,sA,sZ,sS]
  refine tK 2 ly2 (v:=?_) ?_ hė ?_
  rotate_left
  ·intro W' hSW; obtain ⟨s0,s1,s2⟩:=HS.out W' hSW; unfold ly2; go_simp; with_reducible rfl
  simp only[ly2,Act.put,sA,sZ,sS]
  refine tK 3 ly3 (v:=?_) ?_ hė ?_
  rotate_left
  ·intro W' hSW; obtain ⟨s0,s1,s2⟩:=HS.out W' hSW; unfold ly3; go_simp; with_reducible rfl
  simp only[ly3,Act.put,sA,sZ,sS]
  refine tK 4 ly4 (v:=?_) ?_ hė ?_
  rotate_left
  ·intro W' hSW; obtain ⟨s0,s1,s2⟩:=HS.out W' hSW; unfold ly4; go_simp; with_reducible rfl
  simp only[ly4,Act.put,sA,sZ,sS]
  refine tK 5 ly5 (v:=?_) ?_ hė ?_
  rotate_left
  ·intro W' hSW; obtain ⟨s0,s1,s2⟩:=HS.out W' hSW; unfold ly5; go_simp; with_reducible rfl
  simp only[ly5,Act.put,sA,sZ,sS]
  refine tK 6 ly6 (v:=?_) ?_ hė ?_
  rotate_left
  ·intro W' hSW; obtain ⟨s0,s1,s2⟩:=HS.out W' hSW; unfold ly6; go_simp; with_reducible rfl
  simp only[ly6,Act.put,sA,sZ,sS]
  refine tK 7 ly7 (v:=?_) ?_ hė ?_
  rotate_left
  ·intro W' hSW; obtain ⟨s0,s1,s2⟩:=HS.out W' hSW; unfold ly7; go_simp; with_reducible rfl
  simp only[ly7,Act.put,sA,sZ,sS]
  refine tK 8 ly8 (v:=?_) ?_ hė ?_
  rotate_left
  ·intro W' hSW; obtain ⟨s0,s1,s2⟩:=HS.out W' hSW; unfold ly8; go_simp; with_reducible rfl
  simp only[ly8,Act.put,sA,sZ,sS]
  refine tK 9 ly9 (v:=?_) ?_ hė ?_
  rotate_left
  ·intro W' hSW; obtain ⟨s0,s1,s2⟩:=HS.out W' hSW; unfold ly9; go_simp; with_reducible rfl
  simp only[ly9,Act.put,sA,sZ,sS]
  refine tK 10 EP (v:=?_) ?_ hė ?_
  rotate_left
  ·intro W' hSW; obtain ⟨s0,s1,s2⟩:=HS.out W' hSW; unfold EP; go_simp; with_reducible rfl
  simp only[EP,Act.put,sA,sZ,sS]
  refine tK 11 EO (v:=?_) ?_ hė ?_
  rotate_left
  ·intro W' hSW; obtain ⟨s0,s1,s2⟩:=HS.out W' hSW; unfold EO; go_simp; with_reducible rfl
  simp only[EO,Act.put,sA,sZ,sS]
  refine tK 12 EN (v:=?_) ?_ hė ?_
  rotate_left
  ·intro W' hSW; obtain ⟨s0,s1,s2⟩:=HS.out W' hSW; unfold EN; go_simp; with_reducible rfl
  simp only[EN,Act.put,sA,sZ,sS]
  refine tK 13 EM (v:=?_) ?_ hė ?_
  rotate_left
  ·intro W' hSW; obtain ⟨s0,s1,s2⟩:=HS.out W' hSW; unfold EM; go_simp; with_reducible rfl
  simp only[EM,Act.put,sA,sZ,sS]
  refine tK 14 EL (v:=?_) ?_ hė ?_
  rotate_left
  ·intro W' hSW; obtain ⟨s0,s1,s2⟩:=HS.out W' hSW; unfold EL; go_simp; with_reducible rfl
  simp only[EL,Act.put,sA,sZ,sS]
  refine tK 15 EK (v:=?_) ?_ hė ?_
  rotate_left
  ·intro W' hSW; obtain ⟨s0,s1,s2⟩:=HS.out W' hSW; unfold EK; go_simp; with_reducible rfl
  simp only[EK,Act.put,sA,sZ,sS]
  refine tK 16 EJ (v:=?_) ?_ hė ?_
  rotate_left
  ·intro W' hSW; obtain ⟨s0,s1,s2⟩:=HS.out W' hSW; unfold EJ; go_simp; with_reducible rfl
  simp only[EJ,Act.put,sA,sZ,sS]
  refine tK 17 EI (v:=?_) ?_ hė ?_
  rotate_left
  ·intro W' hSW; obtain ⟨s0,s1,s2⟩:=HS.out W' hSW; unfold EI; go_simp; with_reducible rfl
  simp only[EI,Act.put,sA,sZ,sS]
  refine tK 18 EH (v:=?_) ?_ hė ?_
  rotate_left
  ·intro W' hSW; obtain ⟨s0,s1,s2⟩:=HS.out W' hSW; unfold EH; go_simp; with_reducible rfl
  simp only[EH,Act.put,sA,sZ,sS]
  refine tK 19 EG (v:=?_) ?_ hė ?_
  rotate_left
  ·intro W' hSW; obtain ⟨s0,s1,s2⟩:=HS.out W' hSW; unfold EG; go_simp; with_reducible rfl
  simp only[EG,Act.put,sA,sZ,sS]
  refine tO 20 zFA ?_
  intro K hK
  have vY:=hė.alloc hė.size (.cells #[.int .i64 0,.int .u64 0,.int .i64 0] 35)
  refine yM 35 rfl rfl #[.int .i64 0,.int .u64 0,.int .i64 0] Ql ?_
  simp only[zFA,Act.put,sA,sZ,sS]
  refine hU hK rfl _ _ vY (fun hė=>?_)
  clear hK K vY
  refine tO 21 zEz ?_
  intro K hK
  have vY:=below_setRow hė (g:=w1.drew.heap.size) (nR _) #[.int .i64 (i:Int),.int .u64 (zM xs i),.int .i64 (zI xs i)]
  refine yL (.tmp 8) (.tmp 43) 35 rfl rfl (w1.drew.heap.size) #[.int .i64 (i:Int),.int .u64 (zM xs i),.int .i64 (zI xs i)] rfl rfl 35 #[.int .i64 0,.int .u64 0,.int .i64 0] (z8.new w1.drew _ _) kD rfl (zAH _ _ _) ?_
  simp only[zEz,Act.put,sA,sZ,sS]
  refine hU hK rfl _ _ vY (fun hė=>?_)
  clear hK K vY
  refine zB.done (by kernel_rfl) ?_ _
  refine NoPanic.normal ?_
  refine bE _ _ (Met.intro (hJ _ _ ?_))
  (repeat apply Exists.intro)
  exact ⟨LyC.new w1 _ _ _,rfl⟩
 case rest =>
  obtain ⟨nb,rfl,hnb,hblk,hbl⟩:=hcut
  have ay:=hI hnb
  have nX:=hI hblk
  have HB2:=hI (HB1.out.trans (hbl.mono HB1.out.size))
  have HL2:=hI (HL.out.below HB2.out)
  have HA2:=hI (HA1.out.below hbl HA1.out.lt)
  have k1:wc.cell? ⟨nb,1,none⟩=some (.int .u64 (zM xs i)):=hblk.cell 1
  have k2:wc.cell? ⟨nb,2,none⟩=some (.int .i64 (zI xs i)):=hblk.cell 2
  have hu0:0≤zI xs i:=HUS.out.1
  have hu1:zI xs i≤64:=HUS.out.2
  have HSP:=hI (AJ (zM xs i) (zI xs i) B n0 c0 bs _ wc (mG.out.below HB2.out (fun b h=>h)) (fun b h=>nL h HB2.out.size) YA.out.1 YA.out.2.1 YA.out.2.2 BG.out.1 BG.out.2 hu0 (by omega) (by have:=Kn n0 YA.out.2.2; omega))
  clear hnb hblk hbl
  go_wp2_with fail
  refine HSP.out.mono ?_
  rintro e w3 ⟨rfl,harr,hb3⟩
  have HB3:=hI (HB2.out.trans (hb3.mono HB2.out.size))
  have l6:=hI harr
  have WK:=hI (nX.out.below hb3 nX.out.lt)
  have HL3:=hI (HL.out.below HB3.out)
  have zQS:=hI hb3.size
  have yt:=hI (HA2.out.below hb3 HA2.out.lt)
  obtain ⟨_,c1,c2,_⟩:=yU HL3.out
  have KU:=zCO (cap:=c) HL3.out.now sec ((zD n0:Nat):Int)
  rw[HUE.out] at KU
  have zNP:=hI KU
  clear harr hb3 k1 k2 KU
  go_wp2_with fail
  refine zNP.out.mono ?_
  rintro e w4 ⟨⟨_,v,rfl,A7,n7,c7,rfl,hown⟩ | ⟨hno,_⟩,hb4⟩
  case inr=>exact absurd rfl hno
  obtain rfl:(qL xs ((zD n0:Nat):Int)).length=n7:=hown.1
  have HOW:=hI hown
  have zq:=hI hb4
  clear hown hb4 c1 c2
  go_upto_region 11 with fail
  obtain ⟨h1,h2,R,h3,h4,h5⟩:=HL.out
  have hal:=(Below.refl w4.heap.size w4).alloc (nR _) (.cells #[.int .i64 sec,.slice A7 (qL xs ((zD n0:Nat):Int)).length c7] 95)
  have Vt:Below w3.heap.size w3 (w4.alloc (.cells #[.int .i64 sec,.slice A7 (qL xs ((zD n0:Nat):Int)).length c7] 95)):=zq.out.trans (hal.mono zq.out.size)
  have Oc:=hI (HB3.out.trans (Vt.mono HB3.out.size))
  have QI:=hI Vt
  have HSF:=hI (show xQ (w4.alloc (.cells #[.int .i64 sec,.slice A7 (qL xs ((zD n0:Nat):Int)).length c7] 95)) (fun b=>(X b∨b=l∨R b)∨(w.heap.size≤b∧b<(w4.alloc (.cells #[.int .i64 sec,.slice A7 (qL xs ((zD n0:Nat):Int)).length c7] 95)).heap.size)) p d n s t k from zk.grow h3 Oc.out)
  have HYF:=hI (show ∀ b,(fun b=>(X b∨b=l∨R b)∨(w.heap.size≤b∧b<(w4.alloc (.cells #[.int .i64 sec,.slice A7 (qL xs ((zD n0:Nat):Int)).length c7] 95)).heap.size)) b→b<(w4.alloc (.cells #[.int .i64 sec,.slice A7 (qL xs ((zD n0:Nat):Int)).length c7] 95)).heap.size from wH (fun b h=>by
   rcases h with h | h | h
   ·exact HX.out b h
   ·rw[h]; exact h1.lt
   ·exact (h5 b h).1) Oc.out.size)
  have VL:=hI ((h1.below Oc.out h1.lt).cell 0)
  have hlen:(qh (zM xs i) (zI xs i) bs).length=zD n0:=by rw[yA,mG.out.1]
  have hwc:wc.heap.size<w3.heap.size:=l6.out.lt
  have ak:=hI (qF.rowK (S:=(fun b=>(X b∨b=l∨R b)∨(w.heap.size≤b∧b<(w4.alloc (.cells #[.int .i64 sec,.slice A7 (qL xs ((zD n0:Nat):Int)).length c7] 95)).heap.size))) (z8.below l6.out Vt l6.out.lt) (ZG _ _ _) hlen (.inr ⟨HB2.out.size,by have:=Vt.size; omega⟩))
  have hwr:=Li (c:=zD n0) HSF.out HYF.out (.inl (.inr (.inl rfl))) VL.out ak.out (fun j=>FJ qm.out j) (ZG _ _ _) i (zI xs i) hu0 HIA.out xg.out wK.out NG.out Xw.out sV.out HG.out
  have Pn:=hI hwr
  have HH:=hI (And.intro h1 (And.intro h2 (And.intro h4 h5)))
  have k2:(w4.alloc (.cells #[.int .i64 sec,.slice A7 (qL xs ((zD n0:Nat):Int)).length c7] 95)).cell? ⟨nb,2,none⟩=some (.int .i64 (zI xs i)):=(WK.out.below Vt WK.out.lt).cell 2
  have zQV:=hI WK.out.lt
  have HWC:=hI hwc
  clear h1 h2 h3 h4 h5 hal Vt hwr hlen hwc
  go_wp2_with fail
  refine Pn.out.mono ?_
  rintro e w6 ⟨rfl,hs6,xU⟩
  have vL:=hI hs6
  have je:=hI xU
  clear hs6 xU k2 Pn
  go_wp2_with fail
  refine (JR _ l).mono ?_
  rintro e w7 ⟨rfl,rfl⟩
  have qd:=hI (show l<w.heap.size from HH.out.1.lt)
  have HZ:=hI (show w.heap.size≤w1.heap.size∧w3.heap.size≤w4.heap.size from ⟨HB1.out.size,zq.out.size⟩)
  have qK:=hI ((HH.out.1.below Oc.out HH.out.1.lt).kept je.out (.inl (.inr (.inl rfl))))
  have Qf:=hI ((WK.out.below QI.out WK.out.lt).kept je.out (.inr ⟨nT HZ.out.1 ay.out,nL WK.out.lt QI.out.size⟩))
  have pO:=hI ((z8.new w4 95 #[.int .i64 sec,.slice A7 (qL xs ((zD n0:Nat):Int)).length c7]).kept je.out (.inr ⟨nT HB3.out.size HZ.out.2,by simp⟩))
  have gU:=hI ((yt.out.below QI.out yt.out.lt).kept je.out (.inr ⟨nR _,nL yt.out.lt QI.out.size⟩))
  have n1:w4.heap.size≠l:=by have h1:=qd.out; have h2:=HZ.out.2; have h3:=HB3.out.size; omega
  have n2:nb≠l:=by have h1:=qd.out; have h2:=HZ.out.1; have h3:=ay.out; omega
  have n3:w.heap.size≠l:=by have h1:=qd.out; omega
  obtain ⟨r0,r1⟩:=qG pO.out
  have b1:w7.cell? ⟨l,1,none⟩=some (.int .i64 sec):=qK.out.cell 1
  have b2:w7.cell? ⟨l,2,none⟩=some (.slice A m c):=qK.out.cell 2
  obtain ⟨f1,f2⟩:=And.intro (qK.out.frozen 1) (qK.out.frozen 2)
  have a0:w7.cell? ⟨nb,0,none⟩=some (.int .i64 (i:Int)):=Qf.out.cell 0
  have a1:w7.cell? ⟨nb,1,none⟩=some (.int .u64 (zM xs i)):=Qf.out.cell 1
  have a2:w7.cell? ⟨nb,2,none⟩=some (.int .i64 (zI xs i)):=Qf.out.cell 2
  have q0:w7.cell? ⟨w.heap.size,0,none⟩=some (.int .i64 0):=gU.out.cell 0
  have q1:w7.cell? ⟨w.heap.size,1,none⟩=some (.int .u64 0):=gU.out.cell 1
  have q2:w7.cell? ⟨w.heap.size,2,none⟩=some (.int .i64 0):=gU.out.cell 2
  obtain ⟨g0,g1,g2⟩:=And.intro (gU.out.frozen 0) (And.intro (gU.out.frozen 1) (gU.out.frozen 2))
  go_wp2_with (with_reducible refine zJ ?_)
  clear r0 r1 b1 b2 f1 f2 a0 a1 a2 q0 q1 q2 g0 g1 g2 n1 n2
  have hfin:=((((gU.out.far (p:=⟨l,1,none⟩) n3 (.int .i64 sec)).far (p:=⟨l,2,none⟩) n3 (.slice A7 (qL xs ((zD n0:Nat):Int)).length c7)).set_ 0 (.int .i64 (i:Int))).set_ 1 (.int .u64 (zM xs i))).set_ 2 (.int .i64 (zI xs i))
  have iT:=((((qK.out.set_ 1 (.int .i64 sec)).set_ 2 (.slice A7 (qL xs ((zD n0:Nat):Int)).length c7)).far (p:=⟨w.heap.size,0,none⟩) (Ne.symm n3) (.int .i64 (i:Int))).far (p:=⟨w.heap.size,1,none⟩) (Ne.symm n3) (.int .u64 (zM xs i))).far (p:=⟨w.heap.size,2,none⟩) (Ne.symm n3) (.int .i64 (zI xs i))
  have hk:Kept (fun b=>b≠l∧b≠w.heap.size) w7 (((((w7.setCell ⟨l,1,none⟩ (.int .i64 sec)).setCell ⟨l,2,none⟩ (.slice A7 (qL xs ((zD n0:Nat):Int)).length c7)).setCell ⟨w.heap.size,0,none⟩ (.int .i64 (i:Int))).setCell ⟨w.heap.size,1,none⟩ (.int .u64 (zM xs i))).setCell ⟨w.heap.size,2,none⟩ (.int .i64 (zI xs i))) :=
   (((((Kept.refl _ w7).setCell (p:=⟨l,1,none⟩) (fun h=>h.1 rfl) _).setCell (p:=⟨l,2,none⟩) (fun h=>h.1 rfl) _).setCell (p:=⟨w.heap.size,0,none⟩) (fun h=>h.2 rfl) _).setCell (p:=⟨w.heap.size,1,none⟩) (fun h=>h.2 rfl) _).setCell (p:=⟨w.heap.size,2,none⟩) (fun h=>h.2 rfl) _
  have hal:=(Below.refl w4.heap.size w4).alloc (nR _) (.cells #[.int .i64 sec,.slice A7 (qL xs ((zD n0:Nat):Int)).length c7] 95)
  have hlt3:w.heap.size<w3.heap.size:=yt.out.lt
  have hwl:=qd.out
  have DL:=hal.size
  have hz3:=HZ.out.2
  have hsub:∀ b,(X b∨b=l∨From w3.heap.size w4 b)→(fun b=>(X b∨b=l∨R b)∨(w.heap.size≤b∧b<(w4.alloc (.cells #[.int .i64 sec,.slice A7 (qL xs ((zD n0:Nat):Int)).length c7] 95)).heap.size)) b:=fun b h=>by
   rcases h with h | h | h
   ·exact .inl (.inl h)
   ·exact .inl (.inr (.inl h))
   ·exact .inr ⟨by have:=h.1; omega,by have:=h.2; omega⟩
  have Rs:xQ _ (fun b=>X b∨b=l∨From w3.heap.size w4 b) p d n s t _:=zk.kept vL.out hk (fun b hb hy=>⟨fun e=>hy (.inl (.inr (.inl e))),fun e=>hy (.inr ⟨by omega,by omega⟩)⟩) (fun b _ h=>hsub b h)
  have hrow:=((HOW.out.row.below hal (fun b h=>h.2)).kept je.out (fun b h=>.inr ⟨by have:=h.1; omega,by have:=h.2; omega⟩)).kept hk (fun b h=>⟨by have:=h.1; omega,by have:=h.1; omega⟩)
  have hkx:=((Kept.of_below Oc.out HX.out).trans je.out (fun b h=>.inl (.inl h))).trans hk (fun b h=>⟨fun e=>HH.out.2.1 (e▸h),by have:=HX.out b h; omega⟩)
  exact Halt.ret (zy (p:=4) (u:=5) rfl _ _ w.heap.size 35 #[.int .i64 (i:Int),.int .u64 (zM xs i),.int .i64 (zI xs i)] _ rfl hfin Tryz.underlying35 rfl kD) rfl
   ⟨rfl,A7,c7,⟨iT,HH.out.2.1,From w3.heap.size w4,Rs,hrow,fun b h=>⟨by have h1:=h.2; have h2:=hk.size; have h3:=je.out.size; omega,by have:=h.1; omega,fun hx=>by have:=HX.out b hx; have:=h.1; have:=HB3.out.size; omega⟩⟩,hkx,HOW.out.2.2.2,HOW.out.2.2.1⟩
end
end
section
section
variable {w w':World} {X Y:Nat→Prop} {l p d n m c:Nat} {s:Sup} {t:Int} {k:Dk} {sec:Int} {A:Option Addr} {xs:List Seg} {br:Bool}
theorem append_nil (k f x s:Int) (A1 A2:Option Addr) (n1 c1 n2 c2:Nat) (w:World) :
 Calls Tryz.prog 9 #[.pointer none,.agg #[.int .i64 k,.int .u32 f,.int .u32 x,.int .u64 s,.slice A1 n1 c1,.slice A2 n2 c2]] w fun e w'=>e=.returned (.tuple #[.agg #[.int .i64 0,.int .u64 0,.int .i64 0],.int .i64 1])∧Below w.heap.size w w':=by
 have HB:=hI (((Below.refl w.heap.size w).alloc (nR _) (.cells #[.int .i64 k,.int .u32 f,.int .u32 x,.int .u64 s,.slice A1 n1 c1,.slice A2 n2 c2] 33)).alloc (by simp) (.cells #[.int .i64 0,.int .u64 0,.int .i64 0] 35))
 have HK:=hI (zY w (.cells #[.int .i64 k,.int .u32 f,.int .u32 x,.int .u64 s,.slice A1 n1 c1,.slice A2 n2 c2] 33) 35 #[.int .i64 0,.int .u64 0,.int .i64 0])
 go_enter Tryz.func9,Tryz.ntmps9
 go_wp2_with (with_reducible refine zJ ?_)
 exact Halt.ret (zy (p:=4) (u:=5) rfl _ _ (w.heap.size+1) 35 #[.int .i64 0,.int .u64 0,.int .i64 0] _ rfl HK.out Tryz.underlying35 rfl kD) rfl ⟨rfl,HB.out⟩
end
end
section
section
variable {w w':World} {X Y:Nat→Prop} {l p d n m c:Nat} {s:Sup} {t:Int} {k:Dk} {sec:Int} {A:Option Addr} {xs:List Seg} {br:Bool}
def zJd (w:World) (X:Nat→Prop) (l p d n:Nat) (s:Sup) (t:Int) (k:Dk) (sec:Int) (A:Option Addr) (m c:Nat) (xs:List Seg) (e:Ending) (w':World):Prop :=
 (kU sec xs≠0∧e=.returned (.int .i64 (kU sec xs))∧qX w' X l p d n s t k sec A m c xs false∧Kept X w w') ∨
 (kU sec xs=0∧e=.returned (.int .i64 0)∧∃ v,Kept X w v∧Jm v X l p d n s t k sec xs (.returned (.int .i64 0)) w')
theorem TV (h:qX w X l p d n s t k sec A m c xs false) (hX:∀ b,X b→b<w.heap.size) (hmc:m≤c) (hnil:A=none→c=0) (hg:Good k) (hp:k.pend.length≤900000) (hsm:s.May) (hsi:s.In) (hgm:s.g+1≤18446744073709551615) (hn:2≤n) (hn2:n≤2048) (hma:(m:Int)=s.a) (hroom:2+s.a*s.b≤(n:Int))
 (hop:kU sec xs=0→zZ sec (zL sec xs) (s.g+1)=0) :
 Calls Tryz.prog 48 #[.pointer (some ⟨l,0,none⟩)] w fun e w'=>zJd w X l p d n s t k sec A m c xs e w':=by
 have HL:=hI h
 have HX:=hI hX
 have HN:=hI (XY (cap:=c) h.now sec)
 have Z6:=hI hop
 have HB:=hI (show ∀ v,Below w.heap.size w v→Calls Tryz.prog 117 #[.pointer (some ⟨l,0,none⟩)] v fun e w'=>Jm v X l p d n s t k sec xs e w' from fun v hv =>
  Sj (h.below hv) (fun b hb=>nL (hX b hb) hv.size) hmc hnil hg hp hsm hsi hgm hn hn2 hma hroom)
 obtain ⟨_,c1,c2,_⟩:=yU h
 clear h hX hmc hnil hg hp hsm hsi hop hma hroom
 obtain ⟨E,hE⟩:∃ E,kU sec xs=E:=⟨_,rfl⟩
 obtain ⟨V,hV⟩:∃ V,mQ sec xs=V:=⟨_,rfl⟩
 rw[hE,hV] at HN
 by_cases hz:E=0
 case neg =>
  have d1:(E != 0)=true:=by simpa using hz
  have HE:=hI hE
  have HZ:=hI hz
  clear hE hV hz
  go_enter Tryz.func48,Tryz.ntmps48
  go_wp2_with fail
  refine HN.out.mono ?_
  rintro e w1 ⟨rfl,hb⟩
  have HB1:=hI hb
  clear hb
  go_wp2_with fail
  go_ret
  exact .inl ⟨by rw[HE.out]; exact HZ.out,by rw[HE.out]; rfl,HL.out.below HB1.out,Kept.of_below HB1.out HX.out⟩
 subst hz
 have HE:=hI hE
 clear hE hV
 go_enter Tryz.func48,Tryz.ntmps48
 go_wp2_with fail
 refine HN.out.mono ?_
 rintro e w1 ⟨rfl,hb⟩
 have HB1:=hI hb
 clear hb c1 c2
 go_wp2_with fail
 refine (HB.out _ HB1.out).mono ?_
 intro e w2 hbt
 have he:e=.returned (.int .i64 0):=by
  obtain ⟨_,_,_,_,he,_⟩:=hbt
  rw[Z6.out HE.out] at he
  exact he
 subst he
 have BK:=hI hbt
 clear hbt
 go_wp2_with fail
 refine (JR _ l).mono ?_
 rintro e w3 ⟨rfl,rfl⟩
 go_wp2_with fail
 go_ret
 exact .inr ⟨HE.out,rfl,w1,Kept.of_below HB1.out HX.out,BK.out⟩
end
end
section
section
variable {w w':World} {X Y:Nat→Prop} {l p d n m c:Nat} {s:Sup} {t:Int} {k:Dk} {sec:Int} {A:Option Addr} {xs:List Seg} {br:Bool}
theorem qX.grow (h:qX w X l p d n s t k sec A m c xs br) (hb:Below w.heap.size w w'):qX w' (fun b=>X b∨(w.heap.size≤b∧b<w'.heap.size)) l p d n s t k sec A m c xs br:=by
 obtain ⟨h1,h2,R,h3,h4,h5⟩:=h
 have hl:=h1.lt
 refine ⟨h1.below hb hl,fun e=>?_,R,?_,h4.below hb (fun b h=>(h5 b h).1),fun b h=>⟨nL (h5 b h).1 hb.size,(h5 b h).2.1,fun e=>e.elim (h5 b h).2.2 fun e=>by have:=(h5 b h).1; omega⟩⟩
 ·rcases e with e | e
  ·exact h2 e
  ·omega
 ·refine zk.kept (Z:=fun _=>True) (zk.grow h3 hb) (Kept.refl _ _) (fun _ _ _=>trivial) (fun b _ h=>?_)
  rcases h with (h | h) | h | h
  ·exact .inl (.inl h)
  ·exact .inr h
  ·exact .inl (.inr (.inl h))
  ·exact .inl (.inr (.inr h))
end
end
section
theorem YN {sec:Int} {xs:List Seg} (h:qp sec xs) {i:Nat} (hi:i<xs.length) (h1:qE xs i=1):qO xs=i∧jd xs=i:=by
 have hl:=MK h hi h1
 rcases bW h with ⟨_,hz⟩ | ⟨j,hj,e1,e2,_⟩
 ·exact absurd h1 (hz i hi)
 ·exact ⟨by omega,hl⟩
theorem bQ {xs:List Seg} {i j:Nat} {x:Seg} (hi:i<xs.length):zI (xs.set i x) j=if i=j then x.2.2 else zI xs j:=by
 unfold zI
 by_cases e:i=j
 ·subst e; simp[List.getD,List.getElem?_set_self hi]
 ·simp[List.getD,List.getElem?_set_ne e,e]
theorem PE {xs zs:List Seg} (h:∀ j,(qE zs j=0↔qE xs j=0)∧zM zs j=zM xs j):∀ k,bB zs k=bB xs k
 | 0=>rfl
 | k + 1 => by
  have ih:=PE h k
  unfold bB
  rw[ih,(h k).2,(h (bB xs k).toNat).2]
  by_cases e:qE xs k=0
  ·have e2:=(h k).1.2 e
   rw[if_neg (fun hh=>hh.1 e2),if_neg (fun hh=>hh.1 e)]
  ·have e2:qE zs k≠0:=fun hh=>e ((h k).1.1 hh)
   simp[e,e2]
theorem Wu {xs zs:List Seg} (hl:zs.length=xs.length) (h:∀ j,(qE zs j=0↔qE xs j=0)) (a:Int):∀ k,yZ zs a k=yZ xs a k
 | 0=>rfl
 | k+1=>by
  have ih:=Wu hl h a k
  unfold yZ
  rw[ih,hl]
  by_cases e:qE xs ((a+1+k).toNat % xs.length)=0
  ·rw[if_pos ((h _).2 e),if_pos e]
  ·rw[if_neg (fun hh=>e ((h _).1 hh)),if_neg e]
theorem wW {sec:Int} {xs zs:List Seg} (h:qp sec xs) (hz:zs=if jP sec xs=0 then vN xs else xs) :
 qp sec zs∧qO zs=-1∧jd zs=jd xs∧jQ zs=jQ xs∧y8 zs=y8 xs∧zs.length=xs.length∧∀ j,(qE zs j=0↔qE xs j=0)∧zM zs j=zM xs j∧zI zs j=zI xs j:=by
 have key : qp sec zs ∧ qO zs = -1 ∧ zs.length = xs.length ∧ ∀ j, (qE zs j = 0 ↔ qE xs j = 0) ∧ zM zs j = zM xs j ∧ zI zs j = zI xs j := by
  rcases bW h with ⟨e1,hno⟩ | ⟨i,hi,e1,e2,hs⟩
  ·have hE:jP sec xs≠0:=by unfold jP; rw[if_neg (fun k=>k h),if_pos (by omega)]; decide
   rw[if_neg hE] at hz
   subst hz
   exact ⟨h,e1,rfl,fun j=>⟨Iff.rfl,rfl,rfl⟩⟩
  ·have hE:jP sec xs=0:=by unfold jP; rw[if_neg (fun k=>k h),if_neg (by omega)]
   rw[if_pos hE] at hz
   have hX:vN xs=xs.set i (2,zM xs i,zI xs i):=by unfold vN; rw[e1]; rfl
   have hok:=zCf hE
   rw[hX] at hz hok
   subst hz
   have hst:∀ j,qE (xs.set i (2,zM xs i,zI xs i)) j=if i=j then 2 else qE xs j:=fun j=>Bu hi
   refine ⟨hok,?_,by simp,fun j=>⟨?_,?_,?_⟩⟩
   ·rcases bW hok with ⟨e3,_⟩ | ⟨j,hj,e3,_,hs3⟩
    ·exact e3
    ·rw[hst] at hs3
     by_cases e:i=j
     ·rw[if_pos e] at hs3; omega
     ·rw[if_neg e] at hs3
      have:=(YN h (by simpa using hj) hs3).1
      omega
   ·rw[hst]
    by_cases e:i=j
    ·subst e; simp[hs]
    ·rw[if_neg e]
   ·rw[rH hi]
    by_cases e:i=j
    ·subst e; simp
    ·rw[if_neg e]
   ·rw[bQ hi]
    by_cases e:i=j
    ·subst e; simp
    ·rw[if_neg e]
 obtain ⟨k1,k2,k3,k4⟩:=key
 have hlat:jd zs=jd xs:=by unfold jd; rw[k3]; exact PE (fun j=>⟨(k4 j).1,(k4 j).2.1⟩) _
 refine ⟨k1,k2,hlat,?_,?_,k3,k4⟩
 ·unfold jQ; rw[hlat,k3]; exact Wu k3 (fun j=>(k4 j).1) _ _
 ·unfold y8; rw[hlat,(k4 _).2.1]
theorem gy {sec:Int} {zs:List Seg} {g:Int} (hE:zZ sec zs g=0):∃ i,i<zs.length∧jQ zs=(i:Nat)∧qp sec (qC zs g)∧qO (qC zs g)=(i:Nat)∧jd (qC zs g)=(i:Nat)∧y8 (qC zs g)=g∧zM (qC zs g) i=g∧zI (qC zs g) i=1∧jB sec (qC zs g)=sec-1 ∧
 (qC zs g).length=zs.length∧qC zs g=zs.set i (1,g,1):=by
 have hok:=zCg hE
 unfold zZ at hE
 split at hE
 ·omega
 rename_i h0
 split at hE
 ·omega
 split at hE
 ·omega
 split at hE
 ·omega
 rename_i hn
 have hk:qp sec zs:=Decidable.not_not.1 h0
 have hlen:0<zs.length:=by have:=hk.1.1; omega
 obtain ⟨i,hi,e1⟩:∃ i,i<zs.length∧jQ zs=(i:Nat):=by
  rcases iO zs with ⟨e,_⟩ | ⟨i,hi,e,_⟩
  ·omega
  ·exact ⟨_,Nat.mod_lt _ hlen,e⟩
 have hX:qC zs g=zs.set i (1,g,1):=by unfold qC; rw[e1]; rfl
 rw[hX] at hok ⊢
 have hs:qE (zs.set i (1,g,1)) i=1:=by rw[Bu hi]; simp
 have hg:zM (zs.set i (1,g,1)) i=g:=by rw[rH hi]; simp
 have hu:zI (zs.set i (1,g,1)) i=1:=by rw[bQ hi]; simp
 obtain ⟨e2,e3⟩:=YN hok (by simpa using hi) hs
 refine ⟨i,hi,e1,hok,e2,e3,?_,hg,hu,?_,by simp,rfl⟩
 ·unfold y8; rw[e3,if_neg (by omega)]; exact hg
 ·unfold jB; rw[e2,if_pos (by omega)]; simp only[Int.toNat_natCast]; rw[hu]
theorem fK {sec:Int} {xs:List Seg} {n:Int} (hE:dL sec xs n=0):∃ i,i<xs.length∧qO xs=(i:Nat)∧qp sec (qL xs n)∧qO (qL xs n)=(i:Nat)∧jd (qL xs n)=(i:Nat)∧y8 (qL xs n)=y8 xs∧zM (qL xs n) i=zM xs i∧zI (qL xs n) i=zI xs i+n ∧
 (qL xs n).length=xs.length∧qL xs n=xs.set i (1,zM xs i,zI xs i+n)∧0≤n∧n≤jB sec xs:=by
 have hok:=LU hE
 unfold dL at hE
 split at hE
 ·omega
 rename_i h0
 split at hE
 ·omega
 rename_i h1
 split at hE
 ·omega
 split at hE
 ·omega
 have hk:qp sec xs:=Decidable.not_not.1 h0
 rcases bW hk with ⟨e1,_⟩ | ⟨i,hi,e1,e2,hs⟩
 ·omega
 have hX:qL xs n=xs.set i (1,zM xs i,zI xs i+n):=by unfold qL; rw[e1]; simp only[Int.toNat_natCast]; rw[hs]
 rw[hX] at hok ⊢
 have hs':qE (xs.set i (1,zM xs i,zI xs i+n)) i=1:=by rw[Bu hi]; simp
 have hg:zM (xs.set i (1,zM xs i,zI xs i+n)) i=zM xs i:=by rw[rH hi]; simp
 have hu:zI (xs.set i (1,zM xs i,zI xs i+n)) i=zI xs i+n:=by rw[bQ hi]; simp
 obtain ⟨e3,e4⟩:=YN hok (by simpa using hi) hs'
 refine ⟨i,hi,e1,hok,e3,e4,?_,hg,hu,by simp,rfl,by omega,by omega⟩
 unfold y8
 rw[e4,e2,if_neg (by omega),if_neg (by omega)]
 exact hg
theorem aA {sec:Int} {xs zs:List Seg} {g:Int} (h:qp sec xs) (hz:zs=if jP sec xs=0 then vN xs else xs) (hg:y8 xs≤g) (hn:0≤jQ xs):zZ sec zs (g+1)=0:=by
 obtain ⟨k1,k2,_,k4,k5,_⟩:=wW h hz
 unfold zZ
 rw[if_neg (fun k=>k k1),if_neg (by omega),if_neg (by omega),if_neg (by omega)]
theorem uW {sec:Int} {xs:List Seg} (h:qp sec xs) {n:Int} (h0:0≤qO xs) (h1:0≤n) (h2:n≤jB sec xs):dL sec xs n=0:=by
 unfold dL
 rw[if_neg (fun k=>k h),if_neg (by omega),if_neg (by omega),if_neg (by omega)]
theorem gq {sec:Int} {xs:List Seg} (h:qp sec xs) {i:Nat} (ho:qO xs=(i:Nat)):i<xs.length∧0<zM xs i∧zM xs i=y8 xs∧1≤zI xs i∧zI xs i+jB sec xs=sec∧qE xs i=1:=by
 rcases bW h with ⟨e1,_⟩ | ⟨j,hj,e1,e2,hs⟩
 ·omega
 obtain rfl:j=i:=by omega
 have hm:=fB (mR h.2.1 hj) (by rw[show (xs.getD j zK).1=1 from hs]; decide)
 refine ⟨hj,hm.2.1,?_,hm.2.2.1,?_,hs⟩
 ·unfold y8; rw[e2,if_neg (by omega)]; rfl
 ·unfold jB; rw[e1,if_pos (by omega)]; simp only[Int.toNat_natCast]; omega
end
section
structure jJ (w:World) (X:Nat→Prop) (l p d n:Nat) (s:Sup) (t:Int) (k:Dk) (xs:List Seg) (pe:Nat):Prop where
 log:∃ A c,qX w X l p d n s t k s.b A xs.length c xs false∧xs.length≤c∧(A=none→c=0)
 good:Good k
 ok:qp s.b xs
 top:y8 xs≤s.g
 may:s.May
 sin:s.In
 dims:(xs.length:Int)=s.a
 n2:2≤n∧n≤2048
 room:2+s.a*s.b≤(n:Int)
 pend:k.pend.length≤pe
section
variable {w w':World} {X Y:Nat→Prop} {l p d n m c:Nat} {s:Sup} {t:Int} {k:Dk} {A:Option Addr} {xs:List Seg} {pe:Nat}
theorem jJ.below (h:jJ w X l p d n s t k xs pe) (hb:Below w.heap.size w w'):jJ w' X l p d n s t k xs pe:=by
 obtain ⟨A,c,h1,h2,h3⟩:=h.log
 exact ⟨⟨A,c,h1.below hb,h2,h3⟩,h.good,h.ok,h.top,h.may,h.sin,h.dims,h.n2,h.room,h.pend⟩
theorem jJ.grow (h:jJ w X l p d n s t k xs pe) (hb:Below w.heap.size w w'):jJ w' (fun b=>X b∨(w.heap.size≤b∧b<w'.heap.size)) l p d n s t k xs pe:=by
 obtain ⟨A,c,h1,h2,h3⟩:=h.log
 exact ⟨⟨A,c,h1.grow hb,h2,h3⟩,h.good,h.ok,h.top,h.may,h.sin,h.dims,h.n2,h.room,h.pend⟩
theorem qX.less {sec:Int} {m c:Nat} {br:Bool} (h:qX w Y l p d n s t k sec A m c xs br) (hX:∀ b,X b→Y b):qX w X l p d n s t k sec A m c xs br:=by
 obtain ⟨h1,h2,R,h3,h4,h5⟩:=h
 refine ⟨h1,fun e=>h2 (hX _ e),R,?_,h4,fun b h=>⟨(h5 b h).1,(h5 b h).2.1,fun e=>(h5 b h).2.2 (hX b e)⟩⟩
 exact zk.kept (Z:=fun _=>True) h3 (Kept.refl _ _) (fun _ _ _=>trivial) (fun b _ h=>by
  rcases h with h | h | h
  ·exact .inl (hX b h)
  ·exact .inr (.inl h)
  ·exact .inr (.inr h))
theorem jJ.less (h:jJ w Y l p d n s t k xs pe) (hX:∀ b,X b→Y b):jJ w X l p d n s t k xs pe:=by
 obtain ⟨A,c,h1,h2,h3⟩:=h.log
 exact ⟨⟨A,c,h1.less hX,h2,h3⟩,h.good,h.ok,h.top,h.may,h.sin,h.dims,h.n2,h.room,h.pend⟩
theorem Bl:∀ (xss:List (List Int)) (k:Dk) (i:Nat),Good k→(fH k i xss).1.pend.length≤k.pend.length+xss.length
 | [],k,i,h=>nR _
 | ys :: r, k, i, h => by
  unfold fH
  rw[if_pos h.wre]
  have h1:=Bl r (k.wr (Dk.put i ys)) (i+1) (h.put i ys)
  have h2:(k.wr (Dk.put i ys)).pend.length≤k.pend.length+1:=by
   rw[h.wr]
   unfold Dk.put
   simp
  simp only[List.length_cons]
  omega
end
end
section
def iB (k:Dk) (s:Sup) (xs:List Seg) (i:Nat) (bs:List Int):Dk:=(fH k (2+(i:Int)*s.b+zI xs i).toNat (qh (zM xs i) (zI xs i) bs)).1
section
variable {w w':World} {X Y:Nat→Prop} {l p d n m c:Nat} {s:Sup} {t:Int} {k:Dk} {A:Option Addr} {xs:List Seg} {pe:Nat}
theorem qX.setOff {sec:Int} {br:Bool} {q:Nat} {ty:TypeId} {cs:Array Value} (h:qX w Y l p d n s t k sec A m c xs br) (hm:2≤m) (hq:z8 w q ty cs) (hsz:cs.size≤3) (hY:Y q) (i:Nat) (v:Value):qX (w.setCell ⟨q,i,none⟩ v) Y l p d n s t k sec A m c xs br:=by
 obtain ⟨h1,h2,R,h3,h4,h5⟩:=h
 obtain ⟨b,off,rfl,hR,hc⟩:=h4.2 (by omega)
 have hbq:b≠q:=fun e=>by
  subst e
  have h9:=hc (m-1) (by omega) 2 _ rfl
  rw[hq.cell,Array.getElem?_eq_none (by omega)] at h9
  cases h9
 have hlq:l≠q:=fun e=>h2 (e▸hY)
 have hk:=(Kept.refl (·≠q) w).setCell (p:=⟨q,i,none⟩) (fun h=>h rfl) v
 refine ⟨h1.kept hk hlq,h2,(·=b),?_,⟨h4.1,fun _=>⟨b,off,rfl,rfl,fun i2 hi2 j u hu=>(hk.cell (p:=⟨b,_,none⟩) hbq).trans (hc i2 hi2 j u hu)⟩⟩,fun b2 e=>by subst e; exact ⟨nL (h5 _ hR).1 hk.size,(h5 _ hR).2⟩⟩
 exact zk.kept h3 hk (fun b2 _ hx e=>hx (.inl (e▸hY))) (fun b2 _ hh=>by
  rcases hh with hh | hh | hh
  ·exact .inl hh
  ·exact .inr (.inl hh)
  ·exact .inr (.inr (hh▸hR)))
theorem jJ.setOff {q:Nat} {ty:TypeId} {cs:Array Value} (h:jJ w Y l p d n s t k xs pe) (hq:z8 w q ty cs) (hsz:cs.size≤3) (hY:Y q) (i:Nat) (v:Value):jJ (w.setCell ⟨q,i,none⟩ v) Y l p d n s t k xs pe:=by
 obtain ⟨A,c,h1,h2,h3⟩:=h.log
 have:=h.ok.1.1
 exact ⟨⟨A,c,h1.setOff (by omega) hq hsz hY i v,h2,h3⟩,h.good,h.ok,h.top,h.may,h.sin,h.dims,h.n2,h.room,h.pend⟩
theorem jJ.setOff3 {q:Nat} {ty:TypeId} {a0 a1 a2:Value} (h:jJ w Y l p d n s t k xs pe) (hq:z8 w q ty #[a0,a1,a2]) (hY:Y q) (hX:∀ b,X b→Y b) (hne:∀ b,X b→b≠q) (b0 b1 b2:Value) :
 jJ (((w.setCell ⟨q,0,none⟩ b0).setCell ⟨q,1,none⟩ b1).setCell ⟨q,2,none⟩ b2) X l p d n s t k xs pe∧z8 (((w.setCell ⟨q,0,none⟩ b0).setCell ⟨q,1,none⟩ b1).setCell ⟨q,2,none⟩ b2) q ty #[b0,b1,b2]∧∀ V,Kept X V w→Kept X V (((w.setCell ⟨q,0,none⟩ b0).setCell ⟨q,1,none⟩ b1).setCell ⟨q,2,none⟩ b2):=by
 have e0:=hq.set_ 0 b0
 have e1:=e0.set_ 1 b1
 have e2:=e1.set_ 2 b2
 have g0:=h.setOff hq (by simp) hY 0 b0
 have g1:=g0.setOff e0 (by simp) hY 1 b1
 have g2:=g1.setOff e1 (by simp) hY 2 b2
 exact ⟨g2.less hX,e2,fun V hV=>((hV.setCell (p:=⟨q,0,none⟩) (fun hh=>hne q hh rfl) _).setCell (p:=⟨q,1,none⟩) (fun hh=>hne q hh rfl) _).setCell (p:=⟨q,2,none⟩) (fun hh=>hne q hh rfl) _⟩
theorem Lj {i:Nat} {B:Option Addr} {n0 c0:Nat} {bs:List Int} (h:jJ w X l p d n s t k xs pe) (hX:∀ b,X b→b<w.heap.size) (hpe:pe≤900000)
 (ho:qO xs=(i:Nat)) (hfit:((zD n0:Nat):Int)≤jB s.b xs) (hb:zW .u8 w (·<w.heap.size) B n0 bs) (hbn:B=none→c0=0) (hbc:n0≤c0) (hn0:n0≤16384) (hby:Bytes bs) :
 Calls Tryz.prog 49 #[.pointer (some ⟨l,0,none⟩),.slice B n0 c0] w fun e w' =>
  e=.returned (.tuple #[.agg #[.int .i64 (i:Int),.int .u64 (zM xs i),.int .i64 (zI xs i)],.int .i64 0])∧jJ w' X l p d n s t (iB k s xs i bs) (qL xs ((zD n0:Nat):Int)) (pe+zD n0)∧Kept X w w':=by
 obtain ⟨A,c,h1,h2,h3⟩:=h.log
 obtain ⟨b1,b2,b3,b4,b5,b6⟩:=gq h.ok ho
 have hue:=uW h.ok (n:=((zD n0:Nat):Int)) (by omega) (by omega) hfit
 have htop:=h.top
 have zMd:=h.sin
 have hmay:=h.may
 have hg:zM xs i≤18446744073709551615:=by
  have h9:s.g≤18446744073709551615:=by
   have:=zMd
   simp only[Sup.In,lG] at this
   omega
  omega
 have zMw:s.b≤64:=hmay.2.2.2.1
 have hoe:=gu h.ok (by omega)
 have hbl:bs.length=n0:=hb.1
 have key:=Ea (i:=i) (c0:=c0) h1 hX h2 h3 h.good hoe.1 (by rw[hoe.2,ho]) b1 hb hbn hbc hn0 ⟨by omega,hg⟩ ⟨by omega,by omega⟩ hue hby (by rw[← h.dims]; omega) h.may (by omega) h.room h.n2.2 (by have:=h.pend; omega)
 refine key.mono ?_
 rintro e w' ⟨he,A',c',h4,h5,h6,h7⟩
 refine ⟨he,⟨⟨A',c',h4,h6,h7⟩,(YE _ _ _ h.good).2,LU hue,?_,h.may,h.sin,?_,h.n2,h.room,?_⟩,h5⟩
 ·obtain ⟨_,_,_,_,_,_,e5,_⟩:=fK hue
  rw[e5]; exact h.top
 ·obtain ⟨_,_,_,_,_,_,_,_,_,e5,_⟩:=fK hue
  rw[e5]; exact h.dims
 ·have h8:=Bl (qh (zM xs i) (zI xs i) bs) k (2+(i:Int)*s.b+zI xs i).toNat h.good
  rw[yA,hbl] at h8
  have:=h.pend
  unfold iB
  omega
theorem zCQ (h:jJ w X l p d n s t k xs pe) (hX:∀ b,X b→b<w.heap.size) (hpe:pe≤900000) (hgm:s.g+1≤18446744073709551615) :
 Calls Tryz.prog 48 #[.pointer (some ⟨l,0,none⟩)] w fun e w' =>
  ((jQ xs<0∧e=.returned (.int .i64 6)∧jJ w' X l p d n s t k xs pe) ∨
   (∃ i:Nat,jQ xs=(i:Nat)∧e=.returned (.int .i64 0)∧jJ w' X l p d n (jR s) (qy t) (vo k s t i) (qC (zL s.b xs) (s.g+1)) 0))∧Kept X w w':=by
 obtain ⟨A,c,h1,h2,h3⟩:=h.log
 have hz:zL s.b xs=if jP s.b xs=0 then vN xs else xs:=rfl
 obtain ⟨z1,z2,z3,z4,z5,z6,z7⟩:=wW h.ok hz
 have hok:∀ {P:Prop},¬ qp s.b xs→P:=fun hh=>absurd h.ok hh
 have hop:kU s.b xs=0→zZ s.b (zL s.b xs) (s.g+1)=0:=fun hn=>aA h.ok hz h.top (by
  unfold kU at hn
  rw[if_neg (fun k=>k h.ok)] at hn
  split at hn
  ·cases hn
  ·omega)
 have key:=TV h1 hX h2 h3 h.good (by have:=h.pend; omega) h.may h.sin hgm h.n2.1 h.n2.2 h.dims h.room hop
 refine key.mono ?_
 intro e w' ht
 rcases ht with ⟨hn,he,h4,h5⟩ | ⟨hn,he,v,hk,kk,ys,A',c',_,h4,h5,h6,h7,h8⟩
 ·have hne:jQ xs<0∧kU s.b xs=6:=by
   unfold kU at hn ⊢
   rw[if_neg (fun k=>k h.ok)] at hn ⊢
   split at hn
   ·rename_i hh; exact ⟨hh,by rw[if_pos hh]⟩
   ·exact absurd rfl hn
  exact ⟨.inl ⟨hne.1,by rw[he,hne.2],⟨A,c,h4,h2,h3⟩,h.good,h.ok,h.top,h.may,h.sin,h.dims,h.n2,h.room,h.pend⟩,h5⟩
 ·have hE:=hop hn
  rcases h8 with ⟨h8,_⟩ | ⟨_,h8,h9⟩
  ·exact absurd hE h8
  subst h8 h9
  obtain ⟨i,i1,i2,i3,i4,i5,i6,i7,i8,i9,i10,i11⟩:=gy hE
  rw[z4] at i2
  have hnx:jQ (zL s.b xs)=(i:Nat):=by rw[z4]; exact i2
  refine ⟨.inr ⟨i,i2,he,⟨A',c',?_,h6,h7⟩,?_,i3,?_,?_,?_,?_,h.n2,h.room,?_⟩,hk.trans h5 (fun b h=>h)⟩
  ·rw[hnx] at h4; exact h4
  ·exact ((((h.good.put _ _).sync).put _ _).sync)
  ·rw[i6]; exact Int.le_refl _
  ·have:=h.may
   exact ⟨this.1,this.2.1,this.2.2.1,this.2.2.2.1,by have:=this.2.2.2.2; show s.r≤s.g+1; omega⟩
  ·have:=h.sin
   simp only[Sup.In,lG] at this ⊢
   omega
  ·rw[i10,z6]; exact h.dims
  ·have hgd:Good ((bT k s t).wr (Dk.put (2+(i:Int)*s.b).toNat (fD (i:Int).toNat (s.g+1)))):=((h.good.put _ _).sync).put _ _
   have:=hgd.pend_sync
   unfold vo
   rw[this]
   exact nR _
theorem Yx (h:jJ w X l p d n s t k xs pe) {i:Nat} (hi:jQ xs=(i:Nat)):qO (qC (zL s.b xs) (s.g+1))=(i:Nat)∧zM (qC (zL s.b xs) (s.g+1)) i=s.g+1∧zI (qC (zL s.b xs) (s.g+1)) i=1∧jB s.b (qC (zL s.b xs) (s.g+1))=s.b-1:=by
 have hz:zL s.b xs=if jP s.b xs=0 then vN xs else xs:=rfl
 obtain ⟨_,_,_,z4,_⟩:=wW h.ok hz
 have hE:=aA h.ok hz h.top (by omega)
 obtain ⟨j,_,j2,_,j4,_,_,j7,j8,j9,_⟩:=gy hE
 obtain rfl:j=i:=by omega
 exact ⟨j4,j7,j8,j9⟩
theorem P8 {sec:Int} {xs:List Seg} {K:Int} (h:qp sec xs) (hK:1≤K) (hl:K≤jB sec xs):∃ i:Nat,qO xs=(i:Nat):=by
 rcases bW h with ⟨e,_⟩ | ⟨i,_,e,_⟩
 ·unfold jB at hl
  rw[e,if_neg (by omega)] at hl
  omega
 ·exact ⟨i,e⟩
end
end
section
theorem FN (k f x s:Int) (A A':Option Addr) (n c n' c':Nat) (w:World) (h:May k f x s n n') (hn:n+n'≤1000000) :
 Calls Tryz.prog 47 #[.agg #[.int .i64 k,.int .u32 f,.int .u32 x,.int .u64 s,.slice A n c,.slice A' n' c']] w fun e w'=>e=.returned (.int .i64 (zD (21+n+n')))∧Below w.heap.size w w':=by
 have HB:=hI ((Below.refl w.heap.size w).alloc (nR _) (.cells #[.int .i64 k,.int .u32 f,.int .u32 x,.int .u64 s,.slice A n c,.slice A' n' c'] 33))
 have HS:=hI (fun v:World=>AO k f x s A A' n c n' c' v h)
 obtain ⟨m,hm⟩:∃ m,21+n+n'=m:=⟨_,rfl⟩
 have h0:21≤m:=by omega
 have h1:m≤1000021:=by omega
 have h2:(21:Int)≤(m:Int):=by omega
 have h3:(m:Int)≤1000021:=by omega
 rw[hm] at HS
 rw[hm]
 have HV:=hI (show ((m:Int)+48-1) / 48=((zD m:Nat):Int) by unfold zD; omega)
 clear h hm
 go_enter Tryz.func47,Tryz.ntmps47
 go_wp2_with fail
 refine (HS.out _).mono ?_
 rintro e w2 ⟨rfl,hb⟩
 have HB2:=hI (HB.out.trans (hb.mono HB.out.size))
 clear hb
 go_wp2_with fail
 go_ret
 rw[← HV.out]
 exact ⟨rfl,HB2.out⟩
end
end Go.Proofs.YtdkbpchmnhbhcaaGreat
