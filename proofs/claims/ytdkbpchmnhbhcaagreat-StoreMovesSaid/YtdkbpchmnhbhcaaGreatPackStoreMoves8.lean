/- Texts of StoreMoves, packed. -/
import Derived.Test.YtdkbpchmnhbhcaaGreatPackStoreMoves7
import Derived.Deep.DeepCutAuto
set_option linter.unusedVariables false
set_option linter.unusedSimpArgs false
set_option maxRecDepth 100000
set_option maxHeartbeats 16000000
namespace Go.Proofs.YtdkbpchmnhbhcaaGreat
open Go.RowKit
section
abbrev lb0:Oper:=⟨some 36,.move (.tmp 0),24,"log.go:293",#[],none⟩
abbrev lb1:Oper:=⟨some 37,.nilCheck (.tmp 36),0,"log.go:293",#[⟨0,.data⟩],none⟩
abbrev lb2:Oper:=⟨some 38,.fieldAddr 103 (.tmp 37) 0,0,"log.go:293",#[⟨1,.data⟩],none⟩
abbrev lb3:Oper:=⟨some 39,.load 45 (.tmp 38),45,"log.go:293",#[⟨2,.data⟩],none⟩
abbrev lb4:Oper:=⟨some 40,.load 115 (.tmp 5),115,"log.go:293",#[],none⟩
abbrev lb5:Oper:=⟨some 41,.call { callee:=.value (.func 61),args:=#[.tmp 39,.tmp 40],argTypes:=#[45,115] },36,"log.go:293",#[⟨3,.data⟩,⟨4,.data⟩],none⟩
abbrev lb6:Oper:=⟨some 6,.assign (.tmp 41),36,"log.go:293",#[⟨5,.data⟩,⟨5,.chain⟩,⟨0,.phase⟩,⟨1,.phase⟩,⟨2,.phase⟩,⟨3,.phase⟩,⟨4,.phase⟩,⟨5,.phase⟩],none⟩
abbrev lc0:Oper:=⟨some 46,.move (.tmp 0),24,"log.go:296",#[],none⟩
abbrev lc1:Oper:=⟨some 47,.nilCheck (.tmp 46),0,"log.go:296",#[⟨0,.data⟩],none⟩
abbrev lc2:Oper:=⟨some 48,.fieldAddr 103 (.tmp 47) 1,0,"log.go:296",#[⟨1,.data⟩],none⟩
abbrev lc3:Oper:=⟨some 49,.load 95 (.tmp 48),95,"log.go:296",#[⟨2,.data⟩],none⟩
abbrev lc4:Oper:=⟨some 50,.fieldAddr 115 (.tmp 5) 2,0,"log.go:296",#[],none⟩
abbrev lc5:Oper:=⟨some 51,.load 30 (.tmp 50),30,"log.go:296",#[⟨4,.data⟩],none⟩
abbrev lc6:Oper:=⟨some 52,.call { callee:=.value (.func 169),args:=#[.tmp 49,.tmp 51],argTypes:=#[95,30] },257,"log.go:296",#[⟨3,.data⟩,⟨5,.data⟩],none⟩
abbrev lc7:Oper:=⟨some 45,.move (.tmp 52),257,"log.go:296",#[⟨6,.data⟩],none⟩
abbrev lc8:Oper:=⟨some 53,.extract (.tmp 45) 0,95,"log.go:296",#[⟨7,.data⟩],none⟩
abbrev lc9:Oper:=⟨some 54,.extract (.tmp 45) 1,3,"log.go:296",#[⟨7,.data⟩,{ on:=12,ground:=Go.Ground.gcOnly Go.Departure.lateStores }],none⟩
abbrev lc10:Oper:=⟨some 55,.extract (.tmp 45) 2,36,"log.go:296",#[⟨7,.data⟩,{ on:=13,ground:=Go.Ground.gcOnly Go.Departure.lateStores }],none⟩
abbrev lc11:Oper:=⟨some 7,.alloc 95,0,"log.go:296",#[],none⟩
abbrev lc12:Oper:=⟨none,.store 95 (.tmp 7) (.tmp 53),0,"log.go:296",#[⟨11,.data⟩,⟨8,.data⟩,⟨6,.chain⟩,⟨0,.phase⟩,⟨1,.phase⟩,⟨2,.phase⟩,⟨3,.phase⟩,⟨4,.phase⟩,⟨5,.phase⟩,⟨6,.phase⟩,⟨7,.phase⟩,⟨8,.phase⟩,{ on:=9,ground:=Go.Ground.textOnly Go.Departure.lateStores },{ on:=10,ground:=Go.Ground.textOnly Go.Departure.lateStores },⟨11,.phase⟩],none⟩
abbrev lc13:Oper:=⟨some 8,.assign (.tmp 54),3,"log.go:296",#[⟨9,.data⟩,⟨12,.chain⟩,⟨0,.phase⟩,⟨1,.phase⟩,⟨2,.phase⟩,⟨3,.phase⟩,⟨4,.phase⟩,⟨5,.phase⟩,⟨6,.phase⟩,⟨7,.phase⟩,⟨8,.phase⟩,⟨9,.phase⟩,{ on:=10,ground:=Go.Ground.textOnly Go.Departure.lateStores },⟨11,.phase⟩,⟨12,.phase⟩],none⟩
abbrev lc14:Oper:=⟨some 9,.assign (.tmp 55),36,"log.go:296",#[⟨10,.data⟩,⟨13,.chain⟩,⟨0,.phase⟩,⟨1,.phase⟩,⟨2,.phase⟩,⟨3,.phase⟩,⟨4,.phase⟩,⟨5,.phase⟩,⟨6,.phase⟩,⟨7,.phase⟩,⟨8,.phase⟩,⟨9,.phase⟩,⟨10,.phase⟩,⟨11,.phase⟩,⟨12,.phase⟩,⟨13,.phase⟩],none⟩
def setK (k:Dk) (s:Sup) (t:Int):Dk:=(k.wr (Dk.put (secOf t) (supL s.a s.b (s.g+1) s.r s.v s.f (nxt t)))).wr Dk.sync
abbrev genS (s:Sup):Sup:=⟨s.a,s.b,s.g+1,s.r,s.v,s.f⟩
def begK (k:Dk) (s:Sup) (t:Int) (i:Int):Dk:=((setK k s t).wr (Dk.put (2+i*s.b).toNat (hdrL i.toNat (s.g+1)))).wr Dk.sync
section
variable {w w':World} {X Y:Nat→Prop} {l p d n m c:Nat} {s:Sup} {t:Int} {k:Dk} {sec:Int} {A:Option Addr} {xs:List Seg} {br:Bool}
theorem wrs_one {k:Dk} (h:k.wre=0) (i:Nat) (ys:List Int):wrs k i [ys]=(k.wr (Dk.put i ys),0):=by
 unfold wrs
 rw[if_pos h]
 rfl
theorem hdr_bytes (i:Nat) (g:Int) (hi:i≤15):Bytes (hdrL i g):=pack_bytes _ _ _ (fun j=>by
 rcases j with _ | _ | j
 ·show 0≤(i:Int) / 256∧(i:Int) / 256≤255; omega
 ·show 0≤(i:Int)∧(i:Int)≤255; omega
 ·simp[List.getD])
theorem beg_write {g0:Nat} {ys:List Int} (hs:StoS w Y p d n (genS s) t k) (hY:∀ b,Y b→b<w.heap.size) (hl:Y l) (c0:w.cell? ⟨l,0,none⟩=some (.pointer (some ⟨p,0,none⟩))) (hg0:Y g0) (hb:Blk w g0 186 (cells8 ys)) (hly:ys.length=64) (hby:Bytes ys)
 (i:Nat) (hi:(i:Int)<s.a) (hm:s.May) (hroom:2+s.a*s.b≤(n:Int)) (hn:n≤2048) (hg:Good k) (hp:k.pend=[]) :
 Calls Tryz.prog 120 #[.pointer (some ⟨l,0,none⟩),.int .i64 i,.int .i64 0,.slice (some ⟨g0,0,none⟩) 1 1] w fun e w'=>e=.returned (.int .i64 0)∧StoS w' Y p d n (genS s) t (k.wr (Dk.put (2+(i:Int)*s.b).toNat ys))∧Kept Y w w':=by
 obtain ⟨h1,h2,h3,h4,_⟩:=hm
 have hpos:0≤(i:Int)*s.b:=Int.mul_nonneg (by omega) (by omega)
 have hle:((i:Int)+1)*s.b≤s.a*s.b:=Int.mul_le_mul_of_nonneg_right (by omega) (by omega)
 rw[Int.add_mul,Int.one_mul] at hle
 have hi0:(((2+(i:Int)*s.b).toNat:Nat):Int)=2+(i:Int)*s.b:=Int.toNat_of_nonneg (by omega)
 have h:=write_log (A:=some ⟨g0,0,none⟩) (m:=1) (c:=1) (xss:=[ys]) hs hY hl c0 ⟨rfl,fun _=>⟨g0,0,rfl,hg0,fun j hj=>by
  obtain rfl:j=0:=by omega
  exact (show ArrB w g0 ys from hb).range⟩⟩ (fun j=>by
  rcases j with _ | j
  ·exact hby
  ·intro q; simp[List.getD]) (fun x hx=>by
  obtain rfl:x=ys:=by simpa using hx
  exact hly) i 0 (2+(i:Int)*s.b).toNat hi h2 ⟨by show 0≤s.b; omega,h4⟩ (by rw[hi0]; show _=2+(i:Int)*s.b+((0:Nat):Int); simp) (by omega) hn (by rw[hp]; simp)
 rw[wrs_one hg.wre] at h
 exact h
def BeginT (w:World) (X:Nat→Prop) (l p d n:Nat) (s:Sup) (t:Int) (k:Dk) (sec:Int) (xs:List Seg) (e:Ending) (w':World):Prop :=
 ∃ kk ys A c,e=.returned (.int .i64 (openE sec (sealedX sec xs) (s.g+1)))∧LogM w' X l p d n (genS s) (nxt t) kk sec A ys.length c ys false∧Kept X w w'∧ys.length≤c∧(A=none→c=0) ∧
  (openE sec (sealedX sec xs) (s.g+1)≠0∧kk=setK k s t∧ys=sealedX sec xs∨openE sec (sealedX sec xs) (s.g+1)=0∧kk=begK k s t (nxtR (sealedX sec xs))∧ys=openX (sealedX sec xs) (s.g+1))
theorem LogM.len9 (h:LogM w X l p d n s t k sec A m c xs br):xs.length=m:=h.now.1
theorem BegT.no {e:Ending} (hE:openE sec (sealedX sec xs) (s.g+1)≠0) (he:e=.returned (.int .i64 (openE sec (sealedX sec xs) (s.g+1)))) (h:LogM w' X l p d n (genS s) (nxt t) (setK k s t) sec A m c (sealedX sec xs) false) (hk:Kept X w w') (hmc:m≤c) (hnil:A=none→c=0):BeginT w X l p d n s t k sec xs e w' :=
 ⟨_,_,A,c,he,by rw[h.len9]; exact h,hk,by rw[h.len9]; exact hmc,hnil,.inl ⟨hE,rfl,rfl⟩⟩
theorem BegT.yes {A2:Option Addr} {c2:Nat} {e:Ending} (hE:openE sec (sealedX sec xs) (s.g+1)=0) (he:e=.returned (.int .i64 (openE sec (sealedX sec xs) (s.g+1)))) (h:LogM w' X l p d n (genS s) (nxt t) (begK k s t (nxtR (sealedX sec xs))) sec A2 (openX (sealedX sec xs) (s.g+1)).length c2 (openX (sealedX sec xs) (s.g+1)) false) (hk:Kept X w w') (hmc:(openX (sealedX sec xs) (s.g+1)).length≤c2) (hnil:A2=none→c2=0):BeginT w X l p d n s t k sec xs e w' :=
 ⟨_,_,A2,c2,he,h,hk,hmc,hnil,.inr ⟨hE,rfl,rfl⟩⟩
theorem LogM.lay {R:Nat→Prop} {A2:Option Addr} {m2 c2:Nat} {ys:List Seg} {sec2:Int} (h1:Blk w l 103 (logC p sec2 A m c br)) (hx:¬ X l) (hs:StoS w (fun b=>X b∨b=l∨R b) p d n s t k) (hr:RowZ w R A2 m2 ys) (hR:∀ b,R b→b<w.heap.size∧b≠l∧¬ X b) :
 LogM ((w.setCell ⟨l,1,none⟩ (.int .i64 sec)).setCell ⟨l,2,none⟩ (.slice A2 m2 c2)) X l p d n s t k sec A2 m2 c2 ys br:=by
 have hk:Kept (fun b=>b≠l) w ((w.setCell ⟨l,1,none⟩ (.int .i64 sec)).setCell ⟨l,2,none⟩ (.slice A2 m2 c2)) :=
  ((Kept.refl _ w).setCell (p:=⟨l,1,none⟩) (fun h=>h rfl) _).setCell (p:=⟨l,2,none⟩) (fun h=>h rfl) _
 exact ⟨(h1.set_ 1 (.int .i64 sec)).set_ 2 (.slice A2 m2 c2),hx,R,StoreM.kept hs hk (fun b hb hx e=>hx (.inr (.inl e))) (fun b hb h=>h),hr.kept hk (fun b h=>(hR b h).2.1),fun b h=>⟨nL (hR b h).1 hk.size,(hR b h).2⟩⟩
theorem begin_good (h:LogM w X l p d n s t k sec A m c xs false) (hX:∀ b,X b→b<w.heap.size) (hmc:m≤c) (hnil:A=none→c=0) (hg:Good k) (hp:k.pend.length≤900000) (hsm:s.May) (hsi:s.In) (hgm:s.g+1≤18446744073709551615) (hn:2≤n) (hn2:n≤2048) (hma:(m:Int)=s.a) (hroom:2+s.a*s.b≤(n:Int)) :
 Calls Tryz.prog 117 #[.pointer (some ⟨l,0,none⟩)] w fun e w'=>BeginT w X l p d n s t k sec xs e w':=by
 have HMA:=hI hma
 have HRM:=hI hroom
 have HNN:=hI hn2
 have HL:=hI h
 have HX:=hI hX
 have HG:=hI hg
 have HP:=hI hp
 have HSM:=hI hsm
 have HSI:=hI hsi
 have HLEN:=hI h.now.1
 obtain ⟨_,c1,c2,_⟩:=log_cells h
 have HSE:=hI (seal_any (cap:=c) h.now sec)
 have HMC:=hI (And.intro hmc hnil)
 have hg0:0≤s.g:=hsi.2.2.2.2.1
 clear h hX hmc hnil hg hp hsm hsi hma hroom hn2
 go_enter Tryz.func117,Tryz.ntmps117
 go_wp2_with fail
 refine HSE.out.mono ?_
 rintro e w2 ⟨hcase,hb2⟩
 rcases hcase with ⟨hz,v7,rfl,A6,n6,cap6,rfl,hown6⟩ | ⟨hno,rfl⟩
 ·obtain rfl:m=n6:=by rw[← hown6.1,seal_len]; exact HLEN.out.symm
  have hal:=(Below.refl w2.heap.size w2).alloc (nR _) (.cells #[.int .i64 sec,.slice A6 m cap6] 95)
  have hbz:=hb2.trans (hal.mono hb2.size)
  have hput:=HL.out.put HX.out hbz (hown6.below hal)
  have HBG:=hI (show BegC w X l p d n s t k sec m (sealedX sec xs) _ from ⟨A6,cap6,by unfold sealedX; rw[if_pos hz]; exact hput.1,hput.2,hown6.2.2.2,hown6.2.2.1⟩)
  have hlz:=HL.out.below hbz
  obtain ⟨_,b1,b2,_⟩:=log_cells hlz
  obtain ⟨f1,f2⟩:=And.intro (hlz.1.frozen 1) (hlz.1.frozen 2)
  obtain ⟨k0,k1⟩:=ring_cells (Blk.new w2 95 #[.int .i64 sec,.slice A6 m cap6])
  have HLL:=hI HL.out.1.lt
  have HB2S:=hI hb2.size
  have hll:=HL.out.1.lt
  have hb2s:=hb2.size
  have hneq:w2.heap.size≠l:=by omega
  clear hown6 hal hbz hput hlz hb2 hz c1 c2 hll hb2s
  go_upto_region 4 with fail
  have hz0:True:=trivial
  generalize ((w2.alloc (.cells #[.int .i64 sec,.slice A6 m cap6] 95)).setCell ⟨l,1,none⟩ (.int .i64 sec)).setCell ⟨l,2,none⟩ (.slice A6 m cap6)=wx at *
  clear b1 b2 f1 f2 k0 k1 hneq hz0
  obtain ⟨A2,c3,hlm,hkx,hmc2,hnil2⟩:=HBG.out
  obtain ⟨hb,hxl,R,hs,hrow,hR⟩:=hlm
  have HBK:=hI hb
  have HS:=hI hs
  have HRO:=hI hrow
  have HRR:=hI hR
  have HKX:=hI hkx
  have HMC2:=hI (And.intro hmc2 hnil2)
  have HXL:=hI hxl
  have HY0:=hI (show ∀ b,(X b∨b=l∨R b)→b<wx.heap.size from fun b h=>by
   rcases h with h | h | h
   ·exact nL (HX.out b h) hkx.size
   ·rw[h]; exact hb.lt
   ·exact (hR b h).1)
  have c0:wx.cell? ⟨l,0,none⟩=some (.pointer (some ⟨p,0,none⟩)):=hb.cell 0
  clear hb hxl hs hrow hR hkx hmc2 hnil2
  go_wp2_with fail
  refine (get_any HS.out).mono ?_
  rintro e w4 ⟨rfl,hb4⟩
  have hbk:Below wx.heap.size wx (w4.alloc (.cells #[.int .i64 s.a,.int .i64 s.b,.int .u64 s.g,.int .u64 s.r,.int .u64 s.v,.int .u64 s.f] 115)):=hb4.alloc hb4.size _
  have hb5:Below wx.heap.size wx (w4.alloc (.cells #[.int .i64 s.a,.int .i64 s.b,.int .u64 (s.g+1),.int .u64 s.r,.int .u64 s.v,.int .u64 s.f] 115)):=hb4.alloc hb4.size _
  have HK4:=hI (show Blk (w4.alloc (.cells #[.int .i64 s.a,.int .i64 s.b,.int .u64 s.g,.int .u64 s.r,.int .u64 s.v,.int .u64 s.f] 115)) w4.heap.size 115 (supC s.a s.b s.g s.r s.v s.f) from Blk.new w4 _ _)
  have HK5:=hI (show Blk (w4.alloc (.cells #[.int .i64 s.a,.int .i64 s.b,.int .u64 (s.g+1),.int .u64 s.r,.int .u64 s.v,.int .u64 s.f] 115)) w4.heap.size 115 (supC s.a s.b (s.g+1) s.r s.v s.f) from Blk.new w4 _ _)
  have HB5:=hI hb5
  have HZ5:=hI (show wx.heap.size≤w4.heap.size from hb4.size)
  have g2:(w4.alloc (.cells #[.int .i64 s.a,.int .i64 s.b,.int .u64 s.g,.int .u64 s.r,.int .u64 s.v,.int .u64 s.f] 115)).cell? ⟨w4.heap.size,2,none⟩=some (.int .u64 s.g):=HK4.out.cell 2
  have f2:=HK4.out.frozen 2
  clear hb4 hbk hb5 c0
  go_upto_region 6 with fail
  generalize (w4.alloc (.cells #[.int .i64 s.a,.int .i64 s.b,.int .u64 (s.g+1),.int .u64 s.r,.int .u64 s.v,.int .u64 s.f] 115))=w5 at *
  clear g2 f2
  have HS5:=hI (StoreM.grow HS.out HB5.out.drew)
  have HX5:=hI (grow_lt (w':=w5.drew) HY0.out HB5.out.drew.size)
  have hK5:w5.drew.rangeAt w4.heap.size 0 (supC s.a s.b (s.g+1) s.r s.v s.f).toList:=Blk.rangeL (cs:=(supC s.a s.b (s.g+1) s.r s.v s.f).toList) HK5.out.drew
  have hc5:w5.drew.cell? ⟨l,0,none⟩=some (.pointer (some ⟨p,0,none⟩)):=(HBK.out.below HB5.out.drew HBK.out.lt).cell 0
  have hu32:=Tryz.underlying115
  have hs32:(Tryz.prog.info? 115).map (·.size)=some (supC s.a s.b (s.g+1) s.r s.v s.f).toList.length:=size_sup
  have HSET:=hI (set_go HS5.out HX5.out (s.g+1) s.r s.v s.f (by obtain ⟨h1,h2,h3,h4,h5⟩:=HSM.out; exact ⟨h1,h2,h3,h4,by omega⟩) (by have h:=HSI.out; unfold Sup.In InS at h; unfold InS; omega) (by unfold BackS; omega) hn (by have:=HP.out; omega) HG.out.wre (HG.out.put _ _).wre)
  refine wp_region_noPanic ?_
  refine Tillst.region (fun W=>W.cell? ⟨l,0,none⟩=some (.pointer (some ⟨p,0,none⟩))∧W.rangeAt w4.heap.size 0 (supC s.a s.b (s.g+1) s.r s.v s.f).toList) [] (by kernel_rfl) ⟨hc5,hK5⟩ (fun hė=>?_)
  have HDW:=hI (show w4.heap.size<w5.drew.heap.size from HK5.out.drew.lt)
  have HB5D:=hI HB5.out.drew
  have HKD:=hI HK5.out.drew
  generalize w5.drew=vd at *
  refine tK 0 lb0 (v:=?_) ?_ hė ?_
  rotate_left
  ·intro W hSW; unfold lb0; go_simp; with_reducible rfl
  simp only[lb0,Act.put,sA,sZ,sS]
  refine tK 1 lb1 (v:=?_) ?_ hė ?_
  rotate_left
  ·intro W hSW; unfold lb1; go_simp; with_reducible rfl
  simp only[lb1,Act.put,sA,sZ,sS]
  refine tK 2 lb2 (v:=?_) ?_ hė ?_
  rotate_left
  ·intro W hSW; unfold lb2; go_simp; with_reducible rfl
  simp only[lb2,Act.put,sA,sZ,sS]
  refine tK 3 lb3 (v:=?_) ?_ hė ?_
  rotate_left
  ·intro W' hSW; have c0:=hSW.1; unfold lb3; go_simp; with_reducible rfl
  simp only[lb3,Act.put,sA,sZ,sS]
  refine tK 4 lb4 (v:=?_) ?_ hė ?_
  rotate_left
  ·intro W' hSW; refine exec_load_row (.tmp 5) 115 ?_ w4.heap.size 0 ?_ (supC s.a s.b (s.g+1) s.r s.v s.f).toList _ hu32 rfl hs32 hSW.2 <;> rfl
  simp only[lb4,Act.put,sA,sZ,sS]
  refine tO 5 lb5 ?_
  intro K hK
  refine step_call 61 #[.tmp 39,.tmp 40] #[45,115] rfl rfl Tryz.func61 rfl rfl [.pointer (some ⟨p,0,none⟩),.agg (supC s.a s.b (s.g+1) s.r s.v s.f)] rfl ?_
  refine HSET.out.mono ?_
  rintro e v6 ⟨rfl,hs6,hk6⟩
  have HS6:=hI hs6
  have HK6:=hI hk6
  have hS6:=And.intro (show v6.cell? ⟨l,0,none⟩=some (.pointer (some ⟨p,0,none⟩)) from (hk6.cell (p:=⟨l,0,none⟩) (.inl (.inr (.inl rfl)))).trans hė.1) (show v6.rangeAt w4.heap.size 0 (supC s.a s.b (s.g+1) s.r s.v s.f).toList from fun q u hu=>(hk6.cell (p:=⟨w4.heap.size,0+q,none⟩) (.inr ⟨HZ5.out,HDW.out⟩)).trans (hė.2 q u hu))
  clear hs6 hk6
  refine ⟨_,rfl,?_⟩
  simp only[lb5,Act.put,sA,sZ,sS]
  refine hK.out _ _ (fun _=>hS6) (fun hė=>?_)
  replace hė:=hė (by decide)
  clear hK K hS6
  refine tO 6 lb6 ?_
  intro K hK
  refine step_value ?_ rfl ?_ ?_
  rotate_left
  ·unfold lb6; go_simp; with_reducible rfl
  simp only[lb6,Act.put,sA,sZ,sS]
  refine hK.out _ _ (fun _=>hė) (fun hė=>?_)
  replace hė:=hė (by decide)
  clear hK K
  refine Tillst.done (by kernel_rfl) ?_ _
  refine NoPanic.normal ?_
  clear hė hK5 hc5 hs32 hu32
  have HR6:=hI ((HRO.out.below HB5D.out (fun b h=>(HRR.out b h).1)).kept HK6.out (fun b h=>.inl (.inr (.inr h))))
  have HBK6:=hI ((HBK.out.below HB5D.out HBK.out.lt).kept HK6.out (.inl (.inr (.inl rfl))))
  have HSZ6:=hI (nT HB5D.out.size HK6.out.size)
  have HS6B:=hI (show StoS v6 (fun b=>X b∨b=l∨R b) p d n (genS s) (nxt t) (setK k s t) from StoreM.kept (Z:=fun _=>True) HS6.out (Kept.refl _ _) (fun _ _ _=>trivial) (fun b _ h=>.inl h))
  have HL6:=hI (show LogM v6 X l p d n ⟨s.a,s.b,s.g+1,s.r,s.v,s.f⟩ (nxt t) (setK k s t) sec A2 m c3 (sealedX sec xs) false from ⟨HBK6.out,HXL.out,R,StoreM.kept (Z:=fun _=>True) HS6.out (Kept.refl _ _) (fun _ _ _=>trivial) (fun b _ h=>.inl h),HR6.out,fun b h=>⟨nL (HRR.out b h).1 HSZ6.out,(HRR.out b h).2⟩⟩)
  have HKX6:=hI (HKX.out.trans (Kept.of_below HB5D.out (fun b (h:X b)=>HY0.out b (.inl h)) |>.trans HK6.out (fun b h=>.inl (.inl h))) (fun b h=>h))
  have HKB6:=hI (HKD.out.kept HK6.out (.inr ⟨HZ5.out,HDW.out⟩))
  clear HB5 HK4 HK5 HB5D HKD HSET HS5 HX5 HS6 HK6 HDW HS HRO HBK
  go_upto_region 9 with fail
  go_cut [7,8,9] (fun t i e wy=>OpnC v6.drew sec (sealedX sec xs) (s.g+1) t i e wy)
  case first J KK hJ hKK =>
   have HOP:=hI (show ∀ W,Below v6.drew.heap.size v6.drew W→RowZ W (·<W.heap.size) A2 m (sealedX sec xs) from fun W hW=>(HL6.out.now.below ((Below.refl v6.heap.size v6).drew.trans hW) (fun b h=>h)).more (fun b h=>nL h (by have:=hW.size; have:=(Below.refl v6.heap.size v6).drew.size; omega)))
   have HL1:=hI (show ∀ W,Below v6.drew.heap.size v6.drew W→W.rangeAt l 1 [.int .i64 sec,.slice A2 m c3] from fun W hW q u hu=>by
    have hb:=HBK6.out.drew.below hW HBK6.out.drew.lt
    match q,hu with
    | 0,hu=>exact (hb.cell 1).trans hu
    | 1,hu=>exact (hb.cell 2).trans hu)
   have HG2:=hI (show ∀ W,Below v6.drew.heap.size v6.drew W→W.cell? ⟨w4.heap.size,2,none⟩=some (.int .u64 (s.g+1)) from fun W hW=>(HKB6.out.drew.below hW HKB6.out.drew.lt).cell 2)
   have hu35:=Tryz.underlying95
   refine wp_region_noPanic ?_
   refine Tillst.region (fun W=>Below v6.drew.heap.size v6.drew W) [] (by kernel_rfl) (Below.refl _ _) (fun hė=>?_)
   refine tK 0 lc0 (v:=?_) ?_ hė ?_
   rotate_left
   ·intro W hSW; unfold lc0; go_simp; with_reducible rfl
   simp only[lc0,Act.put,sA,sZ,sS]
   refine tK 1 lc1 (v:=?_) ?_ hė ?_
   rotate_left
   ·intro W hSW; unfold lc1; go_simp; with_reducible rfl
   simp only[lc1,Act.put,sA,sZ,sS]
   refine tK 2 lc2 (v:=?_) ?_ hė ?_
   rotate_left
   ·intro W hSW; unfold lc2; go_simp; with_reducible rfl
   simp only[lc2,Act.put,sA,sZ,sS]
   refine tK 3 lc3 (v:=?_) ?_ hė ?_
   rotate_left
   ·intro W' hSW; refine exec_load_row (.tmp 48) 95 ?_ l 1 ?_ [.int .i64 sec,.slice A2 m c3] _ hu35 rfl size_ring (HL1.out W' hSW) <;> rfl
   simp only[lc3,Act.put,sA,sZ,sS]
   refine tK 4 lc4 (v:=?_) ?_ hė ?_
   rotate_left
   ·intro W hSW; unfold lc4; go_simp; with_reducible rfl
   simp only[lc4,Act.put,sA,sZ,sS]
   refine tK 5 lc5 (v:=?_) ?_ hė ?_
   rotate_left
   ·intro W' hSW; have c2:=HG2.out W' hSW; unfold lc5; go_simp; with_reducible rfl
   simp only[lc5,Act.put,sA,sZ,sS]
   refine Tillst.two (i:=6) (j:=11) (o:=lc6) (o':=lc11) (by kernel_rfl) rfl rfl ?_ ?_
   ·intro K hK
    refine step_call 169 #[.tmp 49,.tmp 51] #[95,30] rfl rfl Tryz.func169 rfl rfl [.agg #[.int .i64 sec,.slice A2 m c3],.int .u64 (s.g+1)] rfl ?_
    refine (open_any (HOP.out _ hė) sec (s.g+1)).mono ?_
    intro e v8 hopen
    obtain ⟨A9,c9,rfl,hown,hbn⟩:=hopen.told9
    have HOW:=hI hown
    have HBN:=hI hbn
    have hS8:=hbn
    clear hopen hown hbn
    refine ⟨_,rfl,?_⟩
    simp only[lc6,Act.put,sA,sZ,sS]
    refine hK.out _ _ (fun _=>hS8) (fun hė=>?_)
    replace hė:=hė (by decide)
    clear hK K hS8
    refine tK 7 lc7 (v:=?_) ?_ hė ?_
    rotate_left
    ·intro W hSW; unfold lc7; go_simp; with_reducible rfl
    simp only[lc7,Act.put,sA,sZ,sS]
    refine tK 8 lc8 (v:=?_) ?_ hė ?_
    rotate_left
    ·intro W hSW; unfold lc8; go_simp; with_reducible rfl
    simp only[lc8,Act.put,sA,sZ,sS]
    refine tK 9 lc9 (v:=?_) ?_ hė ?_
    rotate_left
    ·intro W hSW; unfold lc9; go_simp; with_reducible rfl
    simp only[lc9,Act.put,sA,sZ,sS]
    refine tK 10 lc10 (v:=?_) ?_ hė ?_
    rotate_left
    ·intro W hSW; unfold lc10; go_simp; with_reducible rfl
    simp only[lc10,Act.put,sA,sZ,sS]
    refine tO 11 lc11 ?_
    intro K hK
    have hSA:=hė.trans (((Below.refl (v8).heap.size (v8)).alloc (nR _) (.cells #[.int .i64 0,.slice none 0 0] 95)).mono hė.size)
    refine step_alloc_row 95 rfl rfl #[.int .i64 0,.slice none 0 0] zero_ring ?_
    simp only[lc11,Act.put,sA,sZ,sS]
    refine hK.out _ _ (fun _=>hSA) (fun hė=>?_)
    replace hė:=hė (by decide)
    clear hK K hSA
    refine tO 12 lc12 ?_
    intro K hK
    have hSA:=below_setRow hė (g:=v8.heap.size) HBN.out.size #[.int .i64 (pickS9 (openE sec (sealedX sec xs) (s.g+1)) sec),.slice A9 (pickY9 (openE sec (sealedX sec xs) (s.g+1)) (openX (sealedX sec xs) (s.g+1))).length c9]
    refine step_store_row (.tmp 7) (.tmp 53) 95 rfl rfl (v8.heap.size) #[.int .i64 (pickS9 (openE sec (sealedX sec xs) (s.g+1)) sec),.slice A9 (pickY9 (openE sec (sealedX sec xs) (s.g+1)) (openX (sealedX sec xs) (s.g+1))).length c9] rfl rfl 95 #[.int .i64 0,.slice none 0 0] (Blk.new v8 _ _) size_ring rfl (ring_one _ _ _ _) ?_
    simp only[lc12,Act.put,sA,sZ,sS]
    refine hK.out _ _ (fun _=>hSA) (fun hė=>?_)
    replace hė:=hė (by decide)
    clear hK K hSA
    refine tO 13 lc13 ?_
    intro K hK
    refine step_value ?_ rfl ?_ ?_
    rotate_left
    ·unfold lc13; go_simp; with_reducible rfl
    simp only[lc13,Act.put,sA,sZ,sS]
    refine hK.out _ _ (fun _=>hė) (fun hė=>?_)
    replace hė:=hė (by decide)
    clear hK K
    refine tO 14 lc14 ?_
    intro K hK
    refine step_value ?_ rfl ?_ ?_
    rotate_left
    ·unfold lc14; go_simp; with_reducible rfl
    simp only[lc14,Act.put,sA,sZ,sS]
    refine hK.out _ _ (fun _=>hė) (fun hė=>?_)
    replace hė:=hė (by decide)
    clear hK K
    refine Tillst.done (by kernel_rfl) ?_ _
    refine hKK _ _ (Met.intro (hJ _ _ ?_))
    (repeat apply Exists.intro)
    exact ⟨OpnC.call HOW.out HBN.out,rfl⟩
   ·intro K hK
    have hSA:=hė.trans (((Below.refl (v6.drew).heap.size (v6.drew)).alloc (nR _) (.cells #[.int .i64 0,.slice none 0 0] 95)).mono hė.size)
    refine step_alloc_row 95 rfl rfl #[.int .i64 0,.slice none 0 0] zero_ring ?_
    simp only[lc11,Act.put,sA,sZ,sS]
    refine hK.out _ _ (fun _=>hSA) (fun hė=>?_)
    replace hė:=hė (by decide)
    clear hK K hSA
    refine tO 6 lc6 ?_
    intro K hK
    refine step_call 169 #[.tmp 49,.tmp 51] #[95,30] rfl rfl Tryz.func169 rfl rfl [.agg #[.int .i64 sec,.slice A2 m c3],.int .u64 (s.g+1)] rfl ?_
    refine (open_any (HOP.out _ hė) sec (s.g+1)).mono ?_
    intro e v8 hopen
    obtain ⟨A9,c9,rfl,hown,hbn⟩:=hopen.told9
    have HOW:=hI hown
    have HBN:=hI hbn
    have hS8:=hė.trans (hbn.mono hė.size)
    clear hopen hown hbn
    refine ⟨_,rfl,?_⟩
    simp only[lc6,Act.put,sA,sZ,sS]
    refine hK.out _ _ (fun _=>hS8) (fun hė=>?_)
    replace hė:=hė (by decide)
    clear hK K hS8
    refine tK 7 lc7 (v:=?_) ?_ hė ?_
    rotate_left
    ·intro W hSW; unfold lc7; go_simp; with_reducible rfl
    simp only[lc7,Act.put,sA,sZ,sS]
    refine tK 8 lc8 (v:=?_) ?_ hė ?_
    rotate_left
    ·intro W hSW; unfold lc8; go_simp; with_reducible rfl
    simp only[lc8,Act.put,sA,sZ,sS]
    refine tK 9 lc9 (v:=?_) ?_ hė ?_
    rotate_left
    ·intro W hSW; unfold lc9; go_simp; with_reducible rfl
    simp only[lc9,Act.put,sA,sZ,sS]
    refine tK 10 lc10 (v:=?_) ?_ hė ?_
    rotate_left
    ·intro W hSW; unfold lc10; go_simp; with_reducible rfl
    simp only[lc10,Act.put,sA,sZ,sS]
    refine tO 12 lc12 ?_
    intro K hK
    have hSA:=below_setRow hė (g:=v6.drew.heap.size) (nR _) #[.int .i64 (pickS9 (openE sec (sealedX sec xs) (s.g+1)) sec),.slice A9 (pickY9 (openE sec (sealedX sec xs) (s.g+1)) (openX (sealedX sec xs) (s.g+1))).length c9]
    refine step_store_row (.tmp 7) (.tmp 53) 95 rfl rfl (v6.drew.heap.size) #[.int .i64 (pickS9 (openE sec (sealedX sec xs) (s.g+1)) sec),.slice A9 (pickY9 (openE sec (sealedX sec xs) (s.g+1)) (openX (sealedX sec xs) (s.g+1))).length c9] rfl rfl 95 #[.int .i64 0,.slice none 0 0] (Blk.below (Blk.new v6.drew _ _) HBN.out (by simp)) size_ring rfl (ring_one _ _ _ _) ?_
    simp only[lc12,Act.put,sA,sZ,sS]
    refine hK.out _ _ (fun _=>hSA) (fun hė=>?_)
    replace hė:=hė (by decide)
    clear hK K hSA
    refine tO 13 lc13 ?_
    intro K hK
    refine step_value ?_ rfl ?_ ?_
    rotate_left
    ·unfold lc13; go_simp; with_reducible rfl
    simp only[lc13,Act.put,sA,sZ,sS]
    refine hK.out _ _ (fun _=>hė) (fun hė=>?_)
    replace hė:=hė (by decide)
    clear hK K
    refine tO 14 lc14 ?_
    intro K hK
    refine step_value ?_ rfl ?_ ?_
    rotate_left
    ·unfold lc14; go_simp; with_reducible rfl
    simp only[lc14,Act.put,sA,sZ,sS]
    refine hK.out _ _ (fun _=>hė) (fun hė=>?_)
    replace hė:=hė (by decide)
    clear hK K
    refine Tillst.done (by kernel_rfl) ?_ _
    refine hKK _ _ (Met.intro (hJ _ _ ?_))
    (repeat apply Exists.intro)
    exact ⟨OpnC.laid HOW.out HBN.out,rfl⟩
  case rest =>
   obtain ⟨rfl,rfl,nb,A9,c9,rfl,hnb,hblk,hown,hbl⟩:=hcut
   have HNB:=hI hnb
   have HNK:=hI hblk
   have HOW:=hI hown
   have HBL:=hI hbl
   clear hnb hblk hown hbl
   have HB6:=hI ((Below.refl v6.heap.size v6).drew.trans HBL.out)
   obtain ⟨E,hE⟩:∃ E,openE sec (sealedX sec xs) (s.g+1)=E:=⟨_,rfl⟩
   rw[hE] at HNK HOW
   have hE2:=hE
   have HE:=hI hE2
   clear hE2
   by_cases hz:E=0
   case neg =>
    have d1:(E != 0)=true:=by simpa using hz
    simp only[hE]
    have HEZ:=hI hz
    clear hE hz
    go_wp2_with fail
    go_ret
    refine BegT.no (by rw[HE.out]; exact HEZ.out) (by rw[HE.out]; rfl) ?_ ?_ HMC2.out.1 HMC2.out.2
    ·exact HL6.out.below HB6.out
    ·exact HKX6.out.trans (Kept.of_below HB6.out (fun b h=>nL (HX.out b h) HKX6.out.size)) (fun b h=>h)
   subst hz
   simp only[hE]
   rw[pickS9_zero,pickY9_zero] at HNK
   rw[pickY9_zero] at HOW
   obtain ⟨i,him,hi⟩:∃ i:Nat,i<m∧nxtR (sealedX sec xs)=(i:Int):=by
    rcases nxt_range (sealedX sec xs) with h | ⟨i,h1,h2⟩
    ·exact absurd h (open_nxt HE.out)
    ·exact ⟨i,by rw[← LogM.len9 HL6.out]; exact h1,h2⟩
   rw[hi]
   have HI:=hI hi
   have HIM:=hI him
   have HBH:=hI (header_any i (s.g+1) wc (by have:=HSM.out.2.1; have:=HMA.out; omega) ⟨by omega,hgm⟩)
   have g3:wc.cell? ⟨w4.heap.size,2,none⟩=some (.int .u64 (s.g+1)):=(HKB6.out.below HB6.out HKB6.out.lt).cell 2
   clear hE hi him
   go_wp2_with fail
   refine HBH.out.mono ?_
   rintro e w10 ⟨rfl,hb10⟩
   have HB10:=hI hb10
   obtain ⟨ys,hys⟩:∃ ys,hdrL i (s.g+1)=ys:=⟨_,rfl⟩
   have HLY:=hI (show ys.length=64 by rw[← hys]; exact hdrL_length _ _)
   rw[hys]
   have HYS:=hI hys
   clear hb10 hys g3 HBH
   go_upto_region 15 with (first | (refine wpList_alloc_blk rfl rfl ?_) | (refine wpList_store_new (.tmp 10) (.tmp 64) rfl rfl w10 ys rfl rfl (noughts 64) rfl (noughts_length 64) HLY.out ?_))
   have HBCZ:=hI (show Below wc.heap.size wc ((w10.alloc (.cells (cells8 ys) 186)).alloc (.cells (cells8 ys) 186)) from HB10.out.trans ((((Below.refl w10.heap.size w10).alloc (nR _) (.cells (cells8 ys) 186)).alloc (by simp) (.cells (cells8 ys) 186)).mono HB10.out.size))
   have HBZ:=hI (show Below v6.heap.size v6 ((w10.alloc (.cells (cells8 ys) 186)).alloc (.cells (cells8 ys) 186)) from HB6.out.trans (HBCZ.out.mono HB6.out.size))
   have HSZ:=hI (show StoS ((w10.alloc (.cells (cells8 ys) 186)).alloc (.cells (cells8 ys) 186)) (fun b=>(X b∨b=l∨R b)∨(v6.heap.size≤b∧b<((w10.alloc (.cells (cells8 ys) 186)).alloc (.cells (cells8 ys) 186)).heap.size)) p d n (genS s) (nxt t) (setK k s t) from StoreM.grow HS6B.out HBZ.out)
   have HYZ:=hI (show ∀ b,(fun b=>(X b∨b=l∨R b)∨(v6.heap.size≤b∧b<((w10.alloc (.cells (cells8 ys) 186)).alloc (.cells (cells8 ys) 186)).heap.size)) b→b<((w10.alloc (.cells (cells8 ys) 186)).alloc (.cells (cells8 ys) 186)).heap.size from grow_lt (fun b h=>nL (HY0.out b h) HSZ6.out) HBZ.out.size)
   have HGK:=hI (show Good (setK k s t) from (HG.out.put _ _).sync)
   have HPK:=hI (show (setK k s t).pend=[] from (HG.out.put _ _).pend_sync)
   have HC0:=hI (show ((w10.alloc (.cells (cells8 ys) 186)).alloc (.cells (cells8 ys) 186)).cell? ⟨l,0,none⟩=some (.pointer (some ⟨p,0,none⟩)) from (HBK6.out.below HBZ.out HBK6.out.lt).cell 0)
   have hwr:=(beg_write HSZ.out HYZ.out (.inl (.inr (.inl rfl))) HC0.out (.inr ⟨by have:=HB6.out.size; have:=HB10.out.size; have h:(w10.alloc (.cells (cells8 ys) 186)).heap.size=w10.heap.size+1:=(by simp); omega,by simp⟩) (Blk.new (w10.alloc (.cells (cells8 ys) 186)) _ _) HLY.out (show Bytes ys by rw[← HYS.out]; exact hdr_bytes _ _ (by have:=HIM.out; have:=HMA.out; have:=HSM.out.2.1; omega)) i (by have:=HIM.out; have:=HMA.out; omega) HSM.out HRM.out HNN.out HGK.out HPK.out)
   rw[show (w10.alloc (.cells (cells8 ys) 186)).heap.size=w10.heap.size+1 from (by simp)] at hwr
   have HWR:=hI hwr
   clear hwr
   have HRL:=hI (show (w10.alloc (.cells (cells8 ys) 186)).rangeAt w10.heap.size 0 (ys.map (Value.int .u8)) from (show ArrB (w10.alloc (.cells (cells8 ys) 186)) w10.heap.size ys from Blk.new w10 _ _).range)
   have hll:l<v6.heap.size:=HBK6.out.lt
   have HLL6:=hI hll
   clear hll
   go_wp2_with (first | (refine wpList_load_blk (.tmp 10) rfl rfl w10.heap.size 0 rfl ys HLY.out HRL.out ?_) | (refine wpList_lit_sec (.tmp 71) rfl rfl ys rfl HLY.out ?_))
   refine HWR.out.mono ?_
   rintro e w12 ⟨rfl,hs12,hk12⟩
   have HS12:=hI hs12
   have HK12:=hI hk12
   clear hs12 hk12
   have c0:w12.cell? ⟨l,0,none⟩=some (.pointer (some ⟨p,0,none⟩)):=(HK12.out.cell (p:=⟨l,0,none⟩) (.inl (.inr (.inl rfl)))).trans HC0.out
   go_wp2_with fail
   refine (sto_disk HS12.out).mono ?_
   rintro e w' ⟨rfl,rfl⟩
   go_wp2_with fail
   have hsy:=sync_k HS12.out.2.1 (fun b h=>by rcases h with h | h; exact nL (HYZ.out b h) HK12.out.size; rw[h]; exact HS12.out.1.lt)
   rw[(HGK.out.put _ _).wre] at hsy
   refine hsy.mono ?_
   rintro e w13 ⟨rfl,hd13,hk13⟩
   have HS13:=hI (show StoS w13 (fun b=>(X b∨b=l∨R b)∨(v6.heap.size≤b∧b<((w10.alloc (.cells (cells8 ys) 186)).alloc (.cells (cells8 ys) 186)).heap.size)) p d n (genS s) (nxt t) (begK k s t (i:Int)) from by unfold begK; rw[Int.toNat_natCast,HYS.out]; exact ⟨HS12.out.1.kept hk13 (.inr rfl),hd13,HS12.out.2.2⟩)
   have HKW:=hI (HK12.out.trans hk13 (fun b h=>.inl h))
   clear c0 hsy hd13 hk13 HS12 HK12 HWR HSZ
   have HB13:=hI ((HBK6.out.below HBZ.out HBK6.out.lt).kept HKW.out (.inl (.inr (.inl rfl))))
   have HN13:=hI ((HNK.out.below HBCZ.out HNK.out.lt).kept HKW.out (.inr ⟨HNB.out,nL HNK.out.lt HBCZ.out.size⟩))
   have HR13:=hI ((HOW.out.row.below HBCZ.out (fun b h=>h.2)).kept HKW.out (fun b h=>.inr ⟨h.1,nL h.2 HBCZ.out.size⟩))
   obtain ⟨k0,k1⟩:=ring_cells HN13.out
   obtain ⟨f1,f2⟩:=And.intro (HB13.out.frozen 1) (HB13.out.frozen 2)
   have hneq:nb≠l:=by have h1:=HLL6.out; have h2:v6.heap.size≤nb:=HNB.out; omega
   have b1:w13.cell? ⟨l,1,none⟩=some (.int .i64 sec):=HB13.out.cell 1
   have b2:w13.cell? ⟨l,2,none⟩=some (.slice A2 m c3):=HB13.out.cell 2
   go_wp2_with fail
   go_ret
   have hSZ2:wc.heap.size≤w13.heap.size:=nT HBCZ.out.size HKW.out.size
   have hsub:∀ b,(X b∨b=l∨From v6.drew.heap.size wc b)→(fun b=>(X b∨b=l∨R b)∨(v6.heap.size≤b∧b<((w10.alloc (.cells (cells8 ys) 186)).alloc (.cells (cells8 ys) 186)).heap.size)) b:=fun b h=>by
    rcases h with h | h | h
    ·exact .inl (.inl h)
    ·exact .inl (.inr (.inl h))
    ·exact .inr ⟨h.1,nL h.2 HBCZ.out.size⟩
   have hfr:∀ b,From v6.drew.heap.size wc b→b<w13.heap.size∧b≠l∧¬ X b:=fun b h=>by
    have h1:=HLL6.out
    have h2:v6.heap.size≤b:=h.1
    have h3:=h.2
    refine ⟨by omega,by omega,fun hx=>?_⟩
    have h4:=HX.out b hx
    have h5:=HKX6.out.size
    omega
   have hlog:=LogM.lay (sec:=sec) (c2:=c9) HB13.out HXL.out (StoreM.kept (Z:=fun _=>True) HS13.out (Kept.refl _ _) (fun _ _ _=>trivial) (fun b _ h=>hsub b h)) HR13.out hfr
   refine BegT.yes HE.out (by rw[HE.out]; rfl) (by rw[HI.out]; exact hlog) ?_ HOW.out.2.2.2 HOW.out.2.2.1
   exact (((HKX6.out.trans (Kept.of_below HBZ.out (fun b h=>nL (HX.out b h) HKX6.out.size)) (fun b h=>h)).trans HKW.out (fun b h=>.inl (.inl h))).setCell (p:=⟨l,1,none⟩) HXL.out _).setCell (p:=⟨l,2,none⟩) HXL.out _
 ·have hal:=(Below.refl w2.heap.size w2).alloc (nR _) (.cells #[.int .i64 0,.slice none 0 0] 95)
  have hbz:=hb2.trans (hal.mono hb2.size)
  have HBG:=hI (show BegC w X l p d n s t k sec m (sealedX sec xs) (w2.alloc (.cells #[.int .i64 0,.slice none 0 0] 95)) from ⟨A,c,by unfold sealedX; rw[if_neg hno]; exact HL.out.below hbz,Kept.of_below hbz HX.out,HMC.out.1,HMC.out.2⟩)
  have d1:(sealE sec xs==0)=false:=by simpa using hno
  generalize sealE sec xs=E at *
  clear hal hbz hb2 c1 c2 hno
  go_upto_region 4 with fail
  generalize w2.alloc (.cells #[.int .i64 0,.slice none 0 0] 95)=wx at *
  clear d1
  obtain ⟨A2,c3,hlm,hkx,hmc2,hnil2⟩:=HBG.out
  obtain ⟨hb,hxl,R,hs,hrow,hR⟩:=hlm
  have HBK:=hI hb
  have HS:=hI hs
  have HRO:=hI hrow
  have HRR:=hI hR
  have HKX:=hI hkx
  have HMC2:=hI (And.intro hmc2 hnil2)
  have HXL:=hI hxl
  have HY0:=hI (show ∀ b,(X b∨b=l∨R b)→b<wx.heap.size from fun b h=>by
   rcases h with h | h | h
   ·exact nL (HX.out b h) hkx.size
   ·rw[h]; exact hb.lt
   ·exact (hR b h).1)
  have c0:wx.cell? ⟨l,0,none⟩=some (.pointer (some ⟨p,0,none⟩)):=hb.cell 0
  clear hb hxl hs hrow hR hkx hmc2 hnil2
  go_wp2_with fail
  refine (get_any HS.out).mono ?_
  rintro e w4 ⟨rfl,hb4⟩
  have hbk:Below wx.heap.size wx (w4.alloc (.cells #[.int .i64 s.a,.int .i64 s.b,.int .u64 s.g,.int .u64 s.r,.int .u64 s.v,.int .u64 s.f] 115)):=hb4.alloc hb4.size _
  have hb5:Below wx.heap.size wx (w4.alloc (.cells #[.int .i64 s.a,.int .i64 s.b,.int .u64 (s.g+1),.int .u64 s.r,.int .u64 s.v,.int .u64 s.f] 115)):=hb4.alloc hb4.size _
  have HK4:=hI (show Blk (w4.alloc (.cells #[.int .i64 s.a,.int .i64 s.b,.int .u64 s.g,.int .u64 s.r,.int .u64 s.v,.int .u64 s.f] 115)) w4.heap.size 115 (supC s.a s.b s.g s.r s.v s.f) from Blk.new w4 _ _)
  have HK5:=hI (show Blk (w4.alloc (.cells #[.int .i64 s.a,.int .i64 s.b,.int .u64 (s.g+1),.int .u64 s.r,.int .u64 s.v,.int .u64 s.f] 115)) w4.heap.size 115 (supC s.a s.b (s.g+1) s.r s.v s.f) from Blk.new w4 _ _)
  have HB5:=hI hb5
  have HZ5:=hI (show wx.heap.size≤w4.heap.size from hb4.size)
  have g2:(w4.alloc (.cells #[.int .i64 s.a,.int .i64 s.b,.int .u64 s.g,.int .u64 s.r,.int .u64 s.v,.int .u64 s.f] 115)).cell? ⟨w4.heap.size,2,none⟩=some (.int .u64 s.g):=HK4.out.cell 2
  have f2:=HK4.out.frozen 2
  clear hb4 hbk hb5 c0
  go_upto_region 6 with fail
  generalize (w4.alloc (.cells #[.int .i64 s.a,.int .i64 s.b,.int .u64 (s.g+1),.int .u64 s.r,.int .u64 s.v,.int .u64 s.f] 115))=w5 at *
  clear g2 f2
  have HS5:=hI (StoreM.grow HS.out HB5.out.drew)
  have HX5:=hI (grow_lt (w':=w5.drew) HY0.out HB5.out.drew.size)
  have hK5:w5.drew.rangeAt w4.heap.size 0 (supC s.a s.b (s.g+1) s.r s.v s.f).toList:=Blk.rangeL (cs:=(supC s.a s.b (s.g+1) s.r s.v s.f).toList) HK5.out.drew
  have hc5:w5.drew.cell? ⟨l,0,none⟩=some (.pointer (some ⟨p,0,none⟩)):=(HBK.out.below HB5.out.drew HBK.out.lt).cell 0
  have hu32:=Tryz.underlying115
  have hs32:(Tryz.prog.info? 115).map (·.size)=some (supC s.a s.b (s.g+1) s.r s.v s.f).toList.length:=size_sup
  have HSET:=hI (set_go HS5.out HX5.out (s.g+1) s.r s.v s.f (by obtain ⟨h1,h2,h3,h4,h5⟩:=HSM.out; exact ⟨h1,h2,h3,h4,by omega⟩) (by have h:=HSI.out; unfold Sup.In InS at h; unfold InS; omega) (by unfold BackS; omega) hn (by have:=HP.out; omega) HG.out.wre (HG.out.put _ _).wre)
  refine wp_region_noPanic ?_
  refine Tillst.region (fun W=>W.cell? ⟨l,0,none⟩=some (.pointer (some ⟨p,0,none⟩))∧W.rangeAt w4.heap.size 0 (supC s.a s.b (s.g+1) s.r s.v s.f).toList) [] (by kernel_rfl) ⟨hc5,hK5⟩ (fun hė=>?_)
  have HDW:=hI (show w4.heap.size<w5.drew.heap.size from HK5.out.drew.lt)
  have HB5D:=hI HB5.out.drew
  have HKD:=hI HK5.out.drew
  generalize w5.drew=vd at *
  refine tK 0 lb0 (v:=?_) ?_ hė ?_
  rotate_left
  ·intro W hSW; unfold lb0; go_simp; with_reducible rfl
  simp only[lb0,Act.put,sA,sZ,sS]
  refine tK 1 lb1 (v:=?_) ?_ hė ?_
  rotate_left
  ·intro W hSW; unfold lb1; go_simp; with_reducible rfl
  simp only[lb1,Act.put,sA,sZ,sS]
  refine tK 2 lb2 (v:=?_) ?_ hė ?_
  rotate_left
  ·intro W hSW; unfold lb2; go_simp; with_reducible rfl
  simp only[lb2,Act.put,sA,sZ,sS]
  refine tK 3 lb3 (v:=?_) ?_ hė ?_
  rotate_left
  ·intro W' hSW; have c0:=hSW.1; unfold lb3; go_simp; with_reducible rfl
  simp only[lb3,Act.put,sA,sZ,sS]
  refine tK 4 lb4 (v:=?_) ?_ hė ?_
  rotate_left
  ·intro W' hSW; refine exec_load_row (.tmp 5) 115 ?_ w4.heap.size 0 ?_ (supC s.a s.b (s.g+1) s.r s.v s.f).toList _ hu32 rfl hs32 hSW.2 <;> rfl
  simp only[lb4,Act.put,sA,sZ,sS]
  refine tO 5 lb5 ?_
  intro K hK
  refine step_call 61 #[.tmp 39,.tmp 40] #[45,115] rfl rfl Tryz.func61 rfl rfl [.pointer (some ⟨p,0,none⟩),.agg (supC s.a s.b (s.g+1) s.r s.v s.f)] rfl ?_
  refine HSET.out.mono ?_
  rintro e v6 ⟨rfl,hs6,hk6⟩
  have HS6:=hI hs6
  have HK6:=hI hk6
  have hS6:=And.intro (show v6.cell? ⟨l,0,none⟩=some (.pointer (some ⟨p,0,none⟩)) from (hk6.cell (p:=⟨l,0,none⟩) (.inl (.inr (.inl rfl)))).trans hė.1) (show v6.rangeAt w4.heap.size 0 (supC s.a s.b (s.g+1) s.r s.v s.f).toList from fun q u hu=>(hk6.cell (p:=⟨w4.heap.size,0+q,none⟩) (.inr ⟨HZ5.out,HDW.out⟩)).trans (hė.2 q u hu))
  clear hs6 hk6
  refine ⟨_,rfl,?_⟩
  simp only[lb5,Act.put,sA,sZ,sS]
  refine hK.out _ _ (fun _=>hS6) (fun hė=>?_)
  replace hė:=hė (by decide)
  clear hK K hS6
  refine tO 6 lb6 ?_
  intro K hK
  refine step_value ?_ rfl ?_ ?_
  rotate_left
  ·unfold lb6; go_simp; with_reducible rfl
  simp only[lb6,Act.put,sA,sZ,sS]
  refine hK.out _ _ (fun _=>hė) (fun hė=>?_)
  replace hė:=hė (by decide)
  clear hK K
  refine Tillst.done (by kernel_rfl) ?_ _
  refine NoPanic.normal ?_
  clear hė hK5 hc5 hs32 hu32
  have HR6:=hI ((HRO.out.below HB5D.out (fun b h=>(HRR.out b h).1)).kept HK6.out (fun b h=>.inl (.inr (.inr h))))
  have HBK6:=hI ((HBK.out.below HB5D.out HBK.out.lt).kept HK6.out (.inl (.inr (.inl rfl))))
  have HSZ6:=hI (nT HB5D.out.size HK6.out.size)
  have HS6B:=hI (show StoS v6 (fun b=>X b∨b=l∨R b) p d n (genS s) (nxt t) (setK k s t) from StoreM.kept (Z:=fun _=>True) HS6.out (Kept.refl _ _) (fun _ _ _=>trivial) (fun b _ h=>.inl h))
  have HL6:=hI (show LogM v6 X l p d n ⟨s.a,s.b,s.g+1,s.r,s.v,s.f⟩ (nxt t) (setK k s t) sec A2 m c3 (sealedX sec xs) false from ⟨HBK6.out,HXL.out,R,StoreM.kept (Z:=fun _=>True) HS6.out (Kept.refl _ _) (fun _ _ _=>trivial) (fun b _ h=>.inl h),HR6.out,fun b h=>⟨nL (HRR.out b h).1 HSZ6.out,(HRR.out b h).2⟩⟩)
  have HKX6:=hI (HKX.out.trans (Kept.of_below HB5D.out (fun b (h:X b)=>HY0.out b (.inl h)) |>.trans HK6.out (fun b h=>.inl (.inl h))) (fun b h=>h))
  have HKB6:=hI (HKD.out.kept HK6.out (.inr ⟨HZ5.out,HDW.out⟩))
  clear HB5 HK4 HK5 HB5D HKD HSET HS5 HX5 HS6 HK6 HDW HS HRO HBK
  go_upto_region 9 with fail
  go_cut [7,8,9] (fun t i e wy=>OpnC v6.drew sec (sealedX sec xs) (s.g+1) t i e wy)
  case first J KK hJ hKK =>
   have HOP:=hI (show ∀ W,Below v6.drew.heap.size v6.drew W→RowZ W (·<W.heap.size) A2 m (sealedX sec xs) from fun W hW=>(HL6.out.now.below ((Below.refl v6.heap.size v6).drew.trans hW) (fun b h=>h)).more (fun b h=>nL h (by have:=hW.size; have:=(Below.refl v6.heap.size v6).drew.size; omega)))
   have HL1:=hI (show ∀ W,Below v6.drew.heap.size v6.drew W→W.rangeAt l 1 [.int .i64 sec,.slice A2 m c3] from fun W hW q u hu=>by
    have hb:=HBK6.out.drew.below hW HBK6.out.drew.lt
    match q,hu with
    | 0,hu=>exact (hb.cell 1).trans hu
    | 1,hu=>exact (hb.cell 2).trans hu)
   have HG2:=hI (show ∀ W,Below v6.drew.heap.size v6.drew W→W.cell? ⟨w4.heap.size,2,none⟩=some (.int .u64 (s.g+1)) from fun W hW=>(HKB6.out.drew.below hW HKB6.out.drew.lt).cell 2)
   have hu35:=Tryz.underlying95
   refine wp_region_noPanic ?_
   refine Tillst.region (fun W=>Below v6.drew.heap.size v6.drew W) [] (by kernel_rfl) (Below.refl _ _) (fun hė=>?_)
   refine tK 0 lc0 (v:=?_) ?_ hė ?_
   rotate_left
   ·intro W hSW; unfold lc0; go_simp; with_reducible rfl
   simp only[lc0,Act.put,sA,sZ,sS]
   refine tK 1 lc1 (v:=?_) ?_ hė ?_
   rotate_left
   ·intro W hSW; unfold lc1; go_simp; with_reducible rfl
   simp only[lc1,Act.put,sA,sZ,sS]
   refine tK 2 lc2 (v:=?_) ?_ hė ?_
   rotate_left
   ·intro W hSW; unfold lc2; go_simp; with_reducible rfl
   simp only[lc2,Act.put,sA,sZ,sS]
   refine tK 3 lc3 (v:=?_) ?_ hė ?_
   rotate_left
   ·intro W' hSW; refine exec_load_row (.tmp 48) 95 ?_ l 1 ?_ [.int .i64 sec,.slice A2 m c3] _ hu35 rfl size_ring (HL1.out W' hSW) <;> rfl
   simp only[lc3,Act.put,sA,sZ,sS]
   refine tK 4 lc4 (v:=?_) ?_ hė ?_
   rotate_left
   ·intro W hSW; unfold lc4; go_simp; with_reducible rfl
   simp only[lc4,Act.put,sA,sZ,sS]
   refine tK 5 lc5 (v:=?_) ?_ hė ?_
   rotate_left
   ·intro W' hSW; have c2:=HG2.out W' hSW; unfold lc5; go_simp; with_reducible rfl
   simp only[lc5,Act.put,sA,sZ,sS]
   refine Tillst.two (i:=6) (j:=11) (o:=lc6) (o':=lc11) (by kernel_rfl) rfl rfl ?_ ?_
   ·intro K hK
    refine step_call 169 #[.tmp 49,.tmp 51] #[95,30] rfl rfl Tryz.func169 rfl rfl [.agg #[.int .i64 sec,.slice A2 m c3],.int .u64 (s.g+1)] rfl ?_
    refine (open_any (HOP.out _ hė) sec (s.g+1)).mono ?_
    intro e v8 hopen
    obtain ⟨A9,c9,rfl,hown,hbn⟩:=hopen.told9
    have HOW:=hI hown
    have HBN:=hI hbn
    have hS8:=hbn
    clear hopen hown hbn
    refine ⟨_,rfl,?_⟩
    simp only[lc6,Act.put,sA,sZ,sS]
    refine hK.out _ _ (fun _=>hS8) (fun hė=>?_)
    replace hė:=hė (by decide)
    clear hK K hS8
    refine tK 7 lc7 (v:=?_) ?_ hė ?_
    rotate_left
    ·intro W hSW; unfold lc7; go_simp; with_reducible rfl
    simp only[lc7,Act.put,sA,sZ,sS]
    refine tK 8 lc8 (v:=?_) ?_ hė ?_
    rotate_left
    ·intro W hSW; unfold lc8; go_simp; with_reducible rfl
    simp only[lc8,Act.put,sA,sZ,sS]
    refine tK 9 lc9 (v:=?_) ?_ hė ?_
    rotate_left
    ·intro W hSW; unfold lc9; go_simp; with_reducible rfl
    simp only[lc9,Act.put,sA,sZ,sS]
    refine tK 10 lc10 (v:=?_) ?_ hė ?_
    rotate_left
    ·intro W hSW; unfold lc10; go_simp; with_reducible rfl
    simp only[lc10,Act.put,sA,sZ,sS]
    refine tO 11 lc11 ?_
    intro K hK
    have hSA:=hė.trans (((Below.refl (v8).heap.size (v8)).alloc (nR _) (.cells #[.int .i64 0,.slice none 0 0] 95)).mono hė.size)
    refine step_alloc_row 95 rfl rfl #[.int .i64 0,.slice none 0 0] zero_ring ?_
    simp only[lc11,Act.put,sA,sZ,sS]
    refine hK.out _ _ (fun _=>hSA) (fun hė=>?_)
    replace hė:=hė (by decide)
    clear hK K hSA
    refine tO 12 lc12 ?_
    intro K hK
    have hSA:=below_setRow hė (g:=v8.heap.size) HBN.out.size #[.int .i64 (pickS9 (openE sec (sealedX sec xs) (s.g+1)) sec),.slice A9 (pickY9 (openE sec (sealedX sec xs) (s.g+1)) (openX (sealedX sec xs) (s.g+1))).length c9]
    refine step_store_row (.tmp 7) (.tmp 53) 95 rfl rfl (v8.heap.size) #[.int .i64 (pickS9 (openE sec (sealedX sec xs) (s.g+1)) sec),.slice A9 (pickY9 (openE sec (sealedX sec xs) (s.g+1)) (openX (sealedX sec xs) (s.g+1))).length c9] rfl rfl 95 #[.int .i64 0,.slice none 0 0] (Blk.new v8 _ _) size_ring rfl (ring_one _ _ _ _) ?_
    simp only[lc12,Act.put,sA,sZ,sS]
    refine hK.out _ _ (fun _=>hSA) (fun hė=>?_)
    replace hė:=hė (by decide)
    clear hK K hSA
    refine tO 13 lc13 ?_
    intro K hK
    refine step_value ?_ rfl ?_ ?_
    rotate_left
    ·unfold lc13; go_simp; with_reducible rfl
    simp only[lc13,Act.put,sA,sZ,sS]
    refine hK.out _ _ (fun _=>hė) (fun hė=>?_)
    replace hė:=hė (by decide)
    clear hK K
    refine tO 14 lc14 ?_
    intro K hK
    refine step_value ?_ rfl ?_ ?_
    rotate_left
    ·unfold lc14; go_simp; with_reducible rfl
    simp only[lc14,Act.put,sA,sZ,sS]
    refine hK.out _ _ (fun _=>hė) (fun hė=>?_)
    replace hė:=hė (by decide)
    clear hK K
    refine Tillst.done (by kernel_rfl) ?_ _
    refine hKK _ _ (Met.intro (hJ _ _ ?_))
    (repeat apply Exists.intro)
    exact ⟨OpnC.call HOW.out HBN.out,rfl⟩
   ·intro K hK
    have hSA:=hė.trans (((Below.refl (v6.drew).heap.size (v6.drew)).alloc (nR _) (.cells #[.int .i64 0,.slice none 0 0] 95)).mono hė.size)
    refine step_alloc_row 95 rfl rfl #[.int .i64 0,.slice none 0 0] zero_ring ?_
    simp only[lc11,Act.put,sA,sZ,sS]
    refine hK.out _ _ (fun _=>hSA) (fun hė=>?_)
    replace hė:=hė (by decide)
    clear hK K hSA
    refine tO 6 lc6 ?_
    intro K hK
    refine step_call 169 #[.tmp 49,.tmp 51] #[95,30] rfl rfl Tryz.func169 rfl rfl [.agg #[.int .i64 sec,.slice A2 m c3],.int .u64 (s.g+1)] rfl ?_
    refine (open_any (HOP.out _ hė) sec (s.g+1)).mono ?_
    intro e v8 hopen
    obtain ⟨A9,c9,rfl,hown,hbn⟩:=hopen.told9
    have HOW:=hI hown
    have HBN:=hI hbn
    have hS8:=hė.trans (hbn.mono hė.size)
    clear hopen hown hbn
    refine ⟨_,rfl,?_⟩
    simp only[lc6,Act.put,sA,sZ,sS]
    refine hK.out _ _ (fun _=>hS8) (fun hė=>?_)
    replace hė:=hė (by decide)
    clear hK K hS8
    refine tK 7 lc7 (v:=?_) ?_ hė ?_
    rotate_left
    ·intro W hSW; unfold lc7; go_simp; with_reducible rfl
    simp only[lc7,Act.put,sA,sZ,sS]
    refine tK 8 lc8 (v:=?_) ?_ hė ?_
    rotate_left
    ·intro W hSW; unfold lc8; go_simp; with_reducible rfl
    simp only[lc8,Act.put,sA,sZ,sS]
    refine tK 9 lc9 (v:=?_) ?_ hė ?_
    rotate_left
    ·intro W hSW; unfold lc9; go_simp; with_reducible rfl
    simp only[lc9,Act.put,sA,sZ,sS]
    refine tK 10 lc10 (v:=?_) ?_ hė ?_
    rotate_left
    ·intro W hSW; unfold lc10; go_simp; with_reducible rfl
    simp only[lc10,Act.put,sA,sZ,sS]
    refine tO 12 lc12 ?_
    intro K hK
    have hSA:=below_setRow hė (g:=v6.drew.heap.size) (nR _) #[.int .i64 (pickS9 (openE sec (sealedX sec xs) (s.g+1)) sec),.slice A9 (pickY9 (openE sec (sealedX sec xs) (s.g+1)) (openX (sealedX sec xs) (s.g+1))).length c9]
    refine step_store_row (.tmp 7) (.tmp 53) 95 rfl rfl (v6.drew.heap.size) #[.int .i64 (pickS9 (openE sec (sealedX sec xs) (s.g+1)) sec),.slice A9 (pickY9 (openE sec (sealedX sec xs) (s.g+1)) (openX (sealedX sec xs) (s.g+1))).length c9] rfl rfl 95 #[.int .i64 0,.slice none 0 0] (Blk.below (Blk.new v6.drew _ _) HBN.out (by simp)) size_ring rfl (ring_one _ _ _ _) ?_
    simp only[lc12,Act.put,sA,sZ,sS]
    refine hK.out _ _ (fun _=>hSA) (fun hė=>?_)
    replace hė:=hė (by decide)
    clear hK K hSA
    refine tO 13 lc13 ?_
    intro K hK
    refine step_value ?_ rfl ?_ ?_
    rotate_left
    ·unfold lc13; go_simp; with_reducible rfl
    simp only[lc13,Act.put,sA,sZ,sS]
    refine hK.out _ _ (fun _=>hė) (fun hė=>?_)
    replace hė:=hė (by decide)
    clear hK K
    refine tO 14 lc14 ?_
    intro K hK
    refine step_value ?_ rfl ?_ ?_
    rotate_left
    ·unfold lc14; go_simp; with_reducible rfl
    simp only[lc14,Act.put,sA,sZ,sS]
    refine hK.out _ _ (fun _=>hė) (fun hė=>?_)
    replace hė:=hė (by decide)
    clear hK K
    refine Tillst.done (by kernel_rfl) ?_ _
    refine hKK _ _ (Met.intro (hJ _ _ ?_))
    (repeat apply Exists.intro)
    exact ⟨OpnC.laid HOW.out HBN.out,rfl⟩
  case rest =>
   obtain ⟨rfl,rfl,nb,A9,c9,rfl,hnb,hblk,hown,hbl⟩:=hcut
   have HNB:=hI hnb
   have HNK:=hI hblk
   have HOW:=hI hown
   have HBL:=hI hbl
   clear hnb hblk hown hbl
   have HB6:=hI ((Below.refl v6.heap.size v6).drew.trans HBL.out)
   obtain ⟨E,hE⟩:∃ E,openE sec (sealedX sec xs) (s.g+1)=E:=⟨_,rfl⟩
   rw[hE] at HNK HOW
   have hE2:=hE
   have HE:=hI hE2
   clear hE2
   by_cases hz:E=0
   case neg =>
    have d1:(E != 0)=true:=by simpa using hz
    simp only[hE]
    have HEZ:=hI hz
    clear hE hz
    go_wp2_with fail
    go_ret
    refine BegT.no (by rw[HE.out]; exact HEZ.out) (by rw[HE.out]; rfl) ?_ ?_ HMC2.out.1 HMC2.out.2
    ·exact HL6.out.below HB6.out
    ·exact HKX6.out.trans (Kept.of_below HB6.out (fun b h=>nL (HX.out b h) HKX6.out.size)) (fun b h=>h)
   subst hz
   simp only[hE]
   rw[pickS9_zero,pickY9_zero] at HNK
   rw[pickY9_zero] at HOW
   obtain ⟨i,him,hi⟩:∃ i:Nat,i<m∧nxtR (sealedX sec xs)=(i:Int):=by
    rcases nxt_range (sealedX sec xs) with h | ⟨i,h1,h2⟩
    ·exact absurd h (open_nxt HE.out)
    ·exact ⟨i,by rw[← LogM.len9 HL6.out]; exact h1,h2⟩
   rw[hi]
   have HI:=hI hi
   have HIM:=hI him
   have HBH:=hI (header_any i (s.g+1) wc (by have:=HSM.out.2.1; have:=HMA.out; omega) ⟨by omega,hgm⟩)
   have g3:wc.cell? ⟨w4.heap.size,2,none⟩=some (.int .u64 (s.g+1)):=(HKB6.out.below HB6.out HKB6.out.lt).cell 2
   clear hE hi him
   go_wp2_with fail
   refine HBH.out.mono ?_
   rintro e w10 ⟨rfl,hb10⟩
   have HB10:=hI hb10
   obtain ⟨ys,hys⟩:∃ ys,hdrL i (s.g+1)=ys:=⟨_,rfl⟩
   have HLY:=hI (show ys.length=64 by rw[← hys]; exact hdrL_length _ _)
   rw[hys]
   have HYS:=hI hys
   clear hb10 hys g3 HBH
   go_upto_region 15 with (first | (refine wpList_alloc_blk rfl rfl ?_) | (refine wpList_store_new (.tmp 10) (.tmp 64) rfl rfl w10 ys rfl rfl (noughts 64) rfl (noughts_length 64) HLY.out ?_))
   have HBCZ:=hI (show Below wc.heap.size wc ((w10.alloc (.cells (cells8 ys) 186)).alloc (.cells (cells8 ys) 186)) from HB10.out.trans ((((Below.refl w10.heap.size w10).alloc (nR _) (.cells (cells8 ys) 186)).alloc (by simp) (.cells (cells8 ys) 186)).mono HB10.out.size))
   have HBZ:=hI (show Below v6.heap.size v6 ((w10.alloc (.cells (cells8 ys) 186)).alloc (.cells (cells8 ys) 186)) from HB6.out.trans (HBCZ.out.mono HB6.out.size))
   have HSZ:=hI (show StoS ((w10.alloc (.cells (cells8 ys) 186)).alloc (.cells (cells8 ys) 186)) (fun b=>(X b∨b=l∨R b)∨(v6.heap.size≤b∧b<((w10.alloc (.cells (cells8 ys) 186)).alloc (.cells (cells8 ys) 186)).heap.size)) p d n (genS s) (nxt t) (setK k s t) from StoreM.grow HS6B.out HBZ.out)
   have HYZ:=hI (show ∀ b,(fun b=>(X b∨b=l∨R b)∨(v6.heap.size≤b∧b<((w10.alloc (.cells (cells8 ys) 186)).alloc (.cells (cells8 ys) 186)).heap.size)) b→b<((w10.alloc (.cells (cells8 ys) 186)).alloc (.cells (cells8 ys) 186)).heap.size from grow_lt (fun b h=>nL (HY0.out b h) HSZ6.out) HBZ.out.size)
   have HGK:=hI (show Good (setK k s t) from (HG.out.put _ _).sync)
   have HPK:=hI (show (setK k s t).pend=[] from (HG.out.put _ _).pend_sync)
   have HC0:=hI (show ((w10.alloc (.cells (cells8 ys) 186)).alloc (.cells (cells8 ys) 186)).cell? ⟨l,0,none⟩=some (.pointer (some ⟨p,0,none⟩)) from (HBK6.out.below HBZ.out HBK6.out.lt).cell 0)
   have hwr:=(beg_write HSZ.out HYZ.out (.inl (.inr (.inl rfl))) HC0.out (.inr ⟨by have:=HB6.out.size; have:=HB10.out.size; have h:(w10.alloc (.cells (cells8 ys) 186)).heap.size=w10.heap.size+1:=(by simp); omega,by simp⟩) (Blk.new (w10.alloc (.cells (cells8 ys) 186)) _ _) HLY.out (show Bytes ys by rw[← HYS.out]; exact hdr_bytes _ _ (by have:=HIM.out; have:=HMA.out; have:=HSM.out.2.1; omega)) i (by have:=HIM.out; have:=HMA.out; omega) HSM.out HRM.out HNN.out HGK.out HPK.out)
   rw[show (w10.alloc (.cells (cells8 ys) 186)).heap.size=w10.heap.size+1 from (by simp)] at hwr
   have HWR:=hI hwr
   clear hwr
   have HRL:=hI (show (w10.alloc (.cells (cells8 ys) 186)).rangeAt w10.heap.size 0 (ys.map (Value.int .u8)) from (show ArrB (w10.alloc (.cells (cells8 ys) 186)) w10.heap.size ys from Blk.new w10 _ _).range)
   have hll:l<v6.heap.size:=HBK6.out.lt
   have HLL6:=hI hll
   clear hll
   go_wp2_with (first | (refine wpList_load_blk (.tmp 10) rfl rfl w10.heap.size 0 rfl ys HLY.out HRL.out ?_) | (refine wpList_lit_sec (.tmp 71) rfl rfl ys rfl HLY.out ?_))
   refine HWR.out.mono ?_
   rintro e w12 ⟨rfl,hs12,hk12⟩
   have HS12:=hI hs12
   have HK12:=hI hk12
   clear hs12 hk12
   have c0:w12.cell? ⟨l,0,none⟩=some (.pointer (some ⟨p,0,none⟩)):=(HK12.out.cell (p:=⟨l,0,none⟩) (.inl (.inr (.inl rfl)))).trans HC0.out
   go_wp2_with fail
   refine (sto_disk HS12.out).mono ?_
   rintro e w' ⟨rfl,rfl⟩
   go_wp2_with fail
   have hsy:=sync_k HS12.out.2.1 (fun b h=>by rcases h with h | h; exact nL (HYZ.out b h) HK12.out.size; rw[h]; exact HS12.out.1.lt)
   rw[(HGK.out.put _ _).wre] at hsy
   refine hsy.mono ?_
   rintro e w13 ⟨rfl,hd13,hk13⟩
   have HS13:=hI (show StoS w13 (fun b=>(X b∨b=l∨R b)∨(v6.heap.size≤b∧b<((w10.alloc (.cells (cells8 ys) 186)).alloc (.cells (cells8 ys) 186)).heap.size)) p d n (genS s) (nxt t) (begK k s t (i:Int)) from by unfold begK; rw[Int.toNat_natCast,HYS.out]; exact ⟨HS12.out.1.kept hk13 (.inr rfl),hd13,HS12.out.2.2⟩)
   have HKW:=hI (HK12.out.trans hk13 (fun b h=>.inl h))
   clear c0 hsy hd13 hk13 HS12 HK12 HWR HSZ
   have HB13:=hI ((HBK6.out.below HBZ.out HBK6.out.lt).kept HKW.out (.inl (.inr (.inl rfl))))
   have HN13:=hI ((HNK.out.below HBCZ.out HNK.out.lt).kept HKW.out (.inr ⟨HNB.out,nL HNK.out.lt HBCZ.out.size⟩))
   have HR13:=hI ((HOW.out.row.below HBCZ.out (fun b h=>h.2)).kept HKW.out (fun b h=>.inr ⟨h.1,nL h.2 HBCZ.out.size⟩))
   obtain ⟨k0,k1⟩:=ring_cells HN13.out
   obtain ⟨f1,f2⟩:=And.intro (HB13.out.frozen 1) (HB13.out.frozen 2)
   have hneq:nb≠l:=by have h1:=HLL6.out; have h2:v6.heap.size≤nb:=HNB.out; omega
   have b1:w13.cell? ⟨l,1,none⟩=some (.int .i64 sec):=HB13.out.cell 1
   have b2:w13.cell? ⟨l,2,none⟩=some (.slice A2 m c3):=HB13.out.cell 2
   go_wp2_with fail
   go_ret
   have hSZ2:wc.heap.size≤w13.heap.size:=nT HBCZ.out.size HKW.out.size
   have hsub:∀ b,(X b∨b=l∨From v6.drew.heap.size wc b)→(fun b=>(X b∨b=l∨R b)∨(v6.heap.size≤b∧b<((w10.alloc (.cells (cells8 ys) 186)).alloc (.cells (cells8 ys) 186)).heap.size)) b:=fun b h=>by
    rcases h with h | h | h
    ·exact .inl (.inl h)
    ·exact .inl (.inr (.inl h))
    ·exact .inr ⟨h.1,nL h.2 HBCZ.out.size⟩
   have hfr:∀ b,From v6.drew.heap.size wc b→b<w13.heap.size∧b≠l∧¬ X b:=fun b h=>by
    have h1:=HLL6.out
    have h2:v6.heap.size≤b:=h.1
    have h3:=h.2
    refine ⟨by omega,by omega,fun hx=>?_⟩
    have h4:=HX.out b hx
    have h5:=HKX6.out.size
    omega
   have hlog:=LogM.lay (sec:=sec) (c2:=c9) HB13.out HXL.out (StoreM.kept (Z:=fun _=>True) HS13.out (Kept.refl _ _) (fun _ _ _=>trivial) (fun b _ h=>hsub b h)) HR13.out hfr
   refine BegT.yes HE.out (by rw[HE.out]; rfl) (by rw[HI.out]; exact hlog) ?_ HOW.out.2.2.2 HOW.out.2.2.1
   exact (((HKX6.out.trans (Kept.of_below HBZ.out (fun b h=>nL (HX.out b h) HKX6.out.size)) (fun b h=>h)).trans HKW.out (fun b h=>.inl (.inl h))).setCell (p:=⟨l,1,none⟩) HXL.out _).setCell (p:=⟨l,2,none⟩) HXL.out _
end
end
section
abbrev ly0:Oper:=⟨some 24,.move (.tmp 6),3,"log.go:320",#[],none⟩
abbrev ly1:Oper:=⟨some 25,.move (.tmp 0),24,"log.go:320",#[],none⟩
abbrev ly2:Oper:=⟨some 26,.nilCheck (.tmp 25),0,"log.go:320",#[⟨1,.data⟩],none⟩
abbrev ly3:Oper:=⟨some 27,.fieldAddr 103 (.tmp 26) 1,0,"log.go:320",#[⟨2,.data⟩],none⟩
abbrev ly4:Oper:=⟨some 28,.fieldAddr 95 (.tmp 27) 1,0,"log.go:320",#[⟨3,.data⟩],none⟩
abbrev ly5:Oper:=⟨some 29,.load 93 (.tmp 28),93,"log.go:320",#[⟨4,.data⟩],none⟩
abbrev ly6:Oper:=⟨some 30,.move (.tmp 6),3,"log.go:320",#[],none⟩
abbrev ly7:Oper:=⟨some 31,.indexAddr 93 (.tmp 29) (.tmp 30),0,"log.go:320",#[⟨5,.data⟩,⟨6,.data⟩],none⟩
abbrev ly8:Oper:=⟨some 32,.fieldAddr 126 (.tmp 31) 1,0,"log.go:320",#[⟨7,.data⟩],none⟩
abbrev ly9:Oper:=⟨some 33,.load 30 (.tmp 32),30,"log.go:320",#[⟨8,.data⟩],none⟩
abbrev ly10:Oper:=⟨some 34,.move (.tmp 0),24,"log.go:320",#[],none⟩
abbrev ly11:Oper:=⟨some 35,.nilCheck (.tmp 34),0,"log.go:320",#[⟨10,.data⟩],none⟩
abbrev ly12:Oper:=⟨some 36,.fieldAddr 103 (.tmp 35) 1,0,"log.go:320",#[⟨11,.data⟩],none⟩
abbrev ly13:Oper:=⟨some 37,.fieldAddr 95 (.tmp 36) 1,0,"log.go:320",#[⟨12,.data⟩],none⟩
abbrev ly14:Oper:=⟨some 38,.load 93 (.tmp 37),93,"log.go:320",#[⟨13,.data⟩],none⟩
abbrev ly15:Oper:=⟨some 39,.move (.tmp 6),3,"log.go:320",#[],none⟩
abbrev ly16:Oper:=⟨some 40,.indexAddr 93 (.tmp 38) (.tmp 39),0,"log.go:320",#[⟨14,.data⟩,⟨15,.data⟩],none⟩
abbrev ly17:Oper:=⟨some 41,.fieldAddr 126 (.tmp 40) 2,0,"log.go:320",#[⟨16,.data⟩],none⟩
abbrev ly18:Oper:=⟨some 42,.load 3 (.tmp 41),3,"log.go:320",#[⟨17,.data⟩],none⟩
abbrev ly19:Oper:=⟨some 43,.build 35 #[(0,.tmp 24),(1,.tmp 33),(2,.tmp 42)],35,"log.go:320",#[⟨0,.data⟩,⟨9,.data⟩,⟨18,.data⟩],none⟩
abbrev ly20:Oper:=⟨some 8,.alloc 35,0,"log.go:320",#[],none⟩
abbrev ly21:Oper:=⟨none,.store 35 (.tmp 8) (.tmp 43),0,"log.go:320",#[⟨20,.data⟩,⟨19,.data⟩,⟨0,.phase⟩,⟨1,.phase⟩,⟨2,.phase⟩,⟨3,.phase⟩,⟨4,.phase⟩,⟨5,.phase⟩,⟨6,.phase⟩,⟨7,.phase⟩,⟨8,.phase⟩,⟨9,.phase⟩,⟨10,.phase⟩,⟨11,.phase⟩,⟨12,.phase⟩,⟨13,.phase⟩,⟨14,.phase⟩,⟨15,.phase⟩,⟨16,.phase⟩,⟨17,.phase⟩,⟨18,.phase⟩,⟨19,.phase⟩,⟨20,.phase⟩],none⟩
theorem zero_addr (w:World):(zeroValue 35).run Tryz.prog w=.ok (.agg #[.int .i64 0,.int .u64 0,.int .i64 0]) w:=(Tryz.zeroValue35 w).trans rfl
theorem size_addr:(Tryz.prog.info? 35).map (·.size)=some 3:=by kernel_rfl
theorem addr_one (a b c:Int):(#[Value.int .i64 a,Value.int .u64 b,Value.int .i64 c]:Array Value).all (·.oneCell')=true:=by simp[Value.oneCell']
def LyC (v:World) (a b c:Int) (t:Value) (wy:World):Prop :=
 ∃ nb,t=.pointer (some ⟨nb,0,none⟩)∧v.heap.size≤nb∧Blk wy nb 35 #[.int .i64 a,.int .u64 b,.int .i64 c]∧Below v.heap.size v wy
theorem LyC.new (v:World) (a b c:Int):LyC v a b c (.pointer (some ⟨v.drew.heap.size,0,none⟩)) ((v.drew.alloc (.cells #[.int .i64 0,.int .u64 0,.int .i64 0] 35)).setRow v.drew.heap.size #[.int .i64 a,.int .u64 b,.int .i64 c]) :=
 ⟨_,rfl,nR _,setRow_heap _ _ _ _ _ _ (Blk.new v.drew _ _),below_setRow ((Below.refl v.heap.size v).drew.alloc (nR _) _) (nR _) _⟩
section
variable {w w':World} {X Y:Nat→Prop} {l p d n m c:Nat} {s:Sup} {t:Int} {k:Dk} {sec:Int} {A:Option Addr} {xs:List Seg} {br:Bool}
def LayT (w:World) (X:Nat→Prop) (l p d n:Nat) (s:Sup) (t:Int) (k:Dk) (sec:Int) (i:Nat) (xs:List Seg) (n0:Nat) (bs:List Int) (e:Ending) (w':World):Prop :=
 e=.returned (.tuple #[.agg #[.int .i64 (i:Int),.int .u64 (genG xs i),.int .i64 (usedG xs i)],.int .i64 0])∧∃ A c,LogM w' X l p d n s t (wrs k (2+(i:Int)*s.b+usedG xs i).toNat (splitL (genG xs i) (usedG xs i) bs)).1 sec A (useX xs ((cntOf n0:Nat):Int)).length c (useX xs ((cntOf n0:Nat):Int)) false∧Kept X w w'∧(useX xs ((cntOf n0:Nat):Int)).length≤c∧(A=none→c=0)
theorem wrs_good:∀ (xss:List (List Int)) (k:Dk) (i:Nat),Good k→(wrs k i xss).2=0∧Good (wrs k i xss).1
 | [],k,i,h=>⟨rfl,h⟩
 | ys::r,k,i,h=>by
  unfold wrs
  rw[if_pos h.wre]
  exact wrs_good r _ _ (h.put _ _)
theorem lay_write {xss:List (List Int)} (hs:StoS w Y p d n s t k) (hY:∀ b,Y b→b<w.heap.size) (hl:Y l) (c0:w.cell? ⟨l,0,none⟩=some (.pointer (some ⟨p,0,none⟩))) (hrow:RowK w Y A m xss) (hby:∀ i,Bytes (xss.getD i [])) (hss:Secs xss)
 (i:Nat) (u:Int) (hu:0≤u) (hi:(i:Int)<s.a) (hm:s.May) (hfit:u+(m:Int)≤s.b) (hroom:2+s.a*s.b≤(n:Int)) (hn:n≤2048) (hp:k.pend.length≤900000) (hg:Good k) :
 Calls Tryz.prog 120 #[.pointer (some ⟨l,0,none⟩),.int .i64 i,.int .i64 u,.slice A m c] w fun e w'=>e=.returned (.int .i64 0)∧StoS w' Y p d n s t (wrs k (2+(i:Int)*s.b+u).toNat xss).1∧Kept Y w w':=by
 obtain ⟨h1,h2,h3,h4,_⟩:=hm
 have hpos:0≤(i:Int)*s.b:=Int.mul_nonneg (by omega) (by omega)
 have hle:((i:Int)+1)*s.b≤s.a*s.b:=Int.mul_le_mul_of_nonneg_right (by omega) (by omega)
 rw[Int.add_mul,Int.one_mul] at hle
 have hi0:(((2+(i:Int)*s.b+u).toNat:Nat):Int)=2+(i:Int)*s.b+u:=Int.toNat_of_nonneg (by omega)
 have hu2:((u.toNat:Nat):Int)=u:=Int.toNat_of_nonneg hu
 have h:=write_log (c:=c) hs hY hl c0 hrow hby hss i u.toNat (2+(i:Int)*s.b+u).toNat hi h2 ⟨by omega,h4⟩ (by rw[hi0,hu2]) (by omega) hn hp
 rw[hu2,(wrs_good xss k _ hg).1] at h
 exact h
theorem lay_good {i:Nat} {B:Option Addr} {n0 c0:Nat} {bs:List Int} (h:LogM w X l p d n s t k sec A m c xs false) (hX:∀ b,X b→b<w.heap.size) (hmc:m≤c) (hnil:A=none→c=0) (hg:Good k)
 (he:openedE sec xs=0) (hi:openedV sec xs=(i:Int)) (him:i<m)
 (hb:RowI .u8 w (·<w.heap.size) B n0 bs) (hbn:B=none→c0=0) (hbc:n0≤c0) (hn0:n0≤16384) (hgen:1≤genG xs i∧genG xs i≤18446744073709551615) (hused:0≤usedG xs i∧usedG xs i≤64) (hue:useE sec xs ((cntOf n0:Nat):Int)=0)
 (hby:Bytes bs) (hia:(i:Int)<s.a) (hsm:s.May) (hfit:usedG xs i+cntOf n0≤s.b) (hroom:2+s.a*s.b≤(n:Int)) (hn2:n≤2048) (hp:k.pend.length≤900000) :
 Calls Tryz.prog 49 #[.pointer (some ⟨l,0,none⟩),.slice B n0 c0] w fun e w'=>LayT w X l p d n s t k sec i xs n0 bs e w':=by
 have HL:=hI h
 have HX:=hI hX
 have HG:=hI hg
 have HMC:=hI (And.intro hmc hnil)
 have HIM:=hI him
 have HBA:=hI ((Below.refl w.heap.size w).alloc (nR _) (.cells #[.int .i64 0,.int .u64 0,.int .i64 0] 35))
 have HL0:=hI (h.below HBA.out)
 obtain ⟨_,c1,c2,_⟩:=log_cells HL0.out
 have hop:=opened_any (cap:=c) HL0.out.now sec
 rw[he,hi] at hop
 have HOP:=hI hop
 have HBS:=hI hb
 have HBH:=hI (And.intro hbn (And.intro hbc hn0))
 have HGE:=hI hgen
 have HUS:=hI hused
 have HUE:=hI hue
 have HBY:=hI hby
 have HIA:=hI hia
 have HSM:=hI hsm
 have HFIT:=hI hfit
 have HRM:=hI hroom
 have HNN:=hI hn2
 have HPE:=hI hp
 clear hue hby hia hsm hfit hroom hn2 hp h hX hmc hnil hg he hi him hop hb hbn hbc hn0 hgen hused
 go_enter Tryz.func49,Tryz.ntmps49
 go_wp2_with fail
 refine HOP.out.mono ?_
 rintro e w1 ⟨rfl,hb1⟩
 have HB1:=hI (HBA.out.trans (hb1.mono HBA.out.size))
 have HL1:=hI (HL.out.below HB1.out)
 have HA1:=hI (show Blk w1 w.heap.size 35 #[.int .i64 0,.int .u64 0,.int .i64 0] from (Blk.new w _ _).below hb1 (by simp))
 clear hb1 c1 c2
 go_upto_region 4 with fail
 go_cut [8] (fun t wy=>LyC w1 i (genG xs i) (usedG xs i) t wy)
 case first J KK hJ hKK =>
  obtain ⟨bA,off,rfl,hbA,hcs⟩:=seg_get HL1.out.now HIM.out
  obtain ⟨g0,g1,g2⟩:=hcs i HIM.out
  have e2:w1.cell? ⟨l,2,none⟩=some (.slice (some ⟨bA,off,none⟩) m c):=(log_cells HL1.out).2.2.1
  have him:(i:Int)<(m:Int):=by have:=HIM.out; omega
  have hmc2:m≤c:=HMC.out.1
  have hl1:=HL1.out.1.lt
  have HS:=hI (show ∀ W,Below w1.heap.size w1 W→W.cell? ⟨l,2,none⟩=some (.slice (some ⟨bA,off,none⟩) m c)∧W.cell? ⟨bA,off+i*3+1,none⟩=some (.int .u64 (genG xs i))∧W.cell? ⟨bA,off+i*3+2,none⟩=some (.int .i64 (usedG xs i)) from fun W hW =>
   ⟨(hW.cell (p:=⟨l,2,none⟩) hl1).trans e2,(hW.cell (p:=⟨bA,_,none⟩) hbA).trans g1,(hW.cell (p:=⟨bA,_,none⟩) hbA).trans g2⟩)
  clear hcs hbA g0 g1 g2 e2 hl1
  refine wp_region_noPanic ?_
  refine Tillst.region (fun W=>Below w1.heap.size w1 W) [] (by kernel_rfl) (Below.refl _ _).drew (fun hė=>?_)
  refine tK 0 ly0 (v:=?_) ?_ hė ?_
  rotate_left
  ·intro W' hSW; obtain ⟨s0,s1,s2⟩:=HS.out W' hSW; unfold ly0; go_simp; with_reducible rfl
  simp only[ly0,Act.put,sA,sZ,sS]
  refine tK 1 ly1 (v:=?_) ?_ hė ?_
  rotate_left
  ·intro W' hSW; obtain ⟨s0,s1,s2⟩:=HS.out W' hSW; unfold ly1; go_simp; with_reducible rfl
  simp only[ly1,Act.put,sA,sZ,sS]
  refine tK 2 ly2 (v:=?_) ?_ hė ?_
  rotate_left
  ·intro W' hSW; obtain ⟨s0,s1,s2⟩:=HS.out W' hSW; unfold ly2; go_simp; with_reducible rfl
  simp only[ly2,Act.put,sA,sZ,sS]
  refine tK 3 ly3 (v:=?_) ?_ hė ?_
  rotate_left
  ·intro W' hSW; obtain ⟨s0,s1,s2⟩:=HS.out W' hSW; unfold ly3; go_simp; with_reducible rfl
  simp only[ly3,Act.put,sA,sZ,sS]
  refine tK 4 ly4 (v:=?_) ?_ hė ?_
  rotate_left
  ·intro W' hSW; obtain ⟨s0,s1,s2⟩:=HS.out W' hSW; unfold ly4; go_simp; with_reducible rfl
  simp only[ly4,Act.put,sA,sZ,sS]
  refine tK 5 ly5 (v:=?_) ?_ hė ?_
  rotate_left
  ·intro W' hSW; obtain ⟨s0,s1,s2⟩:=HS.out W' hSW; unfold ly5; go_simp; with_reducible rfl
  simp only[ly5,Act.put,sA,sZ,sS]
  refine tK 6 ly6 (v:=?_) ?_ hė ?_
  rotate_left
  ·intro W' hSW; obtain ⟨s0,s1,s2⟩:=HS.out W' hSW; unfold ly6; go_simp; with_reducible rfl
  simp only[ly6,Act.put,sA,sZ,sS]
  refine tK 7 ly7 (v:=?_) ?_ hė ?_
  rotate_left
  ·intro W' hSW; obtain ⟨s0,s1,s2⟩:=HS.out W' hSW; unfold ly7; go_simp; with_reducible rfl
  simp only[ly7,Act.put,sA,sZ,sS]
  refine tK 8 ly8 (v:=?_) ?_ hė ?_
  rotate_left
  ·intro W' hSW; obtain ⟨s0,s1,s2⟩:=HS.out W' hSW; unfold ly8; go_simp; with_reducible rfl
  simp only[ly8,Act.put,sA,sZ,sS]
  refine tK 9 ly9 (v:=?_) ?_ hė ?_
  rotate_left
  ·intro W' hSW; obtain ⟨s0,s1,s2⟩:=HS.out W' hSW; unfold ly9; go_simp; with_reducible rfl
  simp only[ly9,Act.put,sA,sZ,sS]
  refine tK 10 ly10 (v:=?_) ?_ hė ?_
  rotate_left
  ·intro W' hSW; obtain ⟨s0,s1,s2⟩:=HS.out W' hSW; unfold ly10; go_simp; with_reducible rfl
  simp only[ly10,Act.put,sA,sZ,sS]
  refine tK 11 ly11 (v:=?_) ?_ hė ?_
  rotate_left
  ·intro W' hSW; obtain ⟨s0,s1,s2⟩:=HS.out W' hSW; unfold ly11; go_simp; with_reducible rfl
  simp only[ly11,Act.put,sA,sZ,sS]
  refine tK 12 ly12 (v:=?_) ?_ hė ?_
  rotate_left
  ·intro W' hSW; obtain ⟨s0,s1,s2⟩:=HS.out W' hSW; unfold ly12; go_simp; with_reducible rfl
  simp only[ly12,Act.put,sA,sZ,sS]
  refine tK 13 ly13 (v:=?_) ?_ hė ?_
  rotate_left
  ·intro W' hSW; obtain ⟨s0,s1,s2⟩:=HS.out W' hSW; unfold ly13; go_simp; with_reducible rfl
  simp only[ly13,Act.put,sA,sZ,sS]
  refine tK 14 ly14 (v:=?_) ?_ hė ?_
  rotate_left
  ·intro W' hSW; obtain ⟨s0,s1,s2⟩:=HS.out W' hSW; unfold ly14; go_simp; with_reducible rfl
  simp only[ly14,Act.put,sA,sZ,sS]
  refine tK 15 ly15 (v:=?_) ?_ hė ?_
  rotate_left
  ·intro W' hSW; obtain ⟨s0,s1,s2⟩:=HS.out W' hSW; unfold ly15; go_simp; with_reducible rfl
  simp only[ly15,Act.put,sA,sZ,sS]
  refine tK 16 ly16 (v:=?_) ?_ hė ?_
  rotate_left
  ·intro W' hSW; obtain ⟨s0,s1,s2⟩:=HS.out W' hSW; unfold ly16; go_simp; with_reducible rfl
  simp only[ly16,Act.put,sA,sZ,sS]
  refine tK 17 ly17 (v:=?_) ?_ hė ?_
  rotate_left
  ·intro W' hSW; obtain ⟨s0,s1,s2⟩:=HS.out W' hSW; unfold ly17; go_simp; with_reducible rfl
  simp only[ly17,Act.put,sA,sZ,sS]
  refine tK 18 ly18 (v:=?_) ?_ hė ?_
  rotate_left
  ·intro W' hSW; obtain ⟨s0,s1,s2⟩:=HS.out W' hSW; unfold ly18; go_simp; with_reducible rfl
  simp only[ly18,Act.put,sA,sZ,sS]
  refine tK 19 ly19 (v:=?_) ?_ hė ?_
  rotate_left
  ·intro W' hSW; obtain ⟨s0,s1,s2⟩:=HS.out W' hSW; unfold ly19; go_simp; with_reducible rfl
  simp only[ly19,Act.put,sA,sZ,sS]
  refine tO 20 ly20 ?_
  intro K hK
  have hSA:=hė.alloc hė.size (.cells #[.int .i64 0,.int .u64 0,.int .i64 0] 35)
  refine step_alloc_row 35 rfl rfl #[.int .i64 0,.int .u64 0,.int .i64 0] zero_addr ?_
  simp only[ly20,Act.put,sA,sZ,sS]
  refine hK.out _ _ (fun _=>hSA) (fun hė=>?_)
  replace hė:=hė (by decide)
  clear hK K hSA
  refine tO 21 ly21 ?_
  intro K hK
  have hSA:=below_setRow hė (g:=w1.drew.heap.size) (nR _) #[.int .i64 (i:Int),.int .u64 (genG xs i),.int .i64 (usedG xs i)]
  refine step_store_row (.tmp 8) (.tmp 43) 35 rfl rfl (w1.drew.heap.size) #[.int .i64 (i:Int),.int .u64 (genG xs i),.int .i64 (usedG xs i)] rfl rfl 35 #[.int .i64 0,.int .u64 0,.int .i64 0] (Blk.new w1.drew _ _) size_addr rfl (addr_one _ _ _) ?_
  simp only[ly21,Act.put,sA,sZ,sS]
  refine hK.out _ _ (fun _=>hSA) (fun hė=>?_)
  replace hė:=hė (by decide)
  clear hK K hSA
  refine Tillst.done (by kernel_rfl) ?_ _
  refine NoPanic.normal ?_
  refine hKK _ _ (Met.intro (hJ _ _ ?_))
  (repeat apply Exists.intro)
  exact ⟨LyC.new w1 _ _ _,rfl⟩
 case rest =>
  obtain ⟨nb,rfl,hnb,hblk,hbl⟩:=hcut
  have HNB:=hI hnb
  have HBK:=hI hblk
  have HB2:=hI (HB1.out.trans (hbl.mono HB1.out.size))
  have HL2:=hI (HL.out.below HB2.out)
  have HA2:=hI (HA1.out.below hbl HA1.out.lt)
  have k1:wc.cell? ⟨nb,1,none⟩=some (.int .u64 (genG xs i)):=hblk.cell 1
  have k2:wc.cell? ⟨nb,2,none⟩=some (.int .i64 (usedG xs i)):=hblk.cell 2
  have hu0:0≤usedG xs i:=HUS.out.1
  have hu1:usedG xs i≤64:=HUS.out.2
  have HSP:=hI (split_ok (genG xs i) (usedG xs i) B n0 c0 bs _ wc (HBS.out.below HB2.out (fun b h=>h)) (fun b h=>nL h HB2.out.size) HBH.out.1 HBH.out.2.1 HBH.out.2.2 HGE.out.1 HGE.out.2 hu0 (by omega) (by have:=cnt_bounds n0 HBH.out.2.2; omega))
  clear hnb hblk hbl
  go_wp2_with fail
  refine HSP.out.mono ?_
  rintro e w3 ⟨rfl,harr,hb3⟩
  have HB3:=hI (HB2.out.trans (hb3.mono HB2.out.size))
  have HARR:=hI harr
  have HBK3:=hI (HBK.out.below hb3 HBK.out.lt)
  have HL3:=hI (HL.out.below HB3.out)
  have HSZ3:=hI hb3.size
  have HA3:=hI (HA2.out.below hb3 HA2.out.lt)
  obtain ⟨_,c1,c2,_⟩:=log_cells HL3.out
  have hus:=use_any (cap:=c) HL3.out.now sec ((cntOf n0:Nat):Int)
  rw[HUE.out] at hus
  have HUSE:=hI hus
  clear harr hb3 k1 k2 hus
  go_wp2_with fail
  refine HUSE.out.mono ?_
  rintro e w4 ⟨⟨_,v,rfl,A7,n7,c7,rfl,hown⟩ | ⟨hno,_⟩,hb4⟩
  case inr=>exact absurd rfl hno
  obtain rfl:(useX xs ((cntOf n0:Nat):Int)).length=n7:=hown.1
  have HOW:=hI hown
  have HB4:=hI hb4
  clear hown hb4 c1 c2
  go_upto_region 11 with fail
  obtain ⟨h1,h2,R,h3,h4,h5⟩:=HL.out
  have hal:=(Below.refl w4.heap.size w4).alloc (nR _) (.cells #[.int .i64 sec,.slice A7 (useX xs ((cntOf n0:Nat):Int)).length c7] 95)
  have hb34:Below w3.heap.size w3 (w4.alloc (.cells #[.int .i64 sec,.slice A7 (useX xs ((cntOf n0:Nat):Int)).length c7] 95)):=HB4.out.trans (hal.mono HB4.out.size)
  have HBF:=hI (HB3.out.trans (hb34.mono HB3.out.size))
  have HB34:=hI hb34
  have HSF:=hI (show StoS (w4.alloc (.cells #[.int .i64 sec,.slice A7 (useX xs ((cntOf n0:Nat):Int)).length c7] 95)) (fun b=>(X b∨b=l∨R b)∨(w.heap.size≤b∧b<(w4.alloc (.cells #[.int .i64 sec,.slice A7 (useX xs ((cntOf n0:Nat):Int)).length c7] 95)).heap.size)) p d n s t k from StoreM.grow h3 HBF.out)
  have HYF:=hI (show ∀ b,(fun b=>(X b∨b=l∨R b)∨(w.heap.size≤b∧b<(w4.alloc (.cells #[.int .i64 sec,.slice A7 (useX xs ((cntOf n0:Nat):Int)).length c7] 95)).heap.size)) b→b<(w4.alloc (.cells #[.int .i64 sec,.slice A7 (useX xs ((cntOf n0:Nat):Int)).length c7] 95)).heap.size from grow_lt (fun b h=>by
   rcases h with h | h | h
   ·exact HX.out b h
   ·rw[h]; exact h1.lt
   ·exact (h5 b h).1) HBF.out.size)
  have HC0:=hI ((h1.below HBF.out h1.lt).cell 0)
  have hlen:(splitL (genG xs i) (usedG xs i) bs).length=cntOf n0:=by rw[split_length,HBS.out.1]
  have hwc:wc.heap.size<w3.heap.size:=HARR.out.lt
  have HRK:=hI (Arr.rowK (S:=(fun b=>(X b∨b=l∨R b)∨(w.heap.size≤b∧b<(w4.alloc (.cells #[.int .i64 sec,.slice A7 (useX xs ((cntOf n0:Nat):Int)).length c7] 95)).heap.size))) (Blk.below HARR.out hb34 HARR.out.lt) (split_secs _ _ _) hlen (.inr ⟨HB2.out.size,by have:=hb34.size; omega⟩))
  have hwr:=lay_write (c:=cntOf n0) HSF.out HYF.out (.inl (.inr (.inl rfl))) HC0.out HRK.out (fun j=>split_bytes HBY.out j) (split_secs _ _ _) i (usedG xs i) hu0 HIA.out HSM.out HFIT.out HRM.out HNN.out HPE.out HG.out
  have HWR:=hI hwr
  have HH:=hI (And.intro h1 (And.intro h2 (And.intro h4 h5)))
  have k2:(w4.alloc (.cells #[.int .i64 sec,.slice A7 (useX xs ((cntOf n0:Nat):Int)).length c7] 95)).cell? ⟨nb,2,none⟩=some (.int .i64 (usedG xs i)):=(HBK3.out.below hb34 HBK3.out.lt).cell 2
  have HNB3:=hI HBK3.out.lt
  have HWC:=hI hwc
  clear h1 h2 h3 h4 h5 hal hb34 hwr hlen hwc
  go_wp2_with fail
  refine HWR.out.mono ?_
  rintro e w6 ⟨rfl,hs6,hk6⟩
  have HS6:=hI hs6
  have HK6:=hI hk6
  clear hs6 hk6 k2 HWR
  go_wp2_with fail
  refine (breaks_ok _ l).mono ?_
  rintro e w7 ⟨rfl,rfl⟩
  have HLT:=hI (show l<w.heap.size from HH.out.1.lt)
  have HZ:=hI (show w.heap.size≤w1.heap.size∧w3.heap.size≤w4.heap.size from ⟨HB1.out.size,HB4.out.size⟩)
  have HB6:=hI ((HH.out.1.below HBF.out HH.out.1.lt).kept HK6.out (.inl (.inr (.inl rfl))))
  have HN6:=hI ((HBK3.out.below HB34.out HBK3.out.lt).kept HK6.out (.inr ⟨nT HZ.out.1 HNB.out,nL HBK3.out.lt HB34.out.size⟩))
  have HR6:=hI ((Blk.new w4 95 #[.int .i64 sec,.slice A7 (useX xs ((cntOf n0:Nat):Int)).length c7]).kept HK6.out (.inr ⟨nT HB3.out.size HZ.out.2,by simp⟩))
  have HA6:=hI ((HA3.out.below HB34.out HA3.out.lt).kept HK6.out (.inr ⟨nR _,nL HA3.out.lt HB34.out.size⟩))
  have n1:w4.heap.size≠l:=by have h1:=HLT.out; have h2:=HZ.out.2; have h3:=HB3.out.size; omega
  have n2:nb≠l:=by have h1:=HLT.out; have h2:=HZ.out.1; have h3:=HNB.out; omega
  have n3:w.heap.size≠l:=by have h1:=HLT.out; omega
  obtain ⟨r0,r1⟩:=ring_cells HR6.out
  have b1:w7.cell? ⟨l,1,none⟩=some (.int .i64 sec):=HB6.out.cell 1
  have b2:w7.cell? ⟨l,2,none⟩=some (.slice A m c):=HB6.out.cell 2
  obtain ⟨f1,f2⟩:=And.intro (HB6.out.frozen 1) (HB6.out.frozen 2)
  have a0:w7.cell? ⟨nb,0,none⟩=some (.int .i64 (i:Int)):=HN6.out.cell 0
  have a1:w7.cell? ⟨nb,1,none⟩=some (.int .u64 (genG xs i)):=HN6.out.cell 1
  have a2:w7.cell? ⟨nb,2,none⟩=some (.int .i64 (usedG xs i)):=HN6.out.cell 2
  have q0:w7.cell? ⟨w.heap.size,0,none⟩=some (.int .i64 0):=HA6.out.cell 0
  have q1:w7.cell? ⟨w.heap.size,1,none⟩=some (.int .u64 0):=HA6.out.cell 1
  have q2:w7.cell? ⟨w.heap.size,2,none⟩=some (.int .i64 0):=HA6.out.cell 2
  obtain ⟨g0,g1,g2⟩:=And.intro (HA6.out.frozen 0) (And.intro (HA6.out.frozen 1) (HA6.out.frozen 2))
  go_wp2_with (with_reducible refine halt_end ?_)
  clear r0 r1 b1 b2 f1 f2 a0 a1 a2 q0 q1 q2 g0 g1 g2 n1 n2
  have hfin:=((((HA6.out.far (p:=⟨l,1,none⟩) n3 (.int .i64 sec)).far (p:=⟨l,2,none⟩) n3 (.slice A7 (useX xs ((cntOf n0:Nat):Int)).length c7)).set_ 0 (.int .i64 (i:Int))).set_ 1 (.int .u64 (genG xs i))).set_ 2 (.int .i64 (usedG xs i))
  have hlg:=((((HB6.out.set_ 1 (.int .i64 sec)).set_ 2 (.slice A7 (useX xs ((cntOf n0:Nat):Int)).length c7)).far (p:=⟨w.heap.size,0,none⟩) (Ne.symm n3) (.int .i64 (i:Int))).far (p:=⟨w.heap.size,1,none⟩) (Ne.symm n3) (.int .u64 (genG xs i))).far (p:=⟨w.heap.size,2,none⟩) (Ne.symm n3) (.int .i64 (usedG xs i))
  have hk:Kept (fun b=>b≠l∧b≠w.heap.size) w7 (((((w7.setCell ⟨l,1,none⟩ (.int .i64 sec)).setCell ⟨l,2,none⟩ (.slice A7 (useX xs ((cntOf n0:Nat):Int)).length c7)).setCell ⟨w.heap.size,0,none⟩ (.int .i64 (i:Int))).setCell ⟨w.heap.size,1,none⟩ (.int .u64 (genG xs i))).setCell ⟨w.heap.size,2,none⟩ (.int .i64 (usedG xs i))) :=
   (((((Kept.refl _ w7).setCell (p:=⟨l,1,none⟩) (fun h=>h.1 rfl) _).setCell (p:=⟨l,2,none⟩) (fun h=>h.1 rfl) _).setCell (p:=⟨w.heap.size,0,none⟩) (fun h=>h.2 rfl) _).setCell (p:=⟨w.heap.size,1,none⟩) (fun h=>h.2 rfl) _).setCell (p:=⟨w.heap.size,2,none⟩) (fun h=>h.2 rfl) _
  have hal:=(Below.refl w4.heap.size w4).alloc (nR _) (.cells #[.int .i64 sec,.slice A7 (useX xs ((cntOf n0:Nat):Int)).length c7] 95)
  have hlt3:w.heap.size<w3.heap.size:=HA3.out.lt
  have hwl:=HLT.out
  have hz4:=hal.size
  have hz3:=HZ.out.2
  have hsub:∀ b,(X b∨b=l∨From w3.heap.size w4 b)→(fun b=>(X b∨b=l∨R b)∨(w.heap.size≤b∧b<(w4.alloc (.cells #[.int .i64 sec,.slice A7 (useX xs ((cntOf n0:Nat):Int)).length c7] 95)).heap.size)) b:=fun b h=>by
   rcases h with h | h | h
   ·exact .inl (.inl h)
   ·exact .inl (.inr (.inl h))
   ·exact .inr ⟨by have:=h.1; omega,by have:=h.2; omega⟩
  have hsto:StoS _ (fun b=>X b∨b=l∨From w3.heap.size w4 b) p d n s t _:=StoreM.kept HS6.out hk (fun b hb hy=>⟨fun e=>hy (.inl (.inr (.inl e))),fun e=>hy (.inr ⟨by omega,by omega⟩)⟩) (fun b _ h=>hsub b h)
  have hrow:=((HOW.out.row.below hal (fun b h=>h.2)).kept HK6.out (fun b h=>.inr ⟨by have:=h.1; omega,by have:=h.2; omega⟩)).kept hk (fun b h=>⟨by have:=h.1; omega,by have:=h.1; omega⟩)
  have hkx:=((Kept.of_below HBF.out HX.out).trans HK6.out (fun b h=>.inl (.inl h))).trans hk (fun b h=>⟨fun e=>HH.out.2.1 (e▸h),by have:=HX.out b h; omega⟩)
  exact Halt.ret (results_row2 (p:=4) (u:=5) rfl _ _ w.heap.size 35 #[.int .i64 (i:Int),.int .u64 (genG xs i),.int .i64 (usedG xs i)] _ rfl hfin Tryz.underlying35 rfl size_addr) rfl
   ⟨rfl,A7,c7,⟨hlg,HH.out.2.1,From w3.heap.size w4,hsto,hrow,fun b h=>⟨by have h1:=h.2; have h2:=hk.size; have h3:=HK6.out.size; omega,by have:=h.1; omega,fun hx=>by have:=HX.out b hx; have:=h.1; have:=HB3.out.size; omega⟩⟩,hkx,HOW.out.2.2.2,HOW.out.2.2.1⟩
end
end
section
section
variable {w w':World} {X Y:Nat→Prop} {l p d n m c:Nat} {s:Sup} {t:Int} {k:Dk} {sec:Int} {A:Option Addr} {xs:List Seg} {br:Bool}
theorem append_nil (k f x s:Int) (A1 A2:Option Addr) (n1 c1 n2 c2:Nat) (w:World) :
 Calls Tryz.prog 9 #[.pointer none,.agg #[.int .i64 k,.int .u32 f,.int .u32 x,.int .u64 s,.slice A1 n1 c1,.slice A2 n2 c2]] w fun e w'=>e=.returned (.tuple #[.agg #[.int .i64 0,.int .u64 0,.int .i64 0],.int .i64 1])∧Below w.heap.size w w':=by
 have HB:=hI (((Below.refl w.heap.size w).alloc (nR _) (.cells #[.int .i64 k,.int .u32 f,.int .u32 x,.int .u64 s,.slice A1 n1 c1,.slice A2 n2 c2] 33)).alloc (by simp) (.cells #[.int .i64 0,.int .u64 0,.int .i64 0] 35))
 have HK:=hI (blk_new2 w (.cells #[.int .i64 k,.int .u32 f,.int .u32 x,.int .u64 s,.slice A1 n1 c1,.slice A2 n2 c2] 33) 35 #[.int .i64 0,.int .u64 0,.int .i64 0])
 go_enter Tryz.func9,Tryz.ntmps9
 go_wp2_with (with_reducible refine halt_end ?_)
 exact Halt.ret (results_row2 (p:=4) (u:=5) rfl _ _ (w.heap.size+1) 35 #[.int .i64 0,.int .u64 0,.int .i64 0] _ rfl HK.out Tryz.underlying35 rfl size_addr) rfl ⟨rfl,HB.out⟩
end
end
section
section
variable {w w':World} {X Y:Nat→Prop} {l p d n m c:Nat} {s:Sup} {t:Int} {k:Dk} {sec:Int} {A:Option Addr} {xs:List Seg} {br:Bool}
def TurnG (w:World) (X:Nat→Prop) (l p d n:Nat) (s:Sup) (t:Int) (k:Dk) (sec:Int) (A:Option Addr) (m c:Nat) (xs:List Seg) (e:Ending) (w':World):Prop :=
 (nextE sec xs≠0∧e=.returned (.int .i64 (nextE sec xs))∧LogM w' X l p d n s t k sec A m c xs false∧Kept X w w') ∨
 (nextE sec xs=0∧e=.returned (.int .i64 0)∧∃ v,Kept X w v∧BeginT v X l p d n s t k sec xs (.returned (.int .i64 0)) w')
theorem turn_good (h:LogM w X l p d n s t k sec A m c xs false) (hX:∀ b,X b→b<w.heap.size) (hmc:m≤c) (hnil:A=none→c=0) (hg:Good k) (hp:k.pend.length≤900000) (hsm:s.May) (hsi:s.In) (hgm:s.g+1≤18446744073709551615) (hn:2≤n) (hn2:n≤2048) (hma:(m:Int)=s.a) (hroom:2+s.a*s.b≤(n:Int))
 (hop:nextE sec xs=0→openE sec (sealedX sec xs) (s.g+1)=0) :
 Calls Tryz.prog 48 #[.pointer (some ⟨l,0,none⟩)] w fun e w'=>TurnG w X l p d n s t k sec A m c xs e w':=by
 have HL:=hI h
 have HX:=hI hX
 have HN:=hI (next_any_s8 (cap:=c) h.now sec)
 have HOP:=hI hop
 have HB:=hI (show ∀ v,Below w.heap.size w v→Calls Tryz.prog 117 #[.pointer (some ⟨l,0,none⟩)] v fun e w'=>BeginT v X l p d n s t k sec xs e w' from fun v hv =>
  begin_good (h.below hv) (fun b hb=>nL (hX b hb) hv.size) hmc hnil hg hp hsm hsi hgm hn hn2 hma hroom)
 obtain ⟨_,c1,c2,_⟩:=log_cells h
 clear h hX hmc hnil hg hp hsm hsi hop hma hroom
 obtain ⟨E,hE⟩:∃ E,nextE sec xs=E:=⟨_,rfl⟩
 obtain ⟨V,hV⟩:∃ V,nextV sec xs=V:=⟨_,rfl⟩
 rw[hE,hV] at HN
 by_cases hz:E=0
 case neg =>
  have d1:(E != 0)=true:=by simpa using hz
  have HE:=hI hE
  have HZ:=hI hz
  clear hE hV hz
  go_enter Tryz.func48,Tryz.ntmps48
  go_wp2_with fail
  refine HN.out.mono ?_
  rintro e w1 ⟨rfl,hb⟩
  have HB1:=hI hb
  clear hb
  go_wp2_with fail
  go_ret
  exact .inl ⟨by rw[HE.out]; exact HZ.out,by rw[HE.out]; rfl,HL.out.below HB1.out,Kept.of_below HB1.out HX.out⟩
 subst hz
 have HE:=hI hE
 clear hE hV
 go_enter Tryz.func48,Tryz.ntmps48
 go_wp2_with fail
 refine HN.out.mono ?_
 rintro e w1 ⟨rfl,hb⟩
 have HB1:=hI hb
 clear hb c1 c2
 go_wp2_with fail
 refine (HB.out _ HB1.out).mono ?_
 intro e w2 hbt
 have he:e=.returned (.int .i64 0):=by
  obtain ⟨_,_,_,_,he,_⟩:=hbt
  rw[HOP.out HE.out] at he
  exact he
 subst he
 have HBT:=hI hbt
 clear hbt
 go_wp2_with fail
 refine (breaks_ok _ l).mono ?_
 rintro e w3 ⟨rfl,rfl⟩
 go_wp2_with fail
 go_ret
 exact .inr ⟨HE.out,rfl,w1,Kept.of_below HB1.out HX.out,HBT.out⟩
end
end
section
section
variable {w w':World} {X Y:Nat→Prop} {l p d n m c:Nat} {s:Sup} {t:Int} {k:Dk} {sec:Int} {A:Option Addr} {xs:List Seg} {br:Bool}
theorem LogM.grow (h:LogM w X l p d n s t k sec A m c xs br) (hb:Below w.heap.size w w'):LogM w' (fun b=>X b∨(w.heap.size≤b∧b<w'.heap.size)) l p d n s t k sec A m c xs br:=by
 obtain ⟨h1,h2,R,h3,h4,h5⟩:=h
 have hl:=h1.lt
 refine ⟨h1.below hb hl,fun e=>?_,R,?_,h4.below hb (fun b h=>(h5 b h).1),fun b h=>⟨nL (h5 b h).1 hb.size,(h5 b h).2.1,fun e=>e.elim (h5 b h).2.2 fun e=>by have:=(h5 b h).1; omega⟩⟩
 ·rcases e with e | e
  ·exact h2 e
  ·omega
 ·refine StoreM.kept (Z:=fun _=>True) (StoreM.grow h3 hb) (Kept.refl _ _) (fun _ _ _=>trivial) (fun b _ h=>?_)
  rcases h with (h | h) | h | h
  ·exact .inl (.inl h)
  ·exact .inr h
  ·exact .inl (.inr (.inl h))
  ·exact .inl (.inr (.inr h))
end
end
section
theorem opn_uniq {sec:Int} {xs:List Seg} (h:OkR sec xs) {i:Nat} (hi:i<xs.length) (h1:stG xs i=1):opnR xs=i∧latR xs=i:=by
 have hl:=opn_lat h hi h1
 rcases opn_or h with ⟨_,hz⟩ | ⟨j,hj,e1,e2,_⟩
 ·exact absurd h1 (hz i hi)
 ·exact ⟨by omega,hl⟩
theorem used_set9 {xs:List Seg} {i j:Nat} {x:Seg} (hi:i<xs.length):usedG (xs.set i x) j=if i=j then x.2.2 else usedG xs j:=by
 unfold usedG
 by_cases e:i=j
 ·subst e; simp[List.getD,List.getElem?_set_self hi]
 ·simp[List.getD,List.getElem?_set_ne e,e]
theorem lat_congr {xs zs:List Seg} (h:∀ j,(stG zs j=0↔stG xs j=0)∧genG zs j=genG xs j):∀ k,latTo zs k=latTo xs k
 | 0=>rfl
 | k + 1 => by
  have ih:=lat_congr h k
  unfold latTo
  rw[ih,(h k).2,(h (latTo xs k).toNat).2]
  by_cases e:stG xs k=0
  ·have e2:=(h k).1.2 e
   rw[if_neg (fun hh=>hh.1 e2),if_neg (fun hh=>hh.1 e)]
  ·have e2:stG zs k≠0:=fun hh=>e ((h k).1.1 hh)
   simp[e,e2]
theorem nxt_congr {xs zs:List Seg} (hl:zs.length=xs.length) (h:∀ j,(stG zs j=0↔stG xs j=0)) (a:Int):∀ k,nxtTo zs a k=nxtTo xs a k
 | 0=>rfl
 | k+1=>by
  have ih:=nxt_congr hl h a k
  unfold nxtTo
  rw[ih,hl]
  by_cases e:stG xs ((a+1+k).toNat % xs.length)=0
  ·rw[if_pos ((h _).2 e),if_pos e]
  ·rw[if_neg (fun hh=>e ((h _).1 hh)),if_neg e]
theorem seal_facts {sec:Int} {xs zs:List Seg} (h:OkR sec xs) (hz:zs=if sealE sec xs=0 then sealX xs else xs) :
 OkR sec zs∧opnR zs=-1∧latR zs=latR xs∧nxtR zs=nxtR xs∧topG zs=topG xs∧zs.length=xs.length∧∀ j,(stG zs j=0↔stG xs j=0)∧genG zs j=genG xs j∧usedG zs j=usedG xs j:=by
 have key : OkR sec zs ∧ opnR zs = -1 ∧ zs.length = xs.length ∧ ∀ j, (stG zs j = 0 ↔ stG xs j = 0) ∧ genG zs j = genG xs j ∧ usedG zs j = usedG xs j := by
  rcases opn_or h with ⟨e1,hno⟩ | ⟨i,hi,e1,e2,hs⟩
  ·have hE:sealE sec xs≠0:=by unfold sealE; rw[if_neg (fun k=>k h),if_pos (by omega)]; decide
   rw[if_neg hE] at hz
   subst hz
   exact ⟨h,e1,rfl,fun j=>⟨Iff.rfl,rfl,rfl⟩⟩
  ·have hE:sealE sec xs=0:=by unfold sealE; rw[if_neg (fun k=>k h),if_neg (by omega)]
   rw[if_pos hE] at hz
   have hX:sealX xs=xs.set i (2,genG xs i,usedG xs i):=by unfold sealX; rw[e1]; rfl
   have hok:=ok_seal hE
   rw[hX] at hz hok
   subst hz
   have hst:∀ j,stG (xs.set i (2,genG xs i,usedG xs i)) j=if i=j then 2 else stG xs j:=fun j=>st_set hi
   refine ⟨hok,?_,by simp,fun j=>⟨?_,?_,?_⟩⟩
   ·rcases opn_or hok with ⟨e3,_⟩ | ⟨j,hj,e3,_,hs3⟩
    ·exact e3
    ·rw[hst] at hs3
     by_cases e:i=j
     ·rw[if_pos e] at hs3; omega
     ·rw[if_neg e] at hs3
      have:=(opn_uniq h (by simpa using hj) hs3).1
      omega
   ·rw[hst]
    by_cases e:i=j
    ·subst e; simp[hs]
    ·rw[if_neg e]
   ·rw[gen_set hi]
    by_cases e:i=j
    ·subst e; simp
    ·rw[if_neg e]
   ·rw[used_set9 hi]
    by_cases e:i=j
    ·subst e; simp
    ·rw[if_neg e]
 obtain ⟨k1,k2,k3,k4⟩:=key
 have hlat:latR zs=latR xs:=by unfold latR; rw[k3]; exact lat_congr (fun j=>⟨(k4 j).1,(k4 j).2.1⟩) _
 refine ⟨k1,k2,hlat,?_,?_,k3,k4⟩
 ·unfold nxtR; rw[hlat,k3]; exact nxt_congr k3 (fun j=>(k4 j).1) _ _
 ·unfold topG; rw[hlat,(k4 _).2.1]
theorem open_facts {sec:Int} {zs:List Seg} {g:Int} (hE:openE sec zs g=0):∃ i,i<zs.length∧nxtR zs=(i:Nat)∧OkR sec (openX zs g)∧opnR (openX zs g)=(i:Nat)∧latR (openX zs g)=(i:Nat)∧topG (openX zs g)=g∧genG (openX zs g) i=g∧usedG (openX zs g) i=1∧leftR sec (openX zs g)=sec-1 ∧
 (openX zs g).length=zs.length∧openX zs g=zs.set i (1,g,1):=by
 have hok:=ok_open hE
 unfold openE at hE
 split at hE
 ·omega
 rename_i h0
 split at hE
 ·omega
 split at hE
 ·omega
 split at hE
 ·omega
 rename_i hn
 have hk:OkR sec zs:=Decidable.not_not.1 h0
 have hlen:0<zs.length:=by have:=hk.1.1; omega
 obtain ⟨i,hi,e1⟩:∃ i,i<zs.length∧nxtR zs=(i:Nat):=by
  rcases nxt_or zs with ⟨e,_⟩ | ⟨i,hi,e,_⟩
  ·omega
  ·exact ⟨_,Nat.mod_lt _ hlen,e⟩
 have hX:openX zs g=zs.set i (1,g,1):=by unfold openX; rw[e1]; rfl
 rw[hX] at hok ⊢
 have hs:stG (zs.set i (1,g,1)) i=1:=by rw[st_set hi]; simp
 have hg:genG (zs.set i (1,g,1)) i=g:=by rw[gen_set hi]; simp
 have hu:usedG (zs.set i (1,g,1)) i=1:=by rw[used_set9 hi]; simp
 obtain ⟨e2,e3⟩:=opn_uniq hok (by simpa using hi) hs
 refine ⟨i,hi,e1,hok,e2,e3,?_,hg,hu,?_,by simp,rfl⟩
 ·unfold topG; rw[e3,if_neg (by omega)]; exact hg
 ·unfold leftR; rw[e2,if_pos (by omega)]; simp only[Int.toNat_natCast]; rw[hu]
theorem use_facts {sec:Int} {xs:List Seg} {n:Int} (hE:useE sec xs n=0):∃ i,i<xs.length∧opnR xs=(i:Nat)∧OkR sec (useX xs n)∧opnR (useX xs n)=(i:Nat)∧latR (useX xs n)=(i:Nat)∧topG (useX xs n)=topG xs∧genG (useX xs n) i=genG xs i∧usedG (useX xs n) i=usedG xs i+n ∧
 (useX xs n).length=xs.length∧useX xs n=xs.set i (1,genG xs i,usedG xs i+n)∧0≤n∧n≤leftR sec xs:=by
 have hok:=ok_use hE
 unfold useE at hE
 split at hE
 ·omega
 rename_i h0
 split at hE
 ·omega
 rename_i h1
 split at hE
 ·omega
 split at hE
 ·omega
 have hk:OkR sec xs:=Decidable.not_not.1 h0
 rcases opn_or hk with ⟨e1,_⟩ | ⟨i,hi,e1,e2,hs⟩
 ·omega
 have hX:useX xs n=xs.set i (1,genG xs i,usedG xs i+n):=by unfold useX; rw[e1]; simp only[Int.toNat_natCast]; rw[hs]
 rw[hX] at hok ⊢
 have hs':stG (xs.set i (1,genG xs i,usedG xs i+n)) i=1:=by rw[st_set hi]; simp
 have hg:genG (xs.set i (1,genG xs i,usedG xs i+n)) i=genG xs i:=by rw[gen_set hi]; simp
 have hu:usedG (xs.set i (1,genG xs i,usedG xs i+n)) i=usedG xs i+n:=by rw[used_set9 hi]; simp
 obtain ⟨e3,e4⟩:=opn_uniq hok (by simpa using hi) hs'
 refine ⟨i,hi,e1,hok,e3,e4,?_,hg,hu,by simp,rfl,by omega,by omega⟩
 unfold topG
 rw[e4,e2,if_neg (by omega),if_neg (by omega)]
 exact hg
theorem turn_open {sec:Int} {xs zs:List Seg} {g:Int} (h:OkR sec xs) (hz:zs=if sealE sec xs=0 then sealX xs else xs) (hg:topG xs≤g) (hn:0≤nxtR xs):openE sec zs (g+1)=0:=by
 obtain ⟨k1,k2,_,k4,k5,_⟩:=seal_facts h hz
 unfold openE
 rw[if_neg (fun k=>k k1),if_neg (by omega),if_neg (by omega),if_neg (by omega)]
theorem use_zero {sec:Int} {xs:List Seg} (h:OkR sec xs) {n:Int} (h0:0≤opnR xs) (h1:0≤n) (h2:n≤leftR sec xs):useE sec xs n=0:=by
 unfold useE
 rw[if_neg (fun k=>k h),if_neg (by omega),if_neg (by omega),if_neg (by omega)]
theorem opn_bounds {sec:Int} {xs:List Seg} (h:OkR sec xs) {i:Nat} (ho:opnR xs=(i:Nat)):i<xs.length∧0<genG xs i∧genG xs i=topG xs∧1≤usedG xs i∧usedG xs i+leftR sec xs=sec∧stG xs i=1:=by
 rcases opn_or h with ⟨e1,_⟩ | ⟨j,hj,e1,e2,hs⟩
 ·omega
 obtain rfl:j=i:=by omega
 have hm:=may_live (may_at h.2.1 hj) (by rw[show (xs.getD j seg0).1=1 from hs]; decide)
 refine ⟨hj,hm.2.1,?_,hm.2.2.1,?_,hs⟩
 ·unfold topG; rw[e2,if_neg (by omega)]; rfl
 ·unfold leftR; rw[e1,if_pos (by omega)]; simp only[Int.toNat_natCast]; omega
end
section
structure LgM (w:World) (X:Nat→Prop) (l p d n:Nat) (s:Sup) (t:Int) (k:Dk) (xs:List Seg) (pe:Nat):Prop where
 log:∃ A c,LogM w X l p d n s t k s.b A xs.length c xs false∧xs.length≤c∧(A=none→c=0)
 good:Good k
 ok:OkR s.b xs
 top:topG xs≤s.g
 may:s.May
 sin:s.In
 dims:(xs.length:Int)=s.a
 n2:2≤n∧n≤2048
 room:2+s.a*s.b≤(n:Int)
 pend:k.pend.length≤pe
section
variable {w w':World} {X Y:Nat→Prop} {l p d n m c:Nat} {s:Sup} {t:Int} {k:Dk} {A:Option Addr} {xs:List Seg} {pe:Nat}
theorem LgM.below (h:LgM w X l p d n s t k xs pe) (hb:Below w.heap.size w w'):LgM w' X l p d n s t k xs pe:=by
 obtain ⟨A,c,h1,h2,h3⟩:=h.log
 exact ⟨⟨A,c,h1.below hb,h2,h3⟩,h.good,h.ok,h.top,h.may,h.sin,h.dims,h.n2,h.room,h.pend⟩
theorem LgM.grow (h:LgM w X l p d n s t k xs pe) (hb:Below w.heap.size w w'):LgM w' (fun b=>X b∨(w.heap.size≤b∧b<w'.heap.size)) l p d n s t k xs pe:=by
 obtain ⟨A,c,h1,h2,h3⟩:=h.log
 exact ⟨⟨A,c,h1.grow hb,h2,h3⟩,h.good,h.ok,h.top,h.may,h.sin,h.dims,h.n2,h.room,h.pend⟩
theorem LogM.less {sec:Int} {m c:Nat} {br:Bool} (h:LogM w Y l p d n s t k sec A m c xs br) (hX:∀ b,X b→Y b):LogM w X l p d n s t k sec A m c xs br:=by
 obtain ⟨h1,h2,R,h3,h4,h5⟩:=h
 refine ⟨h1,fun e=>h2 (hX _ e),R,?_,h4,fun b h=>⟨(h5 b h).1,(h5 b h).2.1,fun e=>(h5 b h).2.2 (hX b e)⟩⟩
 exact StoreM.kept (Z:=fun _=>True) h3 (Kept.refl _ _) (fun _ _ _=>trivial) (fun b _ h=>by
  rcases h with h | h | h
  ·exact .inl (hX b h)
  ·exact .inr (.inl h)
  ·exact .inr (.inr h))
theorem LgM.less (h:LgM w Y l p d n s t k xs pe) (hX:∀ b,X b→Y b):LgM w X l p d n s t k xs pe:=by
 obtain ⟨A,c,h1,h2,h3⟩:=h.log
 exact ⟨⟨A,c,h1.less hX,h2,h3⟩,h.good,h.ok,h.top,h.may,h.sin,h.dims,h.n2,h.room,h.pend⟩
theorem wrs_pend:∀ (xss:List (List Int)) (k:Dk) (i:Nat),Good k→(wrs k i xss).1.pend.length≤k.pend.length+xss.length
 | [],k,i,h=>nR _
 | ys :: r, k, i, h => by
  unfold wrs
  rw[if_pos h.wre]
  have h1:=wrs_pend r (k.wr (Dk.put i ys)) (i+1) (h.put i ys)
  have h2:(k.wr (Dk.put i ys)).pend.length≤k.pend.length+1:=by
   rw[h.wr]
   unfold Dk.put
   simp
  simp only[List.length_cons]
  omega
end
end
section
def layK (k:Dk) (s:Sup) (xs:List Seg) (i:Nat) (bs:List Int):Dk:=(wrs k (2+(i:Int)*s.b+usedG xs i).toNat (splitL (genG xs i) (usedG xs i) bs)).1
section
variable {w w':World} {X Y:Nat→Prop} {l p d n m c:Nat} {s:Sup} {t:Int} {k:Dk} {A:Option Addr} {xs:List Seg} {pe:Nat}
theorem LogM.setOff {sec:Int} {br:Bool} {q:Nat} {ty:TypeId} {cs:Array Value} (h:LogM w Y l p d n s t k sec A m c xs br) (hm:2≤m) (hq:Blk w q ty cs) (hsz:cs.size≤3) (hY:Y q) (i:Nat) (v:Value):LogM (w.setCell ⟨q,i,none⟩ v) Y l p d n s t k sec A m c xs br:=by
 obtain ⟨h1,h2,R,h3,h4,h5⟩:=h
 obtain ⟨b,off,rfl,hR,hc⟩:=h4.2 (by omega)
 have hbq:b≠q:=fun e=>by
  subst e
  have h9:=hc (m-1) (by omega) 2 _ rfl
  rw[hq.cell,Array.getElem?_eq_none (by omega)] at h9
  cases h9
 have hlq:l≠q:=fun e=>h2 (e▸hY)
 have hk:=(Kept.refl (·≠q) w).setCell (p:=⟨q,i,none⟩) (fun h=>h rfl) v
 refine ⟨h1.kept hk hlq,h2,(·=b),?_,⟨h4.1,fun _=>⟨b,off,rfl,rfl,fun i2 hi2 j u hu=>(hk.cell (p:=⟨b,_,none⟩) hbq).trans (hc i2 hi2 j u hu)⟩⟩,fun b2 e=>by subst e; exact ⟨nL (h5 _ hR).1 hk.size,(h5 _ hR).2⟩⟩
 exact StoreM.kept h3 hk (fun b2 _ hx e=>hx (.inl (e▸hY))) (fun b2 _ hh=>by
  rcases hh with hh | hh | hh
  ·exact .inl hh
  ·exact .inr (.inl hh)
  ·exact .inr (.inr (hh▸hR)))
theorem LgM.setOff {q:Nat} {ty:TypeId} {cs:Array Value} (h:LgM w Y l p d n s t k xs pe) (hq:Blk w q ty cs) (hsz:cs.size≤3) (hY:Y q) (i:Nat) (v:Value):LgM (w.setCell ⟨q,i,none⟩ v) Y l p d n s t k xs pe:=by
 obtain ⟨A,c,h1,h2,h3⟩:=h.log
 have:=h.ok.1.1
 exact ⟨⟨A,c,h1.setOff (by omega) hq hsz hY i v,h2,h3⟩,h.good,h.ok,h.top,h.may,h.sin,h.dims,h.n2,h.room,h.pend⟩
theorem LgM.setOff3 {q:Nat} {ty:TypeId} {a0 a1 a2:Value} (h:LgM w Y l p d n s t k xs pe) (hq:Blk w q ty #[a0,a1,a2]) (hY:Y q) (hX:∀ b,X b→Y b) (hne:∀ b,X b→b≠q) (b0 b1 b2:Value) :
 LgM (((w.setCell ⟨q,0,none⟩ b0).setCell ⟨q,1,none⟩ b1).setCell ⟨q,2,none⟩ b2) X l p d n s t k xs pe∧Blk (((w.setCell ⟨q,0,none⟩ b0).setCell ⟨q,1,none⟩ b1).setCell ⟨q,2,none⟩ b2) q ty #[b0,b1,b2]∧∀ V,Kept X V w→Kept X V (((w.setCell ⟨q,0,none⟩ b0).setCell ⟨q,1,none⟩ b1).setCell ⟨q,2,none⟩ b2):=by
 have e0:=hq.set_ 0 b0
 have e1:=e0.set_ 1 b1
 have e2:=e1.set_ 2 b2
 have g0:=h.setOff hq (by simp) hY 0 b0
 have g1:=g0.setOff e0 (by simp) hY 1 b1
 have g2:=g1.setOff e1 (by simp) hY 2 b2
 exact ⟨g2.less hX,e2,fun V hV=>((hV.setCell (p:=⟨q,0,none⟩) (fun hh=>hne q hh rfl) _).setCell (p:=⟨q,1,none⟩) (fun hh=>hne q hh rfl) _).setCell (p:=⟨q,2,none⟩) (fun hh=>hne q hh rfl) _⟩
theorem lay_lg {i:Nat} {B:Option Addr} {n0 c0:Nat} {bs:List Int} (h:LgM w X l p d n s t k xs pe) (hX:∀ b,X b→b<w.heap.size) (hpe:pe≤900000)
 (ho:opnR xs=(i:Nat)) (hfit:((cntOf n0:Nat):Int)≤leftR s.b xs) (hb:RowI .u8 w (·<w.heap.size) B n0 bs) (hbn:B=none→c0=0) (hbc:n0≤c0) (hn0:n0≤16384) (hby:Bytes bs) :
 Calls Tryz.prog 49 #[.pointer (some ⟨l,0,none⟩),.slice B n0 c0] w fun e w' =>
  e=.returned (.tuple #[.agg #[.int .i64 (i:Int),.int .u64 (genG xs i),.int .i64 (usedG xs i)],.int .i64 0])∧LgM w' X l p d n s t (layK k s xs i bs) (useX xs ((cntOf n0:Nat):Int)) (pe+cntOf n0)∧Kept X w w':=by
 obtain ⟨A,c,h1,h2,h3⟩:=h.log
 obtain ⟨b1,b2,b3,b4,b5,b6⟩:=opn_bounds h.ok ho
 have hue:=use_zero h.ok (n:=((cntOf n0:Nat):Int)) (by omega) (by omega) hfit
 have htop:=h.top
 have hsin:=h.sin
 have hmay:=h.may
 have hg:genG xs i≤18446744073709551615:=by
  have h9:s.g≤18446744073709551615:=by
   have:=hsin
   simp only[Sup.In,InS] at this
   omega
  omega
 have hb64:s.b≤64:=hmay.2.2.2.1
 have hoe:=opened_yes h.ok (by omega)
 have hbl:bs.length=n0:=hb.1
 have key:=lay_good (i:=i) (c0:=c0) h1 hX h2 h3 h.good hoe.1 (by rw[hoe.2,ho]) b1 hb hbn hbc hn0 ⟨by omega,hg⟩ ⟨by omega,by omega⟩ hue hby (by rw[← h.dims]; omega) h.may (by omega) h.room h.n2.2 (by have:=h.pend; omega)
 refine key.mono ?_
 rintro e w' ⟨he,A',c',h4,h5,h6,h7⟩
 refine ⟨he,⟨⟨A',c',h4,h6,h7⟩,(wrs_good _ _ _ h.good).2,ok_use hue,?_,h.may,h.sin,?_,h.n2,h.room,?_⟩,h5⟩
 ·obtain ⟨_,_,_,_,_,_,e5,_⟩:=use_facts hue
  rw[e5]; exact h.top
 ·obtain ⟨_,_,_,_,_,_,_,_,_,e5,_⟩:=use_facts hue
  rw[e5]; exact h.dims
 ·have h8:=wrs_pend (splitL (genG xs i) (usedG xs i) bs) k (2+(i:Int)*s.b+usedG xs i).toNat h.good
  rw[split_length,hbl] at h8
  have:=h.pend
  unfold layK
  omega
theorem turn_lg (h:LgM w X l p d n s t k xs pe) (hX:∀ b,X b→b<w.heap.size) (hpe:pe≤900000) (hgm:s.g+1≤18446744073709551615) :
 Calls Tryz.prog 48 #[.pointer (some ⟨l,0,none⟩)] w fun e w' =>
  ((nxtR xs<0∧e=.returned (.int .i64 6)∧LgM w' X l p d n s t k xs pe) ∨
   (∃ i:Nat,nxtR xs=(i:Nat)∧e=.returned (.int .i64 0)∧LgM w' X l p d n (genS s) (nxt t) (begK k s t i) (openX (sealedX s.b xs) (s.g+1)) 0))∧Kept X w w':=by
 obtain ⟨A,c,h1,h2,h3⟩:=h.log
 have hz:sealedX s.b xs=if sealE s.b xs=0 then sealX xs else xs:=rfl
 obtain ⟨z1,z2,z3,z4,z5,z6,z7⟩:=seal_facts h.ok hz
 have hok:∀ {P:Prop},¬ OkR s.b xs→P:=fun hh=>absurd h.ok hh
 have hop:nextE s.b xs=0→openE s.b (sealedX s.b xs) (s.g+1)=0:=fun hn=>turn_open h.ok hz h.top (by
  unfold nextE at hn
  rw[if_neg (fun k=>k h.ok)] at hn
  split at hn
  ·cases hn
  ·omega)
 have key:=turn_good h1 hX h2 h3 h.good (by have:=h.pend; omega) h.may h.sin hgm h.n2.1 h.n2.2 h.dims h.room hop
 refine key.mono ?_
 intro e w' ht
 rcases ht with ⟨hn,he,h4,h5⟩ | ⟨hn,he,v,hk,kk,ys,A',c',_,h4,h5,h6,h7,h8⟩
 ·have hne:nxtR xs<0∧nextE s.b xs=6:=by
   unfold nextE at hn ⊢
   rw[if_neg (fun k=>k h.ok)] at hn ⊢
   split at hn
   ·rename_i hh; exact ⟨hh,by rw[if_pos hh]⟩
   ·exact absurd rfl hn
  exact ⟨.inl ⟨hne.1,by rw[he,hne.2],⟨A,c,h4,h2,h3⟩,h.good,h.ok,h.top,h.may,h.sin,h.dims,h.n2,h.room,h.pend⟩,h5⟩
 ·have hE:=hop hn
  rcases h8 with ⟨h8,_⟩ | ⟨_,h8,h9⟩
  ·exact absurd hE h8
  subst h8 h9
  obtain ⟨i,i1,i2,i3,i4,i5,i6,i7,i8,i9,i10,i11⟩:=open_facts hE
  rw[z4] at i2
  have hnx:nxtR (sealedX s.b xs)=(i:Nat):=by rw[z4]; exact i2
  refine ⟨.inr ⟨i,i2,he,⟨A',c',?_,h6,h7⟩,?_,i3,?_,?_,?_,?_,h.n2,h.room,?_⟩,hk.trans h5 (fun b h=>h)⟩
  ·rw[hnx] at h4; exact h4
  ·exact ((((h.good.put _ _).sync).put _ _).sync)
  ·rw[i6]; exact Int.le_refl _
  ·have:=h.may
   exact ⟨this.1,this.2.1,this.2.2.1,this.2.2.2.1,by have:=this.2.2.2.2; show s.r≤s.g+1; omega⟩
  ·have:=h.sin
   simp only[Sup.In,InS] at this ⊢
   omega
  ·rw[i10,z6]; exact h.dims
  ·have hgd:Good ((setK k s t).wr (Dk.put (2+(i:Int)*s.b).toNat (hdrL (i:Int).toNat (s.g+1)))):=((h.good.put _ _).sync).put _ _
   have:=hgd.pend_sync
   unfold begK
   rw[this]
   exact nR _
theorem turn_facts (h:LgM w X l p d n s t k xs pe) {i:Nat} (hi:nxtR xs=(i:Nat)):opnR (openX (sealedX s.b xs) (s.g+1))=(i:Nat)∧genG (openX (sealedX s.b xs) (s.g+1)) i=s.g+1∧usedG (openX (sealedX s.b xs) (s.g+1)) i=1∧leftR s.b (openX (sealedX s.b xs) (s.g+1))=s.b-1:=by
 have hz:sealedX s.b xs=if sealE s.b xs=0 then sealX xs else xs:=rfl
 obtain ⟨_,_,_,z4,_⟩:=seal_facts h.ok hz
 have hE:=turn_open h.ok hz h.top (by omega)
 obtain ⟨j,_,j2,_,j4,_,_,j7,j8,j9,_⟩:=open_facts hE
 obtain rfl:j=i:=by omega
 exact ⟨j4,j7,j8,j9⟩
theorem left_open {sec:Int} {xs:List Seg} {K:Int} (h:OkR sec xs) (hK:1≤K) (hl:K≤leftR sec xs):∃ i:Nat,opnR xs=(i:Nat):=by
 rcases opn_or h with ⟨e,_⟩ | ⟨i,_,e,_⟩
 ·unfold leftR at hl
  rw[e,if_neg (by omega)] at hl
  omega
 ·exact ⟨i,e⟩
end
end
section
theorem rec_sectors (k f x s:Int) (A A':Option Addr) (n c n' c':Nat) (w:World) (h:May k f x s n n') (hn:n+n'≤1000000) :
 Calls Tryz.prog 47 #[.agg #[.int .i64 k,.int .u32 f,.int .u32 x,.int .u64 s,.slice A n c,.slice A' n' c']] w fun e w'=>e=.returned (.int .i64 (cntOf (21+n+n')))∧Below w.heap.size w w':=by
 have HB:=hI ((Below.refl w.heap.size w).alloc (nR _) (.cells #[.int .i64 k,.int .u32 f,.int .u32 x,.int .u64 s,.slice A n c,.slice A' n' c'] 33))
 have HS:=hI (fun v:World=>size_yes k f x s A A' n c n' c' v h)
 obtain ⟨m,hm⟩:∃ m,21+n+n'=m:=⟨_,rfl⟩
 have h0:21≤m:=by omega
 have h1:m≤1000021:=by omega
 have h2:(21:Int)≤(m:Int):=by omega
 have h3:(m:Int)≤1000021:=by omega
 rw[hm] at HS
 rw[hm]
 have HV:=hI (show ((m:Int)+48-1) / 48=((cntOf m:Nat):Int) by unfold cntOf; omega)
 clear h hm
 go_enter Tryz.func47,Tryz.ntmps47
 go_wp2_with fail
 refine (HS.out _).mono ?_
 rintro e w2 ⟨rfl,hb⟩
 have HB2:=hI (HB.out.trans (hb.mono HB.out.size))
 clear hb
 go_wp2_with fail
 go_ret
 rw[← HV.out]
 exact ⟨rfl,HB2.out⟩
end
end Go.Proofs.YtdkbpchmnhbhcaaGreat
