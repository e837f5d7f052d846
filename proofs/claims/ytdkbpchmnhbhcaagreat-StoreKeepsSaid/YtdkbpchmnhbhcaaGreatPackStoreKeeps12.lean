/- Texts of StoreKeeps, packed. -/
import Derived.Test.YtdkbpchmnhbhcaaGreatPackStoreKeeps11
import Derived.Defers
set_option linter.unusedVariables false
set_option linter.unusedSimpArgs false
set_option maxRecDepth 100000
set_option maxHeartbeats 16000000
namespace Go.Proofs.YtdkbpchmnhbhcaaGreat
open Go.RowKit
section
attribute [local go_sem] Oper.semAt_some
abbrev dp0:Oper:=⟨some 8,.fieldAddr 134 (.tmp 3) 1,0,"store.go:274",#[],none⟩
abbrev dp1:Oper:=⟨some 9,.load 130 (.tmp 8),130,"store.go:274",#[⟨0,.data⟩],none⟩
abbrev dp2:Oper:=⟨some 10,.move (.tmp 1),31,"store.go:274",#[],none⟩
abbrev dp3:Oper:=⟨some 11,.call { callee:=.value (.func 100),args:=#[.tmp 10],argTypes:=#[31] },29,"store.go:274",#[⟨2,.data⟩],none⟩
abbrev dp4:Oper:=⟨some 12,.fieldAddr 154 (.tmp 5) 1,0,"store.go:274",#[],none⟩
abbrev dp5:Oper:=⟨some 13,.load 35 (.tmp 12),35,"store.go:274",#[⟨4,.data⟩],none⟩
abbrev dp6:Oper:=⟨some 14,.call { callee:=.value (.func 140),args:=#[.tmp 9,.tmp 11,.tmp 13],argTypes:=#[130,29,35] },36,"store.go:274",#[⟨1,.data⟩,⟨3,.data⟩,⟨5,.data⟩,⟨3,.chain⟩],none⟩
abbrev ad0:Oper:=⟨some 8,.move (.tmp 0),56,"store.go:306",#[],none⟩
abbrev ad1:Oper:=⟨some 9,.nilCheck (.tmp 8),0,"store.go:306",#[⟨0,.data⟩],none⟩
abbrev ad2:Oper:=⟨some 10,.fieldAddr 137 (.tmp 9) 0,0,"store.go:306",#[⟨1,.data⟩],none⟩
abbrev ad3:Oper:=⟨some 11,.fieldAddr 134 (.tmp 10) 1,0,"store.go:306",#[⟨2,.data⟩],none⟩
abbrev ad4:Oper:=⟨some 12,.load 130 (.tmp 11),130,"store.go:306",#[⟨3,.data⟩],none⟩
abbrev ad5:Oper:=⟨some 13,.move (.tmp 1),31,"store.go:306",#[],none⟩
abbrev ad6:Oper:=⟨some 14,.call { callee:=.value (.func 100),args:=#[.tmp 13],argTypes:=#[31] },29,"store.go:306",#[⟨5,.data⟩],none⟩
abbrev ad7:Oper:=⟨some 15,.load 35 (.tmp 5),35,"store.go:306",#[],none⟩
abbrev ad8:Oper:=⟨some 16,.call { callee:=.value (.func 186),args:=#[.tmp 12,.tmp 14,.tmp 15],argTypes:=#[130,29,35] },36,"store.go:306",#[⟨4,.data⟩,⟨6,.data⟩,⟨7,.data⟩,⟨6,.chain⟩],none⟩
abbrev ad9:Oper:=⟨some 7,.assign (.tmp 16),36,"store.go:306",#[⟨8,.data⟩,⟨8,.chain⟩,⟨0,.phase⟩,⟨1,.phase⟩,⟨2,.phase⟩,⟨3,.phase⟩,⟨4,.phase⟩,⟨5,.phase⟩,⟨6,.phase⟩,⟨7,.phase⟩,⟨8,.phase⟩],none⟩
abbrev ag0:Oper:=⟨some 20,.move (.tmp 0),56,"store.go:309",#[],none⟩
abbrev ag1:Oper:=⟨some 21,.nilCheck (.tmp 20),0,"store.go:309",#[⟨0,.data⟩],none⟩
abbrev ag2:Oper:=⟨some 22,.fieldAddr 137 (.tmp 21) 1,0,"store.go:309",#[⟨1,.data⟩],none⟩
abbrev ag3:Oper:=⟨some 23,.load 135 (.tmp 22),135,"store.go:309",#[⟨2,.data⟩],none⟩
abbrev ag4:Oper:=⟨some 24,.fieldAddr 35 (.tmp 5) 0,0,"store.go:309",#[],none⟩
abbrev ag5:Oper:=⟨some 25,.load 3 (.tmp 24),3,"store.go:309",#[⟨4,.data⟩],none⟩
abbrev ag6:Oper:=⟨some 26,.indexAddr 135 (.tmp 23) (.tmp 25),0,"store.go:309",#[⟨3,.data⟩,⟨5,.data⟩],none⟩
abbrev ag7:Oper:=⟨some 27,.load 139 (.tmp 26),139,"store.go:309",#[⟨6,.data⟩],none⟩
abbrev ag8:Oper:=⟨some 28,.move (.tmp 1),31,"store.go:309",#[],none⟩
abbrev ag9:Oper:=⟨some 29,.call { callee:=.value (.func 80),args:=#[.tmp 28],argTypes:=#[31] },30,"store.go:309",#[⟨8,.data⟩],none⟩
abbrev zHp:Oper:=⟨some 30,.call { callee:=.value (.func 187),args:=#[.tmp 27,.tmp 29],argTypes:=#[139,30] },36,"store.go:309",#[⟨7,.data⟩,⟨9,.data⟩,⟨9,.chain⟩],none⟩
abbrev zNB:Oper:=⟨some 6,.assign (.tmp 30),36,"store.go:309",#[⟨10,.data⟩,⟨10,.chain⟩,⟨0,.phase⟩,⟨1,.phase⟩,⟨2,.phase⟩,⟨3,.phase⟩,⟨4,.phase⟩,⟨5,.phase⟩,⟨6,.phase⟩,⟨7,.phase⟩,⟨8,.phase⟩,⟨9,.phase⟩,⟨10,.phase⟩],none⟩
abbrev en0:Oper:=⟨some 6,.move (.tmp 0),56,"store.go:300",#[],none⟩
abbrev en1:Oper:=⟨some 7,.nilCheck (.tmp 6),0,"store.go:300",#[⟨0,.data⟩],none⟩
abbrev en2:Oper:=⟨some 8,.fieldAddr 137 (.tmp 7) 0,0,"store.go:300",#[⟨1,.data⟩],none⟩
abbrev en3:Oper:=⟨some 9,.fieldAddr 134 (.tmp 8) 1,0,"store.go:300",#[⟨2,.data⟩],none⟩
abbrev en4:Oper:=⟨some 10,.load 130 (.tmp 9),130,"store.go:300",#[⟨3,.data⟩],none⟩
abbrev en5:Oper:=⟨some 11,.move (.tmp 1),31,"store.go:300",#[],none⟩
abbrev en6:Oper:=⟨some 12,.call { callee:=.value (.func 100),args:=#[.tmp 11],argTypes:=#[31] },29,"store.go:300",#[⟨5,.data⟩],none⟩
abbrev en7:Oper:=⟨some 13,.load 35 (.tmp 5),35,"store.go:300",#[],none⟩
abbrev en8:Oper:=⟨some 14,.call { callee:=.value (.func 140),args:=#[.tmp 10,.tmp 12,.tmp 13],argTypes:=#[130,29,35] },36,"store.go:300",#[⟨4,.data⟩,⟨6,.data⟩,⟨7,.data⟩,⟨6,.chain⟩],none⟩
abbrev uf (B:xu):Value:=.agg #[.pointer (some ⟨B.l,0,none⟩),.pointer (some ⟨B.x,0,none⟩)]
section
variable {w w':World} {X Y:Nat→Prop} {B:xu} {slots:Nat} {s:Sup} {xs:List Seg} {st:List zm} {bl:List (List Int)} {u:Bool} {A:Option Addr} {m c:Nat} {us:List Int}
theorem zDI (l x:Nat) (A:Option Addr) (m c:Nat) (w:World):Calls Tryz.prog 75 #[.agg #[.pointer (some ⟨l,0,none⟩),.pointer (some ⟨x,0,none⟩)],.slice A m c,.agg jE] w fun e w'=>e=.returned (.tuple #[])∧Below w.heap.size w w':=by
 have HB:=hI (((Below.refl w.heap.size w).alloc (nR _) (.cells #[.pointer (some ⟨l,0,none⟩),.pointer (some ⟨x,0,none⟩)] 134)).alloc (by simp) (.cells jE 154))
 go_enter Tryz.func75,Tryz.ntmps75
 go_wp2
 go_end0
 exact ⟨rfl,HB.out⟩
abbrev SQ (q:zm) (r0 r1 r2 r3 r4 r5:Value):Array Value:=#[.bool true,.int .i64 q.1.1,.int .u64 q.1.2.1,.int .i64 q.1.2.2,r0,r1,r2,r3,r4,r5]
theorem Dq (h:zT w X B slots s xs st bl u) {q:zm} (hq:q∈st) (hk:zW .u8 w (·<w.heap.size) A m (keyOf q.2)) (hb:Bytes (keyOf q.2)) (hm:m≤1000000) (r0 r1 r2 r3 r4 r5:Value) :
 Calls Tryz.prog 75 #[uf B,.slice A m c,.agg (SQ q r0 r1 r2 r3 r4 r5)] w fun e w'=>e=.returned (.tuple #[])∧zT w' X B slots s xs (qV st (keyOf q.2)) bl u∧Kept (fun b=>b<w.heap.size∧b≠B.x) w w':=by
 obtain ⟨w1,hw1⟩:∃ w1,w1=(w.alloc (.cells #[.pointer (some ⟨B.l,0,none⟩),.pointer (some ⟨B.x,0,none⟩)] 134)).alloc (.cells (SQ q r0 r1 r2 r3 r4 r5) 154):=⟨_,rfl⟩
 have hb1:Below w.heap.size w w1:=by rw[hw1]; exact ((Below.refl _ w).alloc (nR _) _).alloc (by simp) _
 have ql:=hI (show z8 w1 w.heap.size 134 #[.pointer (some ⟨B.l,0,none⟩),.pointer (some ⟨B.x,0,none⟩)] by rw[hw1]; exact (z8.new w _ _).alloc _)
 have yS:=hI (show z8 w1 (w.heap.size+1) 154 (SQ q r0 r1 r2 r3 r4 r5) by rw[hw1]; exact zY w _ _ _)
 have HB1:=hI hb1
 have yQ:=hI (h.below hb1)
 have jh:=hI (hk.below hb1 (fun b h=>h))
 have HQ:=hI hq
 have qm:=hI hb
 have HM:=hI hm
 have wB:=hI h.ix.lt
 have HW1:=hI hw1
 clear hb1 hw1 h hq hk hb hm
 go_enter Tryz.func75,Tryz.ntmps75
 go_upto_region 1 with fail
 rw[← HW1.out]
 have e0:w1.cell? ⟨w.heap.size+1,0,none⟩=some (.bool true):=yS.out.cell 0
 go_upto_region 2 with fail
 clear e0
 refine zB.region (fun W=>Below w1.heap.size w1 W) [6] (by kernel_rfl) ((Below.refl _ _).drew) (fun hė=>?_)
 generalize w1.drew=vd at *
 refine zB.takeG (i:=0) (oi:=dp0) (v:=?_) rfl (by kernel_rfl) (by kernel_rfl) (by kernel_rfl) (by kernel_rfl) (by kernel_rfl) (fun _ _ _ h=>h) (by rfl) ?_ hė ?_
 rotate_left
 ·intro W hSW; unfold dp0; go_simp; with_reducible rfl
 simp only[dp0,Act.put,sA,sZ,sS]
 refine zB.takeG (i:=1) (oi:=dp1) (v:=?_) rfl (by kernel_rfl) (by kernel_rfl) (by kernel_rfl) (by kernel_rfl) (by kernel_rfl) (fun _ _ _ h=>h) (by rfl) ?_ hė ?_
 rotate_left
 ·intro W hSW; have h9:=(ql.out.below hSW ql.out.lt).cell 1; clear hSW; unfold dp1; go_simp; with_reducible rfl
 simp only[dp1,Act.put,sA,sZ,sS]
 refine zB.takeG (i:=2) (oi:=dp2) (v:=?_) rfl (by kernel_rfl) (by kernel_rfl) (by kernel_rfl) (by kernel_rfl) (by kernel_rfl) (fun _ _ _ h=>h) (by rfl) ?_ hė ?_
 rotate_left
 ·intro W hSW; unfold dp2; go_simp; with_reducible rfl
 simp only[dp2,Act.put,sA,sZ,sS]
 refine zB.takeG (i:=4) (oi:=dp4) (v:=?_) rfl (by kernel_rfl) (by kernel_rfl) (by kernel_rfl) (by kernel_rfl) (by kernel_rfl) (fun _ _ _ h=>h) (by rfl) ?_ hė ?_
 rotate_left
 ·intro W hSW; unfold dp4; go_simp; with_reducible rfl
 simp only[dp4,Act.put,sA,sZ,sS]
 refine zB.takeG (i:=5) (oi:=dp5) (v:=.agg #[.int .i64 q.1.1,.int .u64 q.1.2.1,.int .i64 q.1.2.2]) rfl (by kernel_rfl) (by kernel_rfl) (by kernel_rfl) (by kernel_rfl) (by kernel_rfl) (fun _ _ _ h=>h) (by rfl) ?_ hė ?_
 ·intro W hSW; have h7:W.cell? ⟨w.heap.size+1,1,none⟩=some (.int .i64 q.1.1):=(yS.out.below hSW yS.out.lt).cell 1; have h8:W.cell? ⟨w.heap.size+1,2,none⟩=some (.int .u64 q.1.2.1):=(yS.out.below hSW yS.out.lt).cell 2; have h9:W.cell? ⟨w.heap.size+1,3,none⟩=some (.int .i64 q.1.2.2):=(yS.out.below hSW yS.out.lt).cell 3; clear hSW; unfold dp5; go_simp
 simp only[dp5,Act.put,sA,sZ,sS]
 refine tO 3 dp3 ?_
 intro K hK
 refine zN 100 #[.tmp 10] #[31] rfl rfl Tryz.func100 rfl rfl [.slice A m c] rfl ((mh A m c (keyOf q.2) vd (jh.out.below hė (fun b h=>nL h HB1.out.size)) (fun b h=>nL h (nT HB1.out.size hė.size)) qm.out HM.out).mono ?_)
 rintro e w2 ⟨rfl,rfl⟩
 refine ⟨_,rfl,?_⟩
 simp only[dp3,Act.put,sA,sZ,sS]
 refine hU hK rfl _ _ hė (fun hė=>?_)
 clear hK K
 refine tO 6 dp6 ?_
 intro K hK
 refine zN 140 #[.tmp 9,.tmp 11,.tmp 13] #[130,29,35] rfl rfl Tryz.func140 rfl rfl [.pointer (some ⟨B.x,0,none⟩),.int .u32 (xJ (keyOf q.2):Nat),.agg (gF q.1).toArray] rfl ((Wd (yQ.out.ix.below hė yQ.out.ix.lt) (xJ (keyOf q.2)) q.1).mono ?_)
 rintro e w3 ⟨rfl,hx3,hk3⟩
 refine ⟨_,rfl,?_⟩
 simp only[dp6,Act.put,sA,sZ,sS]
 refine hK.out _ _ (fun h=>by cases h) (fun _=>?_)
 clear hK K
 refine zB.done (by kernel_rfl) ?_ _
 go_wp2_with fail
 go_end0
 have hr:=zHQ yQ.out.inv HQ.out
 unfold tu at hr
 rw[hr] at hx3
 have hm2:=(yQ.out.below hė).ixTo hk3 hx3 rfl yQ.out.inv.out
 refine ⟨rfl,hm2,?_⟩
 have h1:=(Kept.of_below (S:=fun b=>b<w.heap.size∧b≠B.x) HB1.out (fun b h=>h.1)).trans (Kept.of_below (S:=fun b=>b<w.heap.size∧b≠B.x) hė (fun b h=>nL h.1 HB1.out.size)) (fun b h=>h)
 exact h1.trans hk3 (fun b h=>⟨nL h.1 (nT HB1.out.size hė.size),h.2⟩)
theorem Ir (h:zT w X B slots s xs st bl u) {q:zm} (hq:q∈st) (hk:zW .u8 w (·<w.heap.size) A m (keyOf q.2)) (hb:Bytes (keyOf q.2)) (hm:m≤1000000) (b1 b2:Nat) :
 Calls Tryz.prog 75 #[uf B,.slice A m c,.agg (wY q b1 b2)] w fun e w'=>e=.returned (.tuple #[])∧zT w' X B slots s xs (qV st (keyOf q.2)) bl u∧Kept (fun b=>b<w.heap.size∧b≠B.x) w w' :=
 Dq h hq hk hb hm _ _ _ _ _ _
def rJ (bl:List (List Int)) (i:Nat) (us:List Int):List (List Int):=bl.set i (setBits (bl.getD i []) (jk (yV start us) (bl.getD i [])))
theorem Nj (xs:List Int) (i:Nat):(setBit xs i).length=xs.length:=by unfold setBit; rw[List.length_set]
theorem XK:∀ (ps xs:List Int),(setBits xs ps).length=xs.length
 | [],xs=>rfl
 | p::r,xs=>by
  show (setBits (setBit xs p.toNat) r).length=_
  rw[XK r,Nj]
theorem zJZ (h:zT w X B slots s xs st bl u) {i:Nat} {g sc:Int} {bs:List Int} (hi:i<bl.length) (hk:zW .u8 w (fun b=>b<w.heap.size∧¬ B.own b) A m (keyOf bs)) (hb:Bytes (keyOf bs)) (hm:m≤1000000)
 (hinv:yN B.k s xs (st++[(((i:Int),g,sc),bs)])) (hfr:∀ p,p∈st→p.1≠((i:Int),g,sc)) (hsl:st.length≠slots) :
 Calls Tryz.prog 138 #[.pointer (some ⟨B.q,0,none⟩),.slice A m c,.agg #[.int .i64 (i:Int),.int .u64 g,.int .i64 sc]] w fun e w'=>e=.returned (.int .i64 0)∧zT w' X B slots s xs (st++[(((i:Int),g,sc),bs)]) (rJ bl i (keyOf bs)) u∧Kept (fun b=>b<w.heap.size∧¬ B.own b) w w':=by
 obtain ⟨w1,hw1⟩:∃ w1,w1=w.alloc (.cells #[.int .i64 (i:Int),.int .u64 g,.int .i64 sc] 35):=⟨_,rfl⟩
 have hb1:Below w.heap.size w w1:=by rw[hw1]; exact (Below.refl _ w).alloc (nR _) _
 have HA1:=hI (show z8 w1 w.heap.size 35 #[.int .i64 (i:Int),.int .u64 g,.int .i64 sc] by rw[hw1]; exact z8.new w _ _)
 have HB1:=hI hb1
 have HOL:=hI (fun b (hb:B.own b)=>h.own_lt hb)
 have yQ:=hI (h.below hb1)
 have jh:=hI (hk.below hb1 (fun b h=>h.1))
 have qm:=hI hb
 have HM:=hI hm
 have HI:=hI hinv
 have BI:=hI hfr
 have HSL:=hI hsl
 have VI:=hI hi
 have HXQ:=hI h.xq
 have HW1:=hI hw1
 clear hb1 hw1 h hk hb hm hinv hfr hsl hi
 go_enter Tryz.func138,Tryz.ntmps138
 go_upto_region 1 with fail
 rw[← HW1.out]
 refine zB.region (fun W=>Below w1.heap.size w1 W) [8,9] (by kernel_rfl) ((Below.refl _ _).drew) (fun hė=>?_)
 generalize w1.drew=vd at *
 refine zB.takeG (i:=0) (oi:=ad0) (v:=?_) rfl (by kernel_rfl) (by kernel_rfl) (by kernel_rfl) (by kernel_rfl) (by kernel_rfl) (fun _ _ _ h=>h) (by rfl) ?_ hė ?_
 rotate_left
 ·intro W hSW; unfold ad0; go_simp; with_reducible rfl
 simp only[ad0,Act.put,sA,sZ,sS]
 refine zB.takeG (i:=1) (oi:=ad1) (v:=?_) rfl (by kernel_rfl) (by kernel_rfl) (by kernel_rfl) (by kernel_rfl) (by kernel_rfl) (fun _ _ _ h=>h) (by rfl) ?_ hė ?_
 rotate_left
 ·intro W hSW; unfold ad1; go_simp; with_reducible rfl
 simp only[ad1,Act.put,sA,sZ,sS]
 refine zB.takeG (i:=2) (oi:=ad2) (v:=?_) rfl (by kernel_rfl) (by kernel_rfl) (by kernel_rfl) (by kernel_rfl) (by kernel_rfl) (fun _ _ _ h=>h) (by rfl) ?_ hė ?_
 rotate_left
 ·intro W hSW; unfold ad2; go_simp; with_reducible rfl
 simp only[ad2,Act.put,sA,sZ,sS]
 refine zB.takeG (i:=3) (oi:=ad3) (v:=?_) rfl (by kernel_rfl) (by kernel_rfl) (by kernel_rfl) (by kernel_rfl) (by kernel_rfl) (fun _ _ _ h=>h) (by rfl) ?_ hė ?_
 rotate_left
 ·intro W hSW; unfold ad3; go_simp; with_reducible rfl
 simp only[ad3,Act.put,sA,sZ,sS]
 refine zB.takeG (i:=4) (oi:=ad4) (v:=?_) rfl (by kernel_rfl) (by kernel_rfl) (by kernel_rfl) (by kernel_rfl) (by kernel_rfl) (fun _ _ _ h=>h) (by rfl) ?_ hė ?_
 rotate_left
 ·intro W hSW; have h9:=(yQ.out.below hSW).cells.2.1; clear hSW; unfold ad4; go_simp; with_reducible rfl
 simp only[ad4,Act.put,sA,sZ,sS]
 refine zB.takeG (i:=5) (oi:=ad5) (v:=?_) rfl (by kernel_rfl) (by kernel_rfl) (by kernel_rfl) (by kernel_rfl) (by kernel_rfl) (fun _ _ _ h=>h) (by rfl) ?_ hė ?_
 rotate_left
 ·intro W hSW; unfold ad5; go_simp; with_reducible rfl
 simp only[ad5,Act.put,sA,sZ,sS]
 refine zB.takeG (i:=7) (oi:=ad7) (v:=.agg #[.int .i64 (i:Int),.int .u64 g,.int .i64 sc]) rfl (by kernel_rfl) (by kernel_rfl) (by kernel_rfl) (by kernel_rfl) (by kernel_rfl) (fun _ _ _ h=>h) (by rfl) ?_ hė ?_
 ·intro W hSW; have h7:W.cell? ⟨w.heap.size,0,none⟩=some (.int .i64 (i:Int)):=(HA1.out.below hSW HA1.out.lt).cell 0; have h8:W.cell? ⟨w.heap.size,1,none⟩=some (.int .u64 g):=(HA1.out.below hSW HA1.out.lt).cell 1; have h9:W.cell? ⟨w.heap.size,2,none⟩=some (.int .i64 sc):=(HA1.out.below hSW HA1.out.lt).cell 2; clear hSW; unfold ad7; go_simp
 simp only[ad7,Act.put,sA,sZ,sS]
 refine tO 6 ad6 ?_
 intro K hK
 refine zN 100 #[.tmp 13] #[31] rfl rfl Tryz.func100 rfl rfl [.slice A m c] rfl ((mh A m c (keyOf bs) vd (jh.out.below hė (fun b h=>nL h.1 HB1.out.size)) (fun b h=>nL h.1 (nT HB1.out.size hė.size)) qm.out HM.out).mono ?_)
 rintro e w2 ⟨rfl,rfl⟩
 refine ⟨_,rfl,?_⟩
 simp only[ad6,Act.put,sA,sZ,sS]
 refine hU hK rfl _ _ hė (fun hė=>?_)
 clear hK K
 refine tO 8 ad8 ?_
 intro K hK
 refine zN 186 #[.tmp 12,.tmp 14,.tmp 15] #[130,29,35] rfl rfl Tryz.func186 rfl rfl [.pointer (some ⟨B.x,0,none⟩),.int .u32 (xJ (keyOf bs):Nat),.agg (gF ((i:Int),g,sc)).toArray] rfl ((zHs (yQ.out.ix.below hė yQ.out.ix.lt) (xJ (keyOf bs)) (Hg _).1 ((i:Int),g,sc)).mono ?_)
 rintro e w3 ⟨rfl,hx3,hk3⟩
 have he:=zHR (slots:=slots) (bs:=bs) BI.out HSL.out
 rw[he] at hx3
 rw[he]
 refine ⟨_,rfl,?_⟩
 simp only[ad8,Act.put,sA,sZ,sS]
 have hm2:=(yQ.out.below hė).ixTo hk3 hx3 rfl HI.out
 have hkk:=((Kept.of_below (S:=fun b=>b<w.heap.size∧¬ B.own b) HB1.out (fun b h=>h.1)).trans (Kept.of_below (S:=fun b=>b<w.heap.size∧¬ B.own b) hė (fun b h=>nL h.1 HB1.out.size)) (fun b h=>h)).trans hk3 (fun b h=>⟨nL h.1 (nT HB1.out.size hė.size),fun e=>h.2 (.inr (.inl e))⟩)
 have bJ:=hI hm2
 have HKK:=hI hkk
 have yH:=hI ((jh.out.below hė (fun b h=>nL h.1 HB1.out.size)).kept hk3 (fun b h=>⟨nL h.1 (nT HB1.out.size hė.size),fun e=>h.2 (.inr (.inl e))⟩))
 have yt:=hI ((HA1.out.below hė HA1.out.lt).kept hk3 ⟨nL HA1.out.lt hė.size,fun e=>by have:=HOL.out B.x (.inr (.inl rfl)); omega⟩)
 clear he hx3 hk3 hm2 hkk
 refine hK.out _ _ (fun h=>by cases h) (fun _=>?_)
 clear hK K hė
 refine tO 9 ad9 ?_
 intro K hK
 go_simp
 refine hK.out _ _ (fun h=>by cases h) (fun _=>?_)
 clear hK K
 refine zB.done (by kernel_rfl) ?_ _
 go_upto_region 4 with fail
 obtain ⟨f,hf⟩:∃ f,B.fs[i]? = some f:=⟨_,List.getElem?_eq_getElem (by rw[bJ.out.fm.len]; exact VI.out)⟩
 have HF:=hI hf
 have gP:=hI (show i<B.fs.length by rw[bJ.out.fm.len]; exact VI.out)
 clear hf
 rename_i _ _
 refine zB.region (fun W=>Below w3.heap.size w3 W) [10,11] (by kernel_rfl) ((Below.refl _ _).drew) (fun hė=>?_)
 generalize w3.drew=vd at *
 refine zB.takeG (i:=0) (oi:=ag0) (v:=?_) rfl (by kernel_rfl) (by kernel_rfl) (by kernel_rfl) (by kernel_rfl) (by kernel_rfl) (fun _ _ _ h=>h) (by rfl) ?_ hė ?_
 rotate_left
 ·intro W hSW; unfold ag0; go_simp; with_reducible rfl
 simp only[ag0,Act.put,sA,sZ,sS]
 refine zB.takeG (i:=1) (oi:=ag1) (v:=?_) rfl (by kernel_rfl) (by kernel_rfl) (by kernel_rfl) (by kernel_rfl) (by kernel_rfl) (fun _ _ _ h=>h) (by rfl) ?_ hė ?_
 rotate_left
 ·intro W hSW; unfold ag1; go_simp; with_reducible rfl
 simp only[ag1,Act.put,sA,sZ,sS]
 refine zB.takeG (i:=2) (oi:=ag2) (v:=?_) rfl (by kernel_rfl) (by kernel_rfl) (by kernel_rfl) (by kernel_rfl) (by kernel_rfl) (fun _ _ _ h=>h) (by rfl) ?_ hė ?_
 rotate_left
 ·intro W hSW; unfold ag2; go_simp; with_reducible rfl
 simp only[ag2,Act.put,sA,sZ,sS]
 refine zB.takeG (i:=3) (oi:=ag3) (v:=?_) rfl (by kernel_rfl) (by kernel_rfl) (by kernel_rfl) (by kernel_rfl) (by kernel_rfl) (fun _ _ _ h=>h) (by rfl) ?_ hė ?_
 rotate_left
 ·intro W hSW; have h9:=(bJ.out.below hSW).cells.2.2.1; clear hSW; unfold ag3; go_simp; with_reducible rfl
 simp only[ag3,Act.put,sA,sZ,sS]
 refine zB.takeG (i:=4) (oi:=ag4) (v:=?_) rfl (by kernel_rfl) (by kernel_rfl) (by kernel_rfl) (by kernel_rfl) (by kernel_rfl) (fun _ _ _ h=>h) (by rfl) ?_ hė ?_
 rotate_left
 ·intro W hSW; unfold ag4; go_simp; with_reducible rfl
 simp only[ag4,Act.put,sA,sZ,sS]
 refine zB.takeG (i:=5) (oi:=ag5) (v:=?_) rfl (by kernel_rfl) (by kernel_rfl) (by kernel_rfl) (by kernel_rfl) (by kernel_rfl) (fun _ _ _ h=>h) (by rfl) ?_ hė ?_
 rotate_left
 ·intro W hSW; have h7:W.cell? ⟨w.heap.size,0,none⟩=some (.int .i64 (i:Int)):=(yt.out.below hSW yt.out.lt).cell 0; clear hSW; unfold ag5; go_simp; with_reducible rfl
 simp only[ag5,Act.put,sA,sZ,sS]
 refine zB.takeG (i:=6) (oi:=ag6) (v:=.pointer (some ⟨B.F,i,none⟩)) rfl (by kernel_rfl) (by kernel_rfl) (by kernel_rfl) (by kernel_rfl) (by kernel_rfl) (fun _ _ _ h=>h) (by rfl) ?_ hė ?_
 ·intro W hSW; have h7:=gP.out; clear hSW; unfold ag6; go_simp
 simp only[ag6,Act.put,sA,sZ,sS]
 refine zB.takeG (i:=7) (oi:=ag7) (v:=.pointer (some ⟨f.1,0,none⟩)) rfl (by kernel_rfl) (by kernel_rfl) (by kernel_rfl) (by kernel_rfl) (by kernel_rfl) (fun _ _ _ h=>h) (by rfl) ?_ hė ?_
 ·intro W hSW; obtain ⟨cs,UN,hcs⟩:=(bJ.out.below hSW).fm.row; have h8:=UN.cell i; rw[hcs i f HF.out] at h8; clear hSW hcs; unfold ag7; go_simp
 simp only[ag7,Act.put,sA,sZ,sS]
 refine zB.takeG (i:=8) (oi:=ag8) (v:=?_) rfl (by kernel_rfl) (by kernel_rfl) (by kernel_rfl) (by kernel_rfl) (by kernel_rfl) (fun _ _ _ h=>h) (by rfl) ?_ hė ?_
 rotate_left
 ·intro W hSW; unfold ag8; go_simp; with_reducible rfl
 simp only[ag8,Act.put,sA,sZ,sS]
 have hlt3:=HKK.out.size
 refine tO 9 ag9 ?_
 intro K hK
 refine zN 80 #[.tmp 28] #[31] rfl rfl Tryz.func80 rfl rfl [.slice A m c] rfl ((Ye A m c (keyOf bs) vd.heap.size vd ((yH.out.below hė (fun b h=>nL h.1 hlt3)).more (fun b h=>nL h.1 (nT hlt3 hė.size))).toRow qm.out (by have:=HM.out; omega)).mono ?_)
 rintro e w4 ⟨rfl,rfl⟩
 refine ⟨_,rfl,?_⟩
 simp only[ag9,Act.put,sA,sZ,sS]
 refine hU hK rfl _ _ hė (fun hė=>?_)
 clear hK K
 have Di:=bJ.out.below hė
 refine tO 10 zHp ?_
 intro K hK
 refine zN 187 #[.tmp 27,.tmp 29] #[139,30] rfl rfl Tryz.func187 rfl rfl [.pointer (some ⟨f.1,0,none⟩),.int .u64 (yV start (keyOf bs))] rfl ((zDQ _ f.1 f.2 (bl.getD i []) (yV start (keyOf bs)) (Di.fm.fil i f HF.out) (Zt start _ (by decide)).1).mono ?_)
 rintro e w5 ⟨rfl,hf5,hk5⟩
 refine ⟨_,rfl,?_⟩
 simp only[zHp,Act.put,sA,sZ,sS]
 have PO:=Di.filTo HF.out hk5 hf5 (by rw[XK]; exact Di.fm.bits i VI.out)
 have hkk:=(HKK.out.trans (Kept.of_below (S:=fun b=>b<w.heap.size∧¬ B.own b) hė (fun b h=>nL h.1 hlt3)) (fun b h=>h)).trans hk5 (fun b h=>⟨nL h.1 (nT hlt3 hė.size),fun e=>h.2 (.inr (.inr (.inr ⟨f,List.mem_of_getElem? HF.out,.inr e⟩)))⟩)
 have wJ:=hI PO
 have kS:=hI hkk
 clear PO hkk hf5 hk5 Di
 refine hK.out _ _ (fun h=>by cases h) (fun _=>?_)
 clear hK K hė
 refine tO 11 zNB ?_
 intro K hK
 go_simp
 refine hK.out _ _ (fun h=>by cases h) (fun _=>?_)
 clear hK K
 refine zB.done (by kernel_rfl) ?_ _
 go_wp2_with fail
 go_ret
 exact ⟨rfl,wJ.out,kS.out⟩
theorem Ht (h:zT w X B slots s xs st bl u) {i:Nat} {g sc:Int} {bs:List Int} (hi:i<bl.length) (hk:zW .u8 w (fun b=>b<w.heap.size∧¬ B.own b) A m (keyOf bs)) (hb:Bytes (keyOf bs)) (hm:m≤1000000)
 (hinv:yN B.k s xs (st++[(((i:Int),g,sc),bs)])) (hfr:∀ p,p∈st→p.1≠((i:Int),g,sc)) (hsl:st.length≠slots) :
 Calls Tryz.prog 76 #[.pointer (some ⟨B.q,0,none⟩),.slice A m c,.agg #[.int .i64 (i:Int),.int .u64 g,.int .i64 sc]] w fun e w'=>e=.returned (.tuple #[])∧zT w' X B slots s xs (st++[(((i:Int),g,sc),bs)]) (rJ bl i (keyOf bs)) u∧Kept (fun b=>b<w.heap.size∧¬ B.own b) w w':=by
 obtain ⟨w1,hw1⟩:∃ w1,w1=w.alloc (.cells #[.int .i64 (i:Int),.int .u64 g,.int .i64 sc] 35):=⟨_,rfl⟩
 have hb1:Below w.heap.size w w1:=by rw[hw1]; exact (Below.refl _ w).alloc (nR _) _
 have HA1:=hI (show z8 w1 w.heap.size 35 #[.int .i64 (i:Int),.int .u64 g,.int .i64 sc] by rw[hw1]; exact z8.new w _ _)
 have HB1:=hI hb1
 have HOL:=hI (fun b (hb:B.own b)=>h.own_lt hb)
 have yQ:=hI (h.below hb1)
 have jh:=hI (hk.below hb1 (fun b h=>h.1))
 have qm:=hI hb
 have HM:=hI hm
 have HI:=hI hinv
 have BI:=hI hfr
 have HSL:=hI hsl
 have VI:=hI hi
 have HW1:=hI hw1
 have yR:=hI h.inv
 clear hb1 hw1 h hk hb hm hinv hfr hsl hi
 go_enter Tryz.func76,Tryz.ntmps76
 go_upto_region 1 with fail
 rw[← HW1.out]
 refine zB.region (fun W=>Below w1.heap.size w1 W) [8] (by kernel_rfl) ((Below.refl _ _).drew) (fun hė=>?_)
 generalize w1.drew=vd at *
 refine zB.takeG (i:=0) (oi:=en0) (v:=?_) rfl (by kernel_rfl) (by kernel_rfl) (by kernel_rfl) (by kernel_rfl) (by kernel_rfl) (fun _ _ _ h=>h) (by rfl) ?_ hė ?_
 rotate_left
 ·intro W hSW; unfold en0; go_simp; with_reducible rfl
 simp only[en0,Act.put,sA,sZ,sS]
 refine zB.takeG (i:=1) (oi:=en1) (v:=?_) rfl (by kernel_rfl) (by kernel_rfl) (by kernel_rfl) (by kernel_rfl) (by kernel_rfl) (fun _ _ _ h=>h) (by rfl) ?_ hė ?_
 rotate_left
 ·intro W hSW; unfold en1; go_simp; with_reducible rfl
 simp only[en1,Act.put,sA,sZ,sS]
 refine zB.takeG (i:=2) (oi:=en2) (v:=?_) rfl (by kernel_rfl) (by kernel_rfl) (by kernel_rfl) (by kernel_rfl) (by kernel_rfl) (fun _ _ _ h=>h) (by rfl) ?_ hė ?_
 rotate_left
 ·intro W hSW; unfold en2; go_simp; with_reducible rfl
 simp only[en2,Act.put,sA,sZ,sS]
 refine zB.takeG (i:=3) (oi:=en3) (v:=?_) rfl (by kernel_rfl) (by kernel_rfl) (by kernel_rfl) (by kernel_rfl) (by kernel_rfl) (fun _ _ _ h=>h) (by rfl) ?_ hė ?_
 rotate_left
 ·intro W hSW; unfold en3; go_simp; with_reducible rfl
 simp only[en3,Act.put,sA,sZ,sS]
 refine zB.takeG (i:=4) (oi:=en4) (v:=?_) rfl (by kernel_rfl) (by kernel_rfl) (by kernel_rfl) (by kernel_rfl) (by kernel_rfl) (fun _ _ _ h=>h) (by rfl) ?_ hė ?_
 rotate_left
 ·intro W hSW; have h9:=(yQ.out.below hSW).cells.2.1; clear hSW; unfold en4; go_simp; with_reducible rfl
 simp only[en4,Act.put,sA,sZ,sS]
 refine zB.takeG (i:=5) (oi:=en5) (v:=?_) rfl (by kernel_rfl) (by kernel_rfl) (by kernel_rfl) (by kernel_rfl) (by kernel_rfl) (fun _ _ _ h=>h) (by rfl) ?_ hė ?_
 rotate_left
 ·intro W hSW; unfold en5; go_simp; with_reducible rfl
 simp only[en5,Act.put,sA,sZ,sS]
 refine zB.takeG (i:=7) (oi:=en7) (v:=.agg #[.int .i64 (i:Int),.int .u64 g,.int .i64 sc]) rfl (by kernel_rfl) (by kernel_rfl) (by kernel_rfl) (by kernel_rfl) (by kernel_rfl) (fun _ _ _ h=>h) (by rfl) ?_ hė ?_
 ·intro W hSW; have h7:W.cell? ⟨w.heap.size,0,none⟩=some (.int .i64 (i:Int)):=(HA1.out.below hSW HA1.out.lt).cell 0; have h8:W.cell? ⟨w.heap.size,1,none⟩=some (.int .u64 g):=(HA1.out.below hSW HA1.out.lt).cell 1; have h9:W.cell? ⟨w.heap.size,2,none⟩=some (.int .i64 sc):=(HA1.out.below hSW HA1.out.lt).cell 2; clear hSW; unfold en7; go_simp
 simp only[en7,Act.put,sA,sZ,sS]
 refine tO 6 en6 ?_
 intro K hK
 refine zN 100 #[.tmp 11] #[31] rfl rfl Tryz.func100 rfl rfl [.slice A m c] rfl ((mh A m c (keyOf bs) vd (jh.out.below hė (fun b h=>nL h.1 HB1.out.size)) (fun b h=>nL h.1 (nT HB1.out.size hė.size)) qm.out HM.out).mono ?_)
 rintro e w2 ⟨rfl,rfl⟩
 refine ⟨_,rfl,?_⟩
 simp only[en6,Act.put,sA,sZ,sS]
 refine hU hK rfl _ _ hė (fun hė=>?_)
 clear hK K
 refine tO 8 en8 ?_
 intro K hK
 refine zN 140 #[.tmp 10,.tmp 12,.tmp 13] #[130,29,35] rfl rfl Tryz.func140 rfl rfl [.pointer (some ⟨B.x,0,none⟩),.int .u32 (xJ (keyOf bs):Nat),.agg (gF ((i:Int),g,sc)).toArray] rfl ((Wd (yQ.out.ix.below hė yQ.out.ix.lt) (xJ (keyOf bs)) ((i:Int),g,sc)).mono ?_)
 rintro e w3 ⟨rfl,hx3,hk3⟩
 have he:=Ua (f:=(xJ (keyOf bs):Int)) BI.out
 rw[he] at hx3
 refine ⟨_,rfl,?_⟩
 simp only[en8,Act.put,sA,sZ,sS]
 have hm2:=(yQ.out.below hė).ixTo hk3 hx3 rfl yR.out
 have hkk:=((Kept.of_below (S:=fun b=>b<w.heap.size∧¬ B.own b) HB1.out (fun b h=>h.1)).trans (Kept.of_below (S:=fun b=>b<w.heap.size∧¬ B.own b) hė (fun b h=>nL h.1 HB1.out.size)) (fun b h=>h)).trans hk3 (fun b h=>⟨nL h.1 (nT HB1.out.size hė.size),fun e=>h.2 (.inr (.inl e))⟩)
 have bJ:=hI hm2
 have HKK:=hI hkk
 have yH:=hI ((jh.out.below hė (fun b h=>nL h.1 HB1.out.size)).kept hk3 (fun b h=>⟨nL h.1 (nT HB1.out.size hė.size),fun e=>h.2 (.inr (.inl e))⟩))
 have yt:=hI ((HA1.out.below hė HA1.out.lt).kept hk3 ⟨nL HA1.out.lt hė.size,fun e=>by have:=HOL.out B.x (.inr (.inl rfl)); omega⟩)
 clear he hx3 hk3 hm2 hkk
 refine hK.out _ _ (fun h=>by cases h) (fun _=>?_)
 clear hK K hė
 refine zB.done (by kernel_rfl) ?_ _
 have a0:w3.cell? ⟨w.heap.size,0,none⟩=some (.int .i64 (i:Int)):=yt.out.cell 0
 have a1:w3.cell? ⟨w.heap.size,1,none⟩=some (.int .u64 g):=yt.out.cell 1
 have a2:w3.cell? ⟨w.heap.size,2,none⟩=some (.int .i64 sc):=yt.out.cell 2
 have HAD:=hI (zJZ (c:=c) bJ.out VI.out (yH.out.more (fun b h=>⟨nL h.1 HKK.out.size,h.2⟩)) qm.out HM.out HI.out BI.out HSL.out)
 go_wp2_with fail
 refine HAD.out.mono ?_
 rintro e w4 ⟨rfl,U6,hk4⟩
 have kM:=hI U6
 have sW:=hI (HKK.out.trans hk4 (fun b h=>⟨nL h.1 HKK.out.size,h.2⟩))
 clear U6 hk4 HAD a0 a1 a2
 go_wp2_with fail
 go_end0
 exact ⟨rfl,kM.out,sW.out⟩
end
end
section
attribute [local go_sem] Oper.semAt_some
abbrev lk0:Oper:=⟨some 12,.fieldAddr 134 (.tmp 2) 1,0,"store.go:257",#[],none⟩
abbrev lk1:Oper:=⟨some 13,.load 130 (.tmp 12),130,"store.go:257",#[⟨0,.data⟩],none⟩
abbrev lk2:Oper:=⟨some 14,.move (.tmp 1),31,"store.go:257",#[],none⟩
abbrev lk3:Oper:=⟨some 15,.call { callee:=.value (.func 100),args:=#[.tmp 14],argTypes:=#[31] },29,"store.go:257",#[⟨2,.data⟩],none⟩
abbrev lk4:Oper:=⟨some 16,.call { callee:=.value (.func 99),args:=#[.tmp 13,.tmp 15],argTypes:=#[130,29] },176,"store.go:257",#[⟨1,.data⟩,⟨3,.data⟩,⟨3,.chain⟩],none⟩
abbrev lk5:Oper:=⟨some 17,.call { callee:=.builtin Go.Builtin.len,args:=#[.tmp 16],argTypes:=#[176] },3,"store.go:257",#[⟨4,.data⟩],none⟩
abbrev lk6:Oper:=⟨some 18,.move (.const (.int .i64 0)),3,"store.go:257",#[],none⟩
section
variable {w:World} {Y:Nat→Prop} {l p d n x slots:Nat} {s:Sup} {t:Int} {k:Dk} {xs:List Seg} {pe:Nat} {st:List zm} {A:Option Addr} {m c:Nat} {us:List Int}
def Sn (w:World) (Y:Nat→Prop) (l p d n:Nat) (s:Sup) (t:Int) (k:Dk) (xs:List Seg) (pe:Nat) (st:List zm) (us:List Int) (e:Ending) (w':World):Prop :=
 (∃ k',jJ w' Y l p d n s t k' xs pe∧k'.held=k.held)∧Kept Y w w' ∧
 ((jC st us=none∧e=.returned (.tuple #[.agg jE,.int .i64 0])) ∨
  ∃ q b1 b2,jC st us=some q∧e=.returned (.tuple #[.agg (wY q b1 b2),.int .i64 0])∧w.heap.size≤b1∧w.heap.size≤b2∧b1≠b2∧zn w' b1 (keyOf q.2)∧zn w' b2 (valOf q.2)∧∃ k',jJ w' (fun b=>Y b∨b=b1∨b=b2) l p d n s t k' xs pe∧k'.held=k.held)
theorem uo (hl:jJ w Y l p d n s t k xs pe) (hY:∀ b,Y b→b<w.heap.size) (hx:gJ w x slots (gD st)) (hxY:Y x) (hinv:yN k s xs st) (hk:zW .u8 w Y A m us) (hb:Bytes us) (hm:m≤1000000) :
 Calls Tryz.prog 72 #[.agg #[.pointer (some ⟨l,0,none⟩),.pointer (some ⟨x,0,none⟩)],.slice A m c] w (Sn w Y l p d n s t k xs pe st us):=by
 obtain ⟨w1,hw1⟩:∃ w1,w1=((w.alloc (.cells #[.pointer (some ⟨l,0,none⟩),.pointer (some ⟨x,0,none⟩)] 134)).alloc (.cells jE 154)).alloc (.cells jE 154):=⟨_,rfl⟩
 have hb1:Below w.heap.size w w1:=by rw[hw1]; exact (((Below.refl _ w).alloc (nR _) _).alloc (by simp) _).alloc (by simp; omega) _
 have hz1:w1.heap.size=w.heap.size+3:=by rw[hw1]; simp
 have ql:=hI (show z8 w1 w.heap.size 134 #[.pointer (some ⟨l,0,none⟩),.pointer (some ⟨x,0,none⟩)] by rw[hw1]; exact ((z8.new w _ _).alloc _).alloc _)
 have HR1:=hI (show z8 w1 (w.heap.size+1) 154 jE by rw[hw1]; exact (zY w _ _ _).alloc _)
 have yS:=hI (show z8 w1 (w.heap.size+1+1) 154 jE by rw[hw1]; exact jw w _ _ _ _)
 have HB1:=hI hb1
 have HZ1:=hI hz1
 have pJ:=hI (hx.below hb1 hx.lt)
 have qd:=hI hx.lt
 have jh:=hI (hk.below hb1 hY)
 have HL:=hI hl
 have iq:=hI hY
 have HXY:=hI hxY
 have HI:=hI hinv
 have qm:=hI hb
 have HM:=hI hm
 have HW1:=hI hw1
 clear hb1 hz1 hw1 hl hY hx hxY hinv hk hb hm
 go_enter Tryz.func72,Tryz.ntmps72
 go_wp2_with fail
 go_step3
 go_wp2_with fail
 go_step3
 go_upto_region 3 with fail
 rw[← HW1.out]
 have c1:=ql.out.cell 1
 refine zB.region (fun W=>Below w1.heap.size w1 W) [] (by kernel_rfl) ((Below.refl _ _).drew) (fun hė=>?_)
 generalize w1.drew=vd at *
 refine tK 0 lk0 (v:=?_) ?_ hė ?_
 rotate_left
 ·intro W hSW; unfold lk0; go_simp; with_reducible rfl
 simp only[lk0,Act.put,sA,sZ,sS]
 refine tK 1 lk1 (v:=?_) ?_ hė ?_
 rotate_left
 ·intro W hSW; have h9:=(ql.out.below hSW ql.out.lt).cell 1; clear hSW; unfold lk1; go_simp; with_reducible rfl
 simp only[lk1,Act.put,sA,sZ,sS]
 refine tK 2 lk2 (v:=?_) ?_ hė ?_
 rotate_left
 ·intro W hSW; unfold lk2; go_simp; with_reducible rfl
 simp only[lk2,Act.put,sA,sZ,sS]
 refine tK 6 lk6 (v:=?_) ?_ hė ?_
 rotate_left
 ·intro W hSW; unfold lk6; go_simp; with_reducible rfl
 simp only[lk6,Act.put,sA,sZ,sS]
 refine tO 3 lk3 ?_
 intro K hK
 refine zN 100 #[.tmp 14] #[31] rfl rfl Tryz.func100 rfl rfl [.slice A m c] rfl ((mh A m c us vd (jh.out.below hė (fun b h=>nL (iq.out b h) HB1.out.size)) (fun b h=>nL (iq.out b h) (nT HB1.out.size hė.size)) qm.out HM.out).mono ?_)
 rintro e w2 ⟨rfl,rfl⟩
 refine ⟨_,rfl,?_⟩
 simp only[lk3,Act.put,sA,sZ,sS]
 refine hU hK rfl _ _ hė (fun hė=>?_)
 clear hK K
 have zAR:=hI hė.size
 refine tO 4 lk4 ?_
 intro K hK
 refine zN 99 #[.tmp 13,.tmp 15] #[130,29] rfl rfl Tryz.func99 rfl rfl [.pointer (some ⟨x,0,none⟩),.int .u32 (xJ us:Nat)] rfl ((Hl (pJ.out.below hė (nL qd.out HB1.out.size)) (xJ us)).mono ?_)
 rintro e w3 ⟨⟨v,rfl,hown⟩,hb3⟩
 rw[Hq,List.length_map] at hown
 obtain ⟨A3,c3,e9,hAn,hAc,hrow⟩:=Adr.rowZ_own hown rfl (List.length_map _)
 subst e9
 refine ⟨_,rfl,?_⟩
 simp only[lk4,Act.put,sA,sZ,sS]
 have Zm:=hė.trans (hb3.mono hė.size)
 refine hU hK rfl _ _ Zm (fun hė=>?_)
 clear hK K
 refine tK 5 lk5 (v:=?_) ?_ hė ?_
 rotate_left
 ·intro W hSW; unfold lk5; go_simp; with_reducible rfl
 simp only[lk5,Act.put,sA,sZ,sS]
 refine zB.done (by kernel_rfl) ?_ _
 have NI:=hI (show (mP st us).length≤1024 by
  have h1:=pJ.out.len
  have h2:(mP st us).length≤st.length:=by unfold mP; rw[List.length_reverse]; exact List.length_filter_le _ _
  unfold gD at h1
  rw[List.length_map] at h1
  omega)
 have HB3:=hI (HB1.out.trans (hė.mono HB1.out.size))
 have fZ:=hI (And.intro hė.size hb3.size)
 have HR3:=hI hrow
 have mE:=hI (HL.out.grow HB3.out)
 have yG:=hI (ql.out.below hė ql.out.lt)
 have Cc:=hI (HR1.out.below hė HR1.out.lt)
 have dh:=hI (yS.out.below hė yS.out.lt)
 have yH:=hI (jh.out.below hė (fun b h=>nL (iq.out b h) HB1.out.size))
 have yB:=hI (show ∀ p,p∈mP st us→p∈st from fun p hp=>(Jv.1 hp).1)
 have Z7:=hI (fun h=>Aw (st:=st) (us:=us) h)
 obtain ⟨L,hL⟩:∃ L,mP st us=L:=⟨_,rfl⟩
 rw[hL] at NI HR3 yB Z7
 rw[hL]
 obtain ⟨Y1,hY1⟩:∃ Y1:Nat→Prop,(fun b=>Y b∨(w.heap.size≤b∧b<w3.heap.size))=Y1:=⟨_,rfl⟩
 rw[hY1] at mE
 have gL:=hI (show ∀ b,Y1 b↔(Y b∨(w.heap.size≤b∧b<w3.heap.size)) by intro b; rw[← hY1])
 have HSW:=hI (show w1.heap.size≤w2.heap.size from zAR.out)
 clear hė hb3 Zm hrow hown hAn hAc hL hY1 c1 ql HR1 yS jh pJ
 go_wp2_with fail
 go_loopw [7,18] (fun er i wr=>∃ j:Nat,j≤L.length∧i=.int .i64 j∧er=.int .i64 0∧(∃ kj,jJ wr Y1 l p d n s t kj xs pe∧kj.held=k.held)∧Kept Y1 w3 wr∧∀ q,q∈L.take j→keyOf q.2≠us) (fun _ i _=>L.length-(intOf i).toNat)
 case atStart=>exact ⟨0,by omega,rfl,rfl,⟨k,mE.out,rfl⟩,Kept.refl _ _,by simp⟩
 case round =>
  obtain ⟨j,hj,rfl,rfl,⟨kj,iT,hkj⟩,hkp,hno⟩:=hrel
  have Xx:=hI iT
  have Xz:=hI hkj
  have oW:=hI hkp
  have HNJ:=hI hno
  clear iT hkj hkp hno
  by_cases hlt:j<L.length
  ·obtain ⟨q,hq⟩:∃ q,L[j]? = some q:=⟨_,List.getElem?_eq_getElem hlt⟩
   have hrow:=HR3.out.kept oW.out (fun b hb=>(gL.out b).2 (.inr ⟨by have:=HB1.out.size; have:=HSW.out; have:=hb.1; omega,hb.2⟩))
   obtain ⟨b,off,rfl,hbS,hc⟩:=hrow.2 (by omega)
   have hc2:=hc j hlt
   rw[show (L.map (fun x=>x.1)).getD j zK=q.1 by simp[List.getD,hq]] at hc2
   have a0:wr.cell? ⟨b,off+j*3,none⟩=some (.int .i64 q.1.1):=hc2 0 _ rfl
   have a1:=hc2 1 _ rfl
   have a2:=hc2 2 _ rfl
   clear hc hc2 hrow HR3
   obtain ⟨w4,hw4⟩:∃ w4,w4=wr.alloc (.cells #[.int .i64 q.1.1,.int .u64 q.1.2.1,.int .i64 q.1.2.2] 35):=⟨_,rfl⟩
   have hb4:Below wr.heap.size wr w4:=by rw[hw4]; exact (Below.refl _ wr).alloc (nR _) _
   have lS:=hI (show z8 w4 wr.heap.size 35 #[.int .i64 q.1.1,.int .u64 q.1.2.1,.int .i64 q.1.2.2] by rw[hw4]; exact z8.new wr _ _)
   have Xt:=hI (show ∀ b,Y1 b→b<wr.heap.size from fun b hb=>by
    have h1:=oW.out.size
    have h2:=HB3.out.size
    rcases (gL.out b).1 hb with h | h
    ·have:=iq.out b h; omega
    ·omega)
   have zNb:=hI (Xx.out.grow hb4)
   have nI:=hI hw4
   have zq:=hI hb4
   have HQ:=hI (yB.out q (List.mem_of_getElem? hq))
   have yg:=hI ((yG.out.kept oW.out ((gL.out _).2 (.inr ⟨nR _,yG.out.lt⟩))).below hb4 (by have:=oW.out.size; have:=yG.out.lt; omega))
   have s0:=yg.out.cell 0
   have hat:=(HI.out.here q HQ.out).held Xz.out
   have jg:=hI (zCY zNb.out (fun b hb=>by
    rcases hb with h | h
    ·exact nL (Xt.out b h) hb4.size
    ·exact h.2) hat)
   unfold Sl at jg
   clear hw4 hb4 hat
   go_upto_region 6 with fail
   rw[← nI.out]
   clear a0 a1 a2
   have a0:=lS.out.cell 0
   have a1:=lS.out.cell 1
   have a2:=lS.out.cell 2
   go_wp2_with fail
   refine jg.out.mono ?_
   rintro e w5 ⟨b1,b2,k5,rfl,hb1,hb2,tq,hr1,hr2,IL,hk5,S9⟩
   have Ce:=hI hr1
   have zIU:=hI hr2
   have bN:=hI (And.intro hb1 (And.intro hb2 tq))
   have zIn:=hI (IL.less (X:=Y1) (fun b h=>.inl (.inl h)))
   have zNa:=hI (IL.less (X:=fun b=>Y1 b∨b=b1∨b=b2) (fun b h=>h.imp .inl id))
   have zAe:=hI (hk5.trans Xz.out)
   have Ym:=hI (((oW.out.trans (Kept.of_below zq.out Xt.out) (fun b h=>h))).trans S9 (fun b h=>.inl h))
   have mI:=hI (lS.out.kept S9 (.inr ⟨nR _,lS.out.lt⟩))
   have QA:=hI (And.intro zq.out.size S9.size)
   clear hr1 hr2 hb1 hb2 tq IL hk5 S9 a0 a1 a2 s0 jg
   obtain ⟨w6,xB⟩:∃ w6,w6=(w5.alloc (.cells zP 33)).setRow w5.heap.size (jZ q.2 b1 b2):=⟨_,rfl⟩
   have wL:=hI (z8.new w5 33 zP)
   have hb6:Below w5.heap.size w5 w6:=by rw[xB]; exact Kept.to_below (((Kept.refl (fun b=>b<w5.heap.size) w5).alloc (fun b h=>h) _).setRow (fun h=>by omega) _) (fun b h=>h)
   have pO:=hI (show z8 w6 w5.heap.size 33 (jZ q.2 b1 b2) by rw[xB]; exact setRow_heap _ _ _ _ _ _ wL.out)
   have nS:=hI xB.symm
   have qK:=hI hb6
   clear xB hb6
   have r0:w6.cell? ⟨w5.heap.size,0,none⟩=some (.int .i64 1):=by
    have h9:=pO.out.cell 0
    rw[show (jZ q.2 b1 b2)[0]? = some (.int .i64 (kindOf q.2)) from rfl,HI.out.kind q HQ.out] at h9
    exact h9
   have r4:w6.cell? ⟨w5.heap.size,4,none⟩=some (.slice (some ⟨b1,0,none⟩) (zH q.2) (zH q.2)):=pO.out.cell 4
   have Pq:=hI ((HI.out.here q HQ.out).rok)
   have hkl:(keyOf q.2).length=zH q.2:=by
    have h1:=Pq.out.need
    unfold jU at h1
    unfold keyOf
    rw[List.length_take,List.length_drop]
    omega
   have HKB:=hI (show Bytes (keyOf q.2) by unfold keyOf; exact jW Pq.out.byt 21 _)
   have je:=hI ((yH.out.kept Ym.out (fun b hb=>(gL.out b).2 (.inl hb))).below qK.out (fun b hb=>by
    have h1:=Xt.out b ((gL.out b).2 (.inl hb))
    have h2:=QA.out
    omega))
   have WH:=hI (show zW .u8 w6 (fun b=>b=b1) (some ⟨b1,0,none⟩) (zH q.2) (keyOf q.2) by
    have h9:=z8.below Ce.out qK.out (z8.lt Ce.out)
    exact (qF.rowN (S:=fun b=>b=b1) h9 0 (n:=zH q.2) hkl rfl))
   have Cr:=hI hkl
   have HYX:=hI (show ∀ b,Y b→b<w6.heap.size from fun b hb=>by
    have h1:=Xt.out b ((gL.out b).2 (.inl hb))
    have h2:=QA.out
    have h3:=qK.out.size
    omega)
   have TJ:=hI (show b1<w6.heap.size from nL (z8.lt Ce.out) qK.out.size)
   clear hkl
   go_wp2_with (refine zF (.tmp 10) (.tmp 27) 33 rfl rfl w5.heap.size (jZ q.2 b1 b2) rfl rfl 33 _ wL.out zR rfl (ni _ _ _ _ _ _ _ _ _ _) ?_; rw[nS.out])
   clear r0 r4
   by_cases hkey:keyOf q.2=us
   ·have HKEY:=hI hkey
    have OY:=hI (show Calls Tryz.prog 40 #[.slice (some ⟨b1,0,none⟩) (zH q.2) (zH q.2),.slice A m c] w6 (fun e w'=>e=.returned (.bool true)∧w6=w') by
     have hm:zH q.2=m:=by rw[← Cr.out,hkey]; exact je.out.1
     have h1:=WH.out
     rw[hm,hkey] at h1
     rw[hm]
     exact JO _ A m m c us _ _ w6 h1 je.out (fun b h=>by rw[h]; exact TJ.out) HYX.out qm.out)
    clear hkey
    refine OY.out.mono ?_
    rintro e w7 ⟨rfl,rfl⟩
    clear OY
    have gU:=hI (mI.out.below qK.out mI.out.lt)
    have bL:=hI ((dh.out.kept Ym.out ((gL.out _).2 (.inr ⟨by omega,dh.out.lt⟩))).below qK.out (by have:=Ym.out.size; have:=dh.out.lt; omega))
    have zNT:=hI ((Cc.out.kept Ym.out ((gL.out _).2 (.inr ⟨by omega,Cc.out.lt⟩))).below qK.out (by have:=Ym.out.size; have:=Cc.out.lt; omega))
    have a0:=gU.out.cell 0
    have a1:=gU.out.cell 1
    have a2:=gU.out.cell 2
    obtain ⟨w7,hw7⟩:∃ w7,w7=w6.setRow (w.heap.size+1+1) (wY q b1 b2):=⟨_,rfl⟩
    have bg:Kept (fun b=>b≠w.heap.size+1+1) w6 w7:=by rw[hw7]; exact (Kept.refl _ _).setRow (fun h=>h rfl) _
    have sj:=hI (show z8 w7 (w.heap.size+1+1) 154 (wY q b1 b2) by rw[hw7]; exact setRow_heap _ _ _ _ _ _ bL.out)
    have zIT:=hI (zNT.out.kept bg (by omega))
    have lN:=hI bg
    have Po:=hI hw7.symm
    clear bg hw7
    go_wp2_with (first
     | (refine zV (.tmp 10) 33 rfl rfl w5.heap.size rfl 33 [.int .i64 (kindOf q.2),.int .u32 (flagsOf q.2),.int .u32 (qA q.2),.int .u64 (zo q.2),.slice (some ⟨b1,0,none⟩) (zH q.2) (zH q.2),.slice (some ⟨b2,0,none⟩) (zO q.2) (zO q.2)] _ Tryz.underlying33 rfl zR pO.out ?_)
     | (refine zF (.tmp 6) (.tmp 53) 154 rfl rfl (w.heap.size+1+1) (wY q b1 b2) rfl rfl 154 _ bL.out xE rfl (Ju _ _ _) ?_; rw[Po.out])
     | (refine zV (.tmp 6) 154 rfl rfl (w.heap.size+1+1) rfl 154 [.bool true,.int .i64 q.1.1,.int .u64 q.1.2.1,.int .i64 q.1.2.2,.int .i64 (kindOf q.2),.int .u32 (flagsOf q.2),.int .u32 (qA q.2),.int .u64 (zo q.2),.slice (some ⟨b1,0,none⟩) (zH q.2) (zH q.2),.slice (some ⟨b2,0,none⟩) (zO q.2) (zO q.2)] _ Tryz.underlying154 rfl xE sj.out ?_)
     | (refine zF (.tmp 4) (.tmp 55) 154 rfl rfl (w.heap.size+1) (wY q b1 b2) rfl rfl 154 _ zIT.out xE rfl (Ju _ _ _) ?_)
     | (with_reducible refine zJ ?_))
    rw[Exit.noGoto_ret]
    have hw3:=oW.out.size
    have hz1:=HZ1.out
    have hz2:=fZ.out
    have hz5:=QA.out
    have hbb:=bN.out
    have kE:=(Kept.refl (fun b=>b≠w.heap.size+1) w7).setRow (fun h=>h rfl) (wY q b1 b2)
    have hke:Kept (fun b=>b≠w.heap.size+1+1∧b≠w.heap.size+1) w6 (w7.setRow (w.heap.size+1) (wY q b1 b2)):=lN.out.mono (S:=fun b=>b≠w.heap.size+1+1∧b≠w.heap.size+1) (fun b h=>h.1) |>.trans kE (fun b h=>h.2)
    refine bodyPost_ret (zy (p:=4) (u:=5) rfl _ _ (w.heap.size+1) 154 (wY q b1 b2) _ rfl (setRow_heap _ _ _ _ _ _ zIT.out) Tryz.underlying154 rfl xE) rfl ⟨⟨k5,?_,zAe.out⟩,?_,.inr ⟨q,b1,b2,?_,rfl,by omega,by omega,hbb.2.2,?_,?_,k5,?_,zAe.out⟩⟩
    ·refine ((zIn.out.below qK.out).off hke (fun b hb hn=>⟨fun e=>?_,fun e=>?_⟩)).less (fun b hb=>(gL.out b).2 (.inl hb))
     ·exact hn ((gL.out b).2 (.inr ⟨by omega,by omega⟩))
     ·exact hn ((gL.out b).2 (.inr ⟨by omega,by omega⟩))
    ·have h1:Kept Y w w3:=Kept.of_below HB3.out iq.out
     have h2:=h1.trans Ym.out (fun b hb=>(gL.out b).2 (.inl hb))
     have h3:=h2.trans (Kept.of_below (S:=Y) qK.out (fun b hb=>by have:=iq.out b hb; have:=HB3.out.size; omega)) (fun b hb=>hb)
     exact h3.trans hke (fun b hb=>⟨by have:=iq.out b hb; omega,by have:=iq.out b hb; omega⟩)
    ·rw[← HKEY.out]; exact UC HI.out HQ.out
    ·exact z8.kept (z8.below Ce.out qK.out (z8.lt Ce.out)) hke ⟨by omega,by omega⟩
    ·exact z8.kept (z8.below zIU.out qK.out (z8.lt zIU.out)) hke ⟨by omega,by omega⟩
    ·refine ((zNa.out.below qK.out).off hke (fun b hb hn=>⟨fun e=>?_,fun e=>?_⟩)).less (fun b hb=>hb.imp (fun hb=>(gL.out b).2 (.inl hb)) id)
     ·exact hn (.inl ((gL.out b).2 (.inr ⟨by omega,by omega⟩)))
     ·exact hn (.inl ((gL.out b).2 (.inr ⟨by omega,by omega⟩)))
   ·have HKEY:=hI hkey
    have OY:=hI (Iq (some ⟨b1,0,none⟩) A (zH q.2) m (zH q.2) c (keyOf q.2) us _ _ w6 WH.out je.out (fun b h=>by rw[h]; exact TJ.out) HYX.out HKB.out qm.out hkey)
    clear hkey
    refine OY.out.mono ?_
    rintro e w7 ⟨rfl,rfl⟩
    clear OY
    go_wp2_with fail
    go_roundw
    case rel =>
     have h9:=NI.out
     refine ⟨j+1,by omega,by rw[IntWalk.wrap64_in _ (by omega)]; rfl,rfl,⟨k5,zIn.out.below qK.out,zAe.out⟩,Ym.out.trans (Kept.of_below (S:=Y1) qK.out (fun b hb=>by have h1:=Xt.out b hb; have h2:=QA.out; omega)) (fun b h=>h),fun y hy=>?_⟩
     rw[List.take_add_one,hq] at hy
     rcases List.mem_append.1 hy with h | h
     ·exact HNJ.out y h
     ·have e:y=q:=by simpa [eq_comm] using h
      rw[e]; exact HKEY.out
    case measure =>
     have h9:=NI.out
     rw[IntWalk.wrap64_in _ (by omega)]
     simp only[intOf]
     omega
  ·obtain rfl:j=L.length:=by omega
   rw[List.take_of_length_le (nR _)] at HNJ
   have hw3:=oW.out.size
   have hz1:=HZ1.out
   have hz2:=fZ.out
   have HEr:=hI (dh.out.kept oW.out ((gL.out _).2 (.inr ⟨by omega,dh.out.lt⟩)))
   have zIS:=hI (Cc.out.kept oW.out ((gL.out _).2 (.inr ⟨by omega,Cc.out.lt⟩)))
   go_wp2_with (first
    | (refine zV (.tmp 6) 154 rfl rfl (w.heap.size+1+1) rfl 154 jE.toList _ Tryz.underlying154 rfl xE HEr.out ?_)
    | (refine zF (.tmp 4) (.tmp 55) 154 rfl rfl (w.heap.size+1) jE rfl rfl 154 _ zIS.out xE rfl Gt ?_)
    | (with_reducible refine zJ ?_))
   rw[Exit.noGoto_ret]
   have kE:=(Kept.refl (fun b=>b≠w.heap.size+1) wr).setRow (fun h=>h rfl) jE
   refine bodyPost_ret (zy (p:=4) (u:=5) rfl _ _ (w.heap.size+1) 154 jE _ rfl (setRow_heap _ _ _ _ _ _ zIS.out) Tryz.underlying154 rfl xE) rfl ⟨⟨kj,?_,Xz.out⟩,?_,.inl ⟨Z7.out HNJ.out,rfl⟩⟩
   ·refine (Xx.out.off kE (fun b hb hn=>fun e=>?_)).less (fun b hb=>(gL.out b).2 (.inl hb))
    exact hn ((gL.out b).2 (.inr ⟨by omega,by omega⟩))
   ·have h1:Kept Y w w3:=Kept.of_below HB3.out iq.out
    have h2:=h1.trans oW.out (fun b hb=>(gL.out b).2 (.inl hb))
    exact h2.trans kE (fun b hb=>by have:=iq.out b hb; omega)
end
end
section
attribute [local go_sem] Oper.semAt_some
abbrev vo0:Oper:=⟨some 5,.fieldAddr 33 (.tmp 3) 3,0,"store.go:319",#[],none⟩
abbrev vo1:Oper:=⟨some 6,.load 30 (.tmp 5),30,"store.go:319",#[⟨0,.data⟩],none⟩
abbrev vo2:Oper:=⟨some 7,.move (.tmp 0),56,"store.go:319",#[],none⟩
abbrev vo3:Oper:=⟨some 8,.nilCheck (.tmp 7),0,"store.go:319",#[⟨2,.data⟩],none⟩
abbrev vo4:Oper:=⟨some 9,.fieldAddr 137 (.tmp 8) 0,0,"store.go:319",#[⟨3,.data⟩],none⟩
abbrev vo5:Oper:=⟨some 10,.fieldAddr 134 (.tmp 9) 0,0,"store.go:319",#[⟨4,.data⟩],none⟩
abbrev vo6:Oper:=⟨some 11,.load 24 (.tmp 10),24,"store.go:319",#[⟨5,.data⟩],none⟩
abbrev vo7:Oper:=⟨some 12,.call { callee:=.value (.func 11),args:=#[.tmp 11],argTypes:=#[24] },45,"store.go:319",#[⟨6,.data⟩],none⟩
abbrev vo8:Oper:=⟨some 13,.call { callee:=.value (.func 53),args:=#[.tmp 12],argTypes:=#[45] },115,"store.go:319",#[⟨7,.data⟩,⟨7,.chain⟩],none⟩
abbrev vo9:Oper:=⟨some 14,.field 115 (.tmp 13) 5,30,"store.go:319",#[⟨8,.data⟩],none⟩
abbrev Oq:Oper:=⟨some 15,.binOp Go.BinOp.leq 30 (.tmp 6) (.tmp 14) 30,4,"store.go:319",#[⟨1,.data⟩,⟨9,.data⟩],none⟩
abbrev Oo:Oper:=⟨some 4,.assign (.tmp 15),4,"store.go:319",#[⟨10,.data⟩,⟨8,.chain⟩,⟨0,.phase⟩,⟨1,.phase⟩,⟨2,.phase⟩,⟨3,.phase⟩,⟨4,.phase⟩,⟨5,.phase⟩,⟨6,.phase⟩,⟨7,.phase⟩,⟨8,.phase⟩,⟨9,.phase⟩,⟨10,.phase⟩],none⟩
abbrev Zi (A:Option Addr) (n c:Nat) (B:Option Addr) (m d:Nat) (f x s:Int) (dy:Bool):Value:=.agg #[.slice A n c,.slice B m d,.int .u32 f,.int .u32 x,.int .u64 s,.bool dy]
abbrev qN:Array Value:=#[.slice none 0 0,.slice none 0 0,.int .u32 0,.int .u32 0,.int .u64 0,.bool false]
abbrev bZ (bs:List Int) (b1 b2:Nat):Array Value:=#[.slice (some ⟨b1,0,none⟩) (zH bs) (zH bs),.slice (some ⟨b2,0,none⟩) (zO bs) (zO bs),.int .u32 (flagsOf bs),.int .u32 (qA bs),.int .u64 (zo bs),.bool false]
theorem qo:(Tryz.prog.info? 53).map (·.size)=some 6:=by kernel_rfl
theorem MN (bs:List Int) (b1 b2:Nat):(bZ bs b1 b2).all (·.oneCell')=true:=by simp[Value.oneCell']
theorem YP:qN.all (·.oneCell')=true:=by simp[Value.oneCell']
section
variable {w w':World} {X Y:Nat→Prop} {B:xu} {slots:Nat} {s:Sup} {xs:List Seg} {st:List zm} {bl:List (List Int)} {u:Bool} {A:Option Addr} {m c:Nat} {us:List Int}
theorem vB (h:zT w X B slots s xs st bl false):Calls Tryz.prog 38 #[.pointer (some ⟨B.q,0,none⟩)] w fun e w'=>e=.returned (.bool false)∧w'=w:=by
 obtain ⟨c0,_,_,c3⟩:=h.cells
 obtain ⟨A,c,hl,_,_⟩:=h.log.log
 have HL:=hI (RU hl)
 clear h hl
 go_enter Tryz.func38,Tryz.ntmps38
 go_wp2_with fail
 refine HL.out.mono ?_
 rintro e w2 ⟨rfl,rfl⟩
 go_wp2_with fail
 go_ret
 exact ⟨rfl,rfl⟩
theorem M4 (h:zT w X B slots s xs st bl u) (k f x q:Int) (A A':Option Addr) (n c n' c':Nat) :
 Calls Tryz.prog 86 #[.pointer (some ⟨B.q,0,none⟩),.agg #[.int .i64 k,.int .u32 f,.int .u32 x,.int .u64 q,.slice A n c,.slice A' n' c']] w fun e w'=>e=.returned (.bool (decide (q≤s.f)))∧Below w.heap.size w w':=by
 obtain ⟨w1,hw1⟩:∃ w1,w1=w.alloc (.cells #[.int .i64 k,.int .u32 f,.int .u32 x,.int .u64 q,.slice A n c,.slice A' n' c'] 33):=⟨_,rfl⟩
 have hb1:Below w.heap.size w w1:=by rw[hw1]; exact (Below.refl _ w).alloc (nR _) _
 have HR1:=hI (show z8 w1 w.heap.size 33 #[.int .i64 k,.int .u32 f,.int .u32 x,.int .u64 q,.slice A n c,.slice A' n' c'] by rw[hw1]; exact z8.new w _ _)
 have yQ:=hI (h.below hb1)
 have HB1:=hI hb1
 have HW1:=hI hw1
 clear h hb1 hw1
 go_enter Tryz.func86,Tryz.ntmps86
 go_upto_region 1 with fail
 rw[← HW1.out]
 refine zB.region (fun W=>Below w1.heap.size w1 W) [] (by kernel_rfl) ((Below.refl _ _).drew) (fun hė=>?_)
 generalize w1.drew=vd at *
 refine tK 0 vo0 (v:=?_) ?_ hė ?_
 rotate_left
 ·intro W hSW; unfold vo0; go_simp; with_reducible rfl
 simp only[vo0,Act.put,sA,sZ,sS]
 refine tK 1 vo1 (v:=?_) ?_ hė ?_
 rotate_left
 ·intro W hSW; have h9:W.cell? ⟨w.heap.size,3,none⟩=some (.int .u64 q):=(HR1.out.below hSW HR1.out.lt).cell 3; clear hSW; unfold vo1; go_simp; with_reducible rfl
 simp only[vo1,Act.put,sA,sZ,sS]
 refine tK 2 vo2 (v:=?_) ?_ hė ?_
 rotate_left
 ·intro W hSW; unfold vo2; go_simp; with_reducible rfl
 simp only[vo2,Act.put,sA,sZ,sS]
 refine tK 3 vo3 (v:=?_) ?_ hė ?_
 rotate_left
 ·intro W hSW; unfold vo3; go_simp; with_reducible rfl
 simp only[vo3,Act.put,sA,sZ,sS]
 refine tK 4 vo4 (v:=?_) ?_ hė ?_
 rotate_left
 ·intro W hSW; unfold vo4; go_simp; with_reducible rfl
 simp only[vo4,Act.put,sA,sZ,sS]
 refine tK 5 vo5 (v:=?_) ?_ hė ?_
 rotate_left
 ·intro W hSW; unfold vo5; go_simp; with_reducible rfl
 simp only[vo5,Act.put,sA,sZ,sS]
 refine tK 6 vo6 (v:=?_) ?_ hė ?_
 rotate_left
 ·intro W hSW; have h9:=(yQ.out.below hSW).cells.1; clear hSW; unfold vo6; go_simp; with_reducible rfl
 simp only[vo6,Act.put,sA,sZ,sS]
 have hM:=yQ.out.below hė
 obtain ⟨A2,c2,hl,_,_⟩:=hM.log.log
 refine tO 7 vo7 ?_
 intro K hK
 refine zN 11 #[.tmp 11] #[24] rfl rfl Tryz.func11 rfl rfl [.pointer (some ⟨B.l,0,none⟩)] rfl ((aJ hl).mono ?_)
 rintro e w2 ⟨rfl,rfl⟩
 refine ⟨_,rfl,?_⟩
 simp only[vo7,Act.put,sA,sZ,sS]
 refine hU hK rfl _ _ hė (fun hė=>?_)
 clear hK K
 obtain ⟨_,_,R,hs,_,_⟩:=hl
 refine tO 8 vo8 ?_
 intro K hK
 refine zN 53 #[.tmp 12] #[45] rfl rfl Tryz.func53 rfl rfl [.pointer (some ⟨B.p,0,none⟩)] rfl ((rG hs).mono ?_)
 rintro e w3 ⟨rfl,hb3⟩
 refine ⟨_,rfl,?_⟩
 simp only[vo8,Act.put,sA,sZ,sS]
 have UK:=hė.trans (hb3.mono hė.size)
 refine hU hK rfl _ _ UK (fun hė=>?_)
 clear hK K UK hb3
 refine tK 9 vo9 (v:=.int .u64 s.f) ?_ hė ?_
 ·intro W hSW; clear hSW; unfold vo9; unfold execOp Instr.field; simp[Sem.run_bind,run_underlying (Tryz.underlying115),asAgg,part,isAgg,run_underlying (Tryz.underlying30),Act.eval]
 simp only[vo9,Act.put,sA,sZ,sS]
 refine tK 10 Oq (v:=?_) ?_ hė ?_
 rotate_left
 ·intro W hSW; unfold Oq; go_simp; with_reducible rfl
 simp only[Oq,Act.put,sA,sZ,sS]
 refine tK 11 Oo (v:=?_) ?_ hė ?_
 rotate_left
 ·intro W hSW; unfold Oo; go_simp; with_reducible rfl
 simp only[Oo,Act.put,sA,sZ,sS]
 refine zB.done (by kernel_rfl) ?_ _
 go_wp2_with fail
 go_ret
 exact ⟨rfl,HB1.out.trans (hė.mono HB1.out.size)⟩
theorem SN (k f x q now:Int) (A A':Option Addr) (n c n' c':Nat) (w:World) :
 Calls Tryz.prog 87 #[.agg #[.int .i64 k,.int .u32 f,.int .u32 x,.int .u64 q,.slice A n c,.slice A' n' c'],.int .u32 now] w fun e w'=>e=.returned (.bool (decide (0<x∧x≤now)))∧Below w.heap.size w w':=by
 have HB:=hI ((Below.refl w.heap.size w).alloc (nR _) (.cells #[.int .i64 k,.int .u32 f,.int .u32 x,.int .u64 q,.slice A n c,.slice A' n' c'] 33))
 by_cases h1:0<x
 ·by_cases h2:x≤now
  ·rw[decide_eq_true (show 0<x∧x≤now from ⟨h1,h2⟩)]
   go_enter Tryz.func87,Tryz.ntmps87
   go_wp2_with fail
   go_ret
   exact ⟨rfl,HB.out⟩
  ·rw[decide_eq_false (show ¬ (0<x∧x≤now) from fun h=>h2 h.2)]
   go_enter Tryz.func87,Tryz.ntmps87
   go_wp2_with fail
   go_ret
   exact ⟨rfl,HB.out⟩
 ·rw[decide_eq_false (show ¬ (0<x∧x≤now) from fun h=>h1 h.1)]
  go_enter Tryz.func87,Tryz.ntmps87
  go_wp2_with fail
  go_ret
  exact ⟨rfl,HB.out⟩
theorem Lp (bs:List Int) (b1 b2:Nat) (w:World) :
 Calls Tryz.prog 88 #[.agg (jZ bs b1 b2)] w fun e w'=>e=.returned (.agg (bZ bs b1 b2))∧Below w.heap.size w w':=by
 have hb:=((Below.refl w.heap.size w).alloc (nR _) (.cells (jZ bs b1 b2) 33)).alloc (by simp) (.cells qN 53)
 have HB:=hI hb
 have HI:=hI (zY w (.cells (jZ bs b1 b2) 33) 53 qN)
 clear hb
 go_enter Tryz.func88,Tryz.ntmps88
 go_wp2_with (first | (with_reducible refine zJ ?_) | (refine zF (.tmp 2) (.tmp 13) 53 rfl rfl (w.heap.size+1) (bZ bs b1 b2) rfl rfl 53 _ HI.out qo rfl (MN _ _ _) ?_))
 exact Halt.ret (jF rfl _ _ (w.heap.size+1) 53 (bZ bs b1 b2) _ rfl (setRow_heap _ _ _ _ _ _ HI.out) Tryz.underlying53 rfl qo) rfl ⟨rfl,below_setRow HB.out (by omega) _⟩
theorem XO (A:Option Addr) (n c:Nat) (A2:Option Addr) (n2 c2:Nat) (f x q:Int) (dy:Bool) (w:World) :
 Calls Tryz.prog 70 #[Zi A n c A2 n2 c2 f x q dy] w fun e w'=>e=.returned (.agg #[.int .i64 1,.int .u32 f,.int .u32 x,.int .u64 q,.slice A n c,.slice A2 n2 c2])∧Below w.heap.size w w':=by
 have hb:=((Below.refl w.heap.size w).alloc (nR _) (.cells #[.slice A n c,.slice A2 n2 c2,.int .u32 f,.int .u32 x,.int .u64 q,.bool dy] 53)).alloc (by simp) (.cells zP 33)
 have HB:=hI hb
 have HI:=hI (zY w (.cells #[.slice A n c,.slice A2 n2 c2,.int .u32 f,.int .u32 x,.int .u64 q,.bool dy] 53) 33 zP)
 clear hb
 go_enter Tryz.func70,Tryz.ntmps70
 go_wp2_with (first | (with_reducible refine zJ ?_) | (refine zF (.tmp 2) (.tmp 13) 33 rfl rfl (w.heap.size+1) #[.int .i64 1,.int .u32 f,.int .u32 x,.int .u64 q,.slice A n c,.slice A2 n2 c2] rfl rfl 33 _ HI.out zR rfl (ni _ _ _ _ _ _ _ _ _ _) ?_))
 exact Halt.ret (jF rfl _ _ (w.heap.size+1) 33 #[.int .i64 1,.int .u32 f,.int .u32 x,.int .u64 q,.slice A n c,.slice A2 n2 c2] _ rfl (setRow_heap _ _ _ _ _ _ HI.out) Tryz.underlying33 rfl zR) rfl ⟨rfl,below_setRow HB.out (by omega) _⟩
theorem zAt (h:zT w X B slots s xs st bl u):Calls Tryz.prog 39 #[.pointer (some ⟨B.q,0,none⟩)] w fun e w'=>e=.returned (.int .i64 (st.length:Nat))∧w'=w:=by
 obtain ⟨_,c1,_,_⟩:=h.cells
 obtain ⟨c,L,fr,hx,hr,he⟩:=h.ix
 have hn:c 1=(st.length:Nat):=by
  rw[hr.n]
  have h1:=congrArg List.length he
  unfold gD at h1
  rw[List.length_map,List.length_map] at h1
  rw[h1]
 have HL:=hI (zFg hx)
 rw[hn] at HL
 clear h hx hr he hn
 go_enter Tryz.func39,Tryz.ntmps39
 go_wp2_with fail
 refine HL.out.mono ?_
 rintro e w2 ⟨rfl,rfl⟩
 go_wp2_with fail
 go_ret
 exact ⟨rfl,rfl⟩
end
end
section
attribute [local go_sem] Oper.semAt_some
abbrev pd0:Oper:=⟨some 7,.load 56 (.tmp 1),56,"store.go:80",#[],none⟩
abbrev pd1:Oper:=⟨some 8,.nilCheck (.tmp 7),0,"store.go:80",#[⟨0,.data⟩],none⟩
abbrev pd2:Oper:=⟨some 9,.fieldAddr 137 (.tmp 8) 0,0,"store.go:80",#[⟨1,.data⟩],none⟩
abbrev pd3:Oper:=⟨some 10,.load 134 (.tmp 9),134,"store.go:80",#[⟨2,.data⟩],none⟩
abbrev pd4:Oper:=⟨some 11,.fieldAddr 53 (.tmp 2) 0,0,"store.go:80",#[],none⟩
abbrev pd5:Oper:=⟨some 12,.load 31 (.tmp 11),31,"store.go:80",#[⟨4,.data⟩],none⟩
abbrev pd6:Oper:=⟨some 13,.load 154 (.tmp 3),154,"store.go:80",#[],none⟩
abbrev pd7:Oper:=⟨some 14,.call { callee:=.value (.func 75),args:=#[.tmp 10,.tmp 12,.tmp 13],argTypes:=#[134,31,154] },0,"store.go:80",#[⟨3,.data⟩,⟨5,.data⟩,⟨6,.data⟩],none⟩
abbrev kd0:Oper:=⟨some 6,.load 56 (.tmp 1),56,"store.go:133",#[],none⟩
abbrev kd1:Oper:=⟨some 7,.nilCheck (.tmp 6),0,"store.go:133",#[⟨0,.data⟩],none⟩
abbrev kd2:Oper:=⟨some 8,.fieldAddr 137 (.tmp 7) 0,0,"store.go:133",#[⟨1,.data⟩],none⟩
abbrev kd3:Oper:=⟨some 9,.load 134 (.tmp 8),134,"store.go:133",#[⟨2,.data⟩],none⟩
abbrev kd4:Oper:=⟨some 10,.load 31 (.tmp 2),31,"store.go:133",#[],none⟩
abbrev kd5:Oper:=⟨some 11,.load 154 (.tmp 3),154,"store.go:133",#[],none⟩
abbrev kd6:Oper:=⟨some 12,.call { callee:=.value (.func 75),args:=#[.tmp 9,.tmp 10,.tmp 11],argTypes:=#[134,31,154] },0,"store.go:133",#[⟨3,.data⟩,⟨4,.data⟩,⟨5,.data⟩],none⟩
section
variable {w w':World} {X Y:Nat→Prop} {B:xu} {slots:Nat} {s:Sup} {xs:List Seg} {st:List zm} {bl:List (List Int)} {u:Bool} {A:Option Addr} {m c:Nat} {us:List Int} {k:Dk}
theorem yN.put2 {a:Int × Int × Int} {bs:List Int} (h:yN k s xs st) (h2:AtR k s xs a bs) (hfr:∀ p,p∈st→p.1≠a) (hk:kindOf bs=1) (hn:∀ p,p∈st→keyOf p.2≠keyOf bs):yN k s xs (st++[(a,bs)]):=by
 refine ⟨fun p hp=>?_,fun p hp=>?_,fun p hp q hq e=>?_,fun p hp q hq e=>?_⟩
 ·rcases List.mem_append.1 hp with h3 | h3
  ·exact h.here p h3
  ·rw[List.mem_singleton.1 h3]; exact h2
 ·rcases List.mem_append.1 hp with h3 | h3
  ·exact h.kind p h3
  ·rw[List.mem_singleton.1 h3]; exact hk
 ·rcases List.mem_append.1 hp with h3 | h3 <;> rcases List.mem_append.1 hq with h4 | h4
  ·exact h.adr p h3 q h4 e
  ·rw[List.mem_singleton.1 h4] at e
   exact absurd e (hfr p h3)
  ·rw[List.mem_singleton.1 h3] at e
   exact absurd e.symm (hfr q h4)
  ·rw[List.mem_singleton.1 h3,List.mem_singleton.1 h4]
 ·rcases List.mem_append.1 hp with h3 | h3 <;> rcases List.mem_append.1 hq with h4 | h4
  ·exact h.key p h3 q h4 e
  ·rw[List.mem_singleton.1 h4] at e
   exact absurd e (hn p h3)
  ·rw[List.mem_singleton.1 h3] at e
   exact absurd e.symm (hn q h4)
  ·rw[List.mem_singleton.1 h3,List.mem_singleton.1 h4]
def Jk (st:List zm) (us:List Int) (ev:Array Value):Prop:=(jC st us=none∧ev=jE)∨∃ q b1 b2,jC st us=some q∧ev=wY q b1 b2
theorem Uc (h:zT w X B slots s xs st bl u) {ev:Array Value} (he:Jk st us ev) (hk:zW .u8 w (·<w.heap.size) A m us) (hb:Bytes us) (hm:m≤1000000) :
 Calls Tryz.prog 75 #[uf B,.slice A m c,.agg ev] w fun e w'=>e=.returned (.tuple #[])∧zT w' X B slots s xs (qV st us) bl u∧Kept (fun b=>b<w.heap.size∧b≠B.x) w w':=by
 rcases he with ⟨h1,rfl⟩ | ⟨q,b1,b2,h1,rfl⟩
 ·rw[Gi h1]
  refine (zDI B.l B.x A m c w).mono ?_
  rintro e w' ⟨rfl,hb⟩
  exact ⟨rfl,h.below hb,Kept.of_below hb (fun b h=>h.1)⟩
 ·obtain ⟨h2,h3⟩:=rE h1
  subst h3
  exact Ir h h2 hk hb hm b1 b2
theorem Jk.size {ev:Array Value} (h:Jk st us ev):ev.size=10∧ev.all (·.oneCell')=true:=by
 rcases h with ⟨_,rfl⟩ | ⟨q,b1,b2,_,rfl⟩
 ·exact ⟨rfl,Gt⟩
 ·exact ⟨rfl,Ju _ _ _⟩
theorem zCZ {be mq bi bn ba:Nat} {u0:FrameMode} {ev:Array Value} {i:Nat} {g sc:Int} {bs:List Int} {Av:Option Addr} {n2 c2:Nat} {f0 x0 q0:Int} {dy:Bool} (h:zT w X B slots s xs st bl u) (hev:Jk st (keyOf bs) ev)
 (h1:z8 w be 36 #[.int .i64 0]) (h2:z8 w mq 56 #[.pointer (some ⟨B.q,0,none⟩)]) (h3:z8 w bi 53 #[.slice A m c,.slice Av n2 c2,.int .u32 f0,.int .u32 x0,.int .u64 q0,.bool dy]) (h4:z8 w bn 154 ev) (h5:z8 w ba 35 #[.int .i64 (i:Int),.int .u64 g,.int .i64 sc])
 (hX:X mq∧X bi∧X ba) (hi:i<bl.length) (hk:zW .u8 w X A m (keyOf bs)) (hb:Bytes (keyOf bs)) (hm:m≤1000000) (hat:AtR B.k s xs ((i:Int),g,sc) bs) (hfr:∀ p,p∈st→p.1≠((i:Int),g,sc)) (hkd:kindOf bs=1) (hsl:(qV st (keyOf bs)).length≠slots) :
 CallsD Tryz.prog 74 #[.pointer (some ⟨be,0,none⟩),.pointer (some ⟨mq,0,none⟩),.pointer (some ⟨bi,0,none⟩),.pointer (some ⟨bn,0,none⟩),.pointer (some ⟨ba,0,none⟩)] u0 w fun e u' w'=>u'=u0∧e=.returned (.tuple #[])∧zT w' X B slots s xs (qV st (keyOf bs)++[(((i:Int),g,sc),bs)]) (rJ bl i (keyOf bs)) u∧Kept (fun b=>b<w.heap.size∧¬ B.own b) w w':=by
 have xV:=hI h
 have H2:=hI h2
 have H3:=hI h3
 have H4:=hI h4
 have H5:=hI h5
 have HE:=hI hev
 have HX:=hI hX
 have HK:=hI hk
 have qm:=hI hb
 have HM:=hI hm
 have VI:=hI hi
 have HSL:=hI hsl
 have Yn:=hI ((h.inv.out (us:=keyOf bs)).put2 hat (fun p hp=>hfr p (kJ.1 hp).1) hkd (fun p hp=>(kJ.1 hp).2))
 have BI:=hI (show ∀ p,p∈qV st (keyOf bs)→p.1≠((i:Int),g,sc) from fun p hp=>hfr p (kJ.1 hp).1)
 have c1:w.cell? ⟨be,0,none⟩=some (.int .i64 0):=h1.cell 0
 clear h h1 h2 h3 h4 h5 hev hX hk hb hm hi hsl hat hfr hkd
 go_enter_d Tryz.func74,Tryz.ntmps74
 go_upto_region 1 with fail
 clear c1
 refine zB.region (fun W=>Below w.heap.size w W) [7] (by kernel_rfl) ((Below.refl _ _).drew) (fun hė=>?_)
 generalize w.drew=vd at *
 refine zB.takeG (i:=0) (oi:=pd0) (v:=?_) rfl (by kernel_rfl) (by kernel_rfl) (by kernel_rfl) (by kernel_rfl) (by kernel_rfl) (fun _ _ _ h=>h) (by rfl) ?_ hė ?_
 rotate_left
 ·intro W hSW; have h9:W.cell? ⟨mq,0,none⟩=some (.pointer (some ⟨B.q,0,none⟩)):=(H2.out.below hSW H2.out.lt).cell 0; clear hSW; unfold pd0; go_simp; with_reducible rfl
 simp only[pd0,Act.put,sA,sZ,sS]
 refine zB.takeG (i:=1) (oi:=pd1) (v:=?_) rfl (by kernel_rfl) (by kernel_rfl) (by kernel_rfl) (by kernel_rfl) (by kernel_rfl) (fun _ _ _ h=>h) (by rfl) ?_ hė ?_
 rotate_left
 ·intro W hSW; unfold pd1; go_simp; with_reducible rfl
 simp only[pd1,Act.put,sA,sZ,sS]
 refine zB.takeG (i:=2) (oi:=pd2) (v:=?_) rfl (by kernel_rfl) (by kernel_rfl) (by kernel_rfl) (by kernel_rfl) (by kernel_rfl) (fun _ _ _ h=>h) (by rfl) ?_ hė ?_
 rotate_left
 ·intro W hSW; unfold pd2; go_simp; with_reducible rfl
 simp only[pd2,Act.put,sA,sZ,sS]
 refine zB.takeG (i:=3) (oi:=pd3) (v:=uf B) rfl (by kernel_rfl) (by kernel_rfl) (by kernel_rfl) (by kernel_rfl) (by kernel_rfl) (fun _ _ _ h=>h) (by rfl) ?_ hė ?_
 ·intro W hSW; have h8:=(xV.out.below hSW).cells.1; have h9:=(xV.out.below hSW).cells.2.1; clear hSW; unfold pd3; go_simp
 simp only[pd3,Act.put,sA,sZ,sS]
 refine zB.takeG (i:=4) (oi:=pd4) (v:=?_) rfl (by kernel_rfl) (by kernel_rfl) (by kernel_rfl) (by kernel_rfl) (by kernel_rfl) (fun _ _ _ h=>h) (by rfl) ?_ hė ?_
 rotate_left
 ·intro W hSW; unfold pd4; go_simp; with_reducible rfl
 simp only[pd4,Act.put,sA,sZ,sS]
 refine zB.takeG (i:=5) (oi:=pd5) (v:=?_) rfl (by kernel_rfl) (by kernel_rfl) (by kernel_rfl) (by kernel_rfl) (by kernel_rfl) (fun _ _ _ h=>h) (by rfl) ?_ hė ?_
 rotate_left
 ·intro W hSW; have h9:W.cell? ⟨bi,0,none⟩=some (.slice A m c):=(H3.out.below hSW H3.out.lt).cell 0; clear hSW; unfold pd5; go_simp; with_reducible rfl
 simp only[pd5,Act.put,sA,sZ,sS]
 refine zB.takeG (i:=6) (oi:=pd6) (v:=.agg ev) rfl (by kernel_rfl) (by kernel_rfl) (by kernel_rfl) (by kernel_rfl) (by kernel_rfl) (fun _ _ _ h=>h) (by rfl) ?_ hė ?_
 ·intro W hSW; have h9:=H4.out.below hSW H4.out.lt; rw[← Array.toArray_toList (xs:=ev)] at h9 ⊢; refine ZQ (.tmp 3) 154 rfl bn rfl 154 ev.toList _ Tryz.underlying154 rfl ?_ h9; rw[xE,Array.length_toList,HE.out.size.1]
 simp only[pd6,Act.put,sA,sZ,sS]
 refine tO 7 pd7 ?_
 intro K hK
 have hX0:=xV.out.lt
 refine zN 75 #[.tmp 10,.tmp 12,.tmp 13] #[134,31,154] rfl rfl Tryz.func75 rfl rfl [uf B,.slice A m c,.agg ev] rfl ((Uc (xV.out.below hė) HE.out ((HK.out.below hė hX0).more (fun b h=>nL (hX0 b h) hė.size)) qm.out HM.out).mono ?_)
 rintro e w2 ⟨rfl,hm2,hk2⟩
 refine ⟨_,rfl,?_⟩
 simp only[pd7,Act.put,sA,sZ,sS]
 have hkk:=(Kept.of_below (S:=fun b=>b<w.heap.size∧b≠B.x) hė (fun b h=>h.1)).trans hk2 (fun b h=>⟨nL h.1 hė.size,h.2⟩)
 have bJ:=hI hm2
 have HKK:=hI hkk
 clear hm2 hkk hk2 hX0
 refine hK.out _ _ (fun h=>by cases h) (fun _=>?_)
 clear hK K hė
 refine zB.done (by kernel_rfl) ?_ _
 have hxo:∀ b,X b→b<w.heap.size∧b≠B.x:=fun b hb=>⟨xV.out.lt b hb,fun e=>xV.out.off B.x (.inr (.inl rfl)) (e▸hb)⟩
 have yI:=hI (HK.out.kept HKK.out hxo)
 have HB2:=hI (H2.out.kept HKK.out (hxo _ HX.out.1))
 have HI2:=hI (H3.out.kept HKK.out (hxo _ HX.out.2.1))
 have HA2:=hI (H5.out.kept HKK.out (hxo _ HX.out.2.2))
 have hbs:w2.cell? ⟨mq,0,none⟩=some (.pointer (some ⟨B.q,0,none⟩)):=HB2.out.cell 0
 have hbi:w2.cell? ⟨bi,0,none⟩=some (.slice A m c):=HI2.out.cell 0
 have a0:w2.cell? ⟨ba,0,none⟩=some (.int .i64 (i:Int)):=HA2.out.cell 0
 have a1:w2.cell? ⟨ba,1,none⟩=some (.int .u64 g):=HA2.out.cell 1
 have a2:w2.cell? ⟨ba,2,none⟩=some (.int .i64 sc):=HA2.out.cell 2
 have Z8:=hI (Ht (c:=c) bJ.out VI.out (yI.out.more (fun b h=>⟨nL (hxo b h).1 HKK.out.size,fun e=>xV.out.off b e h⟩)) qm.out HM.out Yn.out BI.out HSL.out)
 clear hxo
 go_wp2_with fail
 refine Z8.out.mono ?_
 rintro e w3 ⟨rfl,U7,hk3⟩
 have xw:=hI U7
 have yH:=hI ((HKK.out.mono (S:=fun b=>b<w.heap.size∧¬ B.own b) (fun b h=>⟨h.1,fun e=>h.2 (.inr (.inl e))⟩)).trans hk3 (fun b h=>⟨nL h.1 HKK.out.size,h.2⟩))
 clear U7 hk3 Z8 hbs hbi a0 a1 a2
 go_wp2_with fail
 go_end0
 exact ⟨rfl,xw.out,yH.out⟩
theorem Ef {be mq bk bn:Nat} {u0:FrameMode} {ev:Array Value} (h:zT w X B slots s xs st bl u) (hev:Jk st us ev)
 (h1:z8 w be 36 #[.int .i64 0]) (h2:z8 w mq 56 #[.pointer (some ⟨B.q,0,none⟩)]) (h3:z8 w bk 31 #[.slice A m c]) (h4:z8 w bn 154 ev)
 (hk:zW .u8 w X A m us) (hb:Bytes us) (hm:m≤1000000) :
 CallsD Tryz.prog 91 #[.pointer (some ⟨be,0,none⟩),.pointer (some ⟨mq,0,none⟩),.pointer (some ⟨bk,0,none⟩),.pointer (some ⟨bn,0,none⟩)] u0 w fun e u' w'=>u'=u0∧e=.returned (.tuple #[])∧zT w' X B slots s xs (qV st us) bl u∧Kept (fun b=>b<w.heap.size∧¬ B.own b) w w':=by
 have xV:=hI h
 have H2:=hI h2
 have H3:=hI h3
 have H4:=hI h4
 have HE:=hI hev
 have HK:=hI hk
 have qm:=hI hb
 have HM:=hI hm
 have c1:w.cell? ⟨be,0,none⟩=some (.int .i64 0):=h1.cell 0
 clear h h1 h2 h3 h4 hev hk hb hm
 go_enter_d Tryz.func91,Tryz.ntmps91
 go_upto_region 1 with fail
 clear c1
 refine zB.region (fun W=>Below w.heap.size w W) [6] (by kernel_rfl) ((Below.refl _ _).drew) (fun hė=>?_)
 generalize w.drew=vd at *
 refine zB.takeG (i:=0) (oi:=kd0) (v:=?_) rfl (by kernel_rfl) (by kernel_rfl) (by kernel_rfl) (by kernel_rfl) (by kernel_rfl) (fun _ _ _ h=>h) (by rfl) ?_ hė ?_
 rotate_left
 ·intro W hSW; have h9:W.cell? ⟨mq,0,none⟩=some (.pointer (some ⟨B.q,0,none⟩)):=(H2.out.below hSW H2.out.lt).cell 0; clear hSW; unfold kd0; go_simp; with_reducible rfl
 simp only[kd0,Act.put,sA,sZ,sS]
 refine zB.takeG (i:=1) (oi:=kd1) (v:=?_) rfl (by kernel_rfl) (by kernel_rfl) (by kernel_rfl) (by kernel_rfl) (by kernel_rfl) (fun _ _ _ h=>h) (by rfl) ?_ hė ?_
 rotate_left
 ·intro W hSW; unfold kd1; go_simp; with_reducible rfl
 simp only[kd1,Act.put,sA,sZ,sS]
 refine zB.takeG (i:=2) (oi:=kd2) (v:=?_) rfl (by kernel_rfl) (by kernel_rfl) (by kernel_rfl) (by kernel_rfl) (by kernel_rfl) (fun _ _ _ h=>h) (by rfl) ?_ hė ?_
 rotate_left
 ·intro W hSW; unfold kd2; go_simp; with_reducible rfl
 simp only[kd2,Act.put,sA,sZ,sS]
 refine zB.takeG (i:=3) (oi:=kd3) (v:=uf B) rfl (by kernel_rfl) (by kernel_rfl) (by kernel_rfl) (by kernel_rfl) (by kernel_rfl) (fun _ _ _ h=>h) (by rfl) ?_ hė ?_
 ·intro W hSW; have h8:=(xV.out.below hSW).cells.1; have h9:=(xV.out.below hSW).cells.2.1; clear hSW; unfold kd3; go_simp
 simp only[kd3,Act.put,sA,sZ,sS]
 refine zB.takeG (i:=4) (oi:=kd4) (v:=?_) rfl (by kernel_rfl) (by kernel_rfl) (by kernel_rfl) (by kernel_rfl) (by kernel_rfl) (fun _ _ _ h=>h) (by rfl) ?_ hė ?_
 rotate_left
 ·intro W hSW; have h9:W.cell? ⟨bk,0,none⟩=some (.slice A m c):=(H3.out.below hSW H3.out.lt).cell 0; clear hSW; unfold kd4; go_simp; with_reducible rfl
 simp only[kd4,Act.put,sA,sZ,sS]
 refine zB.takeG (i:=5) (oi:=kd5) (v:=.agg ev) rfl (by kernel_rfl) (by kernel_rfl) (by kernel_rfl) (by kernel_rfl) (by kernel_rfl) (fun _ _ _ h=>h) (by rfl) ?_ hė ?_
 ·intro W hSW; have h9:=H4.out.below hSW H4.out.lt; rw[← Array.toArray_toList (xs:=ev)] at h9 ⊢; refine ZQ (.tmp 3) 154 rfl bn rfl 154 ev.toList _ Tryz.underlying154 rfl ?_ h9; rw[xE,Array.length_toList,HE.out.size.1]
 simp only[kd5,Act.put,sA,sZ,sS]
 refine tO 6 kd6 ?_
 intro K hK
 have hX0:=xV.out.lt
 refine zN 75 #[.tmp 9,.tmp 10,.tmp 11] #[134,31,154] rfl rfl Tryz.func75 rfl rfl [uf B,.slice A m c,.agg ev] rfl ((Uc (xV.out.below hė) HE.out ((HK.out.below hė hX0).more (fun b h=>nL (hX0 b h) hė.size)) qm.out HM.out).mono ?_)
 rintro e w2 ⟨rfl,hm2,hk2⟩
 refine ⟨_,rfl,?_⟩
 simp only[kd6,Act.put,sA,sZ,sS]
 have hkk:=(Kept.of_below (S:=fun b=>b<w.heap.size∧b≠B.x) hė (fun b h=>h.1)).trans hk2 (fun b h=>⟨nL h.1 hė.size,h.2⟩)
 have bJ:=hI hm2
 have HKK:=hI hkk
 clear hm2 hkk hk2 hX0
 refine hK.out _ _ (fun h=>by cases h) (fun _=>?_)
 clear hK K hė
 refine zB.done (by kernel_rfl) ?_ _
 go_wp2_with fail
 go_end0
 exact ⟨rfl,bJ.out,HKK.out.mono (S:=fun b=>b<w.heap.size∧¬ B.own b) (fun b h=>⟨h.1,fun e=>h.2 (.inr (.inl e))⟩)⟩
theorem zCa {be:Nat} {er:Int} {u0:FrameMode} (a1 a2 a3 a4:Value) (h1:z8 w be 36 #[.int .i64 er]) (hne:(er==0)=false) :
 CallsD Tryz.prog 74 #[.pointer (some ⟨be,0,none⟩),a1,a2,a3,a4] u0 w fun e u' w'=>u'=u0∧e=.returned (.tuple #[])∧w'=w:=by
 have c1:w.cell? ⟨be,0,none⟩=some (.int .i64 er):=h1.cell 0
 clear h1
 go_enter_d Tryz.func74,Tryz.ntmps74
 go_wp2_with fail
 go_end0
 exact ⟨rfl,rfl⟩
theorem Eh {be:Nat} {er:Int} {u0:FrameMode} (a1 a2 a3:Value) (h1:z8 w be 36 #[.int .i64 er]) (hne:(er==0)=false) :
 CallsD Tryz.prog 91 #[.pointer (some ⟨be,0,none⟩),a1,a2,a3] u0 w fun e u' w'=>u'=u0∧e=.returned (.tuple #[])∧w'=w:=by
 have c1:w.cell? ⟨be,0,none⟩=some (.int .i64 er):=h1.cell 0
 clear h1
 go_enter_d Tryz.func91,Tryz.ntmps91
 go_wp2_with fail
 go_end0
 exact ⟨rfl,rfl⟩
theorem zEY (h:jC st us≠none):(qV st us).length<st.length:=by
 obtain ⟨q,hq⟩:∃ q,jC st us=some q:=Option.ne_none_iff_exists'.1 h
 obtain ⟨h1,h2⟩:=rE hq
 unfold qV
 refine List.length_filter_lt_length_iff_exists.2 ⟨q,h1,by simp[h2]⟩
end
end
section
attribute [local go_sem] Oper.semAt_some
abbrev md0:Oper:=⟨some 7,.load 56 (.tmp 1),56,"store.go:192",#[],none⟩
abbrev md1:Oper:=⟨some 8,.nilCheck (.tmp 7),0,"store.go:192",#[⟨0,.data⟩],none⟩
abbrev md2:Oper:=⟨some 9,.fieldAddr 137 (.tmp 8) 0,0,"store.go:192",#[⟨1,.data⟩],none⟩
abbrev md3:Oper:=⟨some 10,.load 134 (.tmp 9),134,"store.go:192",#[⟨2,.data⟩],none⟩
abbrev md4:Oper:=⟨some 11,.load 31 (.tmp 2),31,"store.go:192",#[],none⟩
abbrev md5:Oper:=⟨some 12,.fieldAddr 40 (.tmp 3) 0,0,"store.go:192",#[],none⟩
abbrev md6:Oper:=⟨some 13,.load 35 (.tmp 12),35,"store.go:192",#[⟨5,.data⟩],none⟩
abbrev md7:Oper:=⟨some 14,.build 154 #[(0,.const (.bool true)),(1,.tmp 13)],154,"store.go:192",#[⟨6,.data⟩],none⟩
abbrev md8:Oper:=⟨some 15,.call { callee:=.value (.func 75),args:=#[.tmp 10,.tmp 11,.tmp 14],argTypes:=#[134,31,154] },0,"store.go:192",#[⟨3,.data⟩,⟨4,.data⟩,⟨7,.data⟩],none⟩
abbrev Bb (q:zm):Array Value:=SQ q (.int .i64 0) (.int .u32 0) (.int .u32 0) (.int .u64 0) (.slice none 0 0) (.slice none 0 0)
theorem Fu (q:zm):Tryz.prog.built 154 [(0,.bool true),(1,.agg #[.int .i64 q.1.1,.int .u64 q.1.2.1,.int .i64 q.1.2.2])]=some (Bb q):=by kernel_rfl
section
variable {w w':World} {X Y:Nat→Prop} {B:xu} {slots:Nat} {s:Sup} {xs:List Seg} {st:List zm} {bl:List (List Int)} {u:Bool} {A:Option Addr} {m c:Nat} {k:Dk}
theorem EA {be mq bk bp ba:Nat} {u0:FrameMode} {p:zm} {i:Nat} {g sc:Int} (h:zT w X B slots s xs st bl u) (hp:p∈st)
 (h1:z8 w be 36 #[.int .i64 0]) (h2:z8 w mq 56 #[.pointer (some ⟨B.q,0,none⟩)]) (h3:z8 w bk 31 #[.slice A m c]) (h4:w.rangeAt bp 0 [.int .i64 p.1.1,.int .u64 p.1.2.1,.int .i64 p.1.2.2]) (h5:z8 w ba 35 #[.int .i64 (i:Int),.int .u64 g,.int .i64 sc])
 (hX:X mq∧X bk∧X ba∧bp<w.heap.size) (hi:i<bl.length) (hk:zW .u8 w X A m (keyOf p.2)) (hb:Bytes (keyOf p.2)) (hm:m≤1000000) (hat:AtR B.k s xs ((i:Int),g,sc) p.2) (hfr:∀ q,q∈st→q.1≠((i:Int),g,sc)) (hsl:(qV st (keyOf p.2)).length≠slots) :
 CallsD Tryz.prog 101 #[.pointer (some ⟨be,0,none⟩),.pointer (some ⟨mq,0,none⟩),.pointer (some ⟨bk,0,none⟩),.pointer (some ⟨bp,0,none⟩),.pointer (some ⟨ba,0,none⟩)] u0 w fun e u' w'=>u'=u0∧e=.returned (.tuple #[])∧zT w' X B slots s xs (qV st (keyOf p.2)++[(((i:Int),g,sc),p.2)]) (rJ bl i (keyOf p.2)) u∧Kept (fun b=>b<w.heap.size∧¬ B.own b) w w':=by
 have xV:=hI h
 have HP:=hI hp
 have H2:=hI h2
 have H3:=hI h3
 have H4:=hI h4
 have H5:=hI h5
 have HX:=hI hX
 have HK:=hI hk
 have qm:=hI hb
 have HM:=hI hm
 have VI:=hI hi
 have HSL:=hI hsl
 have Yn:=hI ((h.inv.out (us:=keyOf p.2)).put2 hat (fun q hq=>hfr q (kJ.1 hq).1) (h.inv.kind p hp) (fun q hq=>(kJ.1 hq).2))
 have BI:=hI (show ∀ q,q∈qV st (keyOf p.2)→q.1≠((i:Int),g,sc) from fun q hq=>hfr q (kJ.1 hq).1)
 have c1:w.cell? ⟨be,0,none⟩=some (.int .i64 0):=h1.cell 0
 clear h h1 h2 h3 h4 h5 hp hX hk hb hm hi hsl hat hfr
 go_enter_d Tryz.func101,Tryz.ntmps101
 go_upto_region 1 with fail
 clear c1
 refine zB.region (fun W=>Below w.heap.size w W) [8] (by kernel_rfl) ((Below.refl _ _).drew) (fun hė=>?_)
 generalize w.drew=vd at *
 refine zB.takeG (i:=0) (oi:=md0) (v:=?_) rfl (by kernel_rfl) (by kernel_rfl) (by kernel_rfl) (by kernel_rfl) (by kernel_rfl) (fun _ _ _ h=>h) (by rfl) ?_ hė ?_
 rotate_left
 ·intro W hSW; have h9:W.cell? ⟨mq,0,none⟩=some (.pointer (some ⟨B.q,0,none⟩)):=(H2.out.below hSW H2.out.lt).cell 0; clear hSW; unfold md0; go_simp; with_reducible rfl
 simp only[md0,Act.put,sA,sZ,sS]
 refine zB.takeG (i:=1) (oi:=md1) (v:=?_) rfl (by kernel_rfl) (by kernel_rfl) (by kernel_rfl) (by kernel_rfl) (by kernel_rfl) (fun _ _ _ h=>h) (by rfl) ?_ hė ?_
 rotate_left
 ·intro W hSW; unfold md1; go_simp; with_reducible rfl
 simp only[md1,Act.put,sA,sZ,sS]
 refine zB.takeG (i:=2) (oi:=md2) (v:=?_) rfl (by kernel_rfl) (by kernel_rfl) (by kernel_rfl) (by kernel_rfl) (by kernel_rfl) (fun _ _ _ h=>h) (by rfl) ?_ hė ?_
 rotate_left
 ·intro W hSW; unfold md2; go_simp; with_reducible rfl
 simp only[md2,Act.put,sA,sZ,sS]
 refine zB.takeG (i:=3) (oi:=md3) (v:=uf B) rfl (by kernel_rfl) (by kernel_rfl) (by kernel_rfl) (by kernel_rfl) (by kernel_rfl) (fun _ _ _ h=>h) (by rfl) ?_ hė ?_
 ·intro W hSW; have h8:=(xV.out.below hSW).cells.1; have h9:=(xV.out.below hSW).cells.2.1; clear hSW; unfold md3; go_simp
 simp only[md3,Act.put,sA,sZ,sS]
 refine zB.takeG (i:=4) (oi:=md4) (v:=?_) rfl (by kernel_rfl) (by kernel_rfl) (by kernel_rfl) (by kernel_rfl) (by kernel_rfl) (fun _ _ _ h=>h) (by rfl) ?_ hė ?_
 rotate_left
 ·intro W hSW; have h9:W.cell? ⟨bk,0,none⟩=some (.slice A m c):=(H3.out.below hSW H3.out.lt).cell 0; clear hSW; unfold md4; go_simp; with_reducible rfl
 simp only[md4,Act.put,sA,sZ,sS]
 refine zB.takeG (i:=5) (oi:=md5) (v:=.pointer (some ⟨bp,0,none⟩)) rfl (by kernel_rfl) (by kernel_rfl) (by kernel_rfl) (by kernel_rfl) (by kernel_rfl) (fun _ _ _ h=>h) (by rfl) ?_ hė ?_
 ·intro W hSW; clear hSW; unfold md5; go_simp
 simp only[md5,Act.put,sA,sZ,sS]
 refine zB.takeG (i:=6) (oi:=md6) (v:=.agg #[.int .i64 p.1.1,.int .u64 p.1.2.1,.int .i64 p.1.2.2]) rfl (by kernel_rfl) (by kernel_rfl) (by kernel_rfl) (by kernel_rfl) (by kernel_rfl) (fun _ _ _ h=>h) (by rfl) ?_ hė ?_
 ·intro W hSW; refine qw (.tmp 12) 35 ?_ bp 0 ?_ [.int .i64 p.1.1,.int .u64 p.1.2.1,.int .i64 p.1.2.2] _ Tryz.underlying35 rfl kD (fun j v hv=>(hSW.cell (p:=⟨bp,_,none⟩) HX.out.2.2.2).trans (H4.out j v hv)) <;> rfl
 simp only[md6,Act.put,sA,sZ,sS]
 refine zB.takeG (i:=7) (oi:=md7) (v:=.agg (Bb p)) rfl (by kernel_rfl) (by kernel_rfl) (by kernel_rfl) (by kernel_rfl) (by kernel_rfl) (fun _ _ _ h=>h) (by rfl) ?_ hė ?_
 ·intro W hSW; refine Km 154 #[(0,.const (.bool true)),(1,.tmp 13)] ?_ [(0,.bool true),(1,.agg #[.int .i64 p.1.1,.int .u64 p.1.2.1,.int .i64 p.1.2.2])] ?_ (Bb p) (Fu p) <;> first | rfl | simp[Act.eval]
 simp only[md7,Act.put,sA,sZ,sS]
 refine tO 8 md8 ?_
 intro K hK
 have hX0:=xV.out.lt
 refine zN 75 #[.tmp 10,.tmp 11,.tmp 14] #[134,31,154] rfl rfl Tryz.func75 rfl rfl [uf B,.slice A m c,.agg (Bb p)] rfl ((Dq (xV.out.below hė) HP.out ((HK.out.below hė hX0).more (fun b h=>nL (hX0 b h) hė.size)) qm.out HM.out _ _ _ _ _ _).mono ?_)
 rintro e w2 ⟨rfl,hm2,hk2⟩
 refine ⟨_,rfl,?_⟩
 simp only[md8,Act.put,sA,sZ,sS]
 have hkk:=(Kept.of_below (S:=fun b=>b<w.heap.size∧b≠B.x) hė (fun b h=>h.1)).trans hk2 (fun b h=>⟨nL h.1 hė.size,h.2⟩)
 have bJ:=hI hm2
 have HKK:=hI hkk
 clear hm2 hkk hk2 hX0
 refine hK.out _ _ (fun h=>by cases h) (fun _=>?_)
 clear hK K hė
 refine zB.done (by kernel_rfl) ?_ _
 have hxo:∀ b,X b→b<w.heap.size∧b≠B.x:=fun b hb=>⟨xV.out.lt b hb,fun e=>xV.out.off B.x (.inr (.inl rfl)) (e▸hb)⟩
 have yI:=hI (HK.out.kept HKK.out hxo)
 have HB2:=hI (H2.out.kept HKK.out (hxo _ HX.out.1))
 have HI2:=hI (H3.out.kept HKK.out (hxo _ HX.out.2.1))
 have HA2:=hI (H5.out.kept HKK.out (hxo _ HX.out.2.2.1))
 have hbs:w2.cell? ⟨mq,0,none⟩=some (.pointer (some ⟨B.q,0,none⟩)):=HB2.out.cell 0
 have hbi:w2.cell? ⟨bk,0,none⟩=some (.slice A m c):=HI2.out.cell 0
 have a0:w2.cell? ⟨ba,0,none⟩=some (.int .i64 (i:Int)):=HA2.out.cell 0
 have a1:w2.cell? ⟨ba,1,none⟩=some (.int .u64 g):=HA2.out.cell 1
 have a2:w2.cell? ⟨ba,2,none⟩=some (.int .i64 sc):=HA2.out.cell 2
 have Z8:=hI (Ht (c:=c) bJ.out VI.out (yI.out.more (fun b h=>⟨nL (hxo b h).1 HKK.out.size,fun e=>xV.out.off b e h⟩)) qm.out HM.out Yn.out BI.out HSL.out)
 clear hxo
 go_wp2_with fail
 refine Z8.out.mono ?_
 rintro e w3 ⟨rfl,U7,hk3⟩
 have xw:=hI U7
 have yH:=hI ((HKK.out.mono (S:=fun b=>b<w.heap.size∧¬ B.own b) (fun b h=>⟨h.1,fun e=>h.2 (.inr (.inl e))⟩)).trans hk3 (fun b h=>⟨nL h.1 HKK.out.size,h.2⟩))
 clear U7 hk3 Z8 hbs hbi a0 a1 a2
 go_wp2_with fail
 go_end0
 exact ⟨rfl,xw.out,yH.out⟩
theorem EB {be:Nat} {er:Int} {u0:FrameMode} (a1 a2 a3 a4:Value) (h1:z8 w be 36 #[.int .i64 er]) (hne:(er==0)=false) :
 CallsD Tryz.prog 101 #[.pointer (some ⟨be,0,none⟩),a1,a2,a3,a4] u0 w fun e u' w'=>u'=u0∧e=.returned (.tuple #[])∧w'=w:=by
 have c1:w.cell? ⟨be,0,none⟩=some (.int .i64 er):=h1.cell 0
 clear h1
 go_enter_d Tryz.func101,Tryz.ntmps101
 go_wp2_with fail
 go_end0
 exact ⟨rfl,rfl⟩
end
end
section
attribute [local go_sem] Oper.semAt_some
theorem FY (i:Nat) (w:World) (hi:i≤15) :
 Calls Tryz.prog 126 #[.int .i64 i,.int .u64 0] w fun e w'=>e=.returned (.tuple #[.agg (zA (noughts 64)),.int .i64 2])∧Below w.heap.size w w':=by
 have hi2:(i:Int)≤15:=by omega
 have HR:=hI (show qF (Value.int .u8) ((w.alloc (.cells (zA (noughts 64)) 186)).alloc (.cells #[.int .u8 ((i:Int) / 256),.int .u8 (i:Int)] 5)) w.heap.size 186 (noughts 64) from (z8.new w _ _).alloc _)
 have HB:=hI (((Below.refl w.heap.size w).alloc (nR _) (.cells (zA (noughts 64)) 186)).alloc (by simp) (.cells #[.int .u8 ((i:Int) / 256),.int .u8 (i:Int)] 5))
 go_enter Tryz.func126,Tryz.ntmps126
 go_wp2_with (refine zG rfl rfl ?_)
 refine (Wo 0 _ 2 2 _).mono ?_
 rintro e w2 ⟨rfl,hb⟩
 have HR2:=hI (show qF (Value.int .u8) w2 w.heap.size 186 (noughts 64) from z8.below HR.out hb (z8.lt HR.out))
 have HB2:=hI (HB.out.trans (hb.mono HB.out.size))
 clear hb
 go_wp2_with (first
  | (refine jM (.tmp 4) (.tmp 16) rfl rfl w.heap.size (noughts 64) rfl rfl 186 (noughts 64) HR2.out (zC 64) (zC 64) ?_)
  | (with_reducible refine zJ ?_))
 exact Halt.ret (x9 (p:=4) (u:=5) rfl _ _ w.heap.size 186 (noughts 64) rfl (HR2.out.setRow (noughts 64)) (zC 64)) rfl ⟨rfl,below_setRow HB2.out (nR _) _⟩
def kR (ys:List Int) (i:Nat):Int:=if stamped ys=true∧fD i (qD ys)=ys then qD ys else 0
theorem Dw {σ:Type} {X0:Nat→Prop} {V:Nat→List Int} {E:Nat→Int} {nx:σ→Nat→σ} {R:(Nat→Prop)→σ→World→Prop} {w:World} {st:σ} (c0:Value) (H:bH 121 [c0] w.heap.size X0 V E nx R) (h:R X0 st w) (seg:Nat) (hseg:seg≤15) :
 Calls Tryz.prog 54 #[.func (.func 121) #[] #[c0],.int .i64 seg] w fun e w'=>e=.returned (.int .u64 (kR (V 0) seg))∧R X0 (nx st 0) w'∧Kept X0 w w':=by
 have HC:=hI (H.call _ _ _ 0 h (by omega))
 have hlen:=H.len 0
 have hby:=H.byt 0
 obtain ⟨ys,hys⟩:∃ ys,V 0=ys:=⟨_,rfl⟩
 rw[hys] at HC hlen hby ⊢
 have H:=hI H
 obtain ⟨e0,he0⟩:∃ e0,E 0=e0:=⟨_,rfl⟩
 rw[he0] at HC
 clear h hys he0
 go_enter Tryz.func54,Tryz.ntmps54
 go_wp2_with fail
 refine HC.out.mono ?_
 rintro e v1 ⟨rfl,hr,hk⟩
 have HR:=hI hr
 have HK:=hI hk
 have wo:=hI (show ∀ W,Below v1.heap.size v1 W→R X0 (nx st 0) W∧Kept X0 w W from fun W hb=>by
  have hkb:Kept (fun b=>b<v1.heap.size) v1 W:=Kept.of_below hb (fun b h=>h)
  exact ⟨H.out.back _ _ _ (H.out.put X0 _ _ v1 W HR.out hkb (fun b h1 h2=>absurd h1 h2)) (fun b hb=>.inl hb),HK.out.trans hkb (H.out.lt _ _ _ HR.out)⟩)
 obtain ⟨w2,hw2⟩:∃ w2,w2=v1.alloc (.cells (zA ys) 186):=⟨_,rfl⟩
 have HB2:=hI (show Below v1.heap.size v1 w2 by rw[hw2]; exact (Below.refl _ v1).alloc (nR _) _)
 have HA2:=hI (show qB w2 v1.heap.size ys by rw[hw2]; exact z8.new v1 _ _)
 have HW2:=hI hw2
 clear hr hk hw2 HC
 by_cases hst:stamped ys=true
 case neg =>
  have hst:stamped ys=false:=by simpa using hst
  have jg:=hI (YL ys w2 hlen hby hst)
  have eb:kR ys seg=0:=by unfold kR; rw[hst]; rfl
  have HHD:=hI (fun W=>FY seg W hseg)
  have VJ:=hI eb
  clear eb hst
  go_upto_region 2 with (first
   | (refine zG rfl rfl ?_)
   | (refine zU (.tmp 5) (.tmp 15) rfl rfl v1 ys rfl rfl (noughts 64) rfl (zC 64) hlen ?_; rw[← HW2.out]))
  go_wp2_with (refine zQ (.tmp 5) rfl rfl v1.heap.size 0 rfl ys hlen HA2.out.range ?_)
  refine jg.out.mono ?_
  rintro e w3 ⟨rfl,hb3⟩
  have HB3:=hI (HB2.out.trans (hb3.mono HB2.out.size))
  obtain ⟨w4,hw4⟩:∃ w4,w4=w3.alloc (.cells #[.int .u64 0,.int .u32 0,.int .i64 0] 203):=⟨_,rfl⟩
  have yg:=hI (show z8 w4 w3.heap.size 203 #[.int .u64 0,.int .u32 0,.int .i64 0] by rw[hw4]; exact z8.new w3 _ _)
  have zq:=hI (show Below v1.heap.size v1 w4 by rw[hw4]; exact HB3.out.alloc HB3.out.size _)
  have nI:=hI hw4
  clear hb3 hw4
  go_upto_region 3 with fail
  rw[← nI.out]
  have k0:=yg.out.cell 0
  go_wp2_with fail
  refine (HHD.out w4).mono ?_
  rintro e w5 ⟨rfl,hb5⟩
  have qM:=hI (zq.out.trans (hb5.mono zq.out.size))
  clear hb5 k0
  go_wp2_with (first
   | (refine zG rfl rfl ?_)
   | (refine zU (.tmp 10) (.tmp 28) rfl rfl w5 (noughts 64) rfl rfl (noughts 64) rfl (zC 64) (zC 64) ?_))
  go_ret
  rw[VJ.out]
  exact ⟨rfl,wo.out _ (qM.out.alloc qM.out.size _)⟩
 have hgb:=Zq hby hlen
 have hg1:1≤qD ys:=by simp[stamped] at hst; exact hst.1
 have jg:=hI (YK ys w2 hlen hby hst)
 have hg2:qD ys≤18446744073709551615:=by omega
 have BJ:=hI (show kR ys seg=if fD seg (qD ys)=ys then qD ys else 0 by unfold kR; rw[hst]; simp)
 obtain ⟨g,hg⟩:∃ g,qD ys=g:=⟨_,rfl⟩
 rw[hg] at BJ hg1 hg2
 have HHD:=hI (fun W=>Zk seg g W hseg ⟨hg1,hg2⟩)
 have HG:=hI hg
 have hlh:=rV seg g
 obtain ⟨hs,gB⟩:∃ hs,fD seg g=hs:=⟨_,rfl⟩
 rw[gB] at BJ HHD hlh
 clear hst hgb hg gB
 go_upto_region 2 with (first
  | (refine zG rfl rfl ?_)
  | (refine zU (.tmp 5) (.tmp 15) rfl rfl v1 ys rfl rfl (noughts 64) rfl (zC 64) hlen ?_; rw[← HW2.out]))
 go_wp2_with (refine zQ (.tmp 5) rfl rfl v1.heap.size 0 rfl ys hlen HA2.out.range ?_)
 refine jg.out.mono ?_
 rintro e w3 ⟨A3,c3,rfl,hr3,hb3,_⟩
 rw[HG.out]
 have HB3:=hI (HB2.out.trans (hb3.mono HB2.out.size))
 have yt:=hI (HA2.out.below hb3 HA2.out.lt)
 obtain ⟨po,hpo⟩:∃ po,posOf ys=po:=⟨_,rfl⟩
 obtain ⟨fi,hfi⟩:∃ fi,qJ ys=fi:=⟨_,rfl⟩
 rw[hpo,hfi]
 obtain ⟨w4,hw4⟩:∃ w4,w4=w3.alloc (.cells #[.int .u64 g,.int .u32 po,.int .i64 fi] 203):=⟨_,rfl⟩
 have yg:=hI (show z8 w4 w3.heap.size 203 #[.int .u64 g,.int .u32 po,.int .i64 fi] by rw[hw4]; exact z8.new w3 _ _)
 have lS:=hI (show qB w4 v1.heap.size ys by rw[hw4]; exact yt.out.alloc _)
 have zq:=hI (show Below v1.heap.size v1 w4 by rw[hw4]; exact HB3.out.alloc HB3.out.size _)
 have nI:=hI hw4
 clear hb3 hw4 hpo hfi hr3
 go_upto_region 3 with fail
 rw[← nI.out]
 have k0:=yg.out.cell 0
 go_wp2_with fail
 refine (HHD.out w4).mono ?_
 rintro e w5 ⟨rfl,hb5⟩
 have qM:=hI (zq.out.trans (hb5.mono zq.out.size))
 obtain ⟨w6,xB⟩:∃ w6,w6=w5.alloc (.cells (zA hs) 186):=⟨_,rfl⟩
 have hb6:Below w5.heap.size w5 w6:=by rw[xB]; exact (Below.refl _ w5).alloc (nR _) _
 have gU:=hI (show qB w6 w5.heap.size hs by rw[xB]; exact z8.new w5 _ _)
 have pI:=hI (show qB w6 v1.heap.size ys from z8.below (z8.below lS.out hb5 (z8.lt lS.out)) hb6 (nL (z8.lt lS.out) hb5.size))
 have k6:=((yg.out.below hb5 yg.out.lt).below hb6 (nL yg.out.lt hb5.size)).cell 0
 have qK:=hI (qM.out.trans (hb6.mono qM.out.size))
 have nS:=hI xB
 clear hb5 hb6 xB k0
 by_cases hsm:hs=ys
 ·have q1:(!(ys==hs))=false:=by simp[hsm]
  have eb:kR ys seg=g:=by rw[BJ.out,if_pos hsm]
  have VJ:=hI eb
  clear eb hsm
  go_wp2_with (first
   | (refine zG rfl rfl ?_)
   | (refine zU (.tmp 10) (.tmp 28) rfl rfl w5 hs rfl rfl (noughts 64) rfl (zC 64) hlh ?_; rw[← nS.out])
   | (refine zQ (.tmp 5) rfl rfl v1.heap.size 0 rfl ys hlen pI.out.range ?_)
   | (refine zQ (.tmp 10) rfl rfl w5.heap.size 0 rfl hs hlh gU.out.range ?_)
   | (refine gV (.tmp 33) (.tmp 34) _ rfl rfl ys hs rfl rfl hlen hlh ?_; rw[q1]))
  go_ret
  rw[VJ.out]
  exact ⟨rfl,wo.out _ qK.out⟩
 ·have q1:(!(ys==hs))=true:=by simp; exact fun e=>hsm e.symm
  have eb:kR ys seg=0:=by rw[BJ.out,if_neg hsm]
  have VJ:=hI eb
  clear eb hsm
  go_wp2_with (first
   | (refine zG rfl rfl ?_)
   | (refine zU (.tmp 10) (.tmp 28) rfl rfl w5 hs rfl rfl (noughts 64) rfl (zC 64) hlh ?_; rw[← nS.out])
   | (refine zQ (.tmp 5) rfl rfl v1.heap.size 0 rfl ys hlen pI.out.range ?_)
   | (refine zQ (.tmp 10) rfl rfl w5.heap.size 0 rfl hs hlh gU.out.range ?_)
   | (refine gV (.tmp 33) (.tmp 34) _ rfl rfl ys hs rfl rfl hlen hlh ?_; rw[q1]))
  go_ret
  rw[VJ.out]
  exact ⟨rfl,wo.out _ qK.out⟩
end
section
attribute [local go_sem] Oper.semAt_some
structure oK (gl:Nat) (A:Option Addr) (n c:Nat) (xss:List (List Int)) (X:Nat→Prop) (st:Unit) (W:World):Prop where
 lt:∀ b,X b→b<W.heap.size
 v:z8 W gl 178 #[.slice A n c]
 xv:¬ X gl
 row:RowK W (fun b=>b<W.heap.size∧¬ X b) A n xss
def xH (xss:List (List Int)) (i:Nat):List Int:=if i<xss.length then xss.getD i [] else noughts 64
def pz (xss:List (List Int)) (i:Nat):Int:=if i<xss.length then 0 else 4
section
variable {gl n c:Nat} {A:Option Addr} {xss:List (List Int)} {X S X0:Nat→Prop} {W W':World} {st:Unit}
theorem oK.put (h:oK gl A n c xss X st W) (hk:Kept S W W') (hS:∀ b,b<W.heap.size→¬ S b→X b):oK gl A n c xss (fun b=>X b∨(W.heap.size≤b∧b<W'.heap.size)) st W':=by
 have hs:∀ b,b<W.heap.size→¬ X b→S b:=fun b h1 h2=>Classical.byContradiction fun h3=>h2 (hS b h1 h3)
 refine ⟨fun b hb=>?_,h.v.kept hk (hs _ h.v.lt h.xv),fun hx=>?_,(h.row.kept hk fun b hb=>hs b hb.1 hb.2).more fun b hb=>⟨nL hb.1 hk.size,fun hx=>?_⟩⟩
 ·rcases hb with hb | hb
  ·exact nL (h.lt b hb) hk.size
  ·exact hb.2
 ·rcases hx with hx | hx
  ·exact h.xv hx
  ·have:=h.v.lt; omega
 ·rcases hx with hx | hx
  ·exact hb.2 hx
  ·have:=hb.1; omega
theorem oK.below (h:oK gl A n c xss X st W) (hb:Below W.heap.size W W'):oK gl A n c xss X st W' :=
 ⟨fun b hx=>nL (h.lt b hx) hb.size,h.v.below hb h.v.lt,h.xv,(h.row.below hb fun b h=>h.1).more fun b hx=>⟨nL hx.1 hb.size,hx.2⟩⟩
theorem oK.back (h:oK gl A n c xss X st W) (hx:∀ b,X0 b→X b):oK gl A n c xss X0 st W :=
 ⟨fun b hb=>h.lt b (hx b hb),h.v,fun hb=>h.xv (hx _ hb),h.row.more fun b hb=>⟨hb.1,fun h0=>hb.2 (hx _ h0)⟩⟩
theorem Xb (h:oK gl A n c xss X st W) (hs:qY xss) (hn:n≤100000) (i:Nat) (hi:i≤100000) :
 Calls Tryz.prog 121 #[.int .i64 (i:Nat),.pointer (some ⟨gl,0,none⟩)] W fun e W'=>e=.returned (.tuple #[.agg (zA (xH xss i)),.int .i64 (pz xss i)])∧Below W.heap.size W W':=by
 have hlen:=h.row.1
 obtain ⟨w1,hw1⟩:∃ w1,w1=W.alloc (.cells (zA (noughts 64)) 186):=⟨_,rfl⟩
 have hb1:Below W.heap.size W w1:=by rw[hw1]; exact (Below.refl _ W).alloc (nR _) _
 have HR1:=hI (show qB w1 W.heap.size (noughts 64) by rw[hw1]; exact z8.new W _ _)
 have HB1:=hI hb1
 have HW1:=hI hw1
 have k0:=(h.v.below hb1 h.v.lt).cell 0
 have xR:=hI (h.row.below hb1 fun b hb=>hb.1)
 have pq:=hI hs
 clear h hw1 hb1 hs
 by_cases hin:i<n
 ·have e1:xH xss i=xss.getD i []:=if_pos (by omega)
  have e2:pz xss i=0:=if_pos (by omega)
  rw[e1,e2]
  obtain ⟨b,off,rfl,_,hc⟩:=xR.out.2 (by omega)
  have hr:=hc i hin
  have hl:=pq.out.get i (by omega)
  obtain ⟨ys,hys⟩:∃ ys,xss.getD i []=ys:=⟨_,rfl⟩
  rw[hys] at hr hl ⊢
  have HR:=hI hr
  have HL:=hI hl
  clear hc hr hys e1 e2 hlen
  have hq:decide ((n:Int)≤(i:Int))=false:=by simp; omega
  go_enter Tryz.func121,Tryz.ntmps121
  go_wp2_with (first
   | (with_reducible refine zJ ?_)
   | (refine zG rfl rfl ?_; rw[← HW1.out])
   | (refine zQ (.tmp 12) rfl rfl b (off+i*64) rfl ys HL.out HR.out ?_)
   | (refine jM (.tmp 3) (.tmp 13) rfl rfl W.heap.size ys rfl rfl 186 (noughts 64) HR1.out (zC 64) HL.out ?_))
  refine Halt.ret (x9 rfl _ _ W.heap.size 186 ys rfl (setRow_heap _ _ _ _ _ _ HR1.out) HL.out) rfl ⟨rfl,below_setRow HB1.out (nR _) _⟩
 ·have e1:xH xss i=noughts 64:=if_neg (by omega)
  have e2:pz xss i=4:=if_neg (by omega)
  rw[e1,e2]
  clear e1 e2 hlen
  have hq:decide ((n:Int)≤(i:Int))=true:=by simp; omega
  go_enter Tryz.func121,Tryz.ntmps121
  go_wp2_with (first
   | (with_reducible refine zJ ?_)
   | (refine zG rfl rfl ?_; rw[← HW1.out])
   | (refine wS rfl rfl ?_)
   | (refine jM (.tmp 3) (.tmp 9) rfl rfl W.heap.size (noughts 64) rfl rfl 186 (noughts 64) HR1.out (zC 64) (zC 64) ?_))
  refine Halt.ret (x9 rfl _ _ W.heap.size 186 (noughts 64) rfl (setRow_heap _ _ _ _ _ _ HR1.out) (zC 64)) rfl ⟨rfl,below_setRow HB1.out (nR _) _⟩
theorem Ve (k:Nat):Bytes (noughts k):=fun j=>by
 unfold noughts
 simp only[List.getD,List.getElem?_replicate]
 split <;> simp
theorem FV (hs:qY xss) (hby:∀ i,Bytes (xss.getD i [])) (hl:xss.length=n) (hn:n≤100000) (B:Nat) (X0:Nat→Prop) :
 bH 121 [.pointer (some ⟨gl,0,none⟩)] B X0 (xH xss) (pz xss) (fun (st:Unit) _=>st) (oK gl A n c xss) where
 call X st W i h hi:=(Xb h hs hn i hi).mono fun e W' ⟨he,hb⟩=>⟨he,h.below hb,Kept.of_below hb h.lt⟩
 put X S st W W' h hk hS:=h.put hk fun b h1 h2=>(hS b h1 h2).1
 lt X st W h:=h.lt
 back X st W h hx:=h.back hx
 len i:=by
  unfold xH
  split
  ·exact hs.get i (by assumption)
  ·exact zC 64
 byt i:=by
  unfold xH
  split
  ·exact hby i
  ·exact Ve 64
end
end
section
attribute [local go_sem] Oper.semAt_some
def mV (V:Nat→List Int) (count j:Nat):List (List Int):=zi V 0 j++List.replicate (count-j) (noughts 64)
theorem Zd (V:Nat→List Int) {count j:Nat} (h:j≤count):(mV V count j).length=count:=by
 unfold mV; rw[List.length_append,xS,List.length_replicate]; omega
theorem YW {V:Nat→List Int} (h:∀ i,(V i).length=64) (count j:Nat):qY (mV V count j):=fun x hx=>by
 rcases List.mem_append.1 hx with h1 | h1
 ·exact rQ h 0 j x h1
 ·rw[(List.mem_replicate.1 h1).2]; exact zC 64
theorem EZ (V:Nat→List Int) (count:Nat):flat (mV V count 0)=noughts (count*64):=by
 have e:mV V count 0=List.replicate count (noughts 64):=by simp[mV,zi]
 rw[e]
 exact List.flatten_replicate_replicate
theorem zCy (V:Nat→List Int) (count:Nat):mV V count count=zi V 0 count:=by unfold mV; simp
theorem zCx (V:Nat→List Int) {count j:Nat} (h:j<count):(mV V count j).set j (V j)=mV V count (j+1):=by
 unfold mV
 obtain ⟨r,hr⟩:∃ r,count-j=r+1:=⟨count-j-1,by omega⟩
 rw[hr,show count-(j+1)=r by omega,eU,List.set_append_right _ _ (by rw[xS]; omega),xS,Nat.sub_self,List.replicate_succ,List.set_cons_zero,Nat.zero_add,List.append_assoc]
 rfl
section
variable {σ:Type} {f:Nat} {cs:List Value} {X0 X Y S:Nat→Prop} {V:Nat→List Int} {E:Nat→Int} {nx:σ→Nat→σ} {R:(Nat→Prop)→σ→World→Prop} {w W W':World} {st:σ} {gr gl count:Nat} {L:List (List Int)}
structure aX (R:(Nat→Prop)→σ→World→Prop) (w:World) (X0:Nat→Prop) (st:σ) (gr gl count:Nat) (L:List (List Int)) (X:Nat→Prop) (W:World):Prop where
 r:R X st W
 x0:∀ b,X0 b→X b
 lt0:∀ b,X0 b→b<w.heap.size
 k:Kept X0 w W
 row:qB W gr (flat L)
 v:z8 W gl 178 #[.slice (some ⟨gr,0,none⟩) count count]
 xr:X gr
 xl:X gl
 hr:w.heap.size≤gr
 hl:w.heap.size≤gl
 ne:gl≠gr
theorem aX.held (h:aX R w X0 st gr gl count L X W) {st':σ} (hr:R X st' W') (hk:Kept X W W'):aX R w X0 st' gr gl count L X W' :=
 ⟨hr,h.x0,h.lt0,h.k.trans hk h.x0,z8.kept h.row hk h.xr,h.v.kept hk h.xl,h.xr,h.xl,h.hr,h.hl,h.ne⟩
theorem aX.mem (H:bH f cs w.heap.size X0 V E nx R) (h:aX R w X0 st gr gl count L X W) (hb:Below W.heap.size W W'):aX R w X0 st gr gl count L (newX X W W') W':=by
 have hk:Kept (fun b=>b<W.heap.size) W W':=Kept.of_below hb (fun b h=>h)
 exact ⟨H.put X _ st W _ h.r hk (fun b hb hn=>absurd hb hn),fun b hb=>.inl (h.x0 b hb),h.lt0,h.k.trans hk (fun b hb=>nL (h.lt0 b hb) h.k.size),z8.below h.row hb (z8.lt h.row),h.v.below hb h.v.lt,.inl h.xr,.inl h.xl,h.hr,h.hl,h.ne⟩
theorem aX.set (H:bH f cs w.heap.size X0 V E nx R) (h:aX R w X0 st gr gl count L X W) (L':List (List Int)):aX R w X0 st gr gl count L' (newX X W (W.setRow gr (((flat L').map (Value.int .u8)).toArray))) (W.setRow gr (((flat L').map (Value.int .u8)).toArray)):=by
 have hk:Kept (fun b=>b≠gr) W (W.setRow gr (((flat L').map (Value.int .u8)).toArray)):=(Kept.refl _ W).setRow (g:=gr) (fun h=>h rfl) _
 refine ⟨H.put X _ st W _ h.r hk (fun b hb hn=>?_),fun b hb=>.inl (h.x0 b hb),h.lt0,h.k.trans hk (fun b hb e=>?_),setRow_heap _ _ _ _ _ _ h.row,h.v.kept hk h.ne,.inl h.xr,.inl h.xl,h.hr,h.hl,h.ne⟩
 ·have e:b=gr:=by by_cases e:b=gr; exact e; exact absurd e hn
  subst e
  exact ⟨h.xr,h.hr⟩
 ·have:=h.lt0 b hb; have:=h.hr; omega
theorem aX.told (h:aX R w X0 st gr gl count L X W) (hs:qY L) (hn:L.length=count):oK gl (some ⟨gr,0,none⟩) count count L X0 () W :=
 ⟨fun b hb=>nL (h.lt0 b hb) h.k.size,h.v,fun hb=>by have:=h.lt0 _ hb; have:=h.hl; omega,qF.rowK h.row hs hn ⟨z8.lt h.row,fun hb=>by have:=h.lt0 _ hb; have:=h.hr; omega⟩⟩
end
def LoadT {σ:Type} (R:(Nat→Prop)→σ→World→Prop) (nx:σ→Nat→σ) (X0:Nat→Prop) (st:σ) (V:Nat→List Int) (E:Nat→Int) (count:Nat) (w:World) (e:Ending) (w':World):Prop :=
 (∃ gl gr,e=.returned (.tuple #[.func (.func 121) #[] #[.pointer (some ⟨gl,0,none⟩)],.int .i64 0])∧(∀ q,q<count→E q=0) ∧
   oK gl (some ⟨gr,0,none⟩) count count (zi V 0 count) X0 () w'∧R X0 (mM nx st 0 count) w'∧Kept X0 w w'∧w.heap.size≤gl∧w.heap.size≤gr) ∨
 (∃ j,j<count∧e=.returned (.tuple #[.nilFunc,.int .i64 (E j)])∧E j≠0∧(∀ q,q<j→E q=0)∧R X0 (mM nx st 0 (j+1)) w'∧Kept X0 w w')
theorem BR {σ:Type} {X0:Nat→Prop} {V:Nat→List Int} {E:Nat→Int} {nx:σ→Nat→σ} {R:(Nat→Prop)→σ→World→Prop} {w:World} {st:σ} (c0 c1:Value) (H:bH 122 [c0,c1] w.heap.size X0 V E nx R) (h:R X0 st w) (count:Nat) (hc:count≤90000) :
 Calls Tryz.prog 51 #[.func (.func 122) #[] #[c0,c1],.int .i64 count] w (LoadT R nx X0 st V E count w):=by
 have HLEN:=hI H.len
 obtain ⟨w1,hw1⟩:∃ w1,w1=(w.alloc (.cells (zA (noughts (count*64))) 186)).alloc (.cells #[.slice (some ⟨w.heap.size,0,none⟩) count count] 178):=⟨_,rfl⟩
 have ql:=hI (show aX R w X0 st w.heap.size (w.heap.size+1) count (mV V count 0) (newX X0 w w1) w1 by
  have hb:Below w.heap.size w w1:=by rw[hw1]; exact ((Below.refl _ w).alloc (nR _) _).alloc (by simp) _
  have hk:Kept (fun b=>b<w.heap.size) w w1:=Kept.of_below hb (fun b h=>h)
  have hz:w1.heap.size=w.heap.size+2:=by rw[hw1]; simp
  refine ⟨H.put X0 _ st w _ h hk (fun b hb hn=>absurd hb hn),fun b hb=>.inl hb,H.lt _ _ _ h,hk.mono (H.lt _ _ _ h),?_,?_,.inr ⟨nR _,by omega⟩,.inr ⟨by omega,by omega⟩,nR _,by omega,by omega⟩
  ·rw[EZ,hw1]
   exact (z8.new w _ _).alloc _
  ·rw[hw1]
   exact zY w _ _ _)
 have H:=hI H
 have HW1:=hI hw1
 clear h hw1
 go_enter Tryz.func51,Tryz.ntmps51
 go_upto_region 2 with (refine uU _ _ rfl rfl _ _ count rfl rfl rfl rfl (by omega) ?_)
 rw[← HW1.out]
 have k0:=ql.out.v.cell 0
 obtain ⟨gr,hgr⟩:∃ gr,w.heap.size=gr:=⟨_,rfl⟩
 have ql:=hI (show aX R w X0 st gr (gr+1) count (mV V count 0) (newX X0 w w1) w1 by rw[← hgr]; exact ql.out)
 obtain ⟨gl,hgl⟩:∃ gl,gr+1=gl:=⟨_,rfl⟩
 rw[hgr] at k0 ⊢
 rw[hgl] at ql k0 ⊢
 have HG:=hI hgr
 have Cv:=hI hgl
 clear hgr hgl HW1
 go_wp2_with fail
 go_loopw [14] (fun i wr=>∃ (j:Nat) (X:Nat→Prop),i=.int .i64 j∧j≤count∧aX R w X0 (mM nx st 0 j) gr gl count (mV V count j) X wr∧(∀ q,q<j→E q=0)) (fun i _=>count-(intOf i).toNat)
 case atStart=>exact ⟨0,_,rfl,Nat.zero_le _,ql.out,fun q hq=>by omega⟩
 case round =>
  obtain ⟨j,X,rfl,hj,hS,hgood⟩:=hrel
  have HS:=hI hS
  have dF:=hI hgood
  clear hS hgood ql k0
  by_cases hjc:j<count
  ·have hc:=H.out.call _ _ _ j HS.out.r (by omega)
   have HC:=hI hc
   clear hc
   go_wp2_with fail
   refine HC.out.mono ?_
   rintro e v2 ⟨rfl,hr2,hk2⟩
   have HS:=hI (HS.out.held hr2 hk2)
   obtain ⟨zs,hzs⟩:∃ zs,V j=zs:=⟨_,rfl⟩
   have vX:zs.length=64:=by rw[← hzs]; exact HLEN.out _
   obtain ⟨w5,jH⟩:∃ w5,w5=v2.alloc (.cells (zA zs) 186):=⟨_,rfl⟩
   have hb5:Below v2.heap.size v2 w5:=by rw[jH]; exact (Below.refl _ v2).alloc (nR _) _
   have mI:=hI (show qB w5 v2.heap.size zs by rw[jH]; exact z8.new v2 _ _)
   have pK:=hI jH
   have HS:=hI (HS.out.mem H.out hb5)
   have wK:=hI (show j*64+64≤(flat (mV V count j)).length by rw[jl (YW HLEN.out count j),Zd V hj]; omega)
   have iF:=hI (show (flat (mV V count j)).take (j*64)++zs++(flat (mV V count j)).drop (j*64+64)=flat (mV V count (j+1)) by
    rw[Fg (YW HLEN.out count j) j (by rw[Zd V hj]; exact hjc) zs vX,← hzs,zCx V hjc])
   have xR:=hI HS.out.row
   have k0:=HS.out.v.cell 0
   rw[hzs]
   clear hr2 hk2 jH hzs hb5 HC
   by_cases he:E j=0
   ·have hne2:(E j != 0)=false:=by simp[he]
    have Oa:=hI he
    rw[he] at hne2 ⊢
    have vL:=hI (HS.out.set H.out (mV V count (j+1)))
    clear he
    go_wp2_with (first
     | (refine zG rfl rfl ?_)
     | (refine zU (.tmp 8) (.tmp 21) rfl rfl v2 zs rfl rfl (noughts 64) rfl (zC 64) vX ?_; rw[← pK.out])
     | (refine zQ (.tmp 8) rfl rfl v2.heap.size 0 rfl zs vX mI.out.range ?_)
     | (refine cO (.tmp 29) (.tmp 28) rfl rfl gr (j*64) zs rfl rfl 186 _ xR.out vX wK.out ?_; rw[iF.out]))
    go_roundw
    case rel=>exact ⟨j+1,_,by simp,by omega,by rw[show mM nx st 0 (j+1)=nx (mM nx st 0 j) (0+j) from rfl,Nat.zero_add]; exact vL.out,fun q hq=>by
     by_cases e:q=j
     ·subst e; exact Oa.out
     ·exact dF.out q (by omega)⟩
    case measure=>show count-(Int.toNat ((j:Int)+1))<count-(Int.toNat (j:Int)); omega
   ·have hne2:(E j != 0)=true:=by simp[he]
    have HR0:=hI (H.out.back _ _ _ HS.out.r HS.out.x0)
    have HE:=hI he
    clear he
    obtain ⟨e0,he0⟩:∃ e0,E j=e0:=⟨_,rfl⟩
    rw[he0] at hne2 ⊢
    have Qh:=hI he0
    clear he0
    go_wp2_with (first
     | (refine zG rfl rfl ?_)
     | (refine zU (.tmp 8) (.tmp 21) rfl rfl v2 zs rfl rfl (noughts 64) rfl (zC 64) vX ?_; rw[← pK.out]))
    go_ret2
    exact .inr ⟨j,hjc,by rw[Qh.out]; rfl,HE.out,dF.out,by rw[show mM nx st 0 (j+1)=nx (mM nx st 0 j) (0+j) from rfl,Nat.zero_add]; exact HR0.out,HS.out.k⟩
  ·obtain rfl:count=j:=by omega
   have HT:=hI (HS.out.told (YW HLEN.out count count) (Zd V (nR _)))
   have HR0:=hI (H.out.back _ _ _ HS.out.r HS.out.x0)
   go_wp2_with fail
   go_ret2
   have ht:=HT.out
   rw[zCy] at ht
   exact .inl ⟨gl,gr,rfl,dF.out,ht,HR0.out,HS.out.k,by have:=HG.out; have:=Cv.out; omega,by have:=HG.out; omega⟩
end
end Go.Proofs.YtdkbpchmnhbhcaaGreat
