/- Texts of StoreKeeps, packed. -/
import Derived.Test.YtdkbpchmnhbhcaaGreatPackStoreKeeps6
import Derived.Deep.RegionHeld3
import Derived.Laws.Cover3
set_option linter.unusedVariables false
set_option linter.unusedSimpArgs false
set_option maxRecDepth 100000
set_option maxHeartbeats 16000000
namespace Go.Proofs.YtdkbpchmnhbhcaaGreat
open Go.RowKit
section
theorem xX.far {w:World} {base:Nat} {A:Option Addr} {n cap:Nat} {xs:List Seg} (h:xX w base A n cap xs) {p:Addr} (hp:p.block<base) (v:Value):xX (w.setCell p v) base A n cap xs :=
 ⟨h.1,ownsRow_setCell_other h.2.1 (fun e=>by have:=sH h.2.1 e; omega) v,h.2.2⟩
def aY (w:World) (base:Nat) (v:Value) (sec:Int) (xs:List Seg):Prop:=∃ A n cap,v=xk sec A n cap∧xX w base A n cap xs
theorem aY.below {w W:World} {base:Nat} {v:Value} {sec:Int} {xs:List Seg} (h:aY w base v sec xs) (hb:Below w.heap.size w W):aY W base v sec xs:=by
 obtain ⟨A,n,cap,e,ho⟩:=h
 exact ⟨A,n,cap,e,ho.below hb⟩
theorem aY.base {w:World} {base m:Nat} {v:Value} {sec:Int} {xs:List Seg} (h:aY w base v sec xs) (hm:m≤base):aY w m v sec xs:=by
 obtain ⟨A,n,cap,e,ho⟩:=h
 exact ⟨A,n,cap,e,ho.base hm⟩
def OV (w:World) (sec:Int) (A:Option Addr) (n cap:Nat) (t:TypeId) (x:Value) (W:World):Prop :=
 Below w.heap.size w W∧z8 W w.heap.size 95 #[.int .i64 sec,.slice A n cap]∧z8 W (w.heap.size+1) t #[x]∧z8 W (w.heap.size+1+1) 95 #[.int .i64 0,.slice none 0 0]
section
variable {w:World} {sec:Int} {A:Option Addr} {n cap:Nat} {t:TypeId} {x:Value} {W W':World}
theorem OV.start (w:World) (sec:Int) (A:Option Addr) (n cap:Nat) (t:TypeId) (x:Value):OV w sec A n cap t x (((w.alloc (.cells #[.int .i64 sec,.slice A n cap] 95)).alloc (.cells #[x] t)).alloc (.cells #[.int .i64 0,.slice none 0 0] 95)) :=
 ⟨(((Below.refl _ w).alloc (nR _) _).alloc (by simp) _).alloc (by simp; omega) _,((z8.new w _ _).alloc _).alloc _,(zY w _ _ _).alloc _,jw w _ _ _ _⟩
theorem OV.next (h:OV w sec A n cap t x W) (hb:Below W.heap.size W W'):OV w sec A n cap t x W' :=
 ⟨h.1.trans (hb.mono h.1.size),h.2.1.below hb h.2.1.lt,h.2.2.1.below hb h.2.2.1.lt,h.2.2.2.below hb h.2.2.2.lt⟩
theorem OV.alloc (h:OV w sec A n cap t x W) (o:Obj):OV w sec A n cap t x (W.alloc o):=h.next ((Below.refl _ W).alloc (nR _) o)
theorem OV.cells (h:OV w sec A n cap t x W):W.cell? ⟨w.heap.size,0,none⟩=some (.int .i64 sec)∧W.cell? ⟨w.heap.size,1,none⟩=some (.slice A n cap)∧W.cell? ⟨w.heap.size+1,0,none⟩=some x ∧
 W.cell? ⟨w.heap.size+1+1,0,none⟩=some (.int .i64 0)∧W.cell? ⟨w.heap.size+1+1,1,none⟩=some (.slice none 0 0)∧W.frozen? ⟨w.heap.size+1+1,0,none⟩=false∧W.frozen? ⟨w.heap.size+1+1,1,none⟩=false :=
 ⟨h.2.1.cell 0,h.2.1.cell 1,h.2.2.1.cell 0,h.2.2.2.cell 0,h.2.2.2.cell 1,h.2.2.2.frozen 0,h.2.2.2.frozen 1⟩
theorem OV.res (h:OV w sec A n cap t x W) (s:Int) (B:Option Addr) (m c:Nat):z8 ((W.setCell ⟨w.heap.size+1+1,0,none⟩ (.int .i64 s)).setCell ⟨w.heap.size+1+1,1,none⟩ (.slice B m c)) (w.heap.size+1+1) 95 #[.int .i64 s,.slice B m c] :=
 (h.2.2.2.set_ 0 (.int .i64 s)).set_ 1 (.slice B m c)
theorem OV.below (h:OV w sec A n cap t x W) (u v:Value):Below w.heap.size w ((W.setCell ⟨w.heap.size+1+1,0,none⟩ u).setCell ⟨w.heap.size+1+1,1,none⟩ v) :=
 (h.1.setCell (p:=⟨w.heap.size+1+1,0,none⟩) (by simp; omega) u).setCell (p:=⟨w.heap.size+1+1,1,none⟩) (by simp; omega) v
theorem OV.lt (h:OV w sec A n cap t x W):w.heap.size+1+1<W.heap.size:=h.2.2.2.lt
end
theorem Gq {sec:Int} {xs:List Seg} {g:Int} (h:¬ qp sec xs):zZ sec xs g=180:=if_pos h
theorem KM {sec:Int} {xs:List Seg} {g:Int} (h:qp sec xs) (h1:0≤qO xs):zZ sec xs g=181:=by unfold zZ; rw[if_neg (fun k=>k h),if_pos h1]
theorem Gr {sec:Int} {xs:List Seg} {g:Int} (h:qp sec xs) (h1:¬ 0≤qO xs) (h2:g≤y8 xs):zZ sec xs g=2:=by unfold zZ; rw[if_neg (fun k=>k h),if_neg h1,if_pos h2]
theorem Ws {sec:Int} {xs:List Seg} {g:Int} (h:qp sec xs) (h1:¬ 0≤qO xs) (h2:¬ g≤y8 xs) (h3:jQ xs<0):zZ sec xs g=6:=by unfold zZ; rw[if_neg (fun k=>k h),if_neg h1,if_neg h2,if_pos h3]
theorem zCc {sec:Int} {xs:List Seg} {g:Int} (h:qp sec xs) (h1:¬ 0≤qO xs) (h2:¬ g≤y8 xs) (h3:¬ jQ xs<0):zZ sec xs g=0:=by unfold zZ; rw[if_neg (fun k=>k h),if_neg h1,if_neg h2,if_neg h3]
def uN (w:World) (sec:Int) (xs:List Seg) (g:Int) (e:Ending) (w':World):Prop :=
 (zZ sec xs g=0∧(∃ v,e=.returned (.tuple #[v,.int .i64 (jQ xs),.int .i64 0])∧aY w' w.heap.size v sec (qC xs g)) ∨
  zZ sec xs g≠0∧e=.returned (.tuple #[xk 0 none 0 0,.int .i64 0,.int .i64 (zZ sec xs g)]))∧Below w.heap.size w w'
theorem uN.no {w w':World} {sec:Int} {xs:List Seg} {g E:Int} (hE:zZ sec xs g=E) (h0:E≠0) (hb:Below w.heap.size w w'):uN w sec xs g (.returned (.tuple #[xk 0 none 0 0,.int .i64 0,.int .i64 E])) w' :=
 ⟨.inr ⟨by rw[hE]; exact h0,by rw[hE]⟩,hb⟩
theorem ZY {w:World} {A:Option Addr} {n cap:Nat} {xs:List Seg} (h:qH w (·<w.heap.size) A n xs) (sec g:Int) :
 Calls Tryz.prog 169 #[xk sec A n cap,.int .u64 g] w fun e w'=>uN w sec xs g e w':=by
 have HX:=hI h
 have oN:=hI (OV.start w sec A n cap 30 (.int .u64 g))
 have HC:=hI (aS (cap:=cap) (jD h oN.out.1) sec)
 clear h
 by_cases hk:qp sec xs
 case neg =>
  have HE:=hI (Gq (g:=g) hk)
  rw[if_neg hk] at HC
  clear hk
  go_enter Tryz.func169,Tryz.ntmps169
  go_wp2_with (first
   | (go_at_call 110; refine HC.out.mono ?_; rintro e w1 ⟨rfl,hb1⟩; have yP:=hI (oN.out.next hb1); obtain ⟨q0,q1,q2,q3,q4,f3,f4⟩:=yP.out.cells; clear hb1)
   | (with_reducible refine zJ ?_))
  exact Halt.ret (zw (p:=4) (u:=5) (v:=6) rfl _ _ (w.heap.size+1+1) 95 #[.int .i64 0,.slice none 0 0] _ rfl (yP.out.res 0 none 0 0) Tryz.underlying95 rfl qZ) rfl (uN.no HE.out (by decide) (yP.out.below _ _))
 rw[if_pos hk] at HC
 have HK:=hI hk
 have Ck:=hI (PG hk)
 have qd:=hI (Eb xs)
 clear hk
 obtain ⟨st,lg,u,hl⟩:∃ st lg u,dA xs=(st,lg,u):=⟨_,_,_,rfl⟩
 rw[hl] at Ck qd
 have HL:=hI (fun (W:World) (hh:qH W (·<W.heap.size) A n xs)=>by have:=J7 (cap:=cap) hh HK.out; rw[hl] at this; exact this)
 clear hl
 by_cases h1:st=1
 ·subst h1
  have HE:=hI (KM (g:=g) HK.out (Ck.out.1 rfl))
  generalize jd xs=a at *
  go_enter Tryz.func169,Tryz.ntmps169
  go_wp2_with (first
   | (go_at_call 110; refine HC.out.mono ?_; rintro e w1 ⟨rfl,hb1⟩; have yP:=hI (oN.out.next hb1); obtain ⟨q0,q1,q2,q3,q4,f3,f4⟩:=yP.out.cells; clear hb1)
   | (go_at_call 164; refine (HL.out _ (jD HX.out yP.out.1)).mono ?_; rintro e w2 ⟨rfl,hb2⟩; have dX:=hI ((yP.out.next hb2).alloc (.cells #[.int .i64 1,.int .u64 lg,.int .i64 u] 126)); obtain ⟨r0,r1,r2,r3,r4,f5,f6⟩:=dX.out.cells; clear hb2)
   | (with_reducible refine zJ ?_))
  exact Halt.ret (zw (p:=4) (u:=5) (v:=6) rfl _ _ (w.heap.size+1+1) 95 #[.int .i64 0,.slice none 0 0] _ rfl (dX.out.res 0 none 0 0) Tryz.underlying95 rfl qZ) rfl (uN.no HE.out (by decide) (dX.out.below _ _))
 have d1:(st==1)=false:=by simpa using h1
 have HO:=hI (show ¬ 0≤qO xs from fun h=>h1 (Ck.out.2 h))
 by_cases h2:g≤lg
 ·have d2:decide (g≤lg)=true:=decide_eq_true h2
  have HE:=hI (Gr (g:=g) HK.out HO.out (by rw[← qd.out]; exact h2))
  generalize jd xs=a at *
  go_enter Tryz.func169,Tryz.ntmps169
  go_wp2_with (first
   | (go_at_call 110; refine HC.out.mono ?_; rintro e w1 ⟨rfl,hb1⟩; have yP:=hI (oN.out.next hb1); obtain ⟨q0,q1,q2,q3,q4,f3,f4⟩:=yP.out.cells; clear hb1)
   | (go_at_call 164; refine (HL.out _ (jD HX.out yP.out.1)).mono ?_; rintro e w2 ⟨rfl,hb2⟩; have dX:=hI ((yP.out.next hb2).alloc (.cells #[.int .i64 st,.int .u64 lg,.int .i64 u] 126)); obtain ⟨r0,r1,r2,r3,r4,f5,f6⟩:=dX.out.cells; clear hb2)
   | (with_reducible refine zJ ?_))
  exact Halt.ret (zw (p:=4) (u:=5) (v:=6) rfl _ _ (w.heap.size+1+1) 95 #[.int .i64 0,.slice none 0 0] _ rfl (dX.out.res 0 none 0 0) Tryz.underlying95 rfl qZ) rfl (uN.no HE.out (by decide) (dX.out.below _ _))
 have d2:decide (g≤lg)=false:=decide_eq_false h2
 have HG:=hI (show ¬ g≤y8 xs by rw[← qd.out]; exact h2)
 have HN:=hI (fun (W:World) (hh:qH W (·<W.heap.size) A n xs)=>XY (cap:=cap) hh sec)
 by_cases h3:jQ xs<0
 ·have HE:=hI (Ws (g:=g) HK.out HO.out HG.out h3)
  have e1:kU sec xs=6:=by unfold kU; rw[if_neg (fun k=>k HK.out),if_pos h3]
  have e2:mQ sec xs=0:=by unfold mQ; rw[e1]; rfl
  rw[e1,e2] at HN
  clear e1 e2 h3
  generalize jd xs=a at *
  go_enter Tryz.func169,Tryz.ntmps169
  go_wp2_with (first
   | (go_at_call 110; refine HC.out.mono ?_; rintro e w1 ⟨rfl,hb1⟩; have yP:=hI (oN.out.next hb1); obtain ⟨q0,q1,q2,q3,q4,f3,f4⟩:=yP.out.cells; clear hb1)
   | (go_at_call 164; refine (HL.out _ (jD HX.out yP.out.1)).mono ?_; rintro e w2 ⟨rfl,hb2⟩; have dX:=hI ((yP.out.next hb2).alloc (.cells #[.int .i64 st,.int .u64 lg,.int .i64 u] 126)); obtain ⟨r0,r1,r2,r3,r4,f5,f6⟩:=dX.out.cells; clear hb2)
   | (go_at_call 116; refine (HN.out _ (jD HX.out dX.out.1)).mono ?_; rintro e w3 ⟨rfl,hb3⟩; have wO:=hI (dX.out.next hb3); obtain ⟨s0,s1,s2,s3,s4,f7,f8⟩:=wO.out.cells; clear hb3)
   | (with_reducible refine zJ ?_))
  exact Halt.ret (zw (p:=4) (u:=5) (v:=6) rfl _ _ (w.heap.size+1+1) 95 #[.int .i64 0,.slice none 0 0] _ rfl (wO.out.res 0 none 0 0) Tryz.underlying95 rfl qZ) rfl (uN.no HE.out (by decide) (wO.out.below _ _))
 ·have HE:=hI (zCc (g:=g) HK.out HO.out HG.out h3)
  have e1:kU sec xs=0:=by unfold kU; rw[if_neg (fun k=>k HK.out),if_neg h3]
  have e2:mQ sec xs=jQ xs:=by unfold mQ; rw[e1]; rfl
  obtain ⟨i,hi,e3⟩:∃ i:Nat,i<n∧jQ xs=i:=by
   rcases iO xs with ⟨e,_⟩ | ⟨k,hk,e,_⟩
   ·omega
   ·exact ⟨_,by rw[← HX.out.1]; exact Nat.mod_lt _ (by have:=YQ HK.out HX.out.1; omega),e⟩
  have Pm:=hI (show qC xs g=xs.set i (1,g,1) by unfold qC; rw[e3,Int.toNat_natCast])
  have HI:=hI e3
  rw[e1,e2,e3] at HN
  have HT:=hI (fun (W:World) (hh:qH W (·<W.heap.size) A n xs) (hG:w.heap.size+1<W.heap.size) (hc:W.cell? ⟨w.heap.size+1,0,none⟩=some (.int .u64 g))=>FC (cap:=cap) hh sec (by have:=(YQ HK.out HX.out.1).2; omega) i hi g (w.heap.size+1) hG hc)
  clear e1 e2 e3 h3
  generalize jd xs=a at *
  go_enter Tryz.func169,Tryz.ntmps169
  go_wp2_with (first
   | (go_at_call 110; refine HC.out.mono ?_; rintro e w1 ⟨rfl,hb1⟩; have yP:=hI (oN.out.next hb1); obtain ⟨q0,q1,q2,q3,q4,f3,f4⟩:=yP.out.cells; clear hb1)
   | (go_at_call 164; refine (HL.out _ (jD HX.out yP.out.1)).mono ?_; rintro e w2 ⟨rfl,hb2⟩; have dX:=hI ((yP.out.next hb2).alloc (.cells #[.int .i64 st,.int .u64 lg,.int .i64 u] 126)); obtain ⟨r0,r1,r2,r3,r4,f5,f6⟩:=dX.out.cells; clear hb2)
   | (go_at_call 116; refine (HN.out _ (jD HX.out dX.out.1)).mono ?_; rintro e w3 ⟨rfl,hb3⟩; have wO:=hI (dX.out.next hb3); obtain ⟨s0,s1,s2,s3,s4,f7,f8⟩:=wO.out.cells; clear hb3)
   | (go_at_call 133; refine (HT.out _ (jD HX.out wO.out.1) wO.out.2.2.1.lt s2).mono ?_; rintro e w4 ⟨⟨A',cap',rfl,hown⟩,hb4⟩; have Z4:=hI (wO.out.next hb4); obtain ⟨t0,t1,t2,t3,t4,f9,f0⟩:=Z4.out.cells; have HOW:=hI hown; clear hb4 hown)
   | (with_reducible refine zJ ?_))
  have hlt:=wO.out.lt
  have hown:=((HOW.out.far (p:=⟨w.heap.size+1+1,0,none⟩) hlt (.int .i64 sec)).far (p:=⟨w.heap.size+1+1,1,none⟩) hlt (.slice A' n cap')).base wO.out.1.size
  rw[← Pm.out] at hown
  refine Halt.ret (zw (p:=4) (u:=5) (v:=6) rfl _ _ (w.heap.size+1+1) 95 #[.int .i64 sec,.slice A' n cap'] _ rfl (Z4.out.res sec A' n cap') Tryz.underlying95 rfl qZ) rfl ⟨.inl ⟨HE.out,_,?_,⟨A',n,cap',rfl,hown⟩⟩,Z4.out.below _ _⟩
  rw[HI.out]
  rfl
end
section
def aW (w:World) (sec:Int) (E:Int) (ys:List Seg) (e:Ending) (w':World):Prop :=
 (E=0∧(∃ v,e=.returned (.tuple #[v,.int .i64 0])∧aY w' w.heap.size v sec ys) ∨
  E≠0∧e=.returned (.tuple #[xk 0 none 0 0,.int .i64 E]))∧Below w.heap.size w w'
theorem aW.no {w w':World} {sec E:Int} {ys:List Seg} (h0:E≠0) (hb:Below w.heap.size w w'):aW w sec E ys (.returned (.tuple #[xk 0 none 0 0,.int .i64 E])) w':=⟨.inr ⟨h0,rfl⟩,hb⟩
theorem cu {sec:Int} {xs:List Seg} (h:jP sec xs=0):qp sec xs∧¬ qO xs<0:=by
 unfold jP at h
 by_cases hk:qp sec xs
 ·rw[if_neg (fun k=>k hk)] at h
  by_cases h1:qO xs<0
  ·rw[if_pos h1] at h; omega
  ·exact ⟨hk,h1⟩
 ·rw[if_pos hk] at h; omega
theorem Bo {sec:Int} {xs:List Seg} {n:Int} (h:jP sec xs≠0):dL sec xs n=jP sec xs:=by
 unfold dL jP at *
 by_cases hk:qp sec xs
 ·by_cases h1:qO xs<0
  ·simp[hk,h1]
  ·simp[hk,h1] at h
 ·simp[hk]
theorem M7 {sec:Int} {xs:List Seg} {n:Int} (h:jP sec xs=0) (h2:n<0):dL sec xs n=2:=by
 obtain ⟨hk,h1⟩:=cu h
 unfold dL; rw[if_neg (fun k=>k hk),if_neg h1,if_pos h2]
theorem Bp {sec:Int} {xs:List Seg} {n:Int} (h:jP sec xs=0) (h2:¬ n<0) (h3:jB sec xs<n):dL sec xs n=6:=by
 obtain ⟨hk,h1⟩:=cu h
 unfold dL; rw[if_neg (fun k=>k hk),if_neg h1,if_neg h2,if_pos h3]
theorem zDi {sec:Int} {xs:List Seg} {n:Int} (h:jP sec xs=0) (h2:¬ n<0) (h3:¬ jB sec xs<n):dL sec xs n=0:=by
 obtain ⟨hk,h1⟩:=cu h
 unfold dL; rw[if_neg (fun k=>k hk),if_neg h1,if_neg h2,if_neg h3]
theorem Js {sec:Int} {xs:List Seg} (h:qp sec xs) (h1:¬ qO xs<0):∃ i:Nat,i<xs.length∧qO xs=i∧qE xs i=1:=by
 rcases bW h with ⟨e,_⟩ | ⟨i,hi,e,_,hs⟩
 ·omega
 ·exact ⟨i,hi,e,hs⟩
theorem NV {sec:Int} {xs:List Seg} (h:qp sec xs) {i:Nat} (hi:i<xs.length):0≤zI xs i∧zI xs i≤64∧24≤sec∧sec≤64:=by
 have h1:=h.1
 unfold qj at h1
 have h2:=mR h.2.1 hi
 unfold xY at h2
 split at h2
 ·simp only[zI]; omega
 ·simp only[zI]; omega
theorem zCO {w:World} {A:Option Addr} {n cap:Nat} {xs:List Seg} (h:qH w (·<w.heap.size) A n xs) (sec v:Int) :
 Calls Tryz.prog 119 #[xk sec A n cap,.int .i64 v] w fun e w'=>aW w sec (dL sec xs v) (qL xs v) e w':=by
 have HX:=hI h
 have oN:=hI (OV.start w sec A n cap 3 (.int .i64 v))
 have HC:=hI (XI (cap:=cap) (jD h oN.out.1) sec)
 clear h
 by_cases hs:jP sec xs=0
 case neg =>
  rw[Bo hs]
  have d:(jP sec xs != 0)=true:=by simpa using hs
  have HS:=hI hs
  clear hs
  generalize jP sec xs=se at *
  generalize y7 sec xs=ov at *
  go_enter Tryz.func119,Tryz.ntmps119
  go_wp2_with (first
   | (go_at_call 172; refine HC.out.mono ?_; rintro e w1 ⟨rfl,hb1⟩; have yP:=hI (oN.out.next hb1); obtain ⟨q0,q1,q2,q3,q4,f3,f4⟩:=yP.out.cells; clear hb1)
   | (with_reducible refine zJ ?_))
  exact Halt.ret (zy (p:=4) (u:=5) rfl _ _ (w.heap.size+1+1) 95 #[.int .i64 0,.slice none 0 0] _ rfl (yP.out.res 0 none 0 0) Tryz.underlying95 rfl qZ) rfl (aW.no HS.out (yP.out.below _ _))
 obtain ⟨hk,ho⟩:=cu hs
 obtain ⟨i,hi,Da,hst⟩:=Js hk ho
 have hov:y7 sec xs=i:=by rw[(gu hk ho).2,Da]
 rw[hs,hov] at HC
 have HK:=hI hk
 have jv:=hI hs
 have HIO:=hI Da
 have HST:=hI hst
 have hin:i<n:=by rw[← HX.out.1]; exact hi
 have HI:=hI hi
 clear hk ho Da hst hov hs hi
 by_cases h2:v<0
 ·have d2:decide (v<0)=true:=decide_eq_true h2
  rw[M7 jv.out h2]
  go_enter Tryz.func119,Tryz.ntmps119
  go_wp2_with (first
   | (go_at_call 172; refine HC.out.mono ?_; rintro e w1 ⟨rfl,hb1⟩; have yP:=hI (oN.out.next hb1); obtain ⟨q0,q1,q2,q3,q4,f3,f4⟩:=yP.out.cells; clear hb1)
   | (with_reducible refine zJ ?_))
  exact Halt.ret (zy (p:=4) (u:=5) rfl _ _ (w.heap.size+1+1) 95 #[.int .i64 0,.slice none 0 0] _ rfl (yP.out.res 0 none 0 0) Tryz.underlying95 rfl qZ) rfl (aW.no (by decide) (yP.out.below _ _))
 have d2:decide (v<0)=false:=decide_eq_false h2
 have Xy:=hI (show uD sec xs=jB sec xs from if_pos HK.out)
 have Pz:=hI (fun (W:World) (hh:qH W (·<W.heap.size) A n xs)=>P7 (cap:=cap) hh sec)
 rw[Xy.out] at Pz
 have HG:=hI (fun h3=>Bp (n:=v) jv.out h2 h3)
 have HGO:=hI (fun h3=>zDi (n:=v) jv.out h2 h3)
 obtain ⟨lr,hlr⟩:∃ lr,jB sec xs=lr:=⟨_,rfl⟩
 have OO:=hI hlr
 rw[hlr] at Pz HG HGO
 clear hlr Xy
 obtain ⟨E,hE⟩:∃ E,dL sec xs v=E:=⟨_,rfl⟩
 obtain ⟨Y,hY⟩:∃ Y,qL xs v=Y:=⟨_,rfl⟩
 rw[hE] at HG HGO
 rw[hE,hY]
 have HY:=hI hY
 clear hE hY
 obtain ⟨bb,hbb⟩:∃ bb,decide (lr<v)=bb:=⟨_,rfl⟩
 go_enter Tryz.func119,Tryz.ntmps119
 go_wp2_with (first
  | (go_at_call 172; refine HC.out.mono ?_; rintro e w1 ⟨rfl,hb1⟩; have yP:=hI (oN.out.next hb1); obtain ⟨q0,q1,q2,q3,q4,f3,f4⟩:=yP.out.cells; clear hb1))
 refine Fp (fun W=>OV w sec A n cap 3 (.int .i64 v) W) (by kernel_rfl) (by kernel_rfl) (yP.out.next (Below.refl _ _).drew) ?_
 refine W9 (.tmp 3) 3 rfl rfl ⟨w.heap.size+1,0,none⟩ rfl (.int .i64 v) (fun W h=>by simp[go_sem,h,Tryz.underlying3]) (fun W h=>h.cells.2.2.1) ?_
 simp only[Act.put,sA,sZ,sS]
 refine BX (.tmp 2) 95 rfl rfl w.heap.size rfl 95 [.int .i64 sec,.slice A n cap] _ Tryz.underlying95 rfl qZ (fun W h=>h.2.1) ?_
 simp only[Act.put,sA,sZ,sS]
 refine Uk 46 #[.tmp 25] #[95] rfl rfl Tryz.func46 rfl rfl (.int .i64 lr) [xk sec A n cap] rfl (fun W h=>(Pz.out W (jD HX.out h.1)).mono fun e w' ⟨h1,h2⟩=>⟨h1,h.next h2⟩) ?_
 simp only[Act.put,sA,sZ,sS]
 refine WA (.bool bb) rfl (fun W _=>by unfold execOp; simp[go_sem,Tryz.underlying3,hbb]) ?_
 simp only[Act.put,sA,sZ,sS]
 go_big_quiet_step (fail)
 refine wpQuiet_nil ?_
 intro w5 jH
 have HV5:=hI jH
 obtain ⟨r0,r1,r2,r3,r4,f5,f6⟩:=HV5.out.cells
 clear jH q0 q1 q2 q3 q4 f3 f4
 by_cases h3:lr<v
 ·obtain rfl:bb=true:=by rw[← hbb]; exact decide_eq_true h3
  obtain rfl:=HG.out h3
  go_wp2_with (with_reducible refine zJ ?_)
  exact Halt.ret (zy (p:=4) (u:=5) rfl _ _ (w.heap.size+1+1) 95 #[.int .i64 0,.slice none 0 0] _ rfl (HV5.out.res 0 none 0 0) Tryz.underlying95 rfl qZ) rfl (aW.no (by decide) (HV5.out.below _ _))
 ·obtain rfl:bb=false:=by rw[← hbb]; exact decide_eq_false h3
  obtain rfl:=HGO.out (by omega)
  have hub:=NV HK.out HI.out
  have hul:jB sec xs=sec-zI xs i:=by unfold jB; rw[HIO.out,if_pos (by omega),Int.toNat_natCast]
  have hw:wrap64 (zI xs i+v)=zI xs i+v:=by have:=OO.out; unfold wrap64; omega
  have Pm:=hI (show Y=xs.set i (qE xs i,zM xs i,wrap64 (zI xs i+v)) by rw[← HY.out]; unfold qL; rw[HIO.out,Int.toNat_natCast,hw])
  have HT:=hI (fun (W:World) (hh:qH W (·<W.heap.size) A n xs) (hG:w.heap.size+1<W.heap.size) (hc:W.cell? ⟨w.heap.size+1,0,none⟩=some (.int .i64 v))=>NY (cap:=cap) hh sec (by have:=(YQ HK.out HX.out.1).2; omega) i hin v (w.heap.size+1) hG hc)
  clear hub hul hw
  go_wp2_with (first
   | (go_at_call 133; refine (HT.out _ (jD HX.out HV5.out.1) HV5.out.2.2.1.lt r2).mono ?_; rintro e w6 ⟨⟨A',cap',rfl,hown⟩,hb6⟩; have Qb:=hI (HV5.out.next hb6); obtain ⟨t0,t1,t2,t3,t4,f9,f0⟩:=Qb.out.cells; have HOW:=hI hown; clear hb6 hown)
   | (with_reducible refine zJ ?_))
  have hlt:=HV5.out.lt
  have hown:=((HOW.out.far (p:=⟨w.heap.size+1+1,0,none⟩) hlt (.int .i64 sec)).far (p:=⟨w.heap.size+1+1,1,none⟩) hlt (.slice A' n cap')).base HV5.out.1.size
  rw[← Pm.out] at hown
  exact Halt.ret (zy (p:=4) (u:=5) rfl _ _ (w.heap.size+1+1) 95 #[.int .i64 sec,.slice A' n cap'] _ rfl (Qb.out.res sec A' n cap') Tryz.underlying95 rfl qZ) rfl ⟨.inl ⟨rfl,_,rfl,⟨A',n,cap',rfl,hown⟩⟩,Qb.out.below _ _⟩
end
section
def OW (w:World) (sec:Int) (A:Option Addr) (n cap:Nat) (W:World):Prop :=
 Below w.heap.size w W∧z8 W w.heap.size 95 #[.int .i64 sec,.slice A n cap]∧z8 W (w.heap.size+1) 95 #[.int .i64 0,.slice none 0 0]
section
variable {w:World} {sec:Int} {A:Option Addr} {n cap:Nat} {W W':World}
theorem OW.start (w:World) (sec:Int) (A:Option Addr) (n cap:Nat):OW w sec A n cap ((w.alloc (.cells #[.int .i64 sec,.slice A n cap] 95)).alloc (.cells #[.int .i64 0,.slice none 0 0] 95)) :=
 ⟨((Below.refl _ w).alloc (nR _) _).alloc (by simp) _,(z8.new w _ _).alloc _,zY w _ _ _⟩
theorem OW.next (h:OW w sec A n cap W) (hb:Below W.heap.size W W'):OW w sec A n cap W' :=
 ⟨h.1.trans (hb.mono h.1.size),h.2.1.below hb h.2.1.lt,h.2.2.below hb h.2.2.lt⟩
theorem OW.cells (h:OW w sec A n cap W):W.cell? ⟨w.heap.size,0,none⟩=some (.int .i64 sec)∧W.cell? ⟨w.heap.size,1,none⟩=some (.slice A n cap) ∧
 W.cell? ⟨w.heap.size+1,0,none⟩=some (.int .i64 0)∧W.cell? ⟨w.heap.size+1,1,none⟩=some (.slice none 0 0)∧W.frozen? ⟨w.heap.size+1,0,none⟩=false∧W.frozen? ⟨w.heap.size+1,1,none⟩=false :=
 ⟨h.2.1.cell 0,h.2.1.cell 1,h.2.2.cell 0,h.2.2.cell 1,h.2.2.frozen 0,h.2.2.frozen 1⟩
theorem OW.res (h:OW w sec A n cap W) (s:Int) (B:Option Addr) (m c:Nat):z8 ((W.setCell ⟨w.heap.size+1,0,none⟩ (.int .i64 s)).setCell ⟨w.heap.size+1,1,none⟩ (.slice B m c)) (w.heap.size+1) 95 #[.int .i64 s,.slice B m c] :=
 (h.2.2.set_ 0 (.int .i64 s)).set_ 1 (.slice B m c)
theorem OW.below (h:OW w sec A n cap W) (u v:Value):Below w.heap.size w ((W.setCell ⟨w.heap.size+1,0,none⟩ u).setCell ⟨w.heap.size+1,1,none⟩ v) :=
 (h.1.setCell (p:=⟨w.heap.size+1,0,none⟩) (by simp) u).setCell (p:=⟨w.heap.size+1,1,none⟩) (by simp) v
theorem OW.lt (h:OW w sec A n cap W):w.heap.size+1<W.heap.size:=h.2.2.lt
end
theorem AU {w:World} {A:Option Addr} {n cap:Nat} {xs:List Seg} (h:qH w (·<w.heap.size) A n xs) (sec:Int) :
 Calls Tryz.prog 168 #[xk sec A n cap] w fun e w'=>aW w sec (jP sec xs) (vN xs) e w':=by
 have HX:=hI h
 have oN:=hI (OW.start w sec A n cap)
 have HC:=hI (XI (cap:=cap) (jD h oN.out.1) sec)
 clear h
 by_cases hs:jP sec xs=0
 case neg =>
  have d:(jP sec xs != 0)=true:=by simpa using hs
  have HS:=hI hs
  clear hs
  generalize jP sec xs=se at *
  generalize y7 sec xs=ov at *
  go_enter Tryz.func168,Tryz.ntmps168
  go_wp2_with (first
   | (go_at_call 172; refine HC.out.mono ?_; rintro e w1 ⟨rfl,hb1⟩; have yP:=hI (oN.out.next hb1); obtain ⟨q0,q1,q3,q4,f3,f4⟩:=yP.out.cells; clear hb1)
   | (with_reducible refine zJ ?_))
  exact Halt.ret (zy (p:=2) (u:=3) rfl _ _ (w.heap.size+1) 95 #[.int .i64 0,.slice none 0 0] _ rfl (yP.out.res 0 none 0 0) Tryz.underlying95 rfl qZ) rfl (aW.no HS.out (yP.out.below _ _))
 obtain ⟨hk,ho⟩:=cu hs
 obtain ⟨i,hi,Da,hst⟩:=Js hk ho
 have hov:y7 sec xs=i:=by rw[(gu hk ho).2,Da]
 rw[hs,hov] at HC
 have hin:i<n:=by rw[← HX.out.1]; exact hi
 have Pm:=hI (show vN xs=xs.set i (2,zM xs i,zI xs i) by unfold vN; rw[Da,Int.toNat_natCast])
 have HT:=hI (fun (W:World) (hh:qH W (·<W.heap.size) A n xs)=>FB (cap:=cap) hh sec (by have:=(YQ hk HX.out.1).2; omega) i hin)
 rw[hs]
 clear hk ho Da hst hov hs hi
 go_enter Tryz.func168,Tryz.ntmps168
 go_wp2_with (first
  | (go_at_call 172; refine HC.out.mono ?_; rintro e w1 ⟨rfl,hb1⟩; have yP:=hI (oN.out.next hb1); obtain ⟨q0,q1,q3,q4,f3,f4⟩:=yP.out.cells; clear hb1)
  | (go_at_call 133; refine (HT.out _ (jD HX.out yP.out.1)).mono ?_; rintro e w6 ⟨⟨A',cap',rfl,hown⟩,hb6⟩; have Qb:=hI (yP.out.next hb6); obtain ⟨t0,t1,t3,t4,f9,f0⟩:=Qb.out.cells; have HOW:=hI hown; clear hb6 hown)
  | (with_reducible refine zJ ?_))
 have hlt:=yP.out.lt
 have hown:=((HOW.out.far (p:=⟨w.heap.size+1,0,none⟩) hlt (.int .i64 sec)).far (p:=⟨w.heap.size+1,1,none⟩) hlt (.slice A' n cap')).base yP.out.1.size
 rw[← Pm.out] at hown
 exact Halt.ret (zy (p:=2) (u:=3) rfl _ _ (w.heap.size+1) 95 #[.int .i64 sec,.slice A' n cap'] _ rfl (Qb.out.res sec A' n cap') Tryz.underlying95 rfl qZ) rfl ⟨.inl ⟨rfl,_,rfl,⟨A',n,cap',rfl,hown⟩⟩,Qb.out.below _ _⟩
end
section
theorem Wt (xs:List Seg):jQ xs<0∨∃ i:Nat,i<xs.length∧jQ xs=i:=by
 rcases iO xs with ⟨e,_⟩ | ⟨k,hk2,e,_⟩
 ·exact .inl (by omega)
 ·exact .inr ⟨(jd xs+1+(k:Nat)).toNat % xs.length,Nat.mod_lt _ (by omega),e⟩
end
section
theorem Zp (xs:List Seg) (i j:Nat) (s:Seg) (hi:i<xs.length):(xs.set i s).getD j zK=if i=j then s else xs.getD j zK:=by
 by_cases h:i=j
 ·subst h
  simp[List.getD,hi]
 ·simp[List.getD,List.getElem?_set,h]
theorem Gv {sec:Int} {xs:List Seg} (h:qp sec xs) {i:Nat} (hi:i<xs.length) {s:Seg} (hm:xY s sec)
 (ha:s.1≠0→∀ j,j<xs.length→j≠i→qE xs j≠0→zM xs j≠s.2.1∧(s.1=1→zM xs j<s.2.1)∧(qE xs j=1→s.2.1<zM xs j)):qp sec (xs.set i s):=by
 refine ⟨by rw[List.length_set]; exact h.1,?_,?_⟩
 ·intro x hx
  rcases List.mem_or_eq_of_mem_set hx with h1 | rfl
  ·exact h.2.1 x h1
  ·exact hm
 ·intro a hla b hlb hne ha0 hb0
  rw[List.length_set] at hla hlb
  rw[Zp xs i a s hi] at ha0 ⊢
  rw[Zp xs i b s hi] at hb0 ⊢
  by_cases h1:i=a
  ·rw[if_pos h1] at ha0 ⊢
   have h2:¬ i=b:=fun h=>hne (by omega)
   rw[if_neg h2] at hb0 ⊢
   obtain ⟨k1,k2,k3⟩:=ha ha0 b hlb (fun h=>h2 h.symm) hb0
   exact ⟨fun e=>k1 e.symm,k2⟩
  ·rw[if_neg h1] at ha0 ⊢
   by_cases h2:i=b
   ·rw[if_pos h2] at hb0 ⊢
    obtain ⟨k1,k2,k3⟩:=ha hb0 a hla (fun h=>h1 h.symm) ha0
    exact ⟨k1,k3⟩
   ·rw[if_neg h2] at hb0 ⊢
    exact h.2.2 a hla b hlb hne ha0 hb0
theorem LV {n:Nat} {sec:Int} (h:qj n sec):qp sec (List.replicate n zK):=by
 refine ⟨by rw[List.length_replicate]; exact h,fun s hs=>?_,fun i hi j hj _ h0=>?_⟩
 ·rw[List.eq_of_mem_replicate hs]
  exact ⟨rfl,rfl⟩
 ·exfalso
  refine h0 ?_
  simp[List.getD,List.getElem?_replicate]
  split <;> rfl
theorem Yy {sec:Int} {xs:List Seg} (h:qp sec xs):0≤y8 xs:=by
 unfold y8
 rcases iQ xs with ⟨e,_⟩ | ⟨i,hi,e,hs,_⟩
 ·rw[if_pos (by omega)]; omega
 ·rw[if_neg (by omega),e,Int.toNat_natCast]
  have:=(fB (mR h.2.1 hi) hs).2.1
  simp only[zM]
  omega
theorem VR {xs:List Seg} {j:Nat} (hj:j<xs.length) (hs:qE xs j≠0):zM xs j≤y8 xs:=by
 unfold y8
 rcases iQ xs with ⟨e,hz⟩ | ⟨i,hi,e,_,hm⟩
 ·exact absurd (hz j hj) hs
 ·rw[if_neg (by omega),e,Int.toNat_natCast]
  exact hm j hj hs
theorem Wq {sec:Int} {xs:List Seg} {g:Int} (h:zZ sec xs g=0):qp sec xs∧¬ 0≤qO xs∧y8 xs<g∧∃ i:Nat,i<xs.length∧jQ xs=i∧qE xs i=0:=by
 unfold zZ at h
 by_cases hk:qp sec xs
 ·rw [if_neg (fun k => k hk)] at h
  by_cases h1:0≤qO xs
  ·rw[if_pos h1] at h; omega
  ·rw[if_neg h1] at h
   by_cases h2:g≤y8 xs
   ·rw[if_pos h2] at h; omega
   ·rw[if_neg h2] at h
    by_cases h3:jQ xs<0
    ·rw[if_pos h3] at h; omega
    ·refine ⟨hk,h1,by omega,?_⟩
     rcases iO xs with ⟨e,_⟩ | ⟨k,hk',e,hs,_⟩
     ·omega
     ·exact ⟨_,Nat.mod_lt _ (by omega),e,hs⟩
 ·rw[if_pos hk] at h; omega
theorem zCh {sec:Int} {xs:List Seg} (h:qp sec xs) (h1:¬ 0≤qO xs) {j:Nat} (hj:j<xs.length):qE xs j≠1:=by
 rcases bW h with ⟨_,hz⟩ | ⟨i,_,e,_⟩
 ·exact hz j hj
 ·omega
theorem zCg {sec:Int} {xs:List Seg} {g:Int} (h:zZ sec xs g=0):qp sec (qC xs g):=by
 obtain ⟨hk,h1,h2,i,hi,e,hs⟩:=Wq h
 unfold qC
 rw[e,Int.toNat_natCast]
 have h0:=Yy hk
 have hsz:=hk.1
 unfold qj at hsz
 refine Gv hk hi ?_ ?_
 ·unfold xY
  rw[if_neg (show ¬ (1:Int)=0 by decide)]
  exact ⟨.inl rfl,by show (0:Int)<g; omega,show (1:Int)≤1 by decide,by show (1:Int)≤sec; omega⟩
 ·intro _ j hj hne hj0
  have:=VR hj hj0
  refine ⟨by show zM xs j≠g; omega,fun _=>by show zM xs j<g; omega,fun ho=>absurd ho (zCh hk h1 hj)⟩
theorem LU {sec:Int} {xs:List Seg} {n:Int} (h:dL sec xs n=0):qp sec (qL xs n):=by
 have hs:jP sec xs=0:=by
  by_cases h1:jP sec xs=0
  ·exact h1
  ·rw[Bo h1] at h; exact absurd h h1
 obtain ⟨hk,h1⟩:=cu hs
 obtain ⟨i,hi,e,hst⟩:=Js hk h1
 have hn0:¬ n<0:=fun k=>by rw[M7 hs k] at h; omega
 have hle:¬ jB sec xs<n:=fun k=>by rw[Bp hs hn0 k] at h; omega
 have hl:jB sec xs=sec-zI xs i:=by unfold jB; rw[e,if_pos (by omega),Int.toNat_natCast]
 have hm:=fB (mR hk.2.1 hi) (by rw[show (xs.getD i zK).1=1 from hst]; decide)
 unfold qL
 rw[e,Int.toNat_natCast]
 refine Gv hk hi ?_ ?_
 ·unfold xY
  rw[if_neg (by show ¬ qE xs i=0; rw[hst]; decide)]
  refine ⟨.inl hst,hm.2.1,?_,?_⟩
  ·show (1:Int)≤zI xs i+n
   simp only[zI]
   omega
  ·show zI xs i+n≤sec
   omega
 ·intro _ j hj hne hj0
  have h2:=hk.2.2 i hi j hj (fun h=>hne h.symm) (by rw[show (xs.getD i zK).1=1 from hst]; decide) hj0
  have h3:=h2.2 hst
  refine ⟨by show zM xs j≠zM xs i; simp only[zM]; omega,fun _=>h3,fun ho=>?_⟩
  have h4:=(hk.2.2 j hj i hi hne hj0 (by rw[show (xs.getD i zK).1=1 from hst]; decide)).2 ho
  exact h4
theorem zCf {sec:Int} {xs:List Seg} (h:jP sec xs=0):qp sec (vN xs):=by
 obtain ⟨hk,h1⟩:=cu h
 obtain ⟨i,hi,e,hst⟩:=Js hk h1
 have hm:=fB (mR hk.2.1 hi) (by rw[show (xs.getD i zK).1=1 from hst]; decide)
 unfold vN
 rw[e,Int.toNat_natCast]
 refine Gv hk hi ?_ ?_
 ·unfold xY
  rw[if_neg (show ¬ (2:Int)=0 by decide)]
  exact ⟨.inr rfl,hm.2.1,hm.2.2⟩
 ·intro _ j hj hne hj0
  have h2:=hk.2.2 i hi j hj (fun h=>hne h.symm) (by rw[show (xs.getD i zK).1=1 from hst]; decide) hj0
  have h3:=h2.2 hst
  refine ⟨by show zM xs j≠zM xs i; simp only[zM]; omega,fun ho=>absurd ho (show ¬ (2:Int)=1 by decide),fun ho=>?_⟩
  exact (hk.2.2 j hj i hi hne hj0 (by rw[show (xs.getD i zK).1=1 from hst]; decide)).2 ho
end
section
theorem CF.mono {w:World} {n₀ n₁ B:Nat} {L:List Num} (h:CF w n₁ B L) (hn:n₀≤n₁):CF w n₀ B L:=by
 obtain ⟨h1,h2,A,cap,h3,h4⟩:=h
 refine ⟨by omega,h2,A,cap,h3,h4.1,fun hp=>?_⟩
 obtain ⟨b,off,e,hb,hc⟩:=h4.2 hp
 exact ⟨b,off,e,⟨nT hn hb.1,hb.2⟩,hc⟩
end
section
open Go.RowKit Go.Shelf
attribute [local go_sem] Oper.semAt_some
def CJ (w:World) (sec:Int) (A:Option Addr) (n cap:Nat) (W:World):Prop :=
 Below w.heap.size w W∧z8 W w.heap.size 95 #[.int .i64 sec,.slice A n cap]∧z8 W (w.heap.size+1) 3 #[.int .i64 0]∧z8 W (w.heap.size+1+1) 36 #[.int .i64 0]
theorem CJ.start (w:World) (sec:Int) (A:Option Addr) (n cap:Nat):CJ w sec A n cap (((w.alloc (.cells #[.int .i64 sec,.slice A n cap] 95)).alloc (.cells #[.int .i64 0] 3)).alloc (.cells #[.int .i64 0] 36)) :=
 ⟨(((Below.refl _ w).alloc (nR _) _).alloc (by simp) _).alloc (by simp; omega) _,((z8.new w _ _).alloc _).alloc _,(zY w _ _ _).alloc _,jw w _ _ _ _⟩
theorem CJ.next {w:World} {sec:Int} {A:Option Addr} {n cap:Nat} {W W':World} (h:CJ w sec A n cap W) (hb:Below W.heap.size W W'):CJ w sec A n cap W' :=
 ⟨h.1.trans (hb.mono h.1.size),h.2.1.below hb h.2.1.lt,h.2.2.1.below hb h.2.2.1.lt,h.2.2.2.below hb h.2.2.2.lt⟩
end
section
theorem Si {w W W':World} (h:Below w.heap.size w W) (hb:Below W.heap.size W W'):Below w.heap.size w W':=h.trans (hb.mono h.size)
def eO (w:World) (G n:Nat) (A:Option Addr) (cap:Nat) (xs:List Seg) (W:World):Prop :=
 z8 W G 95 #[.int .i64 64,.slice A n cap]∧qH W (fun b=>b<W.heap.size∧b≠G) A n xs∧Below w.heap.size w W
section
variable {w:World} {G n:Nat} {A:Option Addr} {cap:Nat} {xs:List Seg} {W W':World}
theorem eO.now (h:eO w G n A cap xs W):qH W (·<W.heap.size) A n xs:=h.2.1.more (fun b h=>h.1)
theorem eO.next (h:eO w G n A cap xs W) (hb:Below W.heap.size W W'):eO w G n A cap xs W' :=
 ⟨h.1.below hb h.1.lt,(h.2.1.below hb (fun b h=>h.1)).more (fun b h=>⟨nL h.1 hb.size,h.2⟩),Si h.2.2 hb⟩
end
theorem eO.first {w W0:World} {n₀ n:Nat} {A:Option Addr} {cap:Nat} {xs:List Seg} (hr:qH W0 (From n₀ W0) A n xs) (hb:Below w.heap.size w W0) :
 eO w W0.heap.size n A cap xs (W0.alloc (.cells #[.int .i64 64,.slice A n cap] 95)) :=
 ⟨z8.new W0 _ _,(hr.below ((Below.refl W0.heap.size W0).alloc (nR _) _) (fun b h=>h.2)).more (fun b h=>⟨by have:=h.2; simp; omega,by have:=h.2; omega⟩),hb.alloc hb.size _⟩
theorem eO.fresh {w W0:World} {m n:Nat} {A:Option Addr} {cap:Nat} {xs:List Seg} (ho:xX W0 m A n cap xs) (hb:Below w.heap.size w W0) :
 eO w W0.heap.size n A cap xs (W0.alloc (.cells #[.int .i64 64,.slice A n cap] 95)):=eO.first ho.row hb
theorem eO.store {w W:World} {G n m n0:Nat} {A A':Option Addr} {cap cap':Nat} {ys:List Seg} (h1:z8 W G 95 #[.int .i64 64,.slice A n0 cap]) (h2:Below w.heap.size w W) (ho:xX W m A' n cap' ys) (hm:G<m) (hB:w.heap.size≤G) :
 eO w G n A' cap' ys ((W.setCell ⟨G,0,none⟩ (.int .i64 64)).setCell ⟨G,1,none⟩ (.slice A' n cap')):=by
 have ho2:=(ho.far (p:=⟨G,0,none⟩) hm (.int .i64 64)).far (p:=⟨G,1,none⟩) hm (.slice A' n cap')
 exact ⟨(h1.set_ 0 (.int .i64 64)).set_ 1 (.slice A' n cap'),ho2.row.more (fun b hb=>⟨hb.2,by have:=hb.1; omega⟩),(h2.setCell (p:=⟨G,0,none⟩) hB _).setCell (p:=⟨G,1,none⟩) hB _⟩
theorem xX.setRow {w:World} {base:Nat} {A:Option Addr} {n cap:Nat} {xs:List Seg} (h:xX w base A n cap xs) {g:Nat} (hg:g<base) (cs:Array Value):xX (w.setRow g cs) base A n cap xs :=
 ⟨h.1,h.2.1.kept (row:=some g) ⟨rfl,rfl,rfl,by simp[World.setRow],fun k _ hne=>setRow_other w g k cs (fun e=>hne (by rw[e]))⟩ (.inr (fun e=>by have:=sH h.2.1 e; omega)),h.2.2⟩
theorem eO.row {w W:World} {G n m n0:Nat} {A A':Option Addr} {cap cap':Nat} {ys:List Seg} (h1:z8 W G 95 #[.int .i64 64,.slice A n0 cap]) (h2:Below w.heap.size w W) (ho:xX W m A' n cap' ys) (hm:G<m) (hB:w.heap.size≤G) :
 eO w G n A' cap' ys (W.setRow G #[.int .i64 64,.slice A' n cap']) :=
 ⟨setRow_heap W G _ _ _ _ h1,(ho.setRow hm _).row.more (fun b hb=>⟨hb.2,by have:=hb.1; omega⟩),below_setRow h2 hB _⟩
end
section
def posR (n s k:Nat):Nat:=if s+k<n then s+k else s+k-n
theorem Ga {n s k:Nat} (hs:s<n) (hk:k≤n):posR n s k<n:=by unfold posR; split <;> omega
theorem GZ {n s j:Nat} (hs:s<n) (hj:j<n):∃ k,k<n∧posR n s k=j:=by
 refine ⟨if s≤j then j-s else j+n-s,?_,?_⟩
 ·split <;> omega
 ·unfold posR
  split <;> split <;> omega
theorem Ae {n s k:Nat} (hs:s<n) (hk:k<n):(posR n s k+1) % n=posR n s (k+1):=by
 unfold posR
 by_cases h:s+k<n
 ·rw[if_pos h]
  by_cases h2:s+(k+1)<n
  ·rw[if_pos h2,Nat.mod_eq_of_lt (by omega)]; omega
  ·rw[if_neg h2,show s+k+1=n by omega,Nat.mod_self]; omega
 ·rw[if_neg h,if_neg (by omega),Nat.mod_eq_of_lt (by omega)]; omega
structure YC (n:Nat) (xs:List Seg) (s c:Nat):Prop where
 len:xs.length=n
 hs:s<n
 hc:c≤n
 live:∀ k,k<n→(qE xs (posR n s k)≠0↔k<c)
 mids:∀ k,k+1<c→qE xs (posR n s k)=2
 rise:∀ k,k+1<c→zM xs (posR n s k)<zM xs (posR n s (k+1))
section
variable {n s c:Nat} {xs:List Seg} {sec:Int}
theorem YC.rises (h:YC n xs s c) (a:Nat):∀ d,a+d+1<c→zM xs (posR n s a)<zM xs (posR n s (a+d+1))
 | 0,hd=>h.rise a hd
 | d+1,hd=>Int.lt_trans (h.rises a d (by omega)) (h.rise (a+d+1) (by omega))
theorem YC.less (h:YC n xs s c) {a b:Nat} (hab:a<b) (hb:b<c):zM xs (posR n s a)<zM xs (posR n s b):=by
 have:=h.rises a (b-a-1) (by omega)
 rwa [show a+(b-a-1)+1=b by omega] at this
theorem YC.lat (h:YC n xs s c) (h0:0<c):jd xs=(posR n s (c-1):Nat):=by
 have hc:=h.hc
 rcases iQ xs with ⟨_,hz⟩ | ⟨i,hi,e,hs,hm⟩
 ·exact absurd (hz _ (by rw[h.len]; exact Ga h.hs (k:=0) (by omega))) ((h.live 0 (by omega)).2 h0)
 ·rw[h.len] at hi
  obtain ⟨k,hk,rfl⟩:=GZ h.hs hi
  have hkc:=(h.live k hk).1 hs
  by_cases he:k=c-1
  ·rw[e,he]
  ·have h1:=h.less (a:=k) (b:=c-1) (by omega) (by omega)
   have h2:=hm _ (by rw[h.len]; exact Ga h.hs (k:=c-1) (by omega)) ((h.live (c-1) (by omega)).2 (by omega))
   omega
theorem YC.next (h:YC n xs s c) (h0:0<c) (hc:c<n):jQ xs=(posR n s c:Nat):=by
 have hl:=h.lat h0
 have hf:qE xs (posR n s c)=0:=by
  by_cases h0:qE xs (posR n s c)=0
  ·exact h0
  ·exact absurd ((h.live c hc).1 h0) (by omega)
 have hp:((jd xs+1+((0:Nat):Int)).toNat % xs.length)=posR n s c:=by
  rw[hl,h.len,show ((posR n s (c-1):Nat):Int)+1+((0:Nat):Int)=((posR n s (c-1)+1:Nat):Int) by omega,Int.toNat_natCast,Ae h.hs (by omega),show c-1+1=c by omega]
 rcases iO xs with ⟨_,hz⟩ | ⟨i,hi,e,hs,hq⟩
 ·have:=hz 0 (by rw[h.len]; omega)
  rw[hp] at this
  exact absurd hf this
 ·rcases Nat.eq_zero_or_pos i with rfl | hi0
  ·rw[e,hp]
  ·have:=hq 0 hi0
   rw[hp] at this
   exact absurd hf this
theorem Bu {i j:Nat} {x:Seg} (hi:i<xs.length):qE (xs.set i x) j=if i=j then x.1 else qE xs j:=by
 simp only[qE,Zp xs i j x hi]; split <;> rfl
theorem rH {i j:Nat} {x:Seg} (hi:i<xs.length):zM (xs.set i x) j=if i=j then x.2.1 else zM xs j:=by
 simp only[zM,Zp xs i j x hi]; split <;> rfl
theorem YC.old (h:YC n xs s c) {o:Nat} (ho:Ap xs=o):o=s∧0<c:=by
 rcases zEc xs with ⟨e,_⟩ | ⟨i,hi,e,hst,hm⟩
 ·omega
 ·obtain rfl:o=i:=by omega
  rw[h.len] at hi
  obtain ⟨k,hk,hki⟩:=GZ h.hs hi
  have hkc:=(h.live k hk).1 (by rw[hki,hst]; decide)
  have hp0:posR n s 0=s:=by unfold posR; rw[if_pos (by have:=h.hs; omega)]; rfl
  refine ⟨?_,by omega⟩
  rcases Nat.eq_zero_or_pos k with rfl | hk0
  ·omega
  ·have h1:=h.less hk0 hkc
   have h2:=hm _ (by rw[h.len]; exact Ga h.hs (k:=0) (by omega)) (h.mids 0 (by omega))
   rw[hki] at h1
   omega
end
end
section
abbrev DC (p:Nat) (sec:Int) (A:Option Addr) (n c:Nat) (br:Bool):Array Value:=#[.pointer (some ⟨p,0,none⟩),.int .i64 sec,.slice A n c,.bool br]
abbrev xQ (w:World) (X:Nat→Prop) (p d n:Nat) (s:Sup) (t:Int) (k:Dk):Prop:=zk w X p d n s.a s.b s.g s.r s.v s.f t k
def qX (w:World) (X:Nat→Prop) (l p d n:Nat) (s:Sup) (t:Int) (k:Dk) (sec:Int) (A:Option Addr) (m c:Nat) (xs:List Seg) (br:Bool):Prop :=
 z8 w l 103 (DC p sec A m c br)∧¬ X l∧∃ R:Nat→Prop,xQ w (fun b=>X b∨b=l∨R b) p d n s t k∧qH w R A m xs∧(∀ b,R b→b<w.heap.size∧b≠l∧¬ X b)
section
variable {w w':World} {X Y:Nat→Prop} {l p d n m c:Nat} {s:Sup} {t:Int} {k:Dk} {sec:Int} {A:Option Addr} {xs:List Seg} {br:Bool}
theorem qX.below (h:qX w X l p d n s t k sec A m c xs br) (hb:Below w.heap.size w w'):qX w' X l p d n s t k sec A m c xs br:=by
 obtain ⟨h1,h2,R,h3,h4,h5⟩:=h
 exact ⟨h1.below hb h1.lt,h2,R,zk.below h3 hb,h4.below hb (fun b h=>(h5 b h).1),fun b h=>⟨nL (h5 b h).1 hb.size,(h5 b h).2⟩⟩
theorem qX.now (h:qX w X l p d n s t k sec A m c xs br):qH w (·<w.heap.size) A m xs:=by
 obtain ⟨h1,h2,R,h3,h4,h5⟩:=h
 exact h4.more (fun b h=>(h5 b h).1)
theorem yU (h:qX w X l p d n s t k sec A m c xs br):w.cell? ⟨l,0,none⟩=some (.pointer (some ⟨p,0,none⟩))∧w.cell? ⟨l,1,none⟩=some (.int .i64 sec)∧w.cell? ⟨l,2,none⟩=some (.slice A m c)∧w.cell? ⟨l,3,none⟩=some (.bool br) :=
 ⟨h.1.cell 0,h.1.cell 1,h.1.cell 2,h.1.cell 3⟩
theorem uX (hs:xQ w X p d n s t k):Calls Tryz.prog 123 #[.pointer (some ⟨p,0,none⟩)] w fun e w'=>e=.returned (.pointer (some ⟨d,0,none⟩))∧w'=w:=by
 have c7:w.cell? ⟨p,7,none⟩=some (.pointer (some ⟨d,0,none⟩)):=hs.1.cell 7
 clear hs
 go_enter Tryz.func123,Tryz.ntmps123
 go_wp2
 go_ret
 exact ⟨rfl,rfl⟩
theorem YF (hs:xQ w X p d n s t k) (i:Nat) (hi:(i:Int)<s.a) (ha:s.a≤16) (hb:0≤s.b∧s.b≤64) :
 Calls Tryz.prog 50 #[.pointer (some ⟨p,0,none⟩),.int .i64 i] w fun e w'=>e=.returned (.tuple #[.int .i64 (2+i*s.b),.int .i64 0])∧w'=w:=by
 have c0:w.cell? ⟨p,0,none⟩=some (.int .i64 s.a):=hs.1.cell 0
 have c1:w.cell? ⟨p,1,none⟩=some (.int .i64 s.b):=hs.1.cell 1
 have d0:decide ((i:Int)<0)=false:=by simp
 have d1:decide (s.a≤(i:Int))=false:=decide_eq_false (by omega)
 obtain ⟨x,hx⟩:∃ x:Int,(i:Int)*s.b=x:=⟨_,rfl⟩
 have zMo:(i:Int)≤15:=by omega
 have hx1:0≤x∧x≤960:=by
  rw[← hx]
  exact ⟨Int.mul_nonneg (by omega) hb.1,by have:=Int.mul_le_mul zMo hb.2 hb.1 (by omega:(0:Int)≤15); omega⟩
 rw[show (2:Int)+i*s.b=2+x by rw[hx]]
 clear hs
 go_enter Tryz.func50,Tryz.ntmps50
 go_wp2
 go_ret2
 exact ⟨rfl,rfl⟩
theorem aJ (h:qX w X l p d n s t k sec A m c xs br):Calls Tryz.prog 11 #[.pointer (some ⟨l,0,none⟩)] w fun e w'=>e=.returned (.pointer (some ⟨p,0,none⟩))∧w'=w:=by
 obtain ⟨c0,_,_,_⟩:=yU h
 clear h
 go_enter Tryz.func11,Tryz.ntmps11
 go_wp2
 go_ret
 exact ⟨rfl,rfl⟩
theorem RU (h:qX w X l p d n s t k sec A m c xs br):Calls Tryz.prog 94 #[.pointer (some ⟨l,0,none⟩)] w fun e w'=>e=.returned (.bool br)∧w'=w:=by
 obtain ⟨_,_,_,c3⟩:=yU h
 clear h
 go_enter Tryz.func94,Tryz.ntmps94
 go_wp2
 go_ret
 exact ⟨by simp,rfl⟩
theorem JR (w:World) (l:Nat):Calls Tryz.prog 60 #[.pointer (some ⟨l,0,none⟩),.int .i64 0] w fun e w'=>e=.returned (.int .i64 0)∧w'=w:=by
 go_enter Tryz.func60,Tryz.ntmps60
 go_wp2
 go_ret
 exact ⟨rfl,rfl⟩
end
end
section
theorem Xl (A:Option Addr) (n c:Nat) (w:World):(binOp .eql 93 (.slice A n c) (.slice none 0 0)).run Tryz.prog w=.ok (.bool A.isNone) w:=by
 have h:=run_equal_slice_nil (P:=Tryz.prog) w 93 126 A n c Tryz.underlying93
 simp[go_sem,binOp,h]
theorem Uh (c:Nat) (hc:c=0) (w:World):Calls Tryz.prog 165 #[.slice none 0 c] w fun e w'=>e=.returned (.slice none 0 0)∧w'=w:=by
 subst hc
 have heq:=Xl none 0 0
 go_enter Tryz.func165,Tryz.ntmps165
 go_wp2
 go_ret
 exact ⟨rfl,rfl⟩
theorem SX {w:World} {a:Addr} {n c:Nat} {xs:List Seg} (h:qH w (·<w.heap.size) (some a) n xs) (hn:n≤1000) :
 Calls Tryz.prog 165 #[.slice (some a) n c] w fun e w'=>(∃ A' c',e=.returned (.slice A' n c')∧xX w' w.heap.size A' n c' xs)∧Below w.heap.size w w':=by
 have heq:=Xl (some a) n c
 have HO:=hI (RJ w)
 have HB:=hI ((Below.refl w.heap.size w).alloc (nR _) (.cells #[] 126))
 have HX:=hI (jD h HB.out)
 have HL:=hI h.1
 have h1000:(0:Nat)+n≤1000000:=by omega
 clear h
 go_enter Tryz.func165,Tryz.ntmps165
 go_wp2_with (at_builtin; refine wpList_append_rowZ (.tmp 5) (.tmp 6) rfl rfl w.heap.size _ 0 [] rfl HO.out _ (some a) n c xs rfl HX.out (fun e=>by cases e) h1000 (by simp) ?_; rintro v' w4 ho hg _; have zq:=hI (HB.out.grown hg HB.out.size (fun k e=>nT (by omega) (sH HO.out e))); obtain ⟨A',cap',rfl,hc,hn',hrow⟩:=rowZ_own ho (xs:=xs) (by simp) (by rw[HL.out,Nat.zero_add]); rw[Nat.zero_add] at hc hrow; simp only[Nat.zero_add]; have xR:=hI ho; have HC:=hI hc; have HN:=hI hn'; clear ho hg hc hn' hrow)
 go_ret
 have hown:=xR.out
 rw[Nat.zero_add,List.nil_append] at hown
 exact ⟨⟨A',cap',rfl,HL.out,hown,HN.out,HC.out⟩,zq.out⟩
theorem SY {w:World} {A:Option Addr} {n c:Nat} {xs:List Seg} (h:qH w (·<w.heap.size) A n xs) (hnil:A=none→c=0) (hnc:n≤c) (hn:n≤1000) :
 Calls Tryz.prog 165 #[.slice A n c] w fun e w'=>(∃ A' c',e=.returned (.slice A' n c')∧xX w' w.heap.size A' n c' xs)∧Below w.heap.size w w':=by
 cases A with
 | none =>
  have hc:=hnil rfl
  subst hc
  obtain rfl:n=0:=by omega
  have hx:xs=[]:=List.length_eq_zero_iff.1 h.1
  subst hx
  refine (Uh 0 rfl w).mono ?_
  rintro e w' ⟨rfl,rfl⟩
  exact ⟨⟨none,0,rfl,rfl,⟨rfl,.inl ⟨rfl,rfl⟩⟩,fun _=>rfl,nR _⟩,Below.refl _ _⟩
 | some a =>
  exact SX h hn
theorem Xm {w:World} {A:Option Addr} {n c:Nat} {xs:List Seg} (h:qH w (·<w.heap.size) A n xs) (hnil:A=none→c=0) (hnc:n≤c) (hn:n≤1000) (sec:Int) :
 Calls Tryz.prog 112 #[xk sec A n c] w fun e w'=>(∃ A' c',e=.returned (xk sec A' n c')∧xX w' w.heap.size A' n c' xs)∧Below w.heap.size w w':=by
 have HB:=hI (((Below.refl w.heap.size w).alloc (nR _) (.cells #[.int .i64 sec,.slice A n c] 95)).alloc (by simp) (.cells #[.int .i64 0,.slice none 0 0] 95))
 have pQ:=hI ((z8.new w 95 #[.int .i64 sec,.slice A n c]).alloc (.cells #[.int .i64 0,.slice none 0 0] 95))
 have jh:=hI (zY w (.cells #[.int .i64 sec,.slice A n c] 95) 95 #[.int .i64 0,.slice none 0 0])
 have HC:=hI (SY (jD h HB.out) hnil hnc hn)
 obtain ⟨k0,k1⟩:=qG pQ.out
 clear h
 go_enter Tryz.func112,Tryz.ntmps112
 go_wp2_with fail
 refine HC.out.mono ?_
 rintro e w3 ⟨⟨A',c',rfl,ho⟩,hb⟩
 have hs2:w.heap.size+1+1≤w3.heap.size:=by have:=hb.size; simpa using this
 have yH:=hI (pQ.out.below hb pQ.out.lt)
 have sW:=hI (jh.out.below hb jh.out.lt)
 have HB3:=hI (HB.out.trans (hb.mono HB.out.size))
 have HO:=hI (ho.base (m:=w.heap.size+1+1) (by simp))
 have f0:=yH.out.frozen 1
 have hne:w.heap.size≠w.heap.size+1:=by omega
 have kS:=hI (yH.out.set_ 1 (.slice A' n c'))
 have je:=hI (sW.out.far (p:=⟨w.heap.size,1,none⟩) hne.symm (.slice A' n c'))
 obtain ⟨g0,g1⟩:=And.intro (je.out.frozen 0) (je.out.frozen 1)
 obtain ⟨q0,q1⟩:_∧_:=qG kS.out
 obtain ⟨p0,p1⟩:=qG je.out
 clear ho hb k0 k1
 obtain ⟨k0,k1⟩:=qG yH.out
 go_wp2_with (with_reducible refine zJ ?_)
 have hst:=(je.out.set_ 0 (.int .i64 sec)).set_ 1 (.slice A' n c')
 have hown:=((HO.out.far (p:=⟨w.heap.size,1,none⟩) (by show w.heap.size<_; omega) (.slice A' n c')).far (p:=⟨w.heap.size+1,0,none⟩) (by show w.heap.size+1<_; omega) (.int .i64 sec)).far (p:=⟨w.heap.size+1,1,none⟩) (by show w.heap.size+1<_; omega) (.slice A' n c')
 have hbel:=((HB3.out.setCell (p:=⟨w.heap.size,1,none⟩) (nR _) (.slice A' n c')).setCell (p:=⟨w.heap.size+1,0,none⟩) (by simp) (.int .i64 sec)).setCell (p:=⟨w.heap.size+1,1,none⟩) (by simp) (.slice A' n c')
 exact Halt.ret (jF (p:=2) rfl _ _ (w.heap.size+1) 95 #[.int .i64 sec,.slice A' n c'] _ rfl hst Tryz.underlying95 rfl qZ) rfl ⟨⟨A',c',rfl,hown.base (by omega)⟩,hbel⟩
end
section
section
variable {w:World} {X:Nat→Prop} {p d n:Nat} {s:Sup} {t:Int} {k:Dk} {A:Option Addr} {m c:Nat} {xs:List Seg}
theorem FU (hs:xQ w X p d n s t k) (hX:∀ b,X b→b<w.heap.size) (h:qH w (·<w.heap.size) A m xs) (hnil:A=none→c=0) (hmc:m≤c) (sec:Int) (hk:qp sec xs) (ha:(m:Int)=s.a) (hb:sec=s.b) (ho:qO xs<0) :
 Calls Tryz.prog 44 #[.pointer (some ⟨p,0,none⟩),xk sec A m c] w fun e w'=>∃ l A' c',e=.returned (.tuple #[.pointer (some ⟨l,0,none⟩),.int .i64 0])∧qX w' X l p d n s t k sec A' m c' xs false∧m≤c'∧(A'=none→c'=0)∧w.heap.size≤l∧Below w.heap.size w w':=by
 have HS:=hI hs
 have Pm:=hI hX
 have HR:=hI h
 have HB:=hI ((Below.refl w.heap.size w).alloc (nR _) (.cells #[.int .i64 sec,.slice A m c] 95))
 have pQ:=hI (z8.new w 95 #[.int .i64 sec,.slice A m c])
 have HC:=hI (aS (cap:=c) (jD h HB.out) sec)
 rw[if_pos hk] at HC
 obtain ⟨ov,hov⟩:∃ x,y7 sec xs=x:=⟨_,rfl⟩
 have e1:=(J2 hk ho).1
 obtain ⟨k0,k1⟩:=qG pQ.out
 have HOV:=hI hov
 have HOE:=hI e1
 have OM:=hI (And.intro hnil (And.intro hmc (show m≤1000 by have:=(YQ hk h.1).2; omega)))
 have d1:((m:Int) != s.a)=false:=by simpa using ha
 have d2:(sec != s.b)=false:=by simpa using hb
 clear h hs hk hov e1 ha hb ho hX hnil hmc
 go_enter Tryz.func44,Tryz.ntmps44
 go_wp2_with fail
 refine HC.out.mono ?_
 rintro e w2 ⟨rfl,hb⟩
 have HB2:=hI (HB.out.trans (hb.mono HB.out.size))
 have yI:=hI (pQ.out.below hb pQ.out.lt)
 clear hb k0 k1
 go_wp2_with fail
 refine (rG (HS.out.below HB2.out)).mono ?_
 rintro e w3 ⟨rfl,hb⟩
 have HB3:=hI ((HB2.out.trans (hb.mono HB2.out.size)).alloc (HB2.out.trans (hb.mono HB2.out.size)).size (.cells #[.int .i64 s.a,.int .i64 s.b,.int .u64 s.g,.int .u64 s.r,.int .u64 s.v,.int .u64 s.f] 115))
 have yH:=hI ((yI.out.below hb yI.out.lt).alloc (.cells #[.int .i64 s.a,.int .i64 s.b,.int .u64 s.g,.int .u64 s.r,.int .u64 s.v,.int .u64 s.f] 115))
 obtain ⟨k0,k1⟩:=qG yH.out
 clear hb
 go_wp2_with fail
 refine (lq (jD HR.out HB3.out) sec).mono ?_
 rintro e w4 ⟨rfl,hb⟩
 rw[HOV.out,HOE.out]
 have zq:=hI (HB3.out.trans (hb.mono HB3.out.size))
 have sW:=hI (yH.out.below hb yH.out.lt)
 clear hb k0 k1
 obtain ⟨k0,k1⟩:=qG sW.out
 go_wp2_with fail
 refine (Xm (jD HR.out zq.out) OM.out.1 OM.out.2.1 OM.out.2.2 sec).mono ?_
 rintro e w5 ⟨⟨A',c',rfl,hown⟩,hb⟩
 have qM:=hI (zq.out.trans (hb.mono zq.out.size))
 have lJ:=hI (hown.base (m:=w.heap.size) zq.out.size)
 clear hb hown k0 k1
 go_wp2_with fail
 go_ret2
 have hal:=(Below.refl w5.heap.size w5).alloc (nR _) (.cells (DC p sec A' m c' false) 103)
 have hba:=qM.out.alloc qM.out.size (.cells (DC p sec A' m c' false) 103)
 have hl:=qM.out.size
 refine ⟨w5.heap.size,A',c',rfl,⟨z8.new w5 _ _,fun hx=>by have:=Pm.out _ hx; omega,From w.heap.size w5,?_,lJ.out.row.below hal (fun b h=>h.2),fun b hb=>⟨nL hb.2 hal.size,by have:=hb.2; omega,fun hx=>by have:=Pm.out _ hx; have:=hb.1; omega⟩⟩,lJ.out.2.2.2,lJ.out.2.2.1,hl,hba⟩
 exact zk.kept HS.out (Kept.of_below hba (fun b h=>h)) (fun b hb _=>hb) (fun b hb hy=>by
  rcases hy with h | h | h
  ·exact h
  ·omega
  ·have:=h.1; omega)
end
end
section
section
variable {w w':World} {X Y:Nat→Prop} {l p d n m c:Nat} {s:Sup} {t:Int} {k:Dk} {sec:Int} {A:Option Addr} {xs:List Seg} {br:Bool}
theorem qX.put (h:qX w X l p d n s t k sec A m c xs br) (hX:∀ b,X b→b<w.heap.size) (hb:Below w.heap.size w w') {A2:Option Addr} {c2:Nat} {ys:List Seg} (ho:xX w' w.heap.size A2 m c2 ys) :
 qX ((w'.setCell ⟨l,1,none⟩ (.int .i64 sec)).setCell ⟨l,2,none⟩ (.slice A2 m c2)) X l p d n s t k sec A2 m c2 ys br∧Kept X w ((w'.setCell ⟨l,1,none⟩ (.int .i64 sec)).setCell ⟨l,2,none⟩ (.slice A2 m c2)):=by
 obtain ⟨h1,h2,R,h3,h4,h5⟩:=h
 have hlt:=h1.lt
 have hk:Kept (fun b=>b<w.heap.size∧b≠l) w ((w'.setCell ⟨l,1,none⟩ (.int .i64 sec)).setCell ⟨l,2,none⟩ (.slice A2 m c2)) :=
  ((Kept.of_below hb (fun b h=>h.1)).setCell (p:=⟨l,1,none⟩) (fun h=>h.2 rfl) _).setCell (p:=⟨l,2,none⟩) (fun h=>h.2 rfl) _
 have ho2:=(ho.far (p:=⟨l,1,none⟩) hlt (.int .i64 sec)).far (p:=⟨l,2,none⟩) hlt (.slice A2 m c2)
 refine ⟨⟨((h1.below hb hlt).set_ 1 (.int .i64 sec)).set_ 2 (.slice A2 m c2),h2,From w.heap.size ((w'.setCell ⟨l,1,none⟩ (.int .i64 sec)).setCell ⟨l,2,none⟩ (.slice A2 m c2)),?_,ho2.row,fun b hb=>⟨hb.2,by have:=hb.1; omega,fun hx=>by have:=hX b hx; have:=hb.1; omega⟩⟩,hk.mono (fun b hx=>⟨hX b hx,fun e=>h2 (e▸hx)⟩)⟩
 refine zk.kept h3 hk (fun b hb hx=>⟨hb,fun e=>hx (.inr (.inl e))⟩) (fun b hb hy=>?_)
 rcases hy with h | h | h
 ·exact .inl h
 ·exact .inr (.inl h)
 ·have:=h.1; omega
theorem zk.grow {a b g r v f:Int} (h:zk w Y p d n a b g r v f t k) (hb:Below w.heap.size w w'):zk w' (fun b=>Y b∨(w.heap.size≤b∧b<w'.heap.size)) p d n a b g r v f t k :=
 zk.kept (Z:=fun b=>b<w.heap.size) h (Kept.of_below hb (fun b h=>h)) (fun b hb _=>hb) (fun b hb hy=>by
  rcases hy with h | h
  ·exact h
  ·omega)
theorem wH (hY:∀ b,Y b→b<w.heap.size) (hs:w.heap.size≤w'.heap.size):∀ b,(Y b∨(w.heap.size≤b∧b<w'.heap.size))→b<w'.heap.size:=fun b h=>by
 rcases h with h | h
 ·exact nL (hY b h) hs
 ·exact h.2
noncomputable def zL (sec:Int) (xs:List Seg):List Seg:=if jP sec xs=0 then vN xs else xs
def zJP (w:World) (X:Nat→Prop) (l p d n:Nat) (s:Sup) (t:Int) (k:Dk) (sec:Int) (m:Nat) (zs:List Seg) (wx:World):Prop :=
 ∃ A c,qX wx X l p d n s t k sec A m c zs false∧Kept X w wx∧m≤c∧(A=none→c=0)
theorem AQ (xs:List Seg):(vN xs).length=xs.length:=by unfold vN; rw[List.length_set]
end
end
section
abbrev lw0:Oper:=⟨some 33,.move (.tmp 0),24,"log.go:343",#[],none⟩
abbrev lw1:Oper:=⟨some 34,.nilCheck (.tmp 33),0,"log.go:343",#[⟨0,.data⟩],none⟩
abbrev lw2:Oper:=⟨some 35,.fieldAddr 103 (.tmp 34) 0,0,"log.go:343",#[⟨1,.data⟩],none⟩
abbrev lw3:Oper:=⟨some 36,.load 45 (.tmp 35),45,"log.go:343",#[⟨2,.data⟩],none⟩
abbrev lw4:Oper:=⟨some 37,.call { callee:=.value (.func 123),args:=#[.tmp 36],argTypes:=#[45] },25,"log.go:343",#[⟨3,.data⟩],none⟩
abbrev lw5:Oper:=⟨some 38,.move (.tmp 9),3,"log.go:343",#[],none⟩
abbrev lw6:Oper:=⟨some 39,.move (.tmp 2),3,"log.go:343",#[],none⟩
abbrev lw7:Oper:=⟨some 40,.binOp Go.BinOp.add 3 (.tmp 38) (.tmp 39) 3,3,"log.go:343",#[⟨5,.data⟩,⟨6,.data⟩],none⟩
abbrev lw8:Oper:=⟨some 41,.move (.tmp 11),3,"log.go:343",#[],none⟩
abbrev lw9:Oper:=⟨some 42,.binOp Go.BinOp.add 3 (.tmp 40) (.tmp 41) 3,3,"log.go:343",#[⟨7,.data⟩,⟨8,.data⟩],none⟩
abbrev zFM:Oper:=⟨some 43,.load 186 (.tmp 12),186,"log.go:343",#[],none⟩
abbrev zFL:Oper:=⟨some 44,.call { callee:=.value (.func 105),args:=#[.tmp 37,.tmp 42,.tmp 43],argTypes:=#[25,3,186] },36,"log.go:343",#[⟨4,.data⟩,⟨9,.data⟩,⟨10,.data⟩,⟨4,.chain⟩],none⟩
abbrev ER:Oper:=⟨some 13,.assign (.tmp 44),36,"log.go:343",#[⟨11,.data⟩,⟨11,.chain⟩,⟨0,.phase⟩,⟨1,.phase⟩,⟨2,.phase⟩,⟨3,.phase⟩,⟨4,.phase⟩,⟨5,.phase⟩,⟨6,.phase⟩,⟨7,.phase⟩,⟨8,.phase⟩,⟨9,.phase⟩,⟨10,.phase⟩,⟨11,.phase⟩],none⟩
def fH (k:Dk) (i:Nat):List (List Int)→Dk × Int
 | []=>(k,0)
 | ys::r=>if k.wre=0 then fH (k.wr (Dk.put i ys)) (i+1) r else (k.wr (Dk.put i ys),k.wre)
theorem zCC (k:Dk) (i:Nat) (ys:List Int):(k.wr (Dk.put i ys)).pend.length≤k.pend.length+1:=by
 unfold Dk.wr
 split
 ·omega
 split
 ·show k.pend.length≤_; omega
 split
 ·show k.pend.length≤_; omega
 ·show (k.pend++[_]).length≤_; simp
section
variable {w:World} {Y:Nat→Prop} {l p d N m c:Nat} {s:Sup} {t:Int} {k:Dk} {A:Option Addr} {xss:List (List Int)}
def WrI (w:World) (Y:Nat→Prop) (l p d N:Nat) (s:Sup) (t:Int) (k:Dk) (i0:Nat) (xss:List (List Int)) (j:Nat) (wr:World):Prop :=
 ∃ kj:Dk,xQ wr Y p d N s t kj∧Kept Y w wr∧fH k i0 xss=fH kj (i0+j) (xss.drop j)∧kj.pend.length≤k.pend.length+j
theorem WR (hs:xQ w Y p d N s t k) (hY:∀ b,Y b→b<w.heap.size) (hl:Y l) (c0:w.cell? ⟨l,0,none⟩=some (.pointer (some ⟨p,0,none⟩))) (hrow:RowK w Y A m xss) (hby:∀ i,Bytes (xss.getD i [])) (hss:qY xss)
 (i at_ i0:Nat) (hi:(i:Int)<s.a) (ha:s.a≤16) (hb:0≤s.b∧s.b≤64) (hi0:(i0:Int)=2+i*s.b+at_) (hN:i0+m≤N) (hN2:N≤2048) (hp:k.pend.length≤900000) :
 Calls Tryz.prog 120 #[.pointer (some ⟨l,0,none⟩),.int .i64 i,.int .i64 at_,.slice A m c] w fun e w'=>e=.returned (.int .i64 (fH k i0 xss).2)∧xQ w' Y p d N s t (fH k i0 xss).1∧Kept Y w w':=by
 have HS:=hI hs
 have iq:=hI hY
 have yB:=hI hl
 have HRW:=hI hrow
 have zOB:=hI hby
 have dY:=hI hss
 have mG:=hI (YF hs i hi ha hb)
 obtain ⟨x,hx⟩:∃ x:Int,(2:Int)+i*s.b=x:=⟨_,rfl⟩
 rw[hx] at mG hi0
 have VL:=hI c0
 have HLEN:=hI hrow.1
 have HP:=hI hp
 have hx0:x=(i0:Int)-at_:=by omega
 have HX0:=hI hx0
 have hib:i0≤2048∧at_≤2048:=by
  have h1:0≤(i:Int)*s.b:=Int.mul_nonneg (by omega) hb.1
  omega
 have HIB:=hI hib
 clear hs hY hl hrow hby hss hi ha hb hx hp hx0 hi0
 go_enter Tryz.func120,Tryz.ntmps120
 go_wp2_with fail
 refine mG.out.mono ?_
 rintro e w1 ⟨rfl,rfl⟩
 go_wp2_with fail
 clear c0
 go_loopw [8,28] (fun _ v wr=>∃ j:Nat,j≤m∧v=.int .i64 j∧WrI w1 Y l p d N s t k i0 xss j wr) (fun _ v _=>m-(intOf v).toNat)
 case atStart=>exact ⟨0,Nat.zero_le _,rfl,k,HS.out,Kept.refl _ _,rfl,nR _⟩
 case round =>
  obtain ⟨j,hj,rfl,kj,hsj,hkj,hwj,U0⟩:=hrel
  have HSJ:=hI hsj
  have Xz:=hI hkj
  have HWJ:=hI hwj
  have HPJ:=hI U0
  clear hsj hkj hwj U0
  by_cases hlt:j<m
  case neg =>
   obtain rfl:j=m:=by omega
   have hd:xss.drop j=[]:=List.drop_eq_nil_of_le (by rw[HLEN.out]; exact nR _)
   have hw2:=HWJ.out
   rw[hd] at hw2
   have HW2:=hI hw2
   clear hw2 hd
   go_wp2_with fail
   go_ret
   rw[HW2.out]
   exact ⟨rfl,HSJ.out,Xz.out⟩
  obtain ⟨gb,off,rfl,hgb,zGY⟩:=HRW.out.2 (by omega)
  obtain ⟨ys,hys⟩:∃ ys,xss.getD j []=ys:=⟨_,rfl⟩
  have H7:j<xss.length:=by rw[HLEN.out]; exact hlt
  have hye:xss[j]=ys:=by rw[← hys]; simp[List.getD,List.getElem?_eq_getElem H7]
  have fq:=hI (show ys.length=64 by rw[← hye]; exact dY.out _ (List.getElem_mem H7))
  have qm:=hI (show Bytes ys by rw[← hys]; exact zOB.out j)
  have HRY:=hI (show wr.rangeAt gb (off+j*64) (ys.map (Value.int .u8)) from fun q u hu=>by
   have h:=zGY j hlt q u (by rw[hys]; exact hu)
   rw[← h]
   exact Xz.out.cell (p:=⟨gb,_,none⟩) hgb)
  have hdrop:xss.drop j=ys::xss.drop (j+1):=by rw[List.drop_eq_getElem_cons H7,hye]
  have hw2:=HWJ.out
  rw[hdrop] at hw2
  obtain ⟨E,hE⟩:∃ E,kj.wre=E:=⟨_,rfl⟩
  unfold fH at hw2
  rw[hE] at hw2
  have HW2:=hI (show fH k i0 xss=if E=0 then fH (kj.wr (Dk.put (i0+j) ys)) (i0+j+1) (xss.drop (j+1)) else (kj.wr (Dk.put (i0+j) ys),E) by
   rw[← hw2]
   cases xss <;> rfl)
  have HWE:=hI hE
  have hal:=(Below.refl wr.heap.size wr).alloc (nR _) (.cells (zA ys) 186)
  have OE:=hI (show xQ (wr.alloc (.cells (zA ys) 186)).drew Y p d N s t kj from zk.below HSJ.out hal.drew)
  have HDD:=hI (show jL (wr.alloc (.cells (zA ys) 186)).drew (fun c=>(Y c∨c=p)∨c=wr.heap.size) d N kj from HSJ.out.2.1.below hal.drew (fun b hb h=>by rcases h with h | h; exact h; omega))
  have hpl:=HSJ.out.1.lt
  have HXD:=hI (show ∀ c,((Y c∨c=p)∨c=wr.heap.size)→c<(wr.alloc (.cells (zA ys) 186)).drew.heap.size from fun c h=>by
   have hz:=hal.drew.size
   have hz2:wr.heap.size<(wr.alloc (.cells (zA ys) 186)).drew.heap.size:=by simp[World.drew]
   rcases h with (h | h) | h
   ·exact nL (nL (iq.out c h) Xz.out.size) hz
   ·omega
   ·omega)
  have dI:=hI (show Kept Y wr (wr.alloc (.cells (zA ys) 186)).drew from Kept.of_below hal.drew (fun b h=>nL (iq.out b h) Xz.out.size))
  have sw:=hI (show (wr.alloc (.cells (zA ys) 186)).drew.cell? ⟨l,0,none⟩=some (.pointer (some ⟨p,0,none⟩)) from (dI.out.cell (p:=⟨l,0,none⟩) yB.out).trans ((Xz.out.cell (p:=⟨l,0,none⟩) yB.out).trans VL.out))
  have HR1:=hI (show (wr.alloc (.cells (zA ys) 186)).drew.rangeAt wr.heap.size 0 (ys.map (Value.int .u8)) from fun q u hu=>by
   have h:=(show qB (wr.alloc (.cells (zA ys) 186)) wr.heap.size ys from z8.new wr _ _).range q u hu
   exact h)
  have HWK:=hI (show Calls Tryz.prog 105 #[.pointer (some ⟨d,0,none⟩),.int .i64 ((i0:Int)+(j:Int)),.agg (zA ys)] (wr.alloc (.cells (zA ys) 186)).drew fun e w'=>e=.returned (.int .i64 E)∧jL w' (fun c=>(Y c∨c=p)∨c=wr.heap.size) d N (kj.wr (Dk.put (i0+j) ys))∧Kept (fun c=>(Y c∨c=p)∨c=wr.heap.size) (wr.alloc (.cells (zA ys) 186)).drew w' by
   have h:=Jo HDD.out HXD.out (i0+j) (by omega) ys fq.out qm.out (by have h1:=HPJ.out; have h2:=HP.out; omega)
   rw[Int.natCast_add,hE] at h
   exact h)
  have HPN:=hI (show (kj.wr (Dk.put (i0+j) ys)).pend.length≤k.pend.length+(j+1) by have h1:=HPJ.out; have h2:=zCC kj (i0+j) ys; omega)
  have HWI:=hI (show IntKind.i64.wrap (IntKind.i64.wrap (i0:Int)+(j:Int))=(i0:Int)+(j:Int) by
   have e:IntKind.i64.wrap (i0:Int)=(i0:Int):=by rw[IntKind.wrap_i64]; omega
   rw[e,IntKind.wrap_i64]
   omega)
  have hx0:=HX0.out
  have hjm:(j:Int)<(m:Int):=by omega
  have hmb:(m:Int)≤2048:=by omega
  clear hgb zGY hys hye hdrop hw2 hE hal hpl
  go_wp2_with (first
   | (refine zQ (.tmp 31) rfl rfl gb (off+j*64) rfl ys fq.out HRY.out ?_)
   | (refine zG rfl rfl ?_)
   | (refine zU (.tmp 12) (.tmp 32) rfl rfl wr ys rfl rfl (noughts 64) rfl (zC 64) fq.out ?_))
  have Vp:=Tryz.underlying186
  have YZ:(Tryz.prog.info? 186).map (·.size)=some (ys.map (Value.int .u8)).length:=by rw[vF,List.length_map,fq.out]
  refine wp_region_noPanic ?_
  refine zB.region (fun W=>W.cell? ⟨l,0,none⟩=some (.pointer (some ⟨p,0,none⟩))∧W.rangeAt wr.heap.size 0 (ys.map (Value.int .u8))) [] (by kernel_rfl) ⟨sw.out,HR1.out⟩ (fun hė=>?_)
  generalize (wr.alloc (.cells (zA ys) 186)).drew=vd at *
  refine tK 0 lw0 (v:=?_) ?_ hė ?_
  rotate_left
  ·intro W hSW; unfold lw0; go_simp; with_reducible rfl
  simp only[lw0,Act.put,sA,sZ,sS]
  refine tK 1 lw1 (v:=?_) ?_ hė ?_
  rotate_left
  ·intro W hSW; unfold lw1; go_simp; with_reducible rfl
  simp only[lw1,Act.put,sA,sZ,sS]
  refine tK 2 lw2 (v:=?_) ?_ hė ?_
  rotate_left
  ·intro W hSW; unfold lw2; go_simp; with_reducible rfl
  simp only[lw2,Act.put,sA,sZ,sS]
  refine tK 3 lw3 (v:=?_) ?_ hė ?_
  rotate_left
  ·intro W' hSW; have c0:=hSW.1; unfold lw3; go_simp; with_reducible rfl
  simp only[lw3,Act.put,sA,sZ,sS]
  refine tK 5 lw5 (v:=?_) ?_ hė ?_
  rotate_left
  ·intro W hSW; unfold lw5; go_simp; with_reducible rfl
  simp only[lw5,Act.put,sA,sZ,sS]
  refine tK 6 lw6 (v:=?_) ?_ hė ?_
  rotate_left
  ·intro W hSW; unfold lw6; go_simp; with_reducible rfl
  simp only[lw6,Act.put,sA,sZ,sS]
  refine tK 7 lw7 (v:=?_) ?_ hė ?_
  rotate_left
  ·intro W hSW; unfold lw7; go_simp; with_reducible rfl
  simp only[lw7,Act.put,sA,sZ,sS]
  refine tK 8 lw8 (v:=?_) ?_ hė ?_
  rotate_left
  ·intro W hSW; unfold lw8; go_simp; with_reducible rfl
  simp only[lw8,Act.put,sA,sZ,sS]
  refine tK 9 lw9 (v:=?_) ?_ hė ?_
  rotate_left
  ·intro W hSW; unfold lw9; go_simp; with_reducible rfl
  simp only[lw9,Act.put,sA,sZ,sS]
  refine tK 10 zFM (v:=?_) ?_ hė ?_
  rotate_left
  ·intro W' hSW; refine qw (.tmp 12) 186 ?_ wr.heap.size 0 ?_ (ys.map (Value.int .u8)) _ Vp rfl YZ hSW.2 <;> rfl
  simp only[zFM,Act.put,sA,sZ,sS]
  refine tO 4 lw4 ?_
  intro K hK
  refine zN 123 #[.tmp 36] #[45] rfl rfl Tryz.func123 rfl rfl [.pointer (some ⟨p,0,none⟩)] rfl ?_
  refine (uX OE.out).mono ?_
  rintro e v1 ⟨rfl,rfl⟩
  refine ⟨_,rfl,?_⟩
  simp only[lw4,Act.put,sA,sZ,sS]
  refine hU hK rfl _ _ hė (fun hė=>?_)
  clear hK K
  rw[HWI.out]
  refine tO 11 zFL ?_
  intro K hK
  refine zN 105 #[.tmp 37,.tmp 42,.tmp 43] #[25,3,186] rfl rfl Tryz.func105 rfl rfl [.pointer (some ⟨d,0,none⟩),.int .i64 ((i0:Int)+(j:Int)),.agg (zA ys)] rfl ?_
  refine HWK.out.mono ?_
  rintro e v2 ⟨rfl,hd2,hk2⟩
  have HD2:=hI hd2
  have yI:=hI hk2
  have hS2:=And.intro (show v2.cell? ⟨l,0,none⟩=some (.pointer (some ⟨p,0,none⟩)) from (hk2.cell (p:=⟨l,0,none⟩) (.inl (.inl yB.out))).trans hė.1) (show v2.rangeAt wr.heap.size 0 (ys.map (Value.int .u8)) from fun q u hu=>(hk2.cell (p:=⟨wr.heap.size,0+q,none⟩) (.inr rfl)).trans (hė.2 q u hu))
  clear hd2 hk2
  refine ⟨_,rfl,?_⟩
  simp only[zFL,Act.put,sA,sZ,sS]
  refine hU hK rfl _ _ hS2 (fun hė=>?_)
  clear hK K hS2
  refine tO 12 ER ?_
  intro K hK
  refine qg ?_ rfl ?_ ?_
  rotate_left
  ·unfold ER; go_simp; with_reducible rfl
  simp only[ER,Act.put,sA,sZ,sS]
  refine hU hK rfl _ _ hė (fun hė=>?_)
  clear hK K
  refine zB.done (by kernel_rfl) ?_ _
  refine NoPanic.normal ?_
  clear hė
  have HKA:=hI (Xz.out.trans (dI.out.trans yI.out (fun b h=>.inl (.inl h))) (fun b h=>h))
  have Cb:=hI (show xQ v2 Y p d N s t (kj.wr (Dk.put (i0+j) ys)) from ⟨OE.out.1.kept yI.out (.inl (.inr rfl)),HD2.out.mono (fun b hb h=>.inl h),OE.out.2.2⟩)
  by_cases hz:E=0
  ·have hw3:=HW2.out
   rw[if_pos hz] at hw3
   have HW3:=hI hw3
   subst hz
   clear hw3
   go_wp2_with fail
   go_roundw
   case rel=>exact ⟨_,_,_,_,_,⟨j+1,by omega,(by rw[Int.natCast_add]; rfl),kj.wr (Dk.put (i0+j) ys),Cb.out,HKA.out,by rw[HW3.out]; rfl,HPN.out⟩,rfl,rfl,rfl,rfl,rfl⟩
   case measure=>simp[intOf]; omega
  ·have hw3:=HW2.out
   rw[if_neg hz] at hw3
   have HW3:=hI hw3
   have d1:(E != 0)=true:=by simpa using hz
   clear hw3 hz
   go_wp2_with fail
   go_ret
   rw[HW3.out]
   exact ⟨rfl,Cb.out,HKA.out⟩
end
end
section
def fD (i:Nat) (g:Int):List Int:=qU g 0 [(i:Int) / 256,(i:Int)]
theorem rV (i:Nat) (g:Int):(fD i g).length=64:=wD _ _ _ (by simp)
theorem Zk (i:Nat) (g:Int) (w:World) (hi:i≤15) (hg:1≤g∧g≤18446744073709551615) :
 Calls Tryz.prog 126 #[.int .i64 i,.int .u64 g] w fun e w'=>e=.returned (.tuple #[.agg (zA (fD i g)),.int .i64 0])∧Below w.heap.size w w':=by
 have hi2:(i:Int)≤15:=by omega
 obtain ⟨ys,hys⟩:∃ ys,fD i g=ys:=⟨_,rfl⟩
 have HL:=hI (show ys.length=64 by rw[← hys]; exact rV i g)
 have HY:=hI (show qU g 0 [(i:Int) / 256,(i:Int)]=ys from hys)
 rw[hys]
 clear hys
 go_enter Tryz.func126,Tryz.ntmps126
 go_wp2_with (refine zG rfl rfl ?_)
 have HA:=hI (show qF (Value.int .u8) ((w.alloc (.cells (zA (noughts 64)) 186)).alloc (.cells #[.int .u8 ((i:Int) / 256),.int .u8 (i:Int)] 5)) (w.heap.size+1) 5 [(i:Int) / 256,(i:Int)] from zY w _ _ _)
 have HR:=hI (show qF (Value.int .u8) ((w.alloc (.cells (zA (noughts 64)) 186)).alloc (.cells #[.int .u8 ((i:Int) / 256),.int .u8 (i:Int)] 5)) w.heap.size 186 (noughts 64) from (z8.new w _ _).alloc _)
 have HB:=hI (((Below.refl w.heap.size w).alloc (nR _) (.cells (zA (noughts 64)) 186)).alloc (by simp) (.cells #[.int .u8 ((i:Int) / 256),.int .u8 (i:Int)] 5))
 refine (iN g 0 _ 2 2 [(i:Int) / 256,(i:Int)] (·<_) _ (HA.out.row 0 (z8.lt HA.out)) (fun b h=>h) hg.1 hg.2 (by omega) (by omega) (by omega)).mono ?_
 rintro e w2 ⟨rfl,hb⟩
 have HR2:=hI (show qF (Value.int .u8) w2 w.heap.size 186 (noughts 64) from z8.below HR.out hb (z8.lt HR.out))
 have HB2:=hI (HB.out.trans (hb.mono HB.out.size))
 rw[HY.out]
 clear hb
 go_wp2_with (first
  | (refine jM (.tmp 4) (.tmp 16) rfl rfl w.heap.size ys rfl rfl 186 (noughts 64) HR2.out (zC 64) HL.out ?_)
  | (with_reducible refine zJ ?_))
 exact Halt.ret (x9 (p:=4) (u:=5) rfl _ _ w.heap.size 186 ys rfl (HR2.out.setRow ys) HL.out) rfl ⟨rfl,below_setRow HB2.out (nR _) _⟩
end
section
def kQ (E sec:Int):Int:=if E=0 then sec else 0
def xG (E:Int) (ys:List Seg):List Seg:=if E=0 then ys else []
theorem XR (sec:Int):kQ 0 sec=sec:=if_pos rfl
theorem rR (ys:List Seg):xG 0 ys=ys:=if_pos rfl
theorem uN.told9 {w w':World} {sec g:Int} {xs:List Seg} {e:Ending} (h:uN w sec xs g e w') :
 ∃ A cap,e=.returned (.tuple #[xk (kQ (zZ sec xs g) sec) A (xG (zZ sec xs g) (qC xs g)).length cap,.int .i64 (if zZ sec xs g=0 then jQ xs else 0),.int .i64 (zZ sec xs g)]) ∧
  xX w' w.heap.size A (xG (zZ sec xs g) (qC xs g)).length cap (xG (zZ sec xs g) (qC xs g))∧Below w.heap.size w w':=by
 obtain ⟨⟨h0,v,rfl,A,n,cap,rfl,ho⟩ | ⟨h0,rfl⟩,hb⟩:=h
 ·unfold kQ xG
  simp only[h0,if_pos]
  obtain rfl:n=(qC xs g).length:=ho.1.symm
  exact ⟨A,cap,rfl,ho,hb⟩
 ·unfold kQ xG
  simp only[if_neg h0]
  exact ⟨none,0,rfl,⟨rfl,⟨rfl,.inl ⟨rfl,rfl⟩⟩,fun _=>rfl,nR _⟩,hb⟩
theorem xX.setRow9 {w:World} {base:Nat} {A:Option Addr} {n cap:Nat} {xs:List Seg} (h:xX w base A n cap xs) {g:Nat} (hg:g<base) (cs:Array Value):xX (w.setRow g cs) base A n cap xs :=
 ⟨h.1,h.2.1.kept (row:=some g) ⟨rfl,rfl,rfl,by simp[World.setRow],fun k _ hne=>setRow_other w g k cs (fun e=>hne (by rw[e]))⟩ (.inr (fun e=>by have:=sH h.2.1 e; omega)),h.2.2⟩
theorem oz (w:World):(zeroValue 95).run Tryz.prog w=.ok (.agg #[.int .i64 0,.slice none 0 0]) w:=(Tryz.zeroValue95 w).trans rfl
theorem ZR (a:Int) (A:Option Addr) (n c:Nat):(#[Value.int .i64 a,Value.slice A n c]:Array Value).all (·.oneCell')=true:=by simp[Value.oneCell']
theorem Gp {sec:Int} {xs:List Seg} {g:Int} (h:zZ sec xs g=0):¬ jQ xs<0:=by
 intro h3
 by_cases h0:qp sec xs
 ·by_cases h1:0≤qO xs
  ·rw[KM h0 h1] at h; omega
  by_cases h2:g≤y8 xs
  ·rw[Gr h0 h1 h2] at h; omega
  rw[Ws h0 h1 h2 h3] at h
  omega
 ·rw[Gq h0] at h; omega
def iE (v:World) (sec:Int) (zs:List Seg) (g:Int) (t i e:Value) (wy:World):Prop :=
 e=.int .i64 (zZ sec zs g)∧i=.int .i64 (if zZ sec zs g=0 then jQ zs else 0)∧∃ nb A c,t=.pointer (some ⟨nb,0,none⟩)∧v.heap.size≤nb ∧
  z8 wy nb 95 #[.int .i64 (kQ (zZ sec zs g) sec),.slice A (xG (zZ sec zs g) (qC zs g)).length c]∧xX wy v.heap.size A (xG (zZ sec zs g) (qC zs g)).length c (xG (zZ sec zs g) (qC zs g))∧Below v.heap.size v wy
section
variable {v v7 v8:World} {sec:Int} {zs:List Seg} {g:Int} {A:Option Addr} {c:Nat}
theorem iE.call (ho:xX v7 v.heap.size A (xG (zZ sec zs g) (qC zs g)).length c (xG (zZ sec zs g) (qC zs g))) (hb:Below v.heap.size v v7) :
 iE v sec zs g (.pointer (some ⟨v7.heap.size,0,none⟩)) (.int .i64 (if zZ sec zs g=0 then jQ zs else 0)) (.int .i64 (zZ sec zs g))
  ((v7.alloc (.cells #[.int .i64 0,.slice none 0 0] 95)).setRow v7.heap.size #[.int .i64 (kQ (zZ sec zs g) sec),.slice A (xG (zZ sec zs g) (qC zs g)).length c]):=by
 have h1:=below_setRow ((Below.refl v7.heap.size v7).alloc (nR _) (.cells #[.int .i64 0,.slice none 0 0] 95)) (nR _) #[.int .i64 (kQ (zZ sec zs g) sec),.slice A (xG (zZ sec zs g) (qC zs g)).length c]
 exact ⟨rfl,rfl,_,A,c,rfl,hb.size,setRow_heap _ _ _ _ _ _ (z8.new v7 _ _),ho.below h1,hb.trans (h1.mono hb.size)⟩
theorem iE.laid (ho:xX v8 (v.alloc (.cells #[.int .i64 0,.slice none 0 0] 95)).heap.size A (xG (zZ sec zs g) (qC zs g)).length c (xG (zZ sec zs g) (qC zs g))) (hb:Below (v.alloc (.cells #[.int .i64 0,.slice none 0 0] 95)).heap.size (v.alloc (.cells #[.int .i64 0,.slice none 0 0] 95)) v8) :
 iE v sec zs g (.pointer (some ⟨v.heap.size,0,none⟩)) (.int .i64 (if zZ sec zs g=0 then jQ zs else 0)) (.int .i64 (zZ sec zs g))
  (v8.setRow v.heap.size #[.int .i64 (kQ (zZ sec zs g) sec),.slice A (xG (zZ sec zs g) (qC zs g)).length c]):=by
 have hlt:v.heap.size<(v.alloc (.cells #[.int .i64 0,.slice none 0 0] 95)).heap.size:=by simp
 have hk:=z8.below (z8.new v 95 #[.int .i64 0,.slice none 0 0]) hb hlt
 have h1:=((Below.refl v.heap.size v).alloc (nR _) (.cells #[.int .i64 0,.slice none 0 0] 95)).trans (hb.mono (Nat.le_of_lt hlt))
 exact ⟨rfl,rfl,_,A,c,rfl,nR _,setRow_heap _ _ _ _ _ _ hk,(ho.setRow9 hlt _).base (Nat.le_of_lt hlt),below_setRow h1 (nR _) _⟩
end
end
end Go.Proofs.YtdkbpchmnhbhcaaGreat
