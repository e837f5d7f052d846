/- Texts of StoreKeeps, packed. -/
import Derived.Test.YtdkbpchmnhbhcaaGreatPackStoreKeeps1
import Derived.IntWalk
set_option linter.unusedVariables false
set_option linter.unusedSimpArgs false
set_option maxRecDepth 100000
set_option maxHeartbeats 16000000
namespace Go.Proofs.YtdkbpchmnhbhcaaGreat
open Go.RowKit
section
theorem KJ (g p:Int) (pay:List Int) (hb:Bytes pay):Bytes (qU g p pay):=by
 have key:∀ a b:List Int,Bytes a→Bytes b→Bytes (a++b):=by
  intro a b ha hb j
  by_cases h:j<a.length
  ·have:=ha j; simpa [List.getD,List.getElem?_append_left h] using this
  ·have:=hb (j-a.length); simpa [List.getD,List.getElem?_append_right (Nat.le_of_not_lt h)] using this
 exact key _ _ (key _ _ (key _ _ (key _ _ (key _ _ (qc _ _) (qc _ _)) (qc _ _)) (qc _ _)) hb) (dn _)
theorem sG (g p:Int) (pay:List Int) (hg:0≤g) (hg2:g≤18446744073709551615) (hp:0≤p) (hp2:p≤4294967295) (hl:pay.length≤48) :
 qD (qU g p pay)=g∧posOf (qU g p pay)=p∧qJ (qU g p pay)=pay.length∧zS (qU g p pay)=pay:=by
 have e1:(qU g p pay).take 8=beBytes g 8:=by
  unfold qU uF
  simp only[List.append_assoc]
  exact List.take_left' (beBytes_length _ _)
 have e2:((qU g p pay).drop 8).take 4=beBytes p 4:=by
  unfold qU uF
  simp only[List.append_assoc]
  rw[List.drop_left' (beBytes_length _ _)]
  exact List.take_left' (beBytes_length _ _)
 have e3:((qU g p pay).drop 12).take 2=beBytes pay.length 2:=by
  unfold qU uF
  simp only[List.append_assoc]
  rw[← List.append_assoc,List.drop_left' (by simp[beBytes_length])]
  exact List.take_left' (beBytes_length _ _)
 have e4:(qU g p pay).drop 16=pay++noughts (48-pay.length):=by
  unfold qU
  rw[List.append_assoc]
  exact List.drop_left' (o8 _ _ _)
 have hf:qJ (qU g p pay)=pay.length:=by
  unfold qJ
  rw[e3,sI 2 _ (by omega) (by simp; omega)]
  omega
 refine ⟨?_,?_,hf,?_⟩
 ·unfold qD
  rw[e1,sI 8 _ hg (by simp; omega)]
 ·unfold posOf
  rw[e2,sI 4 _ hp (by simp; omega)]
 ·unfold zS
  rw[if_pos (by omega),hf,e4]
  exact List.take_left' rfl
theorem Qy (g p:Int) (pay:List Int) (hg:1≤g) (hg2:g≤18446744073709551615) (hp:0≤p) (hp2:p≤4294967295) (hl:pay.length≤48):stamped (qU g p pay)=true:=by
 obtain ⟨e1,e2,e3,e4⟩:=sG g p pay (by omega) hg2 hp hp2 hl
 unfold stamped
 rw[e1,e2,e4,decide_eq_true hg]
 simp
end
section
def zD (n:Nat):Nat:=(n-1) / 48+1
theorem Kn (n:Nat) (h:n≤16384):1≤zD n∧zD n≤342∧n≤48*zD n∧48*(zD n-1)≤n:=by unfold zD; omega
theorem XL (n:Nat) (w:World) (hn:n≤140737488351232):Calls Tryz.prog 170 #[.int .i64 n] w fun e w'=>e=.returned (.int .i64 (zD n))∧w=w':=by
 by_cases h:n=0
 ·subst h
  go_enter Tryz.func170,Tryz.ntmps170
  go_wp2
  go_ret
  exact ⟨rfl,rfl⟩
 ·have h0:¬ (n:Int)<0:=by omega
  have h1:((n:Int)==0)=false:=by simp; omega
  have h2:1≤(n:Int):=by omega
  have h3:(n:Int)≤140737488351232:=by omega
  go_enter Tryz.func170,Tryz.ntmps170
  go_wp2
  go_ret
  exact ⟨pV (by unfold zD; omega),rfl⟩
def partOf (xs:List Int) (k:Nat):List Int:=(xs.drop (48*k)).take 48
def qh (gen pos:Int) (xs:List Int):List (List Int):=(List.range (zD xs.length)).map fun (k:Nat)=>qU gen (pos+(k:Int)) (partOf xs k)
theorem Jr (xs:List Int) (k:Nat):(partOf xs k).length≤48:=by simp[partOf]; omega
theorem yA (gen pos:Int) (xs:List Int):(qh gen pos xs).length=zD xs.length:=by simp[qh]
theorem sD (gen pos:Int) (xs:List Int) (k:Nat) (h:k<zD xs.length):(qh gen pos xs).getD k []=qU gen (pos+k) (partOf xs k):=by
 simp[qh,List.getD,List.getElem?_range h]
theorem ZG (gen pos:Int) (xs:List Int):qY (qh gen pos xs):=by
 intro ys hy
 obtain ⟨k,_,rfl⟩:=List.mem_map.1 hy
 exact wD _ _ _ (Jr _ _)
theorem Ng (gen pos:Int) (xs:List Int) (k:Nat) (h:k<zD xs.length):flat ((qh gen pos xs).take (k+1))=flat ((qh gen pos xs).take k)++qU gen (pos+k) (partOf xs k):=by
 have hl:=yA gen pos xs
 rw[List.take_succ_eq_append_getElem (by omega),jm,yJ]
 congr 1
 have:=sD gen pos xs k h
 rw[← this]
 simp[List.getD,List.getElem?_eq_getElem (show k<(qh gen pos xs).length by omega)]
theorem zDL {w:World} {S:Nat→Prop} {A:Option Addr} {n cap:Nat} {xs:List Int} (hx:zW .u8 w S A n xs) (hnil:A=none→cap=0) (hc:n≤cap) (l h:Nat) (h1:l≤h) (h2:h≤n) :
 ∃ A' c',(∀ W,(Instr.slice 31 (.slice A n cap) (some (.int .i64 l)) (some (.int .i64 h)) none).run Tryz.prog W=.ok (.slice A' (h-l) c') W)∧zW .u8 w S A' (h-l) ((xs.drop l).take (h-l))∧(A'=none→c'=0)∧h-l≤c':=by
 have hu:Tryz.prog.underlying 31=some (.slice (Tryz.prog.elem 31)):=by kernel_rfl
 have he:Tryz.prog.elem 31=5:=by kernel_rfl
 have hl:=hx.1
 have run:=fun W=>run_slice_lh (P:=Tryz.prog) W 31 A n cap hu .i64 .i64 l h (by omega) (by omega) (by omega)
 have hrun:∀ W,(Instr.slice 31 (.slice A n cap) (some (.int .i64 l)) (some (.int .i64 h)) none).run Tryz.prog W=.ok (sliced A l h cap 1) W:=fun W=>by
  rw[run W,he,Tryz.sizeOf5]
  simp[Result.andThen]
 refine ⟨_,_,hrun,⟨by simp; omega,fun hpos=>?_⟩,fun hA=>?_,by omega⟩
 ·obtain ⟨b,off,rfl,hb,hcell⟩:=hx.2 (by omega)
  refine ⟨b,off+l,by rw[if_neg (by omega)]; simp[add_plain],hb,fun j hj=>?_⟩
  rw[Nat.add_assoc,hcell (l+j) (by omega)]
  simp[List.getD,List.getElem?_take,List.getElem?_drop,hj]
 ·split at hA
  ·have:=hnil hA; omega
  ·have:=hnil (by simpa using hA); omega
theorem Ug {w:World} {S:Nat→Prop} {A:Option Addr} {n cap:Nat} {xs:List Int} (hx:zW .u8 w S A n xs) (hnil:A=none→cap=0) (hc:n≤cap) (l h:Nat) (h1:l≤h) (h2:h≤n) (L H:Int) (hL:L=l) (hH:H=h) (m:Nat) (hm:m=h-l) :
 ∃ A' c',(∀ W,(Instr.slice 31 (.slice A n cap) (some (.int .i64 L)) (some (.int .i64 H)) none).run Tryz.prog W=.ok (.slice A' m c') W)∧zW .u8 w S A' m ((xs.drop l).take m)∧(A'=none→c'=0)∧m≤c':=by
 subst hL hH hm
 exact zDL hx hnil hc l h h1 h2
end
section
theorem Ni (F ys:List Int) (c k:Nat) (hF:F.length=k*64) (hk:k<c):(F++noughts ((c-k)*64)).take (k*64)++ys++(F++noughts ((c-k)*64)).drop (k*64+64)=F++ys++noughts ((c-(k+1))*64):=by
 rw[List.take_left' hF,List.drop_append,List.drop_eq_nil_of_le (by omega),List.nil_append,hF,show k*64+64-k*64=64 by omega]
 unfold noughts
 rw[List.drop_replicate,show (c-k)*64-64=(c-(k+1))*64 by omega]
theorem AJ (gen pos:Int) (A:Option Addr) (n cap:Nat) (xs:List Int) (S:Nat→Prop) (w:World) (hx:zW .u8 w S A n xs) (hS:∀ b,S b→b<w.heap.size) (hnil:A=none→cap=0) (hcap:n≤cap) (hn:n≤16384)
 (hg:1≤gen) (hg2:gen≤18446744073709551615) (hp:0≤pos) (hp2:pos≤4294967295) (h:pos+zD n≤4294967296) :
 Calls Tryz.prog 118 #[.int .u64 gen,.int .u32 pos,.slice A n cap] w fun e w'=>e=.returned (.tuple #[.slice (some ⟨w.heap.size,0,none⟩) (zD n) (zD n),.int .i64 0]) ∧
  qB w' w.heap.size (flat (qh gen pos xs))∧Below w.heap.size w w':=by
 have hc:=Kn n hn
 have hl:=hx.1
 have hsl:=yA gen pos xs
 have Rv:=Ng gen pos xs
 rw[hl] at hsl Rv
 have h':¬ (4294967296:Int)<pos+(zD n:Int):=by omega
 obtain ⟨i0,hi,hz0,hz1,hz2⟩:=info_parts uy
 generalize hk:zD n=c at *
 have HX:=hI hx
 have HL:=hI hl
 have HK:=hI hk
 have HSL:=hI hsl
 have HSN:=hI Rv
 clear hk h hx hl hsl Rv
 go_enter Tryz.func118,Tryz.ntmps118
 go_wp2_with fail
 refine (XL n w (by omega)).mono ?_
 rintro e w' ⟨rfl,rfl⟩
 rw[HK.out]
 go_wp2_with (refine uU _ _ rfl rfl _ _ c rfl rfl rfl rfl (by omega) ?_)
 generalize hw1:w.alloc _=w1
 have HA1:=hI (show qB w1 w.heap.size (noughts (c*64)) by rw[← hw1]; exact z8.new w _ _)
 have HB1:=hI (show Below w.heap.size w w1 by rw[← hw1]; exact (Below.refl _ _).alloc (nR _) _)
 clear hw1
 go_loopw [28] (fun i wr=>∃ k:Nat,k≤c∧i=.int .i64 k∧qB wr w.heap.size (flat ((qh gen pos xs).take k)++noughts ((c-k)*64))∧Below w.heap.size w wr) (fun i _=>c-(intOf i).toNat)
 case atStart=>exact ⟨0,by omega,rfl,by simpa [flat] using HA1.out,HB1.out⟩
 case round =>
  obtain ⟨k,hk,rfl,harr,hbel⟩:=hrel
  by_cases hlt:k<c
  ·have hsn:=HSN.out k hlt
   have hfl:=jl ((ZG gen pos xs).take k)
   rw[List.length_take,HSL.out,Nat.min_eq_left hk] at hfl
   have hpl:=wD (gen) (pos+k) (partOf xs k) (Jr xs k)
   have hto:∃ Bt:Nat,Bt=min (48*k+48) n:=⟨_,rfl⟩
   obtain ⟨Bt,hto⟩:=hto
   have zQM:48*k≤n:=by
    have:=hc.2.2.2
    have h2:48*k≤48*(c-1):=Nat.mul_le_mul_left _ (by omega)
    omega
   obtain ⟨m,hm⟩:∃ m,m=Bt-48*k:=⟨_,rfl⟩
   obtain ⟨A',c',hcut,hrow,hnil',hc'⟩:=Ug (HX.out.below hbel hS) hnil hcap (48*k) Bt (by omega) (by omega) ((k:Int)*48) (Bt:Int) (by omega) rfl m hm
   have hpe:(xs.drop (48*k)).take m=partOf xs k:=by
    unfold partOf
    apply List.ext_getElem
    ·simp
     have:=HL.out
     omega
    ·intro j h1 h2
     simp
   rw[hpe] at hrow
   have hkc:(k:Int)<c:=by omega
   have zQD:(k:Int)≤342:=by omega
   have hpk:pos+(k:Int)≤4294967295:=by omega
   have hml:m≤48:=by omega
   have hset:(flat ((qh gen pos xs).take k)++noughts ((c-k)*64)).take (k*64)++qU gen (pos+k) (partOf xs k)++(flat ((qh gen pos xs).take k)++noughts ((c-k)*64)).drop (k*64+64)=flat ((qh gen pos xs).take (k+1))++noughts ((c-(k+1))*64):=by
    rw[hsn]
    exact Ni _ _ _ _ hfl hlt
   have zQT:=hI hsn
   have gP:=hI hfl
   have Z5:=hI hpl
   have xR:=hI hrow
   have l6:=hI harr
   have yO:=hI hbel
   have HTO:=hI hto
   have iF:=hI hset
   have HM:=hI hm
   clear hsn hfl hpl hrow harr hbel hnil' hc' hpe h' hset hm
   by_cases hmin:48*k+48≤n
   ·have ht2:(Bt:Int)=(k:Int)*48+48:=by have:=HTO.out; omega
    have hm2:(k:Int)*48+48≤n:=by omega
    rw[ht2] at hcut
    clear ht2 hto
    go_wp2_with fail
    refine (iN gen (pos+k) A' m c' (partOf xs k) S wr xR.out (fun b h=>nL (hS b h) yO.out.size) hg hg2 (by omega) hpk hml).mono ?_
    rintro e w2 ⟨rfl,hb⟩
    generalize qU gen (pos+k) (partOf xs k)=ys at *
    obtain ⟨w3,hw3⟩:∃ w3,w3=w2.alloc (.cells (zA ys) 186):=⟨_,rfl⟩
    have hb3:Below w2.heap.size w2 w3:=by rw[hw3]; exact (Below.refl _ _).alloc (nR _) _
    have iy:=hI (show qB w3 w2.heap.size ys by rw[hw3]; exact z8.new w2 _ _)
    have yt:=hI ((l6.out.below hb l6.out.lt).below hb3 (nL l6.out.lt hb.size))
    have HB3:=hI ((yO.out.trans (hb.mono yO.out.size)).trans (hb3.mono (nT yO.out.size hb.size)))
    have HW3:=hI hw3
    have hfit:k*64+64≤(flat ((qh gen pos xs).take k)++noughts ((c-k)*64)).length:=by
     rw[List.length_append,gP.out,zC]
     omega
    have wK:=hI hfit
    clear hb hb3 hw3 hfit
    go_wp2_with (first
     | (refine zG rfl rfl ?_)
     | (refine zU (.tmp 13) (.tmp 49) rfl rfl w2 ys rfl rfl (noughts 64) rfl (zC 64) Z5.out ?_; rw[← HW3.out])
     | (refine zQ (.tmp 13) rfl rfl w2.heap.size 0 rfl ys Z5.out iy.out.range ?_)
     | (refine cO (.tmp 57) (.tmp 56) rfl rfl w.heap.size (k*64) ys rfl rfl 186 _ yt.out Z5.out wK.out ?_; rw[iF.out]))
    go_roundw
    case rel =>
     have hst:=yt.out.setRow (flat ((qh gen pos xs).take (k+1))++noughts ((c-(k+1))*64))
     rw[List.map_append] at hst
     exact ⟨k+1,by omega,by go_num,hst,below_setRow HB3.out (nR _) _⟩
    case measure=>(simp[intOf] <;> omega)
   ·have ht2:Bt=n:=by have:=HTO.out; omega
    have hm2:(n:Int)<(k:Int)*48+48:=by omega
    rw[ht2] at hcut
    clear ht2 hto
    go_wp2_with fail
    refine (iN gen (pos+k) A' m c' (partOf xs k) S wr xR.out (fun b h=>nL (hS b h) yO.out.size) hg hg2 (by omega) hpk hml).mono ?_
    rintro e w2 ⟨rfl,hb⟩
    generalize qU gen (pos+k) (partOf xs k)=ys at *
    obtain ⟨w3,hw3⟩:∃ w3,w3=w2.alloc (.cells (zA ys) 186):=⟨_,rfl⟩
    have hb3:Below w2.heap.size w2 w3:=by rw[hw3]; exact (Below.refl _ _).alloc (nR _) _
    have iy:=hI (show qB w3 w2.heap.size ys by rw[hw3]; exact z8.new w2 _ _)
    have yt:=hI ((l6.out.below hb l6.out.lt).below hb3 (nL l6.out.lt hb.size))
    have HB3:=hI ((yO.out.trans (hb.mono yO.out.size)).trans (hb3.mono (nT yO.out.size hb.size)))
    have HW3:=hI hw3
    have hfit:k*64+64≤(flat ((qh gen pos xs).take k)++noughts ((c-k)*64)).length:=by
     rw[List.length_append,gP.out,zC]
     omega
    have wK:=hI hfit
    clear hb hb3 hw3 hfit
    go_wp2_with (first
     | (refine zG rfl rfl ?_)
     | (refine zU (.tmp 13) (.tmp 49) rfl rfl w2 ys rfl rfl (noughts 64) rfl (zC 64) Z5.out ?_; rw[← HW3.out])
     | (refine zQ (.tmp 13) rfl rfl w2.heap.size 0 rfl ys Z5.out iy.out.range ?_)
     | (refine cO (.tmp 57) (.tmp 56) rfl rfl w.heap.size (k*64) ys rfl rfl 186 _ yt.out Z5.out wK.out ?_; rw[iF.out]))
    go_roundw
    case rel =>
     have hst:=yt.out.setRow (flat ((qh gen pos xs).take (k+1))++noughts ((c-(k+1))*64))
     rw[List.map_append] at hst
     exact ⟨k+1,by omega,by go_num,hst,below_setRow HB3.out (nR _) _⟩
    case measure=>(simp[intOf] <;> omega)
  ·obtain rfl:k=c:=by omega
   have he:flat ((qh gen pos xs).take k)++noughts ((k-k)*64)=flat (qh gen pos xs):=by
    rw[List.take_of_length_le (by have:=HSL.out; omega),Nat.sub_self]
    simp[noughts]
   rw[he] at harr
   have l6:=hI harr
   have yO:=hI hbel
   clear harr hbel he
   go_wp2
   go_ret2
   exact ⟨rfl,l6.out,yO.out⟩
end
end Go.Proofs.YtdkbpchmnhbhcaaGreat
