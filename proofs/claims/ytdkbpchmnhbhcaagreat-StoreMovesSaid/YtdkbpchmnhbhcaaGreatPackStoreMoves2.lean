/- Texts of StoreMoves, packed. -/
import Derived.Test.YtdkbpchmnhbhcaaGreatPackStoreMoves1
import Derived.IntWalk
set_option linter.unusedVariables false
set_option linter.unusedSimpArgs false
set_option maxRecDepth 100000
set_option maxHeartbeats 16000000
namespace Go.Proofs.YtdkbpchmnhbhcaaGreat
open Go.RowKit
section
theorem pack_bytes (g p:Int) (pay:List Int) (hb:Bytes pay):Bytes (packL g p pay):=by
 have key:∀ a b:List Int,Bytes a→Bytes b→Bytes (a++b):=by
  intro a b ha hb j
  by_cases h:j<a.length
  ·have:=ha j; simpa [List.getD,List.getElem?_append_left h] using this
  ·have:=hb (j-a.length); simpa [List.getD,List.getElem?_append_right (Nat.le_of_not_lt h)] using this
 exact key _ _ (key _ _ (key _ _ (key _ _ (key _ _ (beBytes_bytes _ _) (beBytes_bytes _ _)) (beBytes_bytes _ _)) (beBytes_bytes _ _)) hb) (noughts_bytes _)
theorem pack_said (g p:Int) (pay:List Int) (hg:0≤g) (hg2:g≤18446744073709551615) (hp:0≤p) (hp2:p≤4294967295) (hl:pay.length≤48) :
 genOf (packL g p pay)=g∧posOf (packL g p pay)=p∧fillOf (packL g p pay)=pay.length∧meantOf (packL g p pay)=pay:=by
 have e1:(packL g p pay).take 8=beBytes g 8:=by
  unfold packL headL
  simp only[List.append_assoc]
  exact List.take_left' (beBytes_length _ _)
 have e2:((packL g p pay).drop 8).take 4=beBytes p 4:=by
  unfold packL headL
  simp only[List.append_assoc]
  rw[List.drop_left' (beBytes_length _ _)]
  exact List.take_left' (beBytes_length _ _)
 have e3:((packL g p pay).drop 12).take 2=beBytes pay.length 2:=by
  unfold packL headL
  simp only[List.append_assoc]
  rw[← List.append_assoc,List.drop_left' (by simp[beBytes_length])]
  exact List.take_left' (beBytes_length _ _)
 have e4:(packL g p pay).drop 16=pay++noughts (48-pay.length):=by
  unfold packL
  rw[List.append_assoc]
  exact List.drop_left' (headL_length _ _ _)
 have hf:fillOf (packL g p pay)=pay.length:=by
  unfold fillOf
  rw[e3,num_be 2 _ (by omega) (by simp; omega)]
  omega
 refine ⟨?_,?_,hf,?_⟩
 ·unfold genOf
  rw[e1,num_be 8 _ hg (by simp; omega)]
 ·unfold posOf
  rw[e2,num_be 4 _ hp (by simp; omega)]
 ·unfold meantOf
  rw[if_pos (by omega),hf,e4]
  exact List.take_left' rfl
theorem pack_stamped (g p:Int) (pay:List Int) (hg:1≤g) (hg2:g≤18446744073709551615) (hp:0≤p) (hp2:p≤4294967295) (hl:pay.length≤48):stamped (packL g p pay)=true:=by
 obtain ⟨e1,e2,e3,e4⟩:=pack_said g p pay (by omega) hg2 hp hp2 hl
 unfold stamped
 rw[e1,e2,e4,decide_eq_true hg]
 simp
end
section
def cntOf (n:Nat):Nat:=(n-1) / 48+1
theorem cnt_bounds (n:Nat) (h:n≤16384):1≤cntOf n∧cntOf n≤342∧n≤48*cntOf n∧48*(cntOf n-1)≤n:=by unfold cntOf; omega
theorem sectors_any (n:Nat) (w:World) (hn:n≤140737488351232):Calls Tryz.prog 170 #[.int .i64 n] w fun e w'=>e=.returned (.int .i64 (cntOf n))∧w=w':=by
 by_cases h:n=0
 ·subst h
  go_enter Tryz.func170,Tryz.ntmps170
  go_wp2
  go_ret
  exact ⟨rfl,rfl⟩
 ·have h0:¬ (n:Int)<0:=by omega
  have h1:((n:Int)==0)=false:=by simp; omega
  have h2:1≤(n:Int):=by omega
  have h3:(n:Int)≤140737488351232:=by omega
  go_enter Tryz.func170,Tryz.ntmps170
  go_wp2
  go_ret
  exact ⟨ret_int (by unfold cntOf; omega),rfl⟩
def partOf (xs:List Int) (k:Nat):List Int:=(xs.drop (48*k)).take 48
def splitL (gen pos:Int) (xs:List Int):List (List Int):=(List.range (cntOf xs.length)).map fun (k:Nat)=>packL gen (pos+(k:Int)) (partOf xs k)
theorem part_le (xs:List Int) (k:Nat):(partOf xs k).length≤48:=by simp[partOf]; omega
theorem split_length (gen pos:Int) (xs:List Int):(splitL gen pos xs).length=cntOf xs.length:=by simp[splitL]
theorem split_get (gen pos:Int) (xs:List Int) (k:Nat) (h:k<cntOf xs.length):(splitL gen pos xs).getD k []=packL gen (pos+k) (partOf xs k):=by
 simp[splitL,List.getD,List.getElem?_range h]
theorem split_secs (gen pos:Int) (xs:List Int):Secs (splitL gen pos xs):=by
 intro ys hy
 obtain ⟨k,_,rfl⟩:=List.mem_map.1 hy
 exact packL_length _ _ _ (part_le _ _)
theorem split_snoc (gen pos:Int) (xs:List Int) (k:Nat) (h:k<cntOf xs.length):flat ((splitL gen pos xs).take (k+1))=flat ((splitL gen pos xs).take k)++packL gen (pos+k) (partOf xs k):=by
 have hl:=split_length gen pos xs
 rw[List.take_succ_eq_append_getElem (by omega),flat_append,flat_one]
 congr 1
 have:=split_get gen pos xs k h
 rw[← this]
 simp[List.getD,List.getElem?_eq_getElem (show k<(splitL gen pos xs).length by omega)]
theorem cut_row {w:World} {S:Nat→Prop} {A:Option Addr} {n cap:Nat} {xs:List Int} (hx:RowI .u8 w S A n xs) (hnil:A=none→cap=0) (hc:n≤cap) (l h:Nat) (h1:l≤h) (h2:h≤n) :
 ∃ A' c',(∀ W,(Instr.slice 31 (.slice A n cap) (some (.int .i64 l)) (some (.int .i64 h)) none).run Tryz.prog W=.ok (.slice A' (h-l) c') W)∧RowI .u8 w S A' (h-l) ((xs.drop l).take (h-l))∧(A'=none→c'=0)∧h-l≤c':=by
 have hu:Tryz.prog.underlying 31=some (.slice (Tryz.prog.elem 31)):=by kernel_rfl
 have he:Tryz.prog.elem 31=5:=by kernel_rfl
 have hl:=hx.1
 have run:=fun W=>run_slice_lh (P:=Tryz.prog) W 31 A n cap hu .i64 .i64 l h (by omega) (by omega) (by omega)
 have hrun:∀ W,(Instr.slice 31 (.slice A n cap) (some (.int .i64 l)) (some (.int .i64 h)) none).run Tryz.prog W=.ok (sliced A l h cap 1) W:=fun W=>by
  rw[run W,he,Tryz.sizeOf5]
  simp[Result.andThen]
 refine ⟨_,_,hrun,⟨by simp; omega,fun hpos=>?_⟩,fun hA=>?_,by omega⟩
 ·obtain ⟨b,off,rfl,hb,hcell⟩:=hx.2 (by omega)
  refine ⟨b,off+l,by rw[if_neg (by omega)]; simp[add_plain],hb,fun j hj=>?_⟩
  rw[Nat.add_assoc,hcell (l+j) (by omega)]
  simp[List.getD,List.getElem?_take,List.getElem?_drop,hj]
 ·split at hA
  ·have:=hnil hA; omega
  ·have:=hnil (by simpa using hA); omega
theorem cut_rowAt {w:World} {S:Nat→Prop} {A:Option Addr} {n cap:Nat} {xs:List Int} (hx:RowI .u8 w S A n xs) (hnil:A=none→cap=0) (hc:n≤cap) (l h:Nat) (h1:l≤h) (h2:h≤n) (L H:Int) (hL:L=l) (hH:H=h) (m:Nat) (hm:m=h-l) :
 ∃ A' c',(∀ W,(Instr.slice 31 (.slice A n cap) (some (.int .i64 L)) (some (.int .i64 H)) none).run Tryz.prog W=.ok (.slice A' m c') W)∧RowI .u8 w S A' m ((xs.drop l).take m)∧(A'=none→c'=0)∧m≤c':=by
 subst hL hH hm
 exact cut_row hx hnil hc l h h1 h2
end
section
theorem set_sector (F ys:List Int) (c k:Nat) (hF:F.length=k*64) (hk:k<c):(F++noughts ((c-k)*64)).take (k*64)++ys++(F++noughts ((c-k)*64)).drop (k*64+64)=F++ys++noughts ((c-(k+1))*64):=by
 rw[List.take_left' hF,List.drop_append,List.drop_eq_nil_of_le (by omega),List.nil_append,hF,show k*64+64-k*64=64 by omega]
 unfold noughts
 rw[List.drop_replicate,show (c-k)*64-64=(c-(k+1))*64 by omega]
theorem split_ok (gen pos:Int) (A:Option Addr) (n cap:Nat) (xs:List Int) (S:Nat→Prop) (w:World) (hx:RowI .u8 w S A n xs) (hS:∀ b,S b→b<w.heap.size) (hnil:A=none→cap=0) (hcap:n≤cap) (hn:n≤16384)
 (hg:1≤gen) (hg2:gen≤18446744073709551615) (hp:0≤pos) (hp2:pos≤4294967295) (h:pos+cntOf n≤4294967296) :
 Calls Tryz.prog 118 #[.int .u64 gen,.int .u32 pos,.slice A n cap] w fun e w'=>e=.returned (.tuple #[.slice (some ⟨w.heap.size,0,none⟩) (cntOf n) (cntOf n),.int .i64 0]) ∧
  ArrB w' w.heap.size (flat (splitL gen pos xs))∧Below w.heap.size w w':=by
 have hc:=cnt_bounds n hn
 have hl:=hx.1
 have hsl:=split_length gen pos xs
 have hsnoc:=split_snoc gen pos xs
 rw[hl] at hsl hsnoc
 have h':¬ (4294967296:Int)<pos+(cntOf n:Int):=by omega
 obtain ⟨i0,hi,hz0,hz1,hz2⟩:=info_parts info_blk
 generalize hk:cntOf n=c at *
 have HX:=hI hx
 have HL:=hI hl
 have HK:=hI hk
 have HSL:=hI hsl
 have HSN:=hI hsnoc
 clear hk h hx hl hsl hsnoc
 go_enter Tryz.func118,Tryz.ntmps118
 go_wp2_with fail
 refine (sectors_any n w (by omega)).mono ?_
 rintro e w' ⟨rfl,rfl⟩
 rw[HK.out]
 go_wp2_with (refine wpList_make_secs _ _ rfl rfl _ _ c rfl rfl rfl rfl (by omega) ?_)
 generalize hw1:w.alloc _=w1
 have HA1:=hI (show ArrB w1 w.heap.size (noughts (c*64)) by rw[← hw1]; exact Blk.new w _ _)
 have HB1:=hI (show Below w.heap.size w w1 by rw[← hw1]; exact (Below.refl _ _).alloc (nR _) _)
 clear hw1
 go_loopw [28] (fun i wr=>∃ k:Nat,k≤c∧i=.int .i64 k∧ArrB wr w.heap.size (flat ((splitL gen pos xs).take k)++noughts ((c-k)*64))∧Below w.heap.size w wr) (fun i _=>c-(intOf i).toNat)
 case atStart=>exact ⟨0,by omega,rfl,by simpa [flat] using HA1.out,HB1.out⟩
 case round =>
  obtain ⟨k,hk,rfl,harr,hbel⟩:=hrel
  by_cases hlt:k<c
  ·have hsn:=HSN.out k hlt
   have hfl:=flat_length ((split_secs gen pos xs).take k)
   rw[List.length_take,HSL.out,Nat.min_eq_left hk] at hfl
   have hpl:=packL_length (gen) (pos+k) (partOf xs k) (part_le xs k)
   have hto:∃ tto:Nat,tto=min (48*k+48) n:=⟨_,rfl⟩
   obtain ⟨tto,hto⟩:=hto
   have hk48:48*k≤n:=by
    have:=hc.2.2.2
    have h2:48*k≤48*(c-1):=Nat.mul_le_mul_left _ (by omega)
    omega
   obtain ⟨m,hm⟩:∃ m,m=tto-48*k:=⟨_,rfl⟩
   obtain ⟨A',c',hcut,hrow,hnil',hc'⟩:=cut_rowAt (HX.out.below hbel hS) hnil hcap (48*k) tto (by omega) (by omega) ((k:Int)*48) (tto:Int) (by omega) rfl m hm
   have hpe:(xs.drop (48*k)).take m=partOf xs k:=by
    unfold partOf
    apply List.ext_getElem
    ·simp
     have:=HL.out
     omega
    ·intro j h1 h2
     simp
   rw[hpe] at hrow
   have hkc:(k:Int)<c:=by omega
   have hk342:(k:Int)≤342:=by omega
   have hpk:pos+(k:Int)≤4294967295:=by omega
   have hml:m≤48:=by omega
   have hset:(flat ((splitL gen pos xs).take k)++noughts ((c-k)*64)).take (k*64)++packL gen (pos+k) (partOf xs k)++(flat ((splitL gen pos xs).take k)++noughts ((c-k)*64)).drop (k*64+64)=flat ((splitL gen pos xs).take (k+1))++noughts ((c-(k+1))*64):=by
    rw[hsn]
    exact set_sector _ _ _ _ hfl hlt
   have HSNK:=hI hsn
   have HFL:=hI hfl
   have HPL:=hI hpl
   have HROW:=hI hrow
   have HARR:=hI harr
   have HBEL:=hI hbel
   have HTO:=hI hto
   have HSET:=hI hset
   have HM:=hI hm
   clear hsn hfl hpl hrow harr hbel hnil' hc' hpe h' hset hm
   by_cases hmin:48*k+48≤n
   ·have ht2:(tto:Int)=(k:Int)*48+48:=by have:=HTO.out; omega
    have hm2:(k:Int)*48+48≤n:=by omega
    rw[ht2] at hcut
    clear ht2 hto
    go_wp2_with fail
    refine (pack_ok gen (pos+k) A' m c' (partOf xs k) S wr HROW.out (fun b h=>nL (hS b h) HBEL.out.size) hg hg2 (by omega) hpk hml).mono ?_
    rintro e w2 ⟨rfl,hb⟩
    generalize packL gen (pos+k) (partOf xs k)=ys at *
    obtain ⟨w3,hw3⟩:∃ w3,w3=w2.alloc (.cells (cells8 ys) 186):=⟨_,rfl⟩
    have hb3:Below w2.heap.size w2 w3:=by rw[hw3]; exact (Below.refl _ _).alloc (nR _) _
    have HY3:=hI (show ArrB w3 w2.heap.size ys by rw[hw3]; exact Blk.new w2 _ _)
    have HA3:=hI ((HARR.out.below hb HARR.out.lt).below hb3 (nL HARR.out.lt hb.size))
    have HB3:=hI ((HBEL.out.trans (hb.mono HBEL.out.size)).trans (hb3.mono (nT HBEL.out.size hb.size)))
    have HW3:=hI hw3
    have hfit:k*64+64≤(flat ((splitL gen pos xs).take k)++noughts ((c-k)*64)).length:=by
     rw[List.length_append,HFL.out,noughts_length]
     omega
    have HFIT:=hI hfit
    clear hb hb3 hw3 hfit
    go_wp2_with (first
     | (refine wpList_alloc_blk rfl rfl ?_)
     | (refine wpList_store_new (.tmp 13) (.tmp 49) rfl rfl w2 ys rfl rfl (noughts 64) rfl (noughts_length 64) HPL.out ?_; rw[← HW3.out])
     | (refine wpList_load_blk (.tmp 13) rfl rfl w2.heap.size 0 rfl ys HPL.out HY3.out.range ?_)
     | (refine wpList_store_sec (.tmp 57) (.tmp 56) rfl rfl w.heap.size (k*64) ys rfl rfl 186 _ HA3.out HPL.out HFIT.out ?_; rw[HSET.out]))
    go_roundw
    case rel =>
     have hst:=HA3.out.setRow (flat ((splitL gen pos xs).take (k+1))++noughts ((c-(k+1))*64))
     rw[List.map_append] at hst
     exact ⟨k+1,by omega,by go_num,hst,below_setRow HB3.out (nR _) _⟩
    case measure=>(simp[intOf] <;> omega)
   ·have ht2:tto=n:=by have:=HTO.out; omega
    have hm2:(n:Int)<(k:Int)*48+48:=by omega
    rw[ht2] at hcut
    clear ht2 hto
    go_wp2_with fail
    refine (pack_ok gen (pos+k) A' m c' (partOf xs k) S wr HROW.out (fun b h=>nL (hS b h) HBEL.out.size) hg hg2 (by omega) hpk hml).mono ?_
    rintro e w2 ⟨rfl,hb⟩
    generalize packL gen (pos+k) (partOf xs k)=ys at *
    obtain ⟨w3,hw3⟩:∃ w3,w3=w2.alloc (.cells (cells8 ys) 186):=⟨_,rfl⟩
    have hb3:Below w2.heap.size w2 w3:=by rw[hw3]; exact (Below.refl _ _).alloc (nR _) _
    have HY3:=hI (show ArrB w3 w2.heap.size ys by rw[hw3]; exact Blk.new w2 _ _)
    have HA3:=hI ((HARR.out.below hb HARR.out.lt).below hb3 (nL HARR.out.lt hb.size))
    have HB3:=hI ((HBEL.out.trans (hb.mono HBEL.out.size)).trans (hb3.mono (nT HBEL.out.size hb.size)))
    have HW3:=hI hw3
    have hfit:k*64+64≤(flat ((splitL gen pos xs).take k)++noughts ((c-k)*64)).length:=by
     rw[List.length_append,HFL.out,noughts_length]
     omega
    have HFIT:=hI hfit
    clear hb hb3 hw3 hfit
    go_wp2_with (first
     | (refine wpList_alloc_blk rfl rfl ?_)
     | (refine wpList_store_new (.tmp 13) (.tmp 49) rfl rfl w2 ys rfl rfl (noughts 64) rfl (noughts_length 64) HPL.out ?_; rw[← HW3.out])
     | (refine wpList_load_blk (.tmp 13) rfl rfl w2.heap.size 0 rfl ys HPL.out HY3.out.range ?_)
     | (refine wpList_store_sec (.tmp 57) (.tmp 56) rfl rfl w.heap.size (k*64) ys rfl rfl 186 _ HA3.out HPL.out HFIT.out ?_; rw[HSET.out]))
    go_roundw
    case rel =>
     have hst:=HA3.out.setRow (flat ((splitL gen pos xs).take (k+1))++noughts ((c-(k+1))*64))
     rw[List.map_append] at hst
     exact ⟨k+1,by omega,by go_num,hst,below_setRow HB3.out (nR _) _⟩
    case measure=>(simp[intOf] <;> omega)
  ·obtain rfl:k=c:=by omega
   have he:flat ((splitL gen pos xs).take k)++noughts ((k-k)*64)=flat (splitL gen pos xs):=by
    rw[List.take_of_length_le (by have:=HSL.out; omega),Nat.sub_self]
    simp[noughts]
   rw[he] at harr
   have HARR:=hI harr
   have HBEL:=hI hbel
   clear harr hbel he
   go_wp2
   go_ret2
   exact ⟨rfl,HARR.out,HBEL.out⟩
end
end Go.Proofs.YtdkbpchmnhbhcaaGreat
