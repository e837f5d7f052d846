/- Texts of StoreMoves, packed. -/
import Derived.Test.YtdkbpchmnhbhcaaGreatPackStoreMoves6
import Derived.Deep.RegionHeld3
import Derived.Laws.Cover3
set_option linter.unusedVariables false
set_option linter.unusedSimpArgs false
set_option maxRecDepth 100000
set_option maxHeartbeats 16000000
namespace Go.Proofs.YtdkbpchmnhbhcaaGreat
open Go.RowKit
section
def OwnZ (w:World) (base:Nat) (A:Option Addr) (n cap:Nat) (xs:List Seg):Prop :=
 xs.length=n∧w.ownsRow base 126 3 (.slice A n cap) n (flatG xs)∧(A=none→cap=0)∧n≤cap
theorem OwnZ.row {w:World} {base:Nat} {A:Option Addr} {n cap:Nat} {xs:List Seg} (h:OwnZ w base A n cap xs):RowZ w (From base w) A n xs:=by
 obtain ⟨A',cap',e,_,_,hr⟩:=rowZ_own h.2.1 rfl h.1
 injection e with e1 _ e2
 subst e1 e2
 exact hr
theorem OwnZ.below {w W:World} {base:Nat} {A:Option Addr} {n cap:Nat} {xs:List Seg} (h:OwnZ w base A n cap xs) (hb:Below w.heap.size w W):OwnZ W base A n cap xs:=⟨h.1,own_below h.2.1 hb,h.2.2⟩
theorem OwnZ.base {w:World} {base m:Nat} {A:Option Addr} {n cap:Nat} {xs:List Seg} (h:OwnZ w base A n cap xs) (hm:m≤base):OwnZ w m A n cap xs:=⟨h.1,own_base h.2.1 hm,h.2.2⟩
theorem ArrS.own {w:World} {g base n:Nat} {xs:List Seg} (h:ArrS w g xs) (hb:base≤g) (hn:xs.length=n) (hc:n≤1000000):OwnZ w base (some ⟨g,0,none⟩) n n xs :=
 ⟨hn,⟨by rw[flatG_length,hn],.inr ⟨g,n,(flatG xs).toArray,rfl,hb,h,nR _,by unfold maxLen; omega,by simp[flatG_length,hn],by rw[← hn,← flatG_length]; simp⟩⟩,(fun h=>by cases h),nR _⟩
theorem ArrS.cells {w:World} {g i:Nat} {xs:List Seg} {a b c:Int} (h:ArrS w g xs) (hi:i<xs.length) (hx:xs.getD i seg0=(a,b,c)) :
 w.cell? ⟨g,i*3,none⟩=some (.int .i64 a)∧w.cell? ⟨g,i*3+1,none⟩=some (.int .u64 b)∧w.cell? ⟨g,i*3+2,none⟩=some (.int .i64 c):=by
 have key:∀ j v,j<3→(segC (a,b,c))[j]? = some v→w.cell? ⟨g,i*3+j,none⟩=some v:=fun j v hj hv=>by
  rw[Blk.cell h,List.getElem?_toArray,flatG_get xs _ (by omega),show (i*3+j) / 3=i by omega,show (i*3+j) % 3=j by omega,hx]
  exact hv
 exact ⟨key 0 _ (by omega) rfl,key 1 _ (by omega) rfl,key 2 _ (by omega) rfl⟩
theorem clo_open (s:Seg) (g:Int) (G:Nat) (w:World) (hG:w.cell? ⟨G,0,none⟩=some (.int .u64 g)) (hlt:G<w.heap.size) :
 Calls Tryz.prog 201 #[.agg (segC s).toArray,.pointer (some ⟨G,0,none⟩)] w fun e w'=>e=.returned (.agg (segC (1,g,1)).toArray)∧Below w.heap.size w w':=by
 obtain ⟨a,b,c⟩:=s
 go_enter Tryz.func201,Tryz.ntmps201
 go_wp2
 exact Halt.ret (results_row1 rfl _ _ (w.heap.size+1) 126 (segC (1,g,1)).toArray _ rfl (blk_new2 w _ _ _) Tryz.underlying126 rfl size_seg) rfl ⟨rfl,((Below.refl _ w).alloc (nR _) _).alloc (by simp) _⟩
theorem clo_use (s:Seg) (n:Int) (G:Nat) (w:World) (hG:w.cell? ⟨G,0,none⟩=some (.int .i64 n)) (hlt:G<w.heap.size) :
 Calls Tryz.prog 173 #[.agg (segC s).toArray,.pointer (some ⟨G,0,none⟩)] w fun e w'=>e=.returned (.agg (segC (s.1,s.2.1,wrap64 (s.2.2+n))).toArray)∧Below w.heap.size w w':=by
 obtain ⟨a,b,c⟩:=s
 go_enter Tryz.func173,Tryz.ntmps173
 go_wp2
 exact Halt.ret (results_row1 rfl _ _ (w.heap.size+1) 126 (segC (a,b,wrap64 (c+n))).toArray _ rfl (blk_new2 w _ _ _) Tryz.underlying126 rfl size_seg) rfl ⟨rfl,((Below.refl _ w).alloc (nR _) _).alloc (by simp) _⟩
theorem clo_seal (s:Seg) (w:World) :
 Calls Tryz.prog 200 #[.agg (segC s).toArray] w fun e w'=>e=.returned (.agg (segC (2,s.2.1,s.2.2)).toArray)∧Below w.heap.size w w':=by
 obtain ⟨a,b,c⟩:=s
 go_enter Tryz.func200,Tryz.ntmps200
 go_wp2
 exact Halt.ret (results_row1 rfl _ _ (w.heap.size+1) 126 (segC (2,b,c)).toArray _ rfl (blk_new2 w _ _ _) Tryz.underlying126 rfl size_seg) rfl ⟨rfl,((Below.refl _ w).alloc (nR _) _).alloc (by simp) _⟩
theorem turned_seal {w:World} {A:Option Addr} {n cap:Nat} {xs:List Seg} (h:RowZ w (·<w.heap.size) A n xs) (sec:Int) (hn:n≤1000) (i:Nat) (hi:i<n) :
 Calls Tryz.prog 133 #[ringV sec A n cap,.int .i64 i,.func (.func 200) #[] #[]] w fun e w'=>(∃ A' cap',e=.returned (ringV sec A' n cap')∧OwnZ w' w.heap.size A' n cap' (xs.set i (2,genG xs i,usedG xs i)))∧Below w.heap.size w w':=by
 have hn6:n≤1000000:=by omega
 have h0n:0<n:=by omega
 have HB:=hI ((((Below.refl w.heap.size w).alloc (nR _) (.cells #[.int .i64 sec,.slice A n cap] 95)).alloc (by simp) (.cells #[.int .i64 0,.slice none 0 0] 95)).alloc (by simp; omega) (.cells (flatG (List.replicate n seg0)).toArray 126))
 have HX:=hI (row_now h HB.out)
 have HK0:=hI (((Blk.new w 95 #[.int .i64 sec,.slice A n cap]).alloc (.cells #[.int .i64 0,.slice none 0 0] 95)).alloc (.cells (flatG (List.replicate n seg0)).toArray 126))
 have HK1:=hI ((blk_new2 w (.cells #[.int .i64 sec,.slice A n cap] 95) 95 #[.int .i64 0,.slice none 0 0]).alloc (.cells (flatG (List.replicate n seg0)).toArray 126))
 have HG:=hI (show ArrS _ (w.heap.size+1+1) (List.replicate n seg0) from blk_new3 w (.cells #[.int .i64 sec,.slice A n cap] 95) (.cells #[.int .i64 0,.slice none 0 0] 95) 126 (flatG (List.replicate n seg0)).toArray)
 have hl:=h.1
 have HL:=hI hl
 have hlx:i<xs.length:=by omega
 have HLX:=hI hlx
 obtain ⟨q0,q1⟩:=ring_cells HK0.out
 clear h hl hlx
 obtain ⟨st,g,u,hx⟩:∃ st g u,xs.getD i seg0=(st,g,u):=⟨_,_,_,rfl⟩
 rw[show ((2,genG xs i,usedG xs i):Seg)=(2,g,u) by simp only[stG,genG,usedG,hx]]
 have HXI:=hI hx
 clear hx
 go_enter Tryz.func133,Tryz.ntmps133
 go_wp2_with (first
  | (refine wpList_make_segs _ _ rfl rfl _ _ n n rfl rfl rfl rfl (nR _) hn6 ?_)
  | (refine wpList_copy_segs (.tmp 12) (.tmp 14) rfl rfl (w.heap.size + 1 + 1) n n cap A rfl rfl _ xs (List.replicate n seg0) HX.out HG.out (by simp) h0n ?_
     have HG1:=hI (HG.out.setRow xs)
     have n1:w.heap.size≠w.heap.size+1+1:=by omega
     have n2:w.heap.size+1≠w.heap.size+1+1:=by omega
     have HB1:=hI (below_setRow HB.out (g:=w.heap.size+1+1) (by omega) (flatG xs).toArray)
     have HK2:=hI (HK0.out.kept ((Kept.refl (fun b=>b≠w.heap.size+1+1) _).setRow (g:=w.heap.size+1+1) (fun h=>h rfl) (flatG xs).toArray) n1)
     have HK3:=hI (HK1.out.kept ((Kept.refl (fun b=>b≠w.heap.size+1+1) _).setRow (g:=w.heap.size+1+1) (fun h=>h rfl) (flatG xs).toArray) n2)
     obtain ⟨c0,c1,c2⟩:=ArrS.cells HG1.out HLX.out HXI.out
     clear n1 n2)
  | (go_at_call 200; refine (clo_seal (st, g, u) _).mono ?_; rintro e w4 ⟨rfl, hb4⟩
     have HB4:=hI (HB1.out.trans (hb4.mono HB1.out.size))
     have HG4:=hI (HG1.out.below hb4 HG1.out.lt)
     have HK5:=hI (HK2.out.below hb4 HK2.out.lt)
     have HK6:=hI (HK3.out.below hb4 HK3.out.lt)
     clear hb4)
  | (refine wpList_store_seg (.tmp 24) (.tmp 23) rfl rfl (w.heap.size + 1 + 1) i (2, g, u) rfl rfl xs HG4.out HLX.out ?_
     have HG5:=hI (HG4.out.setRow (xs.set i (2,g,u)))
     have n1:w.heap.size≠w.heap.size+1+1:=by omega
     have n2:w.heap.size+1≠w.heap.size+1+1:=by omega
     have HB5:=hI (below_setRow HB4.out (g:=w.heap.size+1+1) (by omega) (flatG (xs.set i (2,g,u))).toArray)
     have HK7:=hI (HK5.out.kept ((Kept.refl (fun b=>b≠w.heap.size+1+1) _).setRow (g:=w.heap.size+1+1) (fun h=>h rfl) (flatG (xs.set i (2,g,u))).toArray) n1)
     have HK8:=hI (HK6.out.kept ((Kept.refl (fun b=>b≠w.heap.size+1+1) _).setRow (g:=w.heap.size+1+1) (fun h=>h rfl) (flatG (xs.set i (2,g,u))).toArray) n2)
     obtain ⟨q0,q1⟩:=ring_cells HK7.out
     obtain ⟨p0,p1⟩:=ring_cells HK8.out
     obtain ⟨f0,f1⟩:=And.intro (HK7.out.frozen 0) (HK7.out.frozen 1)
     obtain ⟨g0,g1⟩:=And.intro (HK8.out.frozen 0) (HK8.out.frozen 1)
     clear n1 n2)
  | (with_reducible refine halt_end ?_))
 have n1:w.heap.size+1≠w.heap.size:=by omega
 have n2:w.heap.size+1+1≠w.heap.size:=by omega
 have n3:w.heap.size+1+1≠w.heap.size+1:=by omega
 have hst:=((HK8.out.far (p:=⟨w.heap.size,1,none⟩) n1 (.slice (some ⟨w.heap.size+1+1,0,none⟩) n n)).set_ 0 (.int .i64 sec)).set_ 1 (.slice (some ⟨w.heap.size+1+1,0,none⟩) n n)
 have harr:ArrS _ (w.heap.size+1+1) (xs.set i (2,g,u)):=((Blk.far HG5.out (p:=⟨w.heap.size,1,none⟩) n2 (.slice (some ⟨w.heap.size+1+1,0,none⟩) n n)).far (p:=⟨w.heap.size+1,0,none⟩) n3 (.int .i64 sec)).far (p:=⟨w.heap.size+1,1,none⟩) n3 (.slice (some ⟨w.heap.size+1+1,0,none⟩) n n)
 have hbel:=((HB5.out.setCell (p:=⟨w.heap.size,1,none⟩) (nR _) (.slice (some ⟨w.heap.size+1+1,0,none⟩) n n)).setCell (p:=⟨w.heap.size+1,0,none⟩) (by simp) (.int .i64 sec)).setCell (p:=⟨w.heap.size+1,1,none⟩) (by simp) (.slice (some ⟨w.heap.size+1+1,0,none⟩) n n)
 exact Halt.ret (results_row1 rfl _ _ (w.heap.size+1) 95 #[.int .i64 sec,.slice (some ⟨w.heap.size+1+1,0,none⟩) n n] _ rfl hst Tryz.underlying95 rfl size_ring) rfl ⟨⟨_,_,rfl,harr.own (by omega) (by rw[List.length_set,HL.out]) hn6⟩,hbel⟩
theorem turned_open {w:World} {A:Option Addr} {n cap:Nat} {xs:List Seg} (h:RowZ w (·<w.heap.size) A n xs) (sec:Int) (hn:n≤1000) (i:Nat) (hi:i<n) (v:Int) (G:Nat) (hG:G<w.heap.size) (hc:w.cell? ⟨G,0,none⟩=some (.int .u64 v)) :
 Calls Tryz.prog 133 #[ringV sec A n cap,.int .i64 i,.func (.func 201) #[] #[.pointer (some ⟨G,0,none⟩)]] w fun e w'=>(∃ A' cap',e=.returned (ringV sec A' n cap')∧OwnZ w' w.heap.size A' n cap' (xs.set i (1,v,1)))∧Below w.heap.size w w':=by
 have hn6:n≤1000000:=by omega
 have h0n:0<n:=by omega
 have HB:=hI ((((Below.refl w.heap.size w).alloc (nR _) (.cells #[.int .i64 sec,.slice A n cap] 95)).alloc (by simp) (.cells #[.int .i64 0,.slice none 0 0] 95)).alloc (by simp; omega) (.cells (flatG (List.replicate n seg0)).toArray 126))
 have HX:=hI (row_now h HB.out)
 have HK0:=hI (((Blk.new w 95 #[.int .i64 sec,.slice A n cap]).alloc (.cells #[.int .i64 0,.slice none 0 0] 95)).alloc (.cells (flatG (List.replicate n seg0)).toArray 126))
 have HK1:=hI ((blk_new2 w (.cells #[.int .i64 sec,.slice A n cap] 95) 95 #[.int .i64 0,.slice none 0 0]).alloc (.cells (flatG (List.replicate n seg0)).toArray 126))
 have HG:=hI (show ArrS _ (w.heap.size+1+1) (List.replicate n seg0) from blk_new3 w (.cells #[.int .i64 sec,.slice A n cap] 95) (.cells #[.int .i64 0,.slice none 0 0] 95) 126 (flatG (List.replicate n seg0)).toArray)
 have hl:=h.1
 have HCV:=hI hc
 clear hc
 have HL:=hI hl
 have hlx:i<xs.length:=by omega
 have HLX:=hI hlx
 obtain ⟨q0,q1⟩:=ring_cells HK0.out
 clear h hl hlx
 obtain ⟨st,g,u,hx⟩:∃ st g u,xs.getD i seg0=(st,g,u):=⟨_,_,_,rfl⟩
 have HXI:=hI hx
 clear hx
 go_enter Tryz.func133,Tryz.ntmps133
 go_wp2_with (first
  | (refine wpList_make_segs _ _ rfl rfl _ _ n n rfl rfl rfl rfl (nR _) hn6 ?_)
  | (refine wpList_copy_segs (.tmp 12) (.tmp 14) rfl rfl (w.heap.size + 1 + 1) n n cap A rfl rfl _ xs (List.replicate n seg0) HX.out HG.out (by simp) h0n ?_
     have HG1:=hI (HG.out.setRow xs)
     have n1:w.heap.size≠w.heap.size+1+1:=by omega
     have n2:w.heap.size+1≠w.heap.size+1+1:=by omega
     have HB1:=hI (below_setRow HB.out (g:=w.heap.size+1+1) (by omega) (flatG xs).toArray)
     have HK2:=hI (HK0.out.kept ((Kept.refl (fun b=>b≠w.heap.size+1+1) _).setRow (g:=w.heap.size+1+1) (fun h=>h rfl) (flatG xs).toArray) n1)
     have HK3:=hI (HK1.out.kept ((Kept.refl (fun b=>b≠w.heap.size+1+1) _).setRow (g:=w.heap.size+1+1) (fun h=>h rfl) (flatG xs).toArray) n2)
     obtain ⟨c0,c1,c2⟩:=ArrS.cells HG1.out HLX.out HXI.out
     clear n1 n2)
  | (go_at_call 201; refine (clo_open (st, g, u) v G _ ((Below.cell HB1.out (p := ⟨G, 0, none⟩) hG).trans HCV.out) (nL hG HB1.out.size)).mono ?_; rintro e w4 ⟨rfl, hb4⟩
     have HB4:=hI (HB1.out.trans (hb4.mono HB1.out.size))
     have HG4:=hI (HG1.out.below hb4 HG1.out.lt)
     have HK5:=hI (HK2.out.below hb4 HK2.out.lt)
     have HK6:=hI (HK3.out.below hb4 HK3.out.lt)
     clear hb4)
  | (refine wpList_store_seg (.tmp 24) (.tmp 23) rfl rfl (w.heap.size + 1 + 1) i (1, v, 1) rfl rfl xs HG4.out HLX.out ?_
     have HG5:=hI (HG4.out.setRow (xs.set i (1,v,1)))
     have n1:w.heap.size≠w.heap.size+1+1:=by omega
     have n2:w.heap.size+1≠w.heap.size+1+1:=by omega
     have HB5:=hI (below_setRow HB4.out (g:=w.heap.size+1+1) (by omega) (flatG (xs.set i (1,v,1))).toArray)
     have HK7:=hI (HK5.out.kept ((Kept.refl (fun b=>b≠w.heap.size+1+1) _).setRow (g:=w.heap.size+1+1) (fun h=>h rfl) (flatG (xs.set i (1,v,1))).toArray) n1)
     have HK8:=hI (HK6.out.kept ((Kept.refl (fun b=>b≠w.heap.size+1+1) _).setRow (g:=w.heap.size+1+1) (fun h=>h rfl) (flatG (xs.set i (1,v,1))).toArray) n2)
     obtain ⟨q0,q1⟩:=ring_cells HK7.out
     obtain ⟨p0,p1⟩:=ring_cells HK8.out
     obtain ⟨f0,f1⟩:=And.intro (HK7.out.frozen 0) (HK7.out.frozen 1)
     obtain ⟨g0,g1⟩:=And.intro (HK8.out.frozen 0) (HK8.out.frozen 1)
     clear n1 n2)
  | (with_reducible refine halt_end ?_))
 have n1:w.heap.size+1≠w.heap.size:=by omega
 have n2:w.heap.size+1+1≠w.heap.size:=by omega
 have n3:w.heap.size+1+1≠w.heap.size+1:=by omega
 have hst:=((HK8.out.far (p:=⟨w.heap.size,1,none⟩) n1 (.slice (some ⟨w.heap.size+1+1,0,none⟩) n n)).set_ 0 (.int .i64 sec)).set_ 1 (.slice (some ⟨w.heap.size+1+1,0,none⟩) n n)
 have harr:ArrS _ (w.heap.size+1+1) (xs.set i (1,v,1)):=((Blk.far HG5.out (p:=⟨w.heap.size,1,none⟩) n2 (.slice (some ⟨w.heap.size+1+1,0,none⟩) n n)).far (p:=⟨w.heap.size+1,0,none⟩) n3 (.int .i64 sec)).far (p:=⟨w.heap.size+1,1,none⟩) n3 (.slice (some ⟨w.heap.size+1+1,0,none⟩) n n)
 have hbel:=((HB5.out.setCell (p:=⟨w.heap.size,1,none⟩) (nR _) (.slice (some ⟨w.heap.size+1+1,0,none⟩) n n)).setCell (p:=⟨w.heap.size+1,0,none⟩) (by simp) (.int .i64 sec)).setCell (p:=⟨w.heap.size+1,1,none⟩) (by simp) (.slice (some ⟨w.heap.size+1+1,0,none⟩) n n)
 exact Halt.ret (results_row1 rfl _ _ (w.heap.size+1) 95 #[.int .i64 sec,.slice (some ⟨w.heap.size+1+1,0,none⟩) n n] _ rfl hst Tryz.underlying95 rfl size_ring) rfl ⟨⟨_,_,rfl,harr.own (by omega) (by rw[List.length_set,HL.out]) hn6⟩,hbel⟩
theorem turned_use {w:World} {A:Option Addr} {n cap:Nat} {xs:List Seg} (h:RowZ w (·<w.heap.size) A n xs) (sec:Int) (hn:n≤1000) (i:Nat) (hi:i<n) (v:Int) (G:Nat) (hG:G<w.heap.size) (hc:w.cell? ⟨G,0,none⟩=some (.int .i64 v)) :
 Calls Tryz.prog 133 #[ringV sec A n cap,.int .i64 i,.func (.func 173) #[] #[.pointer (some ⟨G,0,none⟩)]] w fun e w'=>(∃ A' cap',e=.returned (ringV sec A' n cap')∧OwnZ w' w.heap.size A' n cap' (xs.set i (stG xs i,genG xs i,wrap64 (usedG xs i+v))))∧Below w.heap.size w w':=by
 have hn6:n≤1000000:=by omega
 have h0n:0<n:=by omega
 have HB:=hI ((((Below.refl w.heap.size w).alloc (nR _) (.cells #[.int .i64 sec,.slice A n cap] 95)).alloc (by simp) (.cells #[.int .i64 0,.slice none 0 0] 95)).alloc (by simp; omega) (.cells (flatG (List.replicate n seg0)).toArray 126))
 have HX:=hI (row_now h HB.out)
 have HK0:=hI (((Blk.new w 95 #[.int .i64 sec,.slice A n cap]).alloc (.cells #[.int .i64 0,.slice none 0 0] 95)).alloc (.cells (flatG (List.replicate n seg0)).toArray 126))
 have HK1:=hI ((blk_new2 w (.cells #[.int .i64 sec,.slice A n cap] 95) 95 #[.int .i64 0,.slice none 0 0]).alloc (.cells (flatG (List.replicate n seg0)).toArray 126))
 have HG:=hI (show ArrS _ (w.heap.size+1+1) (List.replicate n seg0) from blk_new3 w (.cells #[.int .i64 sec,.slice A n cap] 95) (.cells #[.int .i64 0,.slice none 0 0] 95) 126 (flatG (List.replicate n seg0)).toArray)
 have hl:=h.1
 have HCV:=hI hc
 clear hc
 have HL:=hI hl
 have hlx:i<xs.length:=by omega
 have HLX:=hI hlx
 obtain ⟨q0,q1⟩:=ring_cells HK0.out
 clear h hl hlx
 obtain ⟨st,g,u,hx⟩:∃ st g u,xs.getD i seg0=(st,g,u):=⟨_,_,_,rfl⟩
 rw[show ((stG xs i,genG xs i,wrap64 (usedG xs i+v)):Seg)=(st,g,wrap64 (u+v)) by simp only[stG,genG,usedG,hx]]
 have HXI:=hI hx
 clear hx
 go_enter Tryz.func133,Tryz.ntmps133
 go_wp2_with (first
  | (refine wpList_make_segs _ _ rfl rfl _ _ n n rfl rfl rfl rfl (nR _) hn6 ?_)
  | (refine wpList_copy_segs (.tmp 12) (.tmp 14) rfl rfl (w.heap.size + 1 + 1) n n cap A rfl rfl _ xs (List.replicate n seg0) HX.out HG.out (by simp) h0n ?_
     have HG1:=hI (HG.out.setRow xs)
     have n1:w.heap.size≠w.heap.size+1+1:=by omega
     have n2:w.heap.size+1≠w.heap.size+1+1:=by omega
     have HB1:=hI (below_setRow HB.out (g:=w.heap.size+1+1) (by omega) (flatG xs).toArray)
     have HK2:=hI (HK0.out.kept ((Kept.refl (fun b=>b≠w.heap.size+1+1) _).setRow (g:=w.heap.size+1+1) (fun h=>h rfl) (flatG xs).toArray) n1)
     have HK3:=hI (HK1.out.kept ((Kept.refl (fun b=>b≠w.heap.size+1+1) _).setRow (g:=w.heap.size+1+1) (fun h=>h rfl) (flatG xs).toArray) n2)
     obtain ⟨c0,c1,c2⟩:=ArrS.cells HG1.out HLX.out HXI.out
     clear n1 n2)
  | (go_at_call 173; refine (clo_use (st, g, u) v G _ ((Below.cell HB1.out (p := ⟨G, 0, none⟩) hG).trans HCV.out) (nL hG HB1.out.size)).mono ?_; rintro e w4 ⟨rfl, hb4⟩
     have HB4:=hI (HB1.out.trans (hb4.mono HB1.out.size))
     have HG4:=hI (HG1.out.below hb4 HG1.out.lt)
     have HK5:=hI (HK2.out.below hb4 HK2.out.lt)
     have HK6:=hI (HK3.out.below hb4 HK3.out.lt)
     clear hb4)
  | (refine wpList_store_seg (.tmp 24) (.tmp 23) rfl rfl (w.heap.size + 1 + 1) i (st, g, wrap64 (u + v)) rfl rfl xs HG4.out HLX.out ?_
     have HG5:=hI (HG4.out.setRow (xs.set i (st,g,wrap64 (u+v))))
     have n1:w.heap.size≠w.heap.size+1+1:=by omega
     have n2:w.heap.size+1≠w.heap.size+1+1:=by omega
     have HB5:=hI (below_setRow HB4.out (g:=w.heap.size+1+1) (by omega) (flatG (xs.set i (st,g,wrap64 (u+v)))).toArray)
     have HK7:=hI (HK5.out.kept ((Kept.refl (fun b=>b≠w.heap.size+1+1) _).setRow (g:=w.heap.size+1+1) (fun h=>h rfl) (flatG (xs.set i (st,g,wrap64 (u+v)))).toArray) n1)
     have HK8:=hI (HK6.out.kept ((Kept.refl (fun b=>b≠w.heap.size+1+1) _).setRow (g:=w.heap.size+1+1) (fun h=>h rfl) (flatG (xs.set i (st,g,wrap64 (u+v)))).toArray) n2)
     obtain ⟨q0,q1⟩:=ring_cells HK7.out
     obtain ⟨p0,p1⟩:=ring_cells HK8.out
     obtain ⟨f0,f1⟩:=And.intro (HK7.out.frozen 0) (HK7.out.frozen 1)
     obtain ⟨g0,g1⟩:=And.intro (HK8.out.frozen 0) (HK8.out.frozen 1)
     clear n1 n2)
  | (with_reducible refine halt_end ?_))
 have n1:w.heap.size+1≠w.heap.size:=by omega
 have n2:w.heap.size+1+1≠w.heap.size:=by omega
 have n3:w.heap.size+1+1≠w.heap.size+1:=by omega
 have hst:=((HK8.out.far (p:=⟨w.heap.size,1,none⟩) n1 (.slice (some ⟨w.heap.size+1+1,0,none⟩) n n)).set_ 0 (.int .i64 sec)).set_ 1 (.slice (some ⟨w.heap.size+1+1,0,none⟩) n n)
 have harr:ArrS _ (w.heap.size+1+1) (xs.set i (st,g,wrap64 (u+v))):=((Blk.far HG5.out (p:=⟨w.heap.size,1,none⟩) n2 (.slice (some ⟨w.heap.size+1+1,0,none⟩) n n)).far (p:=⟨w.heap.size+1,0,none⟩) n3 (.int .i64 sec)).far (p:=⟨w.heap.size+1,1,none⟩) n3 (.slice (some ⟨w.heap.size+1+1,0,none⟩) n n)
 have hbel:=((HB5.out.setCell (p:=⟨w.heap.size,1,none⟩) (nR _) (.slice (some ⟨w.heap.size+1+1,0,none⟩) n n)).setCell (p:=⟨w.heap.size+1,0,none⟩) (by simp) (.int .i64 sec)).setCell (p:=⟨w.heap.size+1,1,none⟩) (by simp) (.slice (some ⟨w.heap.size+1+1,0,none⟩) n n)
 exact Halt.ret (results_row1 rfl _ _ (w.heap.size+1) 95 #[.int .i64 sec,.slice (some ⟨w.heap.size+1+1,0,none⟩) n n] _ rfl hst Tryz.underlying95 rfl size_ring) rfl ⟨⟨_,_,rfl,harr.own (by omega) (by rw[List.length_set,HL.out]) hn6⟩,hbel⟩
end
section
noncomputable def nextE (sec:Int) (xs:List Seg):Int:=if ¬ OkR sec xs then 180 else if nxtR xs<0 then 6 else 0
noncomputable def nextV (sec:Int) (xs:List Seg):Int:=if nextE sec xs=0 then nxtR xs else 0
theorem next_any_s8 {w:World} {A:Option Addr} {n cap:Nat} {xs:List Seg} (h:RowZ w (·<w.heap.size) A n xs) (sec:Int) :
 Calls Tryz.prog 116 #[ringV sec A n cap] w fun e w'=>e=.returned (.tuple #[.int .i64 (nextV sec xs),.int .i64 (nextE sec xs)])∧Below w.heap.size w w':=by
 have HX:=hI h
 have HB1:=hI ((Below.refl w.heap.size w).alloc (nR _) (.cells #[.int .i64 sec,.slice A n cap] 95))
 have HC:=hI (check_any (cap:=cap) (row_now h HB1.out) sec)
 clear h
 by_cases hk:OkR sec xs
 case neg =>
  have e1:nextE sec xs=180:=if_pos hk
  have e2:nextV sec xs=0:=by unfold nextV; rw[e1]; rfl
  rw[if_neg hk] at HC
  rw[e1,e2]
  clear e1 e2
  go_enter Tryz.func116,Tryz.ntmps116
  go_wp2
  go_step3
  go_wp2_with (go_at_call 110; refine HC.out.mono ?_; rintro e w1 ⟨rfl,hb1⟩; have HB2:=hI (ring_first hb1); clear hb1)
  try rw[Exit.noGoto_ret]
  go_ret2
  exact ⟨rfl,HB2.out.1⟩
 rw[if_pos hk] at HC
 have hn:=(ok_n hk HX.out.1).2
 have hlat:=ref_latest_sp xs xs.length
 rw[HX.out.1] at hlat
 have e:latTo xs n=latR xs:=by unfold latR; rw[HX.out.1]
 have e2:nxtR xs=nxtTo xs (latR xs) n:=by unfold nxtR; rw[HX.out.1]
 have e3:nextE sec xs=if nxtTo xs (latR xs) n<0 then 6 else 0:=by unfold nextE; rw[if_neg (fun h=>h hk),e2]
 have e4:nextV sec xs=if nxtTo xs (latR xs) n<0 then 0 else nxtTo xs (latR xs) n:=by unfold nextV; rw[e3,e2]; split <;> rfl
 rw[e] at hlat
 obtain ⟨st,g,u,hl⟩:∃ st g u,lastR xs=(st,g,u):=⟨_,_,_,rfl⟩
 have HL:=hI (fun (W:World) (hh:RowZ W (·<W.heap.size) A n xs)=>by have:=latest_ok (cap:=cap) hh hk; rw[hl] at this; exact this)
 have EE:=hI e3
 have EV:=hI e4
 clear e e2 e3 e4 hl hk
 generalize nextE sec xs=ee at *
 generalize nextV sec xs=ve at *
 generalize latR xs=a at *
 have HA:=hI hlat
 clear hlat
 go_enter Tryz.func116,Tryz.ntmps116
 go_wp2
 go_step3
 go_wp2_with (first
  | (go_at_call 110; refine HC.out.mono ?_; rintro e w1 ⟨rfl,hb1⟩; have HB2:=hI (ring_first hb1); obtain ⟨k0,k1⟩:=ring_cells HB2.out.2; clear hb1)
  | (go_at_call 164; refine (HL.out _ (row_now HX.out HB2.out.1)).mono ?_; rintro e w2 ⟨rfl,hb2⟩; have HB3:=hI (HB2.out.1.trans (hb2.mono HB2.out.1.size)); have HK3:=hI (HB2.out.2.below hb2 HB2.out.2.lt); have HKa:=hI (HK3.out.alloc (.cells #[.int .i64 st,.int .u64 g,.int .i64 u] 126)); have HBa:=hI (HB3.out.alloc HB3.out.size (.cells #[.int .i64 st,.int .u64 g,.int .i64 u] 126)); obtain ⟨q0,q1⟩:=ring_cells HKa.out; clear hb2))
 go_step3
 go_wp2
 go_loopw [7,8,24] (fun v8 v9 i wr=>∃ j:Nat,RI w sec A n cap wr j i∧v8=.int .i64 0∧v9=.int .i64 6∧nxtTo xs a j=-1) (fun _ _ i _=>n-(intOf i).toNat)
 case atStart=>exact ⟨0,⟨Nat.zero_le _,rfl,HKa.out,HBa.out⟩,rfl,rfl,rfl⟩
 case round =>
  obtain ⟨j,⟨hj,rfl,hb,hbel⟩,rfl,rfl,ho⟩:=hrel
  have HB:=hI hb
  have HBEL:=hI hbel
  have HO:=hI ho
  obtain ⟨k0,k1⟩:=ring_cells hb
  clear hb hbel ho
  by_cases hlt:j<n
  ·obtain ⟨m,hm⟩:∃ m:Nat,a+1+(j:Int)=m:=⟨(a+1+(j:Int)).toNat,by rcases HA.out with h | ⟨i,_,h⟩ <;> omega⟩
   have hm80:m≤80∧-1≤a∧a≤40:=by rcases HA.out with h | ⟨i,_,h⟩ <;> omega
   have hmod:(wrap64 (wrap64 (a+1)+(j:Int))).tmod n=((m % n:Nat):Int):=by
    have e:wrap64 (wrap64 (a+1)+(j:Int))=(m:Int):=by unfold wrap64; omega
    rw[e]
    exact (Int.ofNat_tmod _ _).symm
   have hlm:m % n<n:=Nat.mod_lt _ (by omega)
   obtain ⟨b,off,rfl,hbb,hcc⟩:=seg_get (HX.out.below HBEL.out (fun b h=>h)) hlm
   obtain ⟨c0,c1,c2⟩:=hcc (m % n) hlm
   have e1:nxtTo xs a (j+1)=if stG xs (m % n)=0 then ((m % n:Nat):Int) else -1:=by
    conv=>(lhs; unfold nxtTo)
    rw[HO.out,if_neg (by omega),hm,Int.toNat_natCast,HX.out.1]
   have E1:=hI e1
   clear hcc e1 c1 c2 hm hm80
   generalize stG xs (m % n)=st at *
   generalize m % n=q at *
   by_cases h0:st=0
   ·subst h0
    go_wp2
    try rw[Exit.noGoto_ret]
    go_ret2
    have h2:=E1.out
    simp only[if_true] at h2
    obtain ⟨d,hd⟩:∃ d,n=(j+1)+d:=⟨n-(j+1),by omega⟩
    have e:nxtTo xs a n=(q:Int):=by rw[hd,nxt_stay xs a (by omega),h2]
    exact ⟨by rw[EE.out,EV.out,e,if_neg (by omega),if_neg (by omega)]; rfl,HBEL.out⟩
   ·have d0:(st==0)=false:=by simpa using h0
    go_wp2
    go_roundw
    case rel=>exact ⟨j+1,⟨by omega,by simp,HB.out,HBEL.out⟩,rfl,rfl,by rw[E1.out,if_neg h0]⟩
    case measure=>simp[intOf]; omega
  ·obtain rfl:j=n:=by omega
   go_wp2
   try rw[Exit.noGoto_ret]
   go_ret2
   exact ⟨by rw[EE.out,EV.out,HO.out,if_pos (by omega),if_pos (by omega)]; rfl,HBEL.out⟩
end
section
theorem OwnZ.far {w:World} {base:Nat} {A:Option Addr} {n cap:Nat} {xs:List Seg} (h:OwnZ w base A n cap xs) {p:Addr} (hp:p.block<base) (v:Value):OwnZ (w.setCell p v) base A n cap xs :=
 ⟨h.1,ownsRow_setCell_other h.2.1 (fun e=>by have:=own_least h.2.1 e; omega) v,h.2.2⟩
def RingO (w:World) (base:Nat) (v:Value) (sec:Int) (xs:List Seg):Prop:=∃ A n cap,v=ringV sec A n cap∧OwnZ w base A n cap xs
theorem RingO.below {w W:World} {base:Nat} {v:Value} {sec:Int} {xs:List Seg} (h:RingO w base v sec xs) (hb:Below w.heap.size w W):RingO W base v sec xs:=by
 obtain ⟨A,n,cap,e,ho⟩:=h
 exact ⟨A,n,cap,e,ho.below hb⟩
theorem RingO.base {w:World} {base m:Nat} {v:Value} {sec:Int} {xs:List Seg} (h:RingO w base v sec xs) (hm:m≤base):RingO w m v sec xs:=by
 obtain ⟨A,n,cap,e,ho⟩:=h
 exact ⟨A,n,cap,e,ho.base hm⟩
def OV (w:World) (sec:Int) (A:Option Addr) (n cap:Nat) (t:TypeId) (x:Value) (W:World):Prop :=
 Below w.heap.size w W∧Blk W w.heap.size 95 #[.int .i64 sec,.slice A n cap]∧Blk W (w.heap.size+1) t #[x]∧Blk W (w.heap.size+1+1) 95 #[.int .i64 0,.slice none 0 0]
section
variable {w:World} {sec:Int} {A:Option Addr} {n cap:Nat} {t:TypeId} {x:Value} {W W':World}
theorem OV.start (w:World) (sec:Int) (A:Option Addr) (n cap:Nat) (t:TypeId) (x:Value):OV w sec A n cap t x (((w.alloc (.cells #[.int .i64 sec,.slice A n cap] 95)).alloc (.cells #[x] t)).alloc (.cells #[.int .i64 0,.slice none 0 0] 95)) :=
 ⟨(((Below.refl _ w).alloc (nR _) _).alloc (by simp) _).alloc (by simp; omega) _,((Blk.new w _ _).alloc _).alloc _,(blk_new2 w _ _ _).alloc _,blk_new3 w _ _ _ _⟩
theorem OV.next (h:OV w sec A n cap t x W) (hb:Below W.heap.size W W'):OV w sec A n cap t x W' :=
 ⟨h.1.trans (hb.mono h.1.size),h.2.1.below hb h.2.1.lt,h.2.2.1.below hb h.2.2.1.lt,h.2.2.2.below hb h.2.2.2.lt⟩
theorem OV.alloc (h:OV w sec A n cap t x W) (o:Obj):OV w sec A n cap t x (W.alloc o):=h.next ((Below.refl _ W).alloc (nR _) o)
theorem OV.cells (h:OV w sec A n cap t x W):W.cell? ⟨w.heap.size,0,none⟩=some (.int .i64 sec)∧W.cell? ⟨w.heap.size,1,none⟩=some (.slice A n cap)∧W.cell? ⟨w.heap.size+1,0,none⟩=some x ∧
 W.cell? ⟨w.heap.size+1+1,0,none⟩=some (.int .i64 0)∧W.cell? ⟨w.heap.size+1+1,1,none⟩=some (.slice none 0 0)∧W.frozen? ⟨w.heap.size+1+1,0,none⟩=false∧W.frozen? ⟨w.heap.size+1+1,1,none⟩=false :=
 ⟨h.2.1.cell 0,h.2.1.cell 1,h.2.2.1.cell 0,h.2.2.2.cell 0,h.2.2.2.cell 1,h.2.2.2.frozen 0,h.2.2.2.frozen 1⟩
theorem OV.res (h:OV w sec A n cap t x W) (s:Int) (B:Option Addr) (m c:Nat):Blk ((W.setCell ⟨w.heap.size+1+1,0,none⟩ (.int .i64 s)).setCell ⟨w.heap.size+1+1,1,none⟩ (.slice B m c)) (w.heap.size+1+1) 95 #[.int .i64 s,.slice B m c] :=
 (h.2.2.2.set_ 0 (.int .i64 s)).set_ 1 (.slice B m c)
theorem OV.below (h:OV w sec A n cap t x W) (u v:Value):Below w.heap.size w ((W.setCell ⟨w.heap.size+1+1,0,none⟩ u).setCell ⟨w.heap.size+1+1,1,none⟩ v) :=
 (h.1.setCell (p:=⟨w.heap.size+1+1,0,none⟩) (by simp; omega) u).setCell (p:=⟨w.heap.size+1+1,1,none⟩) (by simp; omega) v
theorem OV.lt (h:OV w sec A n cap t x W):w.heap.size+1+1<W.heap.size:=h.2.2.2.lt
end
theorem open_bad {sec:Int} {xs:List Seg} {g:Int} (h:¬ OkR sec xs):openE sec xs g=180:=if_pos h
theorem open_state {sec:Int} {xs:List Seg} {g:Int} (h:OkR sec xs) (h1:0≤opnR xs):openE sec xs g=181:=by unfold openE; rw[if_neg (fun k=>k h),if_pos h1]
theorem open_arg {sec:Int} {xs:List Seg} {g:Int} (h:OkR sec xs) (h1:¬ 0≤opnR xs) (h2:g≤topG xs):openE sec xs g=2:=by unfold openE; rw[if_neg (fun k=>k h),if_neg h1,if_pos h2]
theorem open_full {sec:Int} {xs:List Seg} {g:Int} (h:OkR sec xs) (h1:¬ 0≤opnR xs) (h2:¬ g≤topG xs) (h3:nxtR xs<0):openE sec xs g=6:=by unfold openE; rw[if_neg (fun k=>k h),if_neg h1,if_neg h2,if_pos h3]
theorem open_go {sec:Int} {xs:List Seg} {g:Int} (h:OkR sec xs) (h1:¬ 0≤opnR xs) (h2:¬ g≤topG xs) (h3:¬ nxtR xs<0):openE sec xs g=0:=by unfold openE; rw[if_neg (fun k=>k h),if_neg h1,if_neg h2,if_neg h3]
def OpenT (w:World) (sec:Int) (xs:List Seg) (g:Int) (e:Ending) (w':World):Prop :=
 (openE sec xs g=0∧(∃ v,e=.returned (.tuple #[v,.int .i64 (nxtR xs),.int .i64 0])∧RingO w' w.heap.size v sec (openX xs g)) ∨
  openE sec xs g≠0∧e=.returned (.tuple #[ringV 0 none 0 0,.int .i64 0,.int .i64 (openE sec xs g)]))∧Below w.heap.size w w'
theorem OpenT.no {w w':World} {sec:Int} {xs:List Seg} {g E:Int} (hE:openE sec xs g=E) (h0:E≠0) (hb:Below w.heap.size w w'):OpenT w sec xs g (.returned (.tuple #[ringV 0 none 0 0,.int .i64 0,.int .i64 E])) w' :=
 ⟨.inr ⟨by rw[hE]; exact h0,by rw[hE]⟩,hb⟩
theorem open_any {w:World} {A:Option Addr} {n cap:Nat} {xs:List Seg} (h:RowZ w (·<w.heap.size) A n xs) (sec g:Int) :
 Calls Tryz.prog 169 #[ringV sec A n cap,.int .u64 g] w fun e w'=>OpenT w sec xs g e w':=by
 have HX:=hI h
 have HV0:=hI (OV.start w sec A n cap 30 (.int .u64 g))
 have HC:=hI (check_any (cap:=cap) (row_now h HV0.out.1) sec)
 clear h
 by_cases hk:OkR sec xs
 case neg =>
  have HE:=hI (open_bad (g:=g) hk)
  rw[if_neg hk] at HC
  clear hk
  go_enter Tryz.func169,Tryz.ntmps169
  go_wp2_with (first
   | (go_at_call 110; refine HC.out.mono ?_; rintro e w1 ⟨rfl,hb1⟩; have HV1:=hI (HV0.out.next hb1); obtain ⟨q0,q1,q2,q3,q4,f3,f4⟩:=HV1.out.cells; clear hb1)
   | (with_reducible refine halt_end ?_))
  exact Halt.ret (results_row3 (p:=4) (u:=5) (v:=6) rfl _ _ (w.heap.size+1+1) 95 #[.int .i64 0,.slice none 0 0] _ rfl (HV1.out.res 0 none 0 0) Tryz.underlying95 rfl size_ring) rfl (OpenT.no HE.out (by decide) (HV1.out.below _ _))
 rw[if_pos hk] at HC
 have HK:=hI hk
 have HLO:=hI (last_open hk)
 have HLT:=hI (last_top xs)
 clear hk
 obtain ⟨st,lg,u,hl⟩:∃ st lg u,lastR xs=(st,lg,u):=⟨_,_,_,rfl⟩
 rw[hl] at HLO HLT
 have HL:=hI (fun (W:World) (hh:RowZ W (·<W.heap.size) A n xs)=>by have:=latest_ok (cap:=cap) hh HK.out; rw[hl] at this; exact this)
 clear hl
 by_cases h1:st=1
 ·subst h1
  have HE:=hI (open_state (g:=g) HK.out (HLO.out.1 rfl))
  generalize latR xs=a at *
  go_enter Tryz.func169,Tryz.ntmps169
  go_wp2_with (first
   | (go_at_call 110; refine HC.out.mono ?_; rintro e w1 ⟨rfl,hb1⟩; have HV1:=hI (HV0.out.next hb1); obtain ⟨q0,q1,q2,q3,q4,f3,f4⟩:=HV1.out.cells; clear hb1)
   | (go_at_call 164; refine (HL.out _ (row_now HX.out HV1.out.1)).mono ?_; rintro e w2 ⟨rfl,hb2⟩; have HV2:=hI ((HV1.out.next hb2).alloc (.cells #[.int .i64 1,.int .u64 lg,.int .i64 u] 126)); obtain ⟨r0,r1,r2,r3,r4,f5,f6⟩:=HV2.out.cells; clear hb2)
   | (with_reducible refine halt_end ?_))
  exact Halt.ret (results_row3 (p:=4) (u:=5) (v:=6) rfl _ _ (w.heap.size+1+1) 95 #[.int .i64 0,.slice none 0 0] _ rfl (HV2.out.res 0 none 0 0) Tryz.underlying95 rfl size_ring) rfl (OpenT.no HE.out (by decide) (HV2.out.below _ _))
 have d1:(st==1)=false:=by simpa using h1
 have HO:=hI (show ¬ 0≤opnR xs from fun h=>h1 (HLO.out.2 h))
 by_cases h2:g≤lg
 ·have d2:decide (g≤lg)=true:=decide_eq_true h2
  have HE:=hI (open_arg (g:=g) HK.out HO.out (by rw[← HLT.out]; exact h2))
  generalize latR xs=a at *
  go_enter Tryz.func169,Tryz.ntmps169
  go_wp2_with (first
   | (go_at_call 110; refine HC.out.mono ?_; rintro e w1 ⟨rfl,hb1⟩; have HV1:=hI (HV0.out.next hb1); obtain ⟨q0,q1,q2,q3,q4,f3,f4⟩:=HV1.out.cells; clear hb1)
   | (go_at_call 164; refine (HL.out _ (row_now HX.out HV1.out.1)).mono ?_; rintro e w2 ⟨rfl,hb2⟩; have HV2:=hI ((HV1.out.next hb2).alloc (.cells #[.int .i64 st,.int .u64 lg,.int .i64 u] 126)); obtain ⟨r0,r1,r2,r3,r4,f5,f6⟩:=HV2.out.cells; clear hb2)
   | (with_reducible refine halt_end ?_))
  exact Halt.ret (results_row3 (p:=4) (u:=5) (v:=6) rfl _ _ (w.heap.size+1+1) 95 #[.int .i64 0,.slice none 0 0] _ rfl (HV2.out.res 0 none 0 0) Tryz.underlying95 rfl size_ring) rfl (OpenT.no HE.out (by decide) (HV2.out.below _ _))
 have d2:decide (g≤lg)=false:=decide_eq_false h2
 have HG:=hI (show ¬ g≤topG xs by rw[← HLT.out]; exact h2)
 have HN:=hI (fun (W:World) (hh:RowZ W (·<W.heap.size) A n xs)=>next_any_s8 (cap:=cap) hh sec)
 by_cases h3:nxtR xs<0
 ·have HE:=hI (open_full (g:=g) HK.out HO.out HG.out h3)
  have e1:nextE sec xs=6:=by unfold nextE; rw[if_neg (fun k=>k HK.out),if_pos h3]
  have e2:nextV sec xs=0:=by unfold nextV; rw[e1]; rfl
  rw[e1,e2] at HN
  clear e1 e2 h3
  generalize latR xs=a at *
  go_enter Tryz.func169,Tryz.ntmps169
  go_wp2_with (first
   | (go_at_call 110; refine HC.out.mono ?_; rintro e w1 ⟨rfl,hb1⟩; have HV1:=hI (HV0.out.next hb1); obtain ⟨q0,q1,q2,q3,q4,f3,f4⟩:=HV1.out.cells; clear hb1)
   | (go_at_call 164; refine (HL.out _ (row_now HX.out HV1.out.1)).mono ?_; rintro e w2 ⟨rfl,hb2⟩; have HV2:=hI ((HV1.out.next hb2).alloc (.cells #[.int .i64 st,.int .u64 lg,.int .i64 u] 126)); obtain ⟨r0,r1,r2,r3,r4,f5,f6⟩:=HV2.out.cells; clear hb2)
   | (go_at_call 116; refine (HN.out _ (row_now HX.out HV2.out.1)).mono ?_; rintro e w3 ⟨rfl,hb3⟩; have HV3:=hI (HV2.out.next hb3); obtain ⟨s0,s1,s2,s3,s4,f7,f8⟩:=HV3.out.cells; clear hb3)
   | (with_reducible refine halt_end ?_))
  exact Halt.ret (results_row3 (p:=4) (u:=5) (v:=6) rfl _ _ (w.heap.size+1+1) 95 #[.int .i64 0,.slice none 0 0] _ rfl (HV3.out.res 0 none 0 0) Tryz.underlying95 rfl size_ring) rfl (OpenT.no HE.out (by decide) (HV3.out.below _ _))
 ·have HE:=hI (open_go (g:=g) HK.out HO.out HG.out h3)
  have e1:nextE sec xs=0:=by unfold nextE; rw[if_neg (fun k=>k HK.out),if_neg h3]
  have e2:nextV sec xs=nxtR xs:=by unfold nextV; rw[e1]; rfl
  obtain ⟨i,hi,e3⟩:∃ i:Nat,i<n∧nxtR xs=i:=by
   rcases nxt_or xs with ⟨e,_⟩ | ⟨k,hk,e,_⟩
   ·omega
   ·exact ⟨_,by rw[← HX.out.1]; exact Nat.mod_lt _ (by have:=ok_n HK.out HX.out.1; omega),e⟩
  have HXX:=hI (show openX xs g=xs.set i (1,g,1) by unfold openX; rw[e3,Int.toNat_natCast])
  have HI:=hI e3
  rw[e1,e2,e3] at HN
  have HT:=hI (fun (W:World) (hh:RowZ W (·<W.heap.size) A n xs) (hG:w.heap.size+1<W.heap.size) (hc:W.cell? ⟨w.heap.size+1,0,none⟩=some (.int .u64 g))=>turned_open (cap:=cap) hh sec (by have:=(ok_n HK.out HX.out.1).2; omega) i hi g (w.heap.size+1) hG hc)
  clear e1 e2 e3 h3
  generalize latR xs=a at *
  go_enter Tryz.func169,Tryz.ntmps169
  go_wp2_with (first
   | (go_at_call 110; refine HC.out.mono ?_; rintro e w1 ⟨rfl,hb1⟩; have HV1:=hI (HV0.out.next hb1); obtain ⟨q0,q1,q2,q3,q4,f3,f4⟩:=HV1.out.cells; clear hb1)
   | (go_at_call 164; refine (HL.out _ (row_now HX.out HV1.out.1)).mono ?_; rintro e w2 ⟨rfl,hb2⟩; have HV2:=hI ((HV1.out.next hb2).alloc (.cells #[.int .i64 st,.int .u64 lg,.int .i64 u] 126)); obtain ⟨r0,r1,r2,r3,r4,f5,f6⟩:=HV2.out.cells; clear hb2)
   | (go_at_call 116; refine (HN.out _ (row_now HX.out HV2.out.1)).mono ?_; rintro e w3 ⟨rfl,hb3⟩; have HV3:=hI (HV2.out.next hb3); obtain ⟨s0,s1,s2,s3,s4,f7,f8⟩:=HV3.out.cells; clear hb3)
   | (go_at_call 133; refine (HT.out _ (row_now HX.out HV3.out.1) HV3.out.2.2.1.lt s2).mono ?_; rintro e w4 ⟨⟨A',cap',rfl,hown⟩,hb4⟩; have HV4:=hI (HV3.out.next hb4); obtain ⟨t0,t1,t2,t3,t4,f9,f0⟩:=HV4.out.cells; have HOW:=hI hown; clear hb4 hown)
   | (with_reducible refine halt_end ?_))
  have hlt:=HV3.out.lt
  have hown:=((HOW.out.far (p:=⟨w.heap.size+1+1,0,none⟩) hlt (.int .i64 sec)).far (p:=⟨w.heap.size+1+1,1,none⟩) hlt (.slice A' n cap')).base HV3.out.1.size
  rw[← HXX.out] at hown
  refine Halt.ret (results_row3 (p:=4) (u:=5) (v:=6) rfl _ _ (w.heap.size+1+1) 95 #[.int .i64 sec,.slice A' n cap'] _ rfl (HV4.out.res sec A' n cap') Tryz.underlying95 rfl size_ring) rfl ⟨.inl ⟨HE.out,_,?_,⟨A',n,cap',rfl,hown⟩⟩,HV4.out.below _ _⟩
  rw[HI.out]
  rfl
end
section
def TurnT (w:World) (sec:Int) (E:Int) (ys:List Seg) (e:Ending) (w':World):Prop :=
 (E=0∧(∃ v,e=.returned (.tuple #[v,.int .i64 0])∧RingO w' w.heap.size v sec ys) ∨
  E≠0∧e=.returned (.tuple #[ringV 0 none 0 0,.int .i64 E]))∧Below w.heap.size w w'
theorem TurnT.no {w w':World} {sec E:Int} {ys:List Seg} (h0:E≠0) (hb:Below w.heap.size w w'):TurnT w sec E ys (.returned (.tuple #[ringV 0 none 0 0,.int .i64 E])) w':=⟨.inr ⟨h0,rfl⟩,hb⟩
theorem seal_yes {sec:Int} {xs:List Seg} (h:sealE sec xs=0):OkR sec xs∧¬ opnR xs<0:=by
 unfold sealE at h
 by_cases hk:OkR sec xs
 ·rw[if_neg (fun k=>k hk)] at h
  by_cases h1:opnR xs<0
  ·rw[if_pos h1] at h; omega
  ·exact ⟨hk,h1⟩
 ·rw[if_pos hk] at h; omega
theorem use_seal {sec:Int} {xs:List Seg} {n:Int} (h:sealE sec xs≠0):useE sec xs n=sealE sec xs:=by
 unfold useE sealE at *
 by_cases hk:OkR sec xs
 ·by_cases h1:opnR xs<0
  ·simp[hk,h1]
  ·simp[hk,h1] at h
 ·simp[hk]
theorem use_arg {sec:Int} {xs:List Seg} {n:Int} (h:sealE sec xs=0) (h2:n<0):useE sec xs n=2:=by
 obtain ⟨hk,h1⟩:=seal_yes h
 unfold useE; rw[if_neg (fun k=>k hk),if_neg h1,if_pos h2]
theorem use_full {sec:Int} {xs:List Seg} {n:Int} (h:sealE sec xs=0) (h2:¬ n<0) (h3:leftR sec xs<n):useE sec xs n=6:=by
 obtain ⟨hk,h1⟩:=seal_yes h
 unfold useE; rw[if_neg (fun k=>k hk),if_neg h1,if_neg h2,if_pos h3]
theorem use_go {sec:Int} {xs:List Seg} {n:Int} (h:sealE sec xs=0) (h2:¬ n<0) (h3:¬ leftR sec xs<n):useE sec xs n=0:=by
 obtain ⟨hk,h1⟩:=seal_yes h
 unfold useE; rw[if_neg (fun k=>k hk),if_neg h1,if_neg h2,if_neg h3]
theorem opn_nat {sec:Int} {xs:List Seg} (h:OkR sec xs) (h1:¬ opnR xs<0):∃ i:Nat,i<xs.length∧opnR xs=i∧stG xs i=1:=by
 rcases opn_or h with ⟨e,_⟩ | ⟨i,hi,e,_,hs⟩
 ·omega
 ·exact ⟨i,hi,e,hs⟩
theorem used_bound {sec:Int} {xs:List Seg} (h:OkR sec xs) {i:Nat} (hi:i<xs.length):0≤usedG xs i∧usedG xs i≤64∧24≤sec∧sec≤64:=by
 have h1:=h.1
 unfold SizedR at h1
 have h2:=may_at h.2.1 hi
 unfold MayG at h2
 split at h2
 ·simp only[usedG]; omega
 ·simp only[usedG]; omega
theorem use_any {w:World} {A:Option Addr} {n cap:Nat} {xs:List Seg} (h:RowZ w (·<w.heap.size) A n xs) (sec v:Int) :
 Calls Tryz.prog 119 #[ringV sec A n cap,.int .i64 v] w fun e w'=>TurnT w sec (useE sec xs v) (useX xs v) e w':=by
 have HX:=hI h
 have HV0:=hI (OV.start w sec A n cap 3 (.int .i64 v))
 have HC:=hI (working_any (cap:=cap) (row_now h HV0.out.1) sec)
 clear h
 by_cases hs:sealE sec xs=0
 case neg =>
  rw[use_seal hs]
  have d:(sealE sec xs != 0)=true:=by simpa using hs
  have HS:=hI hs
  clear hs
  generalize sealE sec xs=se at *
  generalize openedV sec xs=ov at *
  go_enter Tryz.func119,Tryz.ntmps119
  go_wp2_with (first
   | (go_at_call 172; refine HC.out.mono ?_; rintro e w1 ⟨rfl,hb1⟩; have HV1:=hI (HV0.out.next hb1); obtain ⟨q0,q1,q2,q3,q4,f3,f4⟩:=HV1.out.cells; clear hb1)
   | (with_reducible refine halt_end ?_))
  exact Halt.ret (results_row2 (p:=4) (u:=5) rfl _ _ (w.heap.size+1+1) 95 #[.int .i64 0,.slice none 0 0] _ rfl (HV1.out.res 0 none 0 0) Tryz.underlying95 rfl size_ring) rfl (TurnT.no HS.out (HV1.out.below _ _))
 obtain ⟨hk,ho⟩:=seal_yes hs
 obtain ⟨i,hi,hio,hst⟩:=opn_nat hk ho
 have hov:openedV sec xs=i:=by rw[(opened_yes hk ho).2,hio]
 rw[hs,hov] at HC
 have HK:=hI hk
 have HSE:=hI hs
 have HIO:=hI hio
 have HST:=hI hst
 have hin:i<n:=by rw[← HX.out.1]; exact hi
 have HI:=hI hi
 clear hk ho hio hst hov hs hi
 by_cases h2:v<0
 ·have d2:decide (v<0)=true:=decide_eq_true h2
  rw[use_arg HSE.out h2]
  go_enter Tryz.func119,Tryz.ntmps119
  go_wp2_with (first
   | (go_at_call 172; refine HC.out.mono ?_; rintro e w1 ⟨rfl,hb1⟩; have HV1:=hI (HV0.out.next hb1); obtain ⟨q0,q1,q2,q3,q4,f3,f4⟩:=HV1.out.cells; clear hb1)
   | (with_reducible refine halt_end ?_))
  exact Halt.ret (results_row2 (p:=4) (u:=5) rfl _ _ (w.heap.size+1+1) 95 #[.int .i64 0,.slice none 0 0] _ rfl (HV1.out.res 0 none 0 0) Tryz.underlying95 rfl size_ring) rfl (TurnT.no (by decide) (HV1.out.below _ _))
 have d2:decide (v<0)=false:=decide_eq_false h2
 have HLE:=hI (show leftW sec xs=leftR sec xs from if_pos HK.out)
 have HLF:=hI (fun (W:World) (hh:RowZ W (·<W.heap.size) A n xs)=>left_ring (cap:=cap) hh sec)
 rw[HLE.out] at HLF
 have HG:=hI (fun h3=>use_full (n:=v) HSE.out h2 h3)
 have HGO:=hI (fun h3=>use_go (n:=v) HSE.out h2 h3)
 obtain ⟨lr,hlr⟩:∃ lr,leftR sec xs=lr:=⟨_,rfl⟩
 have HLR:=hI hlr
 rw[hlr] at HLF HG HGO
 clear hlr HLE
 obtain ⟨E,hE⟩:∃ E,useE sec xs v=E:=⟨_,rfl⟩
 obtain ⟨Y,hY⟩:∃ Y,useX xs v=Y:=⟨_,rfl⟩
 rw[hE] at HG HGO
 rw[hE,hY]
 have HY:=hI hY
 clear hE hY
 obtain ⟨bb,hbb⟩:∃ bb,decide (lr<v)=bb:=⟨_,rfl⟩
 go_enter Tryz.func119,Tryz.ntmps119
 go_wp2_with (first
  | (go_at_call 172; refine HC.out.mono ?_; rintro e w1 ⟨rfl,hb1⟩; have HV1:=hI (HV0.out.next hb1); obtain ⟨q0,q1,q2,q3,q4,f3,f4⟩:=HV1.out.cells; clear hb1))
 refine calm_region (fun W=>OV w sec A n cap 3 (.int .i64 v) W) (by kernel_rfl) (by kernel_rfl) (HV1.out.next (Below.refl _ _).drew) ?_
 refine calm_load_cell (.tmp 3) 3 rfl rfl ⟨w.heap.size+1,0,none⟩ rfl (.int .i64 v) (fun W h=>by simp[go_sem,h,Tryz.underlying3]) (fun W h=>h.cells.2.2.1) ?_
 simp only[Act.put,sA,sZ,sS]
 refine calm_load_row (.tmp 2) 95 rfl rfl w.heap.size rfl 95 [.int .i64 sec,.slice A n cap] _ Tryz.underlying95 rfl size_ring (fun W h=>h.2.1) ?_
 simp only[Act.put,sA,sZ,sS]
 refine calm_call 46 #[.tmp 25] #[95] rfl rfl Tryz.func46 rfl rfl (.int .i64 lr) [ringV sec A n cap] rfl (fun W h=>(HLF.out W (row_now HX.out h.1)).mono fun e w' ⟨h1,h2⟩=>⟨h1,h.next h2⟩) ?_
 simp only[Act.put,sA,sZ,sS]
 refine calm_by (.bool bb) rfl (fun W _=>by unfold execOp; simp[go_sem,Tryz.underlying3,hbb]) ?_
 simp only[Act.put,sA,sZ,sS]
 go_big_quiet_step (fail)
 refine wpQuiet_nil ?_
 intro w5 hw5
 have HV5:=hI hw5
 obtain ⟨r0,r1,r2,r3,r4,f5,f6⟩:=HV5.out.cells
 clear hw5 q0 q1 q2 q3 q4 f3 f4
 by_cases h3:lr<v
 ·obtain rfl:bb=true:=by rw[← hbb]; exact decide_eq_true h3
  obtain rfl:=HG.out h3
  go_wp2_with (with_reducible refine halt_end ?_)
  exact Halt.ret (results_row2 (p:=4) (u:=5) rfl _ _ (w.heap.size+1+1) 95 #[.int .i64 0,.slice none 0 0] _ rfl (HV5.out.res 0 none 0 0) Tryz.underlying95 rfl size_ring) rfl (TurnT.no (by decide) (HV5.out.below _ _))
 ·obtain rfl:bb=false:=by rw[← hbb]; exact decide_eq_false h3
  obtain rfl:=HGO.out (by omega)
  have hub:=used_bound HK.out HI.out
  have hul:leftR sec xs=sec-usedG xs i:=by unfold leftR; rw[HIO.out,if_pos (by omega),Int.toNat_natCast]
  have hw:wrap64 (usedG xs i+v)=usedG xs i+v:=by have:=HLR.out; unfold wrap64; omega
  have HXX:=hI (show Y=xs.set i (stG xs i,genG xs i,wrap64 (usedG xs i+v)) by rw[← HY.out]; unfold useX; rw[HIO.out,Int.toNat_natCast,hw])
  have HT:=hI (fun (W:World) (hh:RowZ W (·<W.heap.size) A n xs) (hG:w.heap.size+1<W.heap.size) (hc:W.cell? ⟨w.heap.size+1,0,none⟩=some (.int .i64 v))=>turned_use (cap:=cap) hh sec (by have:=(ok_n HK.out HX.out.1).2; omega) i hin v (w.heap.size+1) hG hc)
  clear hub hul hw
  go_wp2_with (first
   | (go_at_call 133; refine (HT.out _ (row_now HX.out HV5.out.1) HV5.out.2.2.1.lt r2).mono ?_; rintro e w6 ⟨⟨A',cap',rfl,hown⟩,hb6⟩; have HV6:=hI (HV5.out.next hb6); obtain ⟨t0,t1,t2,t3,t4,f9,f0⟩:=HV6.out.cells; have HOW:=hI hown; clear hb6 hown)
   | (with_reducible refine halt_end ?_))
  have hlt:=HV5.out.lt
  have hown:=((HOW.out.far (p:=⟨w.heap.size+1+1,0,none⟩) hlt (.int .i64 sec)).far (p:=⟨w.heap.size+1+1,1,none⟩) hlt (.slice A' n cap')).base HV5.out.1.size
  rw[← HXX.out] at hown
  exact Halt.ret (results_row2 (p:=4) (u:=5) rfl _ _ (w.heap.size+1+1) 95 #[.int .i64 sec,.slice A' n cap'] _ rfl (HV6.out.res sec A' n cap') Tryz.underlying95 rfl size_ring) rfl ⟨.inl ⟨rfl,_,rfl,⟨A',n,cap',rfl,hown⟩⟩,HV6.out.below _ _⟩
end
section
def OW (w:World) (sec:Int) (A:Option Addr) (n cap:Nat) (W:World):Prop :=
 Below w.heap.size w W∧Blk W w.heap.size 95 #[.int .i64 sec,.slice A n cap]∧Blk W (w.heap.size+1) 95 #[.int .i64 0,.slice none 0 0]
section
variable {w:World} {sec:Int} {A:Option Addr} {n cap:Nat} {W W':World}
theorem OW.start (w:World) (sec:Int) (A:Option Addr) (n cap:Nat):OW w sec A n cap ((w.alloc (.cells #[.int .i64 sec,.slice A n cap] 95)).alloc (.cells #[.int .i64 0,.slice none 0 0] 95)) :=
 ⟨((Below.refl _ w).alloc (nR _) _).alloc (by simp) _,(Blk.new w _ _).alloc _,blk_new2 w _ _ _⟩
theorem OW.next (h:OW w sec A n cap W) (hb:Below W.heap.size W W'):OW w sec A n cap W' :=
 ⟨h.1.trans (hb.mono h.1.size),h.2.1.below hb h.2.1.lt,h.2.2.below hb h.2.2.lt⟩
theorem OW.cells (h:OW w sec A n cap W):W.cell? ⟨w.heap.size,0,none⟩=some (.int .i64 sec)∧W.cell? ⟨w.heap.size,1,none⟩=some (.slice A n cap) ∧
 W.cell? ⟨w.heap.size+1,0,none⟩=some (.int .i64 0)∧W.cell? ⟨w.heap.size+1,1,none⟩=some (.slice none 0 0)∧W.frozen? ⟨w.heap.size+1,0,none⟩=false∧W.frozen? ⟨w.heap.size+1,1,none⟩=false :=
 ⟨h.2.1.cell 0,h.2.1.cell 1,h.2.2.cell 0,h.2.2.cell 1,h.2.2.frozen 0,h.2.2.frozen 1⟩
theorem OW.res (h:OW w sec A n cap W) (s:Int) (B:Option Addr) (m c:Nat):Blk ((W.setCell ⟨w.heap.size+1,0,none⟩ (.int .i64 s)).setCell ⟨w.heap.size+1,1,none⟩ (.slice B m c)) (w.heap.size+1) 95 #[.int .i64 s,.slice B m c] :=
 (h.2.2.set_ 0 (.int .i64 s)).set_ 1 (.slice B m c)
theorem OW.below (h:OW w sec A n cap W) (u v:Value):Below w.heap.size w ((W.setCell ⟨w.heap.size+1,0,none⟩ u).setCell ⟨w.heap.size+1,1,none⟩ v) :=
 (h.1.setCell (p:=⟨w.heap.size+1,0,none⟩) (by simp) u).setCell (p:=⟨w.heap.size+1,1,none⟩) (by simp) v
theorem OW.lt (h:OW w sec A n cap W):w.heap.size+1<W.heap.size:=h.2.2.lt
end
theorem seal_any {w:World} {A:Option Addr} {n cap:Nat} {xs:List Seg} (h:RowZ w (·<w.heap.size) A n xs) (sec:Int) :
 Calls Tryz.prog 168 #[ringV sec A n cap] w fun e w'=>TurnT w sec (sealE sec xs) (sealX xs) e w':=by
 have HX:=hI h
 have HV0:=hI (OW.start w sec A n cap)
 have HC:=hI (working_any (cap:=cap) (row_now h HV0.out.1) sec)
 clear h
 by_cases hs:sealE sec xs=0
 case neg =>
  have d:(sealE sec xs != 0)=true:=by simpa using hs
  have HS:=hI hs
  clear hs
  generalize sealE sec xs=se at *
  generalize openedV sec xs=ov at *
  go_enter Tryz.func168,Tryz.ntmps168
  go_wp2_with (first
   | (go_at_call 172; refine HC.out.mono ?_; rintro e w1 ⟨rfl,hb1⟩; have HV1:=hI (HV0.out.next hb1); obtain ⟨q0,q1,q3,q4,f3,f4⟩:=HV1.out.cells; clear hb1)
   | (with_reducible refine halt_end ?_))
  exact Halt.ret (results_row2 (p:=2) (u:=3) rfl _ _ (w.heap.size+1) 95 #[.int .i64 0,.slice none 0 0] _ rfl (HV1.out.res 0 none 0 0) Tryz.underlying95 rfl size_ring) rfl (TurnT.no HS.out (HV1.out.below _ _))
 obtain ⟨hk,ho⟩:=seal_yes hs
 obtain ⟨i,hi,hio,hst⟩:=opn_nat hk ho
 have hov:openedV sec xs=i:=by rw[(opened_yes hk ho).2,hio]
 rw[hs,hov] at HC
 have hin:i<n:=by rw[← HX.out.1]; exact hi
 have HXX:=hI (show sealX xs=xs.set i (2,genG xs i,usedG xs i) by unfold sealX; rw[hio,Int.toNat_natCast])
 have HT:=hI (fun (W:World) (hh:RowZ W (·<W.heap.size) A n xs)=>turned_seal (cap:=cap) hh sec (by have:=(ok_n hk HX.out.1).2; omega) i hin)
 rw[hs]
 clear hk ho hio hst hov hs hi
 go_enter Tryz.func168,Tryz.ntmps168
 go_wp2_with (first
  | (go_at_call 172; refine HC.out.mono ?_; rintro e w1 ⟨rfl,hb1⟩; have HV1:=hI (HV0.out.next hb1); obtain ⟨q0,q1,q3,q4,f3,f4⟩:=HV1.out.cells; clear hb1)
  | (go_at_call 133; refine (HT.out _ (row_now HX.out HV1.out.1)).mono ?_; rintro e w6 ⟨⟨A',cap',rfl,hown⟩,hb6⟩; have HV6:=hI (HV1.out.next hb6); obtain ⟨t0,t1,t3,t4,f9,f0⟩:=HV6.out.cells; have HOW:=hI hown; clear hb6 hown)
  | (with_reducible refine halt_end ?_))
 have hlt:=HV1.out.lt
 have hown:=((HOW.out.far (p:=⟨w.heap.size+1,0,none⟩) hlt (.int .i64 sec)).far (p:=⟨w.heap.size+1,1,none⟩) hlt (.slice A' n cap')).base HV1.out.1.size
 rw[← HXX.out] at hown
 exact Halt.ret (results_row2 (p:=2) (u:=3) rfl _ _ (w.heap.size+1) 95 #[.int .i64 sec,.slice A' n cap'] _ rfl (HV6.out.res sec A' n cap') Tryz.underlying95 rfl size_ring) rfl ⟨.inl ⟨rfl,_,rfl,⟨A',n,cap',rfl,hown⟩⟩,HV6.out.below _ _⟩
end
section
theorem nxt_range (xs:List Seg):nxtR xs<0∨∃ i:Nat,i<xs.length∧nxtR xs=i:=by
 rcases nxt_or xs with ⟨e,_⟩ | ⟨k,hk2,e,_⟩
 ·exact .inl (by omega)
 ·exact .inr ⟨(latR xs+1+(k:Nat)).toNat % xs.length,Nat.mod_lt _ (by omega),e⟩
end
section
theorem getD_set (xs:List Seg) (i j:Nat) (s:Seg) (hi:i<xs.length):(xs.set i s).getD j seg0=if i=j then s else xs.getD j seg0:=by
 by_cases h:i=j
 ·subst h
  simp[List.getD,hi]
 ·simp[List.getD,List.getElem?_set,h]
theorem ok_set {sec:Int} {xs:List Seg} (h:OkR sec xs) {i:Nat} (hi:i<xs.length) {s:Seg} (hm:MayG s sec)
 (ha:s.1≠0→∀ j,j<xs.length→j≠i→stG xs j≠0→genG xs j≠s.2.1∧(s.1=1→genG xs j<s.2.1)∧(stG xs j=1→s.2.1<genG xs j)):OkR sec (xs.set i s):=by
 refine ⟨by rw[List.length_set]; exact h.1,?_,?_⟩
 ·intro x hx
  rcases List.mem_or_eq_of_mem_set hx with h1 | rfl
  ·exact h.2.1 x h1
  ·exact hm
 ·intro a hla b hlb hne ha0 hb0
  rw[List.length_set] at hla hlb
  rw[getD_set xs i a s hi] at ha0 ⊢
  rw[getD_set xs i b s hi] at hb0 ⊢
  by_cases h1:i=a
  ·rw[if_pos h1] at ha0 ⊢
   have h2:¬ i=b:=fun h=>hne (by omega)
   rw[if_neg h2] at hb0 ⊢
   obtain ⟨k1,k2,k3⟩:=ha ha0 b hlb (fun h=>h2 h.symm) hb0
   exact ⟨fun e=>k1 e.symm,k2⟩
  ·rw[if_neg h1] at ha0 ⊢
   by_cases h2:i=b
   ·rw[if_pos h2] at hb0 ⊢
    obtain ⟨k1,k2,k3⟩:=ha hb0 a hla (fun h=>h1 h.symm) ha0
    exact ⟨k1,k3⟩
   ·rw[if_neg h2] at hb0 ⊢
    exact h.2.2 a hla b hlb hne ha0 hb0
theorem ok_new {n:Nat} {sec:Int} (h:SizedR n sec):OkR sec (List.replicate n seg0):=by
 refine ⟨by rw[List.length_replicate]; exact h,fun s hs=>?_,fun i hi j hj _ h0=>?_⟩
 ·rw[List.eq_of_mem_replicate hs]
  exact ⟨rfl,rfl⟩
 ·exfalso
  refine h0 ?_
  simp[List.getD,List.getElem?_replicate]
  split <;> rfl
theorem top_nonneg {sec:Int} {xs:List Seg} (h:OkR sec xs):0≤topG xs:=by
 unfold topG
 rcases lat_or xs with ⟨e,_⟩ | ⟨i,hi,e,hs,_⟩
 ·rw[if_pos (by omega)]; omega
 ·rw[if_neg (by omega),e,Int.toNat_natCast]
  have:=(may_live (may_at h.2.1 hi) hs).2.1
  simp only[genG]
  omega
theorem top_max {xs:List Seg} {j:Nat} (hj:j<xs.length) (hs:stG xs j≠0):genG xs j≤topG xs:=by
 unfold topG
 rcases lat_or xs with ⟨e,hz⟩ | ⟨i,hi,e,_,hm⟩
 ·exact absurd (hz j hj) hs
 ·rw[if_neg (by omega),e,Int.toNat_natCast]
  exact hm j hj hs
theorem open_zero {sec:Int} {xs:List Seg} {g:Int} (h:openE sec xs g=0):OkR sec xs∧¬ 0≤opnR xs∧topG xs<g∧∃ i:Nat,i<xs.length∧nxtR xs=i∧stG xs i=0:=by
 unfold openE at h
 by_cases hk:OkR sec xs
 ·rw [if_neg (fun k => k hk)] at h
  by_cases h1:0≤opnR xs
  ·rw[if_pos h1] at h; omega
  ·rw[if_neg h1] at h
   by_cases h2:g≤topG xs
   ·rw[if_pos h2] at h; omega
   ·rw[if_neg h2] at h
    by_cases h3:nxtR xs<0
    ·rw[if_pos h3] at h; omega
    ·refine ⟨hk,h1,by omega,?_⟩
     rcases nxt_or xs with ⟨e,_⟩ | ⟨k,hk',e,hs,_⟩
     ·omega
     ·exact ⟨_,Nat.mod_lt _ (by omega),e,hs⟩
 ·rw[if_pos hk] at h; omega
theorem no_open {sec:Int} {xs:List Seg} (h:OkR sec xs) (h1:¬ 0≤opnR xs) {j:Nat} (hj:j<xs.length):stG xs j≠1:=by
 rcases opn_or h with ⟨_,hz⟩ | ⟨i,_,e,_⟩
 ·exact hz j hj
 ·omega
theorem ok_open {sec:Int} {xs:List Seg} {g:Int} (h:openE sec xs g=0):OkR sec (openX xs g):=by
 obtain ⟨hk,h1,h2,i,hi,e,hs⟩:=open_zero h
 unfold openX
 rw[e,Int.toNat_natCast]
 have h0:=top_nonneg hk
 have hsz:=hk.1
 unfold SizedR at hsz
 refine ok_set hk hi ?_ ?_
 ·unfold MayG
  rw[if_neg (show ¬ (1:Int)=0 by decide)]
  exact ⟨.inl rfl,by show (0:Int)<g; omega,show (1:Int)≤1 by decide,by show (1:Int)≤sec; omega⟩
 ·intro _ j hj hne hj0
  have:=top_max hj hj0
  refine ⟨by show genG xs j≠g; omega,fun _=>by show genG xs j<g; omega,fun ho=>absurd ho (no_open hk h1 hj)⟩
theorem ok_use {sec:Int} {xs:List Seg} {n:Int} (h:useE sec xs n=0):OkR sec (useX xs n):=by
 have hs:sealE sec xs=0:=by
  by_cases h1:sealE sec xs=0
  ·exact h1
  ·rw[use_seal h1] at h; exact absurd h h1
 obtain ⟨hk,h1⟩:=seal_yes hs
 obtain ⟨i,hi,e,hst⟩:=opn_nat hk h1
 have hn0:¬ n<0:=fun k=>by rw[use_arg hs k] at h; omega
 have hle:¬ leftR sec xs<n:=fun k=>by rw[use_full hs hn0 k] at h; omega
 have hl:leftR sec xs=sec-usedG xs i:=by unfold leftR; rw[e,if_pos (by omega),Int.toNat_natCast]
 have hm:=may_live (may_at hk.2.1 hi) (by rw[show (xs.getD i seg0).1=1 from hst]; decide)
 unfold useX
 rw[e,Int.toNat_natCast]
 refine ok_set hk hi ?_ ?_
 ·unfold MayG
  rw[if_neg (by show ¬ stG xs i=0; rw[hst]; decide)]
  refine ⟨.inl hst,hm.2.1,?_,?_⟩
  ·show (1:Int)≤usedG xs i+n
   simp only[usedG]
   omega
  ·show usedG xs i+n≤sec
   omega
 ·intro _ j hj hne hj0
  have h2:=hk.2.2 i hi j hj (fun h=>hne h.symm) (by rw[show (xs.getD i seg0).1=1 from hst]; decide) hj0
  have h3:=h2.2 hst
  refine ⟨by show genG xs j≠genG xs i; simp only[genG]; omega,fun _=>h3,fun ho=>?_⟩
  have h4:=(hk.2.2 j hj i hi hne hj0 (by rw[show (xs.getD i seg0).1=1 from hst]; decide)).2 ho
  exact h4
theorem ok_seal {sec:Int} {xs:List Seg} (h:sealE sec xs=0):OkR sec (sealX xs):=by
 obtain ⟨hk,h1⟩:=seal_yes h
 obtain ⟨i,hi,e,hst⟩:=opn_nat hk h1
 have hm:=may_live (may_at hk.2.1 hi) (by rw[show (xs.getD i seg0).1=1 from hst]; decide)
 unfold sealX
 rw[e,Int.toNat_natCast]
 refine ok_set hk hi ?_ ?_
 ·unfold MayG
  rw[if_neg (show ¬ (2:Int)=0 by decide)]
  exact ⟨.inr rfl,hm.2.1,hm.2.2⟩
 ·intro _ j hj hne hj0
  have h2:=hk.2.2 i hi j hj (fun h=>hne h.symm) (by rw[show (xs.getD i seg0).1=1 from hst]; decide) hj0
  have h3:=h2.2 hst
  refine ⟨by show genG xs j≠genG xs i; simp only[genG]; omega,fun ho=>absurd ho (show ¬ (2:Int)=1 by decide),fun ho=>?_⟩
  exact (hk.2.2 j hj i hi hne hj0 (by rw[show (xs.getD i seg0).1=1 from hst]; decide)).2 ho
end
section
theorem SeqM.mono {w:World} {n₀ n₁ B:Nat} {L:List Num} (h:SeqM w n₁ B L) (hn:n₀≤n₁):SeqM w n₀ B L:=by
 obtain ⟨h1,h2,A,cap,h3,h4⟩:=h
 refine ⟨by omega,h2,A,cap,h3,h4.1,fun hp=>?_⟩
 obtain ⟨b,off,e,hb,hc⟩:=h4.2 hp
 exact ⟨b,off,e,⟨nT hn hb.1,hb.2⟩,hc⟩
end
section
open Go.RowKit Go.Shelf
attribute [local go_sem] Oper.semAt_some
def OldM (w:World) (sec:Int) (A:Option Addr) (n cap:Nat) (W:World):Prop :=
 Below w.heap.size w W∧Blk W w.heap.size 95 #[.int .i64 sec,.slice A n cap]∧Blk W (w.heap.size+1) 3 #[.int .i64 0]∧Blk W (w.heap.size+1+1) 36 #[.int .i64 0]
theorem OldM.start (w:World) (sec:Int) (A:Option Addr) (n cap:Nat):OldM w sec A n cap (((w.alloc (.cells #[.int .i64 sec,.slice A n cap] 95)).alloc (.cells #[.int .i64 0] 3)).alloc (.cells #[.int .i64 0] 36)) :=
 ⟨(((Below.refl _ w).alloc (nR _) _).alloc (by simp) _).alloc (by simp; omega) _,((Blk.new w _ _).alloc _).alloc _,(blk_new2 w _ _ _).alloc _,blk_new3 w _ _ _ _⟩
theorem OldM.next {w:World} {sec:Int} {A:Option Addr} {n cap:Nat} {W W':World} (h:OldM w sec A n cap W) (hb:Below W.heap.size W W'):OldM w sec A n cap W' :=
 ⟨h.1.trans (hb.mono h.1.size),h.2.1.below hb h.2.1.lt,h.2.2.1.below hb h.2.2.1.lt,h.2.2.2.below hb h.2.2.2.lt⟩
end
section
theorem below_next {w W W':World} (h:Below w.heap.size w W) (hb:Below W.heap.size W W'):Below w.heap.size w W':=h.trans (hb.mono h.size)
def GoM (w:World) (G n:Nat) (A:Option Addr) (cap:Nat) (xs:List Seg) (W:World):Prop :=
 Blk W G 95 #[.int .i64 64,.slice A n cap]∧RowZ W (fun b=>b<W.heap.size∧b≠G) A n xs∧Below w.heap.size w W
section
variable {w:World} {G n:Nat} {A:Option Addr} {cap:Nat} {xs:List Seg} {W W':World}
theorem GoM.now (h:GoM w G n A cap xs W):RowZ W (·<W.heap.size) A n xs:=h.2.1.more (fun b h=>h.1)
theorem GoM.next (h:GoM w G n A cap xs W) (hb:Below W.heap.size W W'):GoM w G n A cap xs W' :=
 ⟨h.1.below hb h.1.lt,(h.2.1.below hb (fun b h=>h.1)).more (fun b h=>⟨nL h.1 hb.size,h.2⟩),below_next h.2.2 hb⟩
end
theorem GoM.first {w W0:World} {n₀ n:Nat} {A:Option Addr} {cap:Nat} {xs:List Seg} (hr:RowZ W0 (From n₀ W0) A n xs) (hb:Below w.heap.size w W0) :
 GoM w W0.heap.size n A cap xs (W0.alloc (.cells #[.int .i64 64,.slice A n cap] 95)) :=
 ⟨Blk.new W0 _ _,(hr.below ((Below.refl W0.heap.size W0).alloc (nR _) _) (fun b h=>h.2)).more (fun b h=>⟨by have:=h.2; simp; omega,by have:=h.2; omega⟩),hb.alloc hb.size _⟩
theorem GoM.fresh {w W0:World} {m n:Nat} {A:Option Addr} {cap:Nat} {xs:List Seg} (ho:OwnZ W0 m A n cap xs) (hb:Below w.heap.size w W0) :
 GoM w W0.heap.size n A cap xs (W0.alloc (.cells #[.int .i64 64,.slice A n cap] 95)):=GoM.first ho.row hb
theorem GoM.store {w W:World} {G n m n0:Nat} {A A':Option Addr} {cap cap':Nat} {ys:List Seg} (h1:Blk W G 95 #[.int .i64 64,.slice A n0 cap]) (h2:Below w.heap.size w W) (ho:OwnZ W m A' n cap' ys) (hm:G<m) (hB:w.heap.size≤G) :
 GoM w G n A' cap' ys ((W.setCell ⟨G,0,none⟩ (.int .i64 64)).setCell ⟨G,1,none⟩ (.slice A' n cap')):=by
 have ho2:=(ho.far (p:=⟨G,0,none⟩) hm (.int .i64 64)).far (p:=⟨G,1,none⟩) hm (.slice A' n cap')
 exact ⟨(h1.set_ 0 (.int .i64 64)).set_ 1 (.slice A' n cap'),ho2.row.more (fun b hb=>⟨hb.2,by have:=hb.1; omega⟩),(h2.setCell (p:=⟨G,0,none⟩) hB _).setCell (p:=⟨G,1,none⟩) hB _⟩
theorem OwnZ.setRow {w:World} {base:Nat} {A:Option Addr} {n cap:Nat} {xs:List Seg} (h:OwnZ w base A n cap xs) {g:Nat} (hg:g<base) (cs:Array Value):OwnZ (w.setRow g cs) base A n cap xs :=
 ⟨h.1,h.2.1.kept (row:=some g) ⟨rfl,rfl,rfl,by simp[World.setRow],fun k _ hne=>setRow_other w g k cs (fun e=>hne (by rw[e]))⟩ (.inr (fun e=>by have:=own_least h.2.1 e; omega)),h.2.2⟩
theorem GoM.row {w W:World} {G n m n0:Nat} {A A':Option Addr} {cap cap':Nat} {ys:List Seg} (h1:Blk W G 95 #[.int .i64 64,.slice A n0 cap]) (h2:Below w.heap.size w W) (ho:OwnZ W m A' n cap' ys) (hm:G<m) (hB:w.heap.size≤G) :
 GoM w G n A' cap' ys (W.setRow G #[.int .i64 64,.slice A' n cap']) :=
 ⟨setRow_heap W G _ _ _ _ h1,(ho.setRow hm _).row.more (fun b hb=>⟨hb.2,by have:=hb.1; omega⟩),below_setRow h2 hB _⟩
end
section
def posR (n s k:Nat):Nat:=if s+k<n then s+k else s+k-n
theorem pos_lt {n s k:Nat} (hs:s<n) (hk:k≤n):posR n s k<n:=by unfold posR; split <;> omega
theorem pos_onto {n s j:Nat} (hs:s<n) (hj:j<n):∃ k,k<n∧posR n s k=j:=by
 refine ⟨if s≤j then j-s else j+n-s,?_,?_⟩
 ·split <;> omega
 ·unfold posR
  split <;> split <;> omega
theorem pos_step {n s k:Nat} (hs:s<n) (hk:k<n):(posR n s k+1) % n=posR n s (k+1):=by
 unfold posR
 by_cases h:s+k<n
 ·rw[if_pos h]
  by_cases h2:s+(k+1)<n
  ·rw[if_pos h2,Nat.mod_eq_of_lt (by omega)]; omega
  ·rw[if_neg h2,show s+k+1=n by omega,Nat.mod_self]; omega
 ·rw[if_neg h,if_neg (by omega),Nat.mod_eq_of_lt (by omega)]; omega
structure Arc (n:Nat) (xs:List Seg) (s c:Nat):Prop where
 len:xs.length=n
 hs:s<n
 hc:c≤n
 live:∀ k,k<n→(stG xs (posR n s k)≠0↔k<c)
 mids:∀ k,k+1<c→stG xs (posR n s k)=2
 rise:∀ k,k+1<c→genG xs (posR n s k)<genG xs (posR n s (k+1))
section
variable {n s c:Nat} {xs:List Seg} {sec:Int}
theorem Arc.rises (h:Arc n xs s c) (a:Nat):∀ d,a+d+1<c→genG xs (posR n s a)<genG xs (posR n s (a+d+1))
 | 0,hd=>h.rise a hd
 | d+1,hd=>Int.lt_trans (h.rises a d (by omega)) (h.rise (a+d+1) (by omega))
theorem Arc.less (h:Arc n xs s c) {a b:Nat} (hab:a<b) (hb:b<c):genG xs (posR n s a)<genG xs (posR n s b):=by
 have:=h.rises a (b-a-1) (by omega)
 rwa [show a+(b-a-1)+1=b by omega] at this
theorem Arc.lat (h:Arc n xs s c) (h0:0<c):latR xs=(posR n s (c-1):Nat):=by
 have hc:=h.hc
 rcases lat_or xs with ⟨_,hz⟩ | ⟨i,hi,e,hs,hm⟩
 ·exact absurd (hz _ (by rw[h.len]; exact pos_lt h.hs (k:=0) (by omega))) ((h.live 0 (by omega)).2 h0)
 ·rw[h.len] at hi
  obtain ⟨k,hk,rfl⟩:=pos_onto h.hs hi
  have hkc:=(h.live k hk).1 hs
  by_cases he:k=c-1
  ·rw[e,he]
  ·have h1:=h.less (a:=k) (b:=c-1) (by omega) (by omega)
   have h2:=hm _ (by rw[h.len]; exact pos_lt h.hs (k:=c-1) (by omega)) ((h.live (c-1) (by omega)).2 (by omega))
   omega
theorem Arc.next (h:Arc n xs s c) (h0:0<c) (hc:c<n):nxtR xs=(posR n s c:Nat):=by
 have hl:=h.lat h0
 have hf:stG xs (posR n s c)=0:=by
  by_cases h0:stG xs (posR n s c)=0
  ·exact h0
  ·exact absurd ((h.live c hc).1 h0) (by omega)
 have hp:((latR xs+1+((0:Nat):Int)).toNat % xs.length)=posR n s c:=by
  rw[hl,h.len,show ((posR n s (c-1):Nat):Int)+1+((0:Nat):Int)=((posR n s (c-1)+1:Nat):Int) by omega,Int.toNat_natCast,pos_step h.hs (by omega),show c-1+1=c by omega]
 rcases nxt_or xs with ⟨_,hz⟩ | ⟨i,hi,e,hs,hq⟩
 ·have:=hz 0 (by rw[h.len]; omega)
  rw[hp] at this
  exact absurd hf this
 ·rcases Nat.eq_zero_or_pos i with rfl | hi0
  ·rw[e,hp]
  ·have:=hq 0 hi0
   rw[hp] at this
   exact absurd hf this
theorem st_set {i j:Nat} {x:Seg} (hi:i<xs.length):stG (xs.set i x) j=if i=j then x.1 else stG xs j:=by
 simp only[stG,getD_set xs i j x hi]; split <;> rfl
theorem gen_set {i j:Nat} {x:Seg} (hi:i<xs.length):genG (xs.set i x) j=if i=j then x.2.1 else genG xs j:=by
 simp only[genG,getD_set xs i j x hi]; split <;> rfl
theorem Arc.old (h:Arc n xs s c) {o:Nat} (ho:oldR xs=o):o=s∧0<c:=by
 rcases old_or xs with ⟨e,_⟩ | ⟨i,hi,e,hst,hm⟩
 ·omega
 ·obtain rfl:o=i:=by omega
  rw[h.len] at hi
  obtain ⟨k,hk,hki⟩:=pos_onto h.hs hi
  have hkc:=(h.live k hk).1 (by rw[hki,hst]; decide)
  have hp0:posR n s 0=s:=by unfold posR; rw[if_pos (by have:=h.hs; omega)]; rfl
  refine ⟨?_,by omega⟩
  rcases Nat.eq_zero_or_pos k with rfl | hk0
  ·omega
  ·have h1:=h.less hk0 hkc
   have h2:=hm _ (by rw[h.len]; exact pos_lt h.hs (k:=0) (by omega)) (h.mids 0 (by omega))
   rw[hki] at h1
   omega
end
end
section
abbrev logC (p:Nat) (sec:Int) (A:Option Addr) (n c:Nat) (br:Bool):Array Value:=#[.pointer (some ⟨p,0,none⟩),.int .i64 sec,.slice A n c,.bool br]
abbrev StoS (w:World) (X:Nat→Prop) (p d n:Nat) (s:Sup) (t:Int) (k:Dk):Prop:=StoreM w X p d n s.a s.b s.g s.r s.v s.f t k
def LogM (w:World) (X:Nat→Prop) (l p d n:Nat) (s:Sup) (t:Int) (k:Dk) (sec:Int) (A:Option Addr) (m c:Nat) (xs:List Seg) (br:Bool):Prop :=
 Blk w l 103 (logC p sec A m c br)∧¬ X l∧∃ R:Nat→Prop,StoS w (fun b=>X b∨b=l∨R b) p d n s t k∧RowZ w R A m xs∧(∀ b,R b→b<w.heap.size∧b≠l∧¬ X b)
section
variable {w w':World} {X Y:Nat→Prop} {l p d n m c:Nat} {s:Sup} {t:Int} {k:Dk} {sec:Int} {A:Option Addr} {xs:List Seg} {br:Bool}
theorem LogM.below (h:LogM w X l p d n s t k sec A m c xs br) (hb:Below w.heap.size w w'):LogM w' X l p d n s t k sec A m c xs br:=by
 obtain ⟨h1,h2,R,h3,h4,h5⟩:=h
 exact ⟨h1.below hb h1.lt,h2,R,StoreM.below h3 hb,h4.below hb (fun b h=>(h5 b h).1),fun b h=>⟨nL (h5 b h).1 hb.size,(h5 b h).2⟩⟩
theorem LogM.now (h:LogM w X l p d n s t k sec A m c xs br):RowZ w (·<w.heap.size) A m xs:=by
 obtain ⟨h1,h2,R,h3,h4,h5⟩:=h
 exact h4.more (fun b h=>(h5 b h).1)
theorem log_cells (h:LogM w X l p d n s t k sec A m c xs br):w.cell? ⟨l,0,none⟩=some (.pointer (some ⟨p,0,none⟩))∧w.cell? ⟨l,1,none⟩=some (.int .i64 sec)∧w.cell? ⟨l,2,none⟩=some (.slice A m c)∧w.cell? ⟨l,3,none⟩=some (.bool br) :=
 ⟨h.1.cell 0,h.1.cell 1,h.1.cell 2,h.1.cell 3⟩
theorem sto_disk (hs:StoS w X p d n s t k):Calls Tryz.prog 123 #[.pointer (some ⟨p,0,none⟩)] w fun e w'=>e=.returned (.pointer (some ⟨d,0,none⟩))∧w'=w:=by
 have c7:w.cell? ⟨p,7,none⟩=some (.pointer (some ⟨d,0,none⟩)):=hs.1.cell 7
 clear hs
 go_enter Tryz.func123,Tryz.ntmps123
 go_wp2
 go_ret
 exact ⟨rfl,rfl⟩
theorem sto_base (hs:StoS w X p d n s t k) (i:Nat) (hi:(i:Int)<s.a) (ha:s.a≤16) (hb:0≤s.b∧s.b≤64) :
 Calls Tryz.prog 50 #[.pointer (some ⟨p,0,none⟩),.int .i64 i] w fun e w'=>e=.returned (.tuple #[.int .i64 (2+i*s.b),.int .i64 0])∧w'=w:=by
 have c0:w.cell? ⟨p,0,none⟩=some (.int .i64 s.a):=hs.1.cell 0
 have c1:w.cell? ⟨p,1,none⟩=some (.int .i64 s.b):=hs.1.cell 1
 have d0:decide ((i:Int)<0)=false:=by simp
 have d1:decide (s.a≤(i:Int))=false:=decide_eq_false (by omega)
 obtain ⟨x,hx⟩:∃ x:Int,(i:Int)*s.b=x:=⟨_,rfl⟩
 have hi16:(i:Int)≤15:=by omega
 have hx1:0≤x∧x≤960:=by
  rw[← hx]
  exact ⟨Int.mul_nonneg (by omega) hb.1,by have:=Int.mul_le_mul hi16 hb.2 hb.1 (by omega:(0:Int)≤15); omega⟩
 rw[show (2:Int)+i*s.b=2+x by rw[hx]]
 clear hs
 go_enter Tryz.func50,Tryz.ntmps50
 go_wp2
 go_ret2
 exact ⟨rfl,rfl⟩
theorem log_super (h:LogM w X l p d n s t k sec A m c xs br):Calls Tryz.prog 11 #[.pointer (some ⟨l,0,none⟩)] w fun e w'=>e=.returned (.pointer (some ⟨p,0,none⟩))∧w'=w:=by
 obtain ⟨c0,_,_,_⟩:=log_cells h
 clear h
 go_enter Tryz.func11,Tryz.ntmps11
 go_wp2
 go_ret
 exact ⟨rfl,rfl⟩
theorem log_broken (h:LogM w X l p d n s t k sec A m c xs br):Calls Tryz.prog 94 #[.pointer (some ⟨l,0,none⟩)] w fun e w'=>e=.returned (.bool br)∧w'=w:=by
 obtain ⟨_,_,_,c3⟩:=log_cells h
 clear h
 go_enter Tryz.func94,Tryz.ntmps94
 go_wp2
 go_ret
 exact ⟨by simp,rfl⟩
theorem breaks_ok (w:World) (l:Nat):Calls Tryz.prog 60 #[.pointer (some ⟨l,0,none⟩),.int .i64 0] w fun e w'=>e=.returned (.int .i64 0)∧w'=w:=by
 go_enter Tryz.func60,Tryz.ntmps60
 go_wp2
 go_ret
 exact ⟨rfl,rfl⟩
end
end
section
theorem eql_nil_seg (A:Option Addr) (n c:Nat) (w:World):(binOp .eql 93 (.slice A n c) (.slice none 0 0)).run Tryz.prog w=.ok (.bool A.isNone) w:=by
 have h:=run_equal_slice_nil (P:=Tryz.prog) w 93 126 A n c Tryz.underlying93
 simp[go_sem,binOp,h]
theorem clone_nil (c:Nat) (hc:c=0) (w:World):Calls Tryz.prog 165 #[.slice none 0 c] w fun e w'=>e=.returned (.slice none 0 0)∧w'=w:=by
 subst hc
 have heq:=eql_nil_seg none 0 0
 go_enter Tryz.func165,Tryz.ntmps165
 go_wp2
 go_ret
 exact ⟨rfl,rfl⟩
theorem clone_some {w:World} {a:Addr} {n c:Nat} {xs:List Seg} (h:RowZ w (·<w.heap.size) (some a) n xs) (hn:n≤1000) :
 Calls Tryz.prog 165 #[.slice (some a) n c] w fun e w'=>(∃ A' c',e=.returned (.slice A' n c')∧OwnZ w' w.heap.size A' n c' xs)∧Below w.heap.size w w':=by
 have heq:=eql_nil_seg (some a) n c
 have HO:=hI (own_empty3 w)
 have HB:=hI ((Below.refl w.heap.size w).alloc (nR _) (.cells #[] 126))
 have HX:=hI (row_now h HB.out)
 have HL:=hI h.1
 have h1000:(0:Nat)+n≤1000000:=by omega
 clear h
 go_enter Tryz.func165,Tryz.ntmps165
 go_wp2_with (at_builtin; refine wpList_append_rowZ (.tmp 5) (.tmp 6) rfl rfl w.heap.size _ 0 [] rfl HO.out _ (some a) n c xs rfl HX.out (fun e=>by cases e) h1000 (by simp) ?_; rintro v' w4 ho hg _; have HB4:=hI (HB.out.grown hg HB.out.size (fun k e=>nT (by omega) (own_least HO.out e))); obtain ⟨A',cap',rfl,hc,hn',hrow⟩:=rowZ_own ho (xs:=xs) (by simp) (by rw[HL.out,Nat.zero_add]); rw[Nat.zero_add] at hc hrow; simp only[Nat.zero_add]; have HROW:=hI ho; have HC:=hI hc; have HN:=hI hn'; clear ho hg hc hn' hrow)
 go_ret
 have hown:=HROW.out
 rw[Nat.zero_add,List.nil_append] at hown
 exact ⟨⟨A',cap',rfl,HL.out,hown,HN.out,HC.out⟩,HB4.out⟩
theorem clone_segs {w:World} {A:Option Addr} {n c:Nat} {xs:List Seg} (h:RowZ w (·<w.heap.size) A n xs) (hnil:A=none→c=0) (hnc:n≤c) (hn:n≤1000) :
 Calls Tryz.prog 165 #[.slice A n c] w fun e w'=>(∃ A' c',e=.returned (.slice A' n c')∧OwnZ w' w.heap.size A' n c' xs)∧Below w.heap.size w w':=by
 cases A with
 | none =>
  have hc:=hnil rfl
  subst hc
  obtain rfl:n=0:=by omega
  have hx:xs=[]:=List.length_eq_zero_iff.1 h.1
  subst hx
  refine (clone_nil 0 rfl w).mono ?_
  rintro e w' ⟨rfl,rfl⟩
  exact ⟨⟨none,0,rfl,rfl,⟨rfl,.inl ⟨rfl,rfl⟩⟩,fun _=>rfl,nR _⟩,Below.refl _ _⟩
 | some a =>
  exact clone_some h hn
theorem copied_ring {w:World} {A:Option Addr} {n c:Nat} {xs:List Seg} (h:RowZ w (·<w.heap.size) A n xs) (hnil:A=none→c=0) (hnc:n≤c) (hn:n≤1000) (sec:Int) :
 Calls Tryz.prog 112 #[ringV sec A n c] w fun e w'=>(∃ A' c',e=.returned (ringV sec A' n c')∧OwnZ w' w.heap.size A' n c' xs)∧Below w.heap.size w w':=by
 have HB:=hI (((Below.refl w.heap.size w).alloc (nR _) (.cells #[.int .i64 sec,.slice A n c] 95)).alloc (by simp) (.cells #[.int .i64 0,.slice none 0 0] 95))
 have HK0:=hI ((Blk.new w 95 #[.int .i64 sec,.slice A n c]).alloc (.cells #[.int .i64 0,.slice none 0 0] 95))
 have HK1:=hI (blk_new2 w (.cells #[.int .i64 sec,.slice A n c] 95) 95 #[.int .i64 0,.slice none 0 0])
 have HC:=hI (clone_segs (row_now h HB.out) hnil hnc hn)
 obtain ⟨k0,k1⟩:=ring_cells HK0.out
 clear h
 go_enter Tryz.func112,Tryz.ntmps112
 go_wp2_with fail
 refine HC.out.mono ?_
 rintro e w3 ⟨⟨A',c',rfl,ho⟩,hb⟩
 have hs2:w.heap.size+1+1≤w3.heap.size:=by have:=hb.size; simpa using this
 have HK3:=hI (HK0.out.below hb HK0.out.lt)
 have HK4:=hI (HK1.out.below hb HK1.out.lt)
 have HB3:=hI (HB.out.trans (hb.mono HB.out.size))
 have HO:=hI (ho.base (m:=w.heap.size+1+1) (by simp))
 have f0:=HK3.out.frozen 1
 have hne:w.heap.size≠w.heap.size+1:=by omega
 have HK5:=hI (HK3.out.set_ 1 (.slice A' n c'))
 have HK6:=hI (HK4.out.far (p:=⟨w.heap.size,1,none⟩) hne.symm (.slice A' n c'))
 obtain ⟨g0,g1⟩:=And.intro (HK6.out.frozen 0) (HK6.out.frozen 1)
 obtain ⟨q0,q1⟩:_∧_:=ring_cells HK5.out
 obtain ⟨p0,p1⟩:=ring_cells HK6.out
 clear ho hb k0 k1
 obtain ⟨k0,k1⟩:=ring_cells HK3.out
 go_wp2_with (with_reducible refine halt_end ?_)
 have hst:=(HK6.out.set_ 0 (.int .i64 sec)).set_ 1 (.slice A' n c')
 have hown:=((HO.out.far (p:=⟨w.heap.size,1,none⟩) (by show w.heap.size<_; omega) (.slice A' n c')).far (p:=⟨w.heap.size+1,0,none⟩) (by show w.heap.size+1<_; omega) (.int .i64 sec)).far (p:=⟨w.heap.size+1,1,none⟩) (by show w.heap.size+1<_; omega) (.slice A' n c')
 have hbel:=((HB3.out.setCell (p:=⟨w.heap.size,1,none⟩) (nR _) (.slice A' n c')).setCell (p:=⟨w.heap.size+1,0,none⟩) (by simp) (.int .i64 sec)).setCell (p:=⟨w.heap.size+1,1,none⟩) (by simp) (.slice A' n c')
 exact Halt.ret (results_row1 (p:=2) rfl _ _ (w.heap.size+1) 95 #[.int .i64 sec,.slice A' n c'] _ rfl hst Tryz.underlying95 rfl size_ring) rfl ⟨⟨A',c',rfl,hown.base (by omega)⟩,hbel⟩
end
section
section
variable {w:World} {X:Nat→Prop} {p d n:Nat} {s:Sup} {t:Int} {k:Dk} {A:Option Addr} {m c:Nat} {xs:List Seg}
theorem open_log_ok (hs:StoS w X p d n s t k) (hX:∀ b,X b→b<w.heap.size) (h:RowZ w (·<w.heap.size) A m xs) (hnil:A=none→c=0) (hmc:m≤c) (sec:Int) (hk:OkR sec xs) (ha:(m:Int)=s.a) (hb:sec=s.b) (ho:opnR xs<0) :
 Calls Tryz.prog 44 #[.pointer (some ⟨p,0,none⟩),ringV sec A m c] w fun e w'=>∃ l A' c',e=.returned (.tuple #[.pointer (some ⟨l,0,none⟩),.int .i64 0])∧LogM w' X l p d n s t k sec A' m c' xs false∧m≤c'∧(A'=none→c'=0)∧w.heap.size≤l∧Below w.heap.size w w':=by
 have HS:=hI hs
 have HXX:=hI hX
 have HR:=hI h
 have HB:=hI ((Below.refl w.heap.size w).alloc (nR _) (.cells #[.int .i64 sec,.slice A m c] 95))
 have HK0:=hI (Blk.new w 95 #[.int .i64 sec,.slice A m c])
 have HC:=hI (check_any (cap:=c) (row_now h HB.out) sec)
 rw[if_pos hk] at HC
 obtain ⟨ov,hov⟩:∃ x,openedV sec xs=x:=⟨_,rfl⟩
 have e1:=(opened_no hk ho).1
 obtain ⟨k0,k1⟩:=ring_cells HK0.out
 have HOV:=hI hov
 have HOE:=hI e1
 have HMN:=hI (And.intro hnil (And.intro hmc (show m≤1000 by have:=(ok_n hk h.1).2; omega)))
 have d1:((m:Int) != s.a)=false:=by simpa using ha
 have d2:(sec != s.b)=false:=by simpa using hb
 clear h hs hk hov e1 ha hb ho hX hnil hmc
 go_enter Tryz.func44,Tryz.ntmps44
 go_wp2_with fail
 refine HC.out.mono ?_
 rintro e w2 ⟨rfl,hb⟩
 have HB2:=hI (HB.out.trans (hb.mono HB.out.size))
 have HK2:=hI (HK0.out.below hb HK0.out.lt)
 clear hb k0 k1
 go_wp2_with fail
 refine (get_any (HS.out.below HB2.out)).mono ?_
 rintro e w3 ⟨rfl,hb⟩
 have HB3:=hI ((HB2.out.trans (hb.mono HB2.out.size)).alloc (HB2.out.trans (hb.mono HB2.out.size)).size (.cells #[.int .i64 s.a,.int .i64 s.b,.int .u64 s.g,.int .u64 s.r,.int .u64 s.v,.int .u64 s.f] 115))
 have HK3:=hI ((HK2.out.below hb HK2.out.lt).alloc (.cells #[.int .i64 s.a,.int .i64 s.b,.int .u64 s.g,.int .u64 s.r,.int .u64 s.v,.int .u64 s.f] 115))
 obtain ⟨k0,k1⟩:=ring_cells HK3.out
 clear hb
 go_wp2_with fail
 refine (opened_any (row_now HR.out HB3.out) sec).mono ?_
 rintro e w4 ⟨rfl,hb⟩
 rw[HOV.out,HOE.out]
 have HB4:=hI (HB3.out.trans (hb.mono HB3.out.size))
 have HK4:=hI (HK3.out.below hb HK3.out.lt)
 clear hb k0 k1
 obtain ⟨k0,k1⟩:=ring_cells HK4.out
 go_wp2_with fail
 refine (copied_ring (row_now HR.out HB4.out) HMN.out.1 HMN.out.2.1 HMN.out.2.2 sec).mono ?_
 rintro e w5 ⟨⟨A',c',rfl,hown⟩,hb⟩
 have HB5:=hI (HB4.out.trans (hb.mono HB4.out.size))
 have HO5:=hI (hown.base (m:=w.heap.size) HB4.out.size)
 clear hb hown k0 k1
 go_wp2_with fail
 go_ret2
 have hal:=(Below.refl w5.heap.size w5).alloc (nR _) (.cells (logC p sec A' m c' false) 103)
 have hba:=HB5.out.alloc HB5.out.size (.cells (logC p sec A' m c' false) 103)
 have hl:=HB5.out.size
 refine ⟨w5.heap.size,A',c',rfl,⟨Blk.new w5 _ _,fun hx=>by have:=HXX.out _ hx; omega,From w.heap.size w5,?_,HO5.out.row.below hal (fun b h=>h.2),fun b hb=>⟨nL hb.2 hal.size,by have:=hb.2; omega,fun hx=>by have:=HXX.out _ hx; have:=hb.1; omega⟩⟩,HO5.out.2.2.2,HO5.out.2.2.1,hl,hba⟩
 exact StoreM.kept HS.out (Kept.of_below hba (fun b h=>h)) (fun b hb _=>hb) (fun b hb hy=>by
  rcases hy with h | h | h
  ·exact h
  ·omega
  ·have:=h.1; omega)
end
end
section
section
variable {w w':World} {X Y:Nat→Prop} {l p d n m c:Nat} {s:Sup} {t:Int} {k:Dk} {sec:Int} {A:Option Addr} {xs:List Seg} {br:Bool}
theorem LogM.put (h:LogM w X l p d n s t k sec A m c xs br) (hX:∀ b,X b→b<w.heap.size) (hb:Below w.heap.size w w') {A2:Option Addr} {c2:Nat} {ys:List Seg} (ho:OwnZ w' w.heap.size A2 m c2 ys) :
 LogM ((w'.setCell ⟨l,1,none⟩ (.int .i64 sec)).setCell ⟨l,2,none⟩ (.slice A2 m c2)) X l p d n s t k sec A2 m c2 ys br∧Kept X w ((w'.setCell ⟨l,1,none⟩ (.int .i64 sec)).setCell ⟨l,2,none⟩ (.slice A2 m c2)):=by
 obtain ⟨h1,h2,R,h3,h4,h5⟩:=h
 have hlt:=h1.lt
 have hk:Kept (fun b=>b<w.heap.size∧b≠l) w ((w'.setCell ⟨l,1,none⟩ (.int .i64 sec)).setCell ⟨l,2,none⟩ (.slice A2 m c2)) :=
  ((Kept.of_below hb (fun b h=>h.1)).setCell (p:=⟨l,1,none⟩) (fun h=>h.2 rfl) _).setCell (p:=⟨l,2,none⟩) (fun h=>h.2 rfl) _
 have ho2:=(ho.far (p:=⟨l,1,none⟩) hlt (.int .i64 sec)).far (p:=⟨l,2,none⟩) hlt (.slice A2 m c2)
 refine ⟨⟨((h1.below hb hlt).set_ 1 (.int .i64 sec)).set_ 2 (.slice A2 m c2),h2,From w.heap.size ((w'.setCell ⟨l,1,none⟩ (.int .i64 sec)).setCell ⟨l,2,none⟩ (.slice A2 m c2)),?_,ho2.row,fun b hb=>⟨hb.2,by have:=hb.1; omega,fun hx=>by have:=hX b hx; have:=hb.1; omega⟩⟩,hk.mono (fun b hx=>⟨hX b hx,fun e=>h2 (e▸hx)⟩)⟩
 refine StoreM.kept h3 hk (fun b hb hx=>⟨hb,fun e=>hx (.inr (.inl e))⟩) (fun b hb hy=>?_)
 rcases hy with h | h | h
 ·exact .inl h
 ·exact .inr (.inl h)
 ·have:=h.1; omega
theorem StoreM.grow {a b g r v f:Int} (h:StoreM w Y p d n a b g r v f t k) (hb:Below w.heap.size w w'):StoreM w' (fun b=>Y b∨(w.heap.size≤b∧b<w'.heap.size)) p d n a b g r v f t k :=
 StoreM.kept (Z:=fun b=>b<w.heap.size) h (Kept.of_below hb (fun b h=>h)) (fun b hb _=>hb) (fun b hb hy=>by
  rcases hy with h | h
  ·exact h
  ·omega)
theorem grow_lt (hY:∀ b,Y b→b<w.heap.size) (hs:w.heap.size≤w'.heap.size):∀ b,(Y b∨(w.heap.size≤b∧b<w'.heap.size))→b<w'.heap.size:=fun b h=>by
 rcases h with h | h
 ·exact nL (hY b h) hs
 ·exact h.2
noncomputable def sealedX (sec:Int) (xs:List Seg):List Seg:=if sealE sec xs=0 then sealX xs else xs
def BegC (w:World) (X:Nat→Prop) (l p d n:Nat) (s:Sup) (t:Int) (k:Dk) (sec:Int) (m:Nat) (zs:List Seg) (wx:World):Prop :=
 ∃ A c,LogM wx X l p d n s t k sec A m c zs false∧Kept X w wx∧m≤c∧(A=none→c=0)
theorem seal_len (xs:List Seg):(sealX xs).length=xs.length:=by unfold sealX; rw[List.length_set]
end
end
section
abbrev lw0:Oper:=⟨some 33,.move (.tmp 0),24,"log.go:343",#[],none⟩
abbrev lw1:Oper:=⟨some 34,.nilCheck (.tmp 33),0,"log.go:343",#[⟨0,.data⟩],none⟩
abbrev lw2:Oper:=⟨some 35,.fieldAddr 103 (.tmp 34) 0,0,"log.go:343",#[⟨1,.data⟩],none⟩
abbrev lw3:Oper:=⟨some 36,.load 45 (.tmp 35),45,"log.go:343",#[⟨2,.data⟩],none⟩
abbrev lw4:Oper:=⟨some 37,.call { callee:=.value (.func 123),args:=#[.tmp 36],argTypes:=#[45] },25,"log.go:343",#[⟨3,.data⟩],none⟩
abbrev lw5:Oper:=⟨some 38,.move (.tmp 9),3,"log.go:343",#[],none⟩
abbrev lw6:Oper:=⟨some 39,.move (.tmp 2),3,"log.go:343",#[],none⟩
abbrev lw7:Oper:=⟨some 40,.binOp Go.BinOp.add 3 (.tmp 38) (.tmp 39) 3,3,"log.go:343",#[⟨5,.data⟩,⟨6,.data⟩],none⟩
abbrev lw8:Oper:=⟨some 41,.move (.tmp 11),3,"log.go:343",#[],none⟩
abbrev lw9:Oper:=⟨some 42,.binOp Go.BinOp.add 3 (.tmp 40) (.tmp 41) 3,3,"log.go:343",#[⟨7,.data⟩,⟨8,.data⟩],none⟩
abbrev lw10:Oper:=⟨some 43,.load 186 (.tmp 12),186,"log.go:343",#[],none⟩
abbrev lw11:Oper:=⟨some 44,.call { callee:=.value (.func 105),args:=#[.tmp 37,.tmp 42,.tmp 43],argTypes:=#[25,3,186] },36,"log.go:343",#[⟨4,.data⟩,⟨9,.data⟩,⟨10,.data⟩,⟨4,.chain⟩],none⟩
abbrev lw12:Oper:=⟨some 13,.assign (.tmp 44),36,"log.go:343",#[⟨11,.data⟩,⟨11,.chain⟩,⟨0,.phase⟩,⟨1,.phase⟩,⟨2,.phase⟩,⟨3,.phase⟩,⟨4,.phase⟩,⟨5,.phase⟩,⟨6,.phase⟩,⟨7,.phase⟩,⟨8,.phase⟩,⟨9,.phase⟩,⟨10,.phase⟩,⟨11,.phase⟩],none⟩
def wrs (k:Dk) (i:Nat):List (List Int)→Dk × Int
 | []=>(k,0)
 | ys::r=>if k.wre=0 then wrs (k.wr (Dk.put i ys)) (i+1) r else (k.wr (Dk.put i ys),k.wre)
theorem wr_pend (k:Dk) (i:Nat) (ys:List Int):(k.wr (Dk.put i ys)).pend.length≤k.pend.length+1:=by
 unfold Dk.wr
 split
 ·omega
 split
 ·show k.pend.length≤_; omega
 split
 ·show k.pend.length≤_; omega
 ·show (k.pend++[_]).length≤_; simp
section
variable {w:World} {Y:Nat→Prop} {l p d N m c:Nat} {s:Sup} {t:Int} {k:Dk} {A:Option Addr} {xss:List (List Int)}
def WrI (w:World) (Y:Nat→Prop) (l p d N:Nat) (s:Sup) (t:Int) (k:Dk) (i0:Nat) (xss:List (List Int)) (j:Nat) (wr:World):Prop :=
 ∃ kj:Dk,StoS wr Y p d N s t kj∧Kept Y w wr∧wrs k i0 xss=wrs kj (i0+j) (xss.drop j)∧kj.pend.length≤k.pend.length+j
theorem write_log (hs:StoS w Y p d N s t k) (hY:∀ b,Y b→b<w.heap.size) (hl:Y l) (c0:w.cell? ⟨l,0,none⟩=some (.pointer (some ⟨p,0,none⟩))) (hrow:RowK w Y A m xss) (hby:∀ i,Bytes (xss.getD i [])) (hss:Secs xss)
 (i at_ i0:Nat) (hi:(i:Int)<s.a) (ha:s.a≤16) (hb:0≤s.b∧s.b≤64) (hi0:(i0:Int)=2+i*s.b+at_) (hN:i0+m≤N) (hN2:N≤2048) (hp:k.pend.length≤900000) :
 Calls Tryz.prog 120 #[.pointer (some ⟨l,0,none⟩),.int .i64 i,.int .i64 at_,.slice A m c] w fun e w'=>e=.returned (.int .i64 (wrs k i0 xss).2)∧StoS w' Y p d N s t (wrs k i0 xss).1∧Kept Y w w':=by
 have HS:=hI hs
 have HYY:=hI hY
 have HYL:=hI hl
 have HRW:=hI hrow
 have HBYS:=hI hby
 have HSS:=hI hss
 have HBS:=hI (sto_base hs i hi ha hb)
 obtain ⟨x,hx⟩:∃ x:Int,(2:Int)+i*s.b=x:=⟨_,rfl⟩
 rw[hx] at HBS hi0
 have HC0:=hI c0
 have HLEN:=hI hrow.1
 have HP:=hI hp
 have hx0:x=(i0:Int)-at_:=by omega
 have HX0:=hI hx0
 have hib:i0≤2048∧at_≤2048:=by
  have h1:0≤(i:Int)*s.b:=Int.mul_nonneg (by omega) hb.1
  omega
 have HIB:=hI hib
 clear hs hY hl hrow hby hss hi ha hb hx hp hx0 hi0
 go_enter Tryz.func120,Tryz.ntmps120
 go_wp2_with fail
 refine HBS.out.mono ?_
 rintro e w1 ⟨rfl,rfl⟩
 go_wp2_with fail
 clear c0
 go_loopw [8,28] (fun _ v wr=>∃ j:Nat,j≤m∧v=.int .i64 j∧WrI w1 Y l p d N s t k i0 xss j wr) (fun _ v _=>m-(intOf v).toNat)
 case atStart=>exact ⟨0,Nat.zero_le _,rfl,k,HS.out,Kept.refl _ _,rfl,nR _⟩
 case round =>
  obtain ⟨j,hj,rfl,kj,hsj,hkj,hwj,hpj⟩:=hrel
  have HSJ:=hI hsj
  have HKJ:=hI hkj
  have HWJ:=hI hwj
  have HPJ:=hI hpj
  clear hsj hkj hwj hpj
  by_cases hlt:j<m
  case neg =>
   obtain rfl:j=m:=by omega
   have hd:xss.drop j=[]:=List.drop_eq_nil_of_le (by rw[HLEN.out]; exact nR _)
   have hw2:=HWJ.out
   rw[hd] at hw2
   have HW2:=hI hw2
   clear hw2 hd
   go_wp2_with fail
   go_ret
   rw[HW2.out]
   exact ⟨rfl,HSJ.out,HKJ.out⟩
  obtain ⟨gb,off,rfl,hgb,hrng⟩:=HRW.out.2 (by omega)
  obtain ⟨ys,hys⟩:∃ ys,xss.getD j []=ys:=⟨_,rfl⟩
  have hjx:j<xss.length:=by rw[HLEN.out]; exact hlt
  have hye:xss[j]=ys:=by rw[← hys]; simp[List.getD,List.getElem?_eq_getElem hjx]
  have HLY:=hI (show ys.length=64 by rw[← hye]; exact HSS.out _ (List.getElem_mem hjx))
  have HBY:=hI (show Bytes ys by rw[← hys]; exact HBYS.out j)
  have HRY:=hI (show wr.rangeAt gb (off+j*64) (ys.map (Value.int .u8)) from fun q u hu=>by
   have h:=hrng j hlt q u (by rw[hys]; exact hu)
   rw[← h]
   exact HKJ.out.cell (p:=⟨gb,_,none⟩) hgb)
  have hdrop:xss.drop j=ys::xss.drop (j+1):=by rw[List.drop_eq_getElem_cons hjx,hye]
  have hw2:=HWJ.out
  rw[hdrop] at hw2
  obtain ⟨E,hE⟩:∃ E,kj.wre=E:=⟨_,rfl⟩
  unfold wrs at hw2
  rw[hE] at hw2
  have HW2:=hI (show wrs k i0 xss=if E=0 then wrs (kj.wr (Dk.put (i0+j) ys)) (i0+j+1) (xss.drop (j+1)) else (kj.wr (Dk.put (i0+j) ys),E) by
   rw[← hw2]
   cases xss <;> rfl)
  have HWE:=hI hE
  have hal:=(Below.refl wr.heap.size wr).alloc (nR _) (.cells (cells8 ys) 186)
  have HSD:=hI (show StoS (wr.alloc (.cells (cells8 ys) 186)).drew Y p d N s t kj from StoreM.below HSJ.out hal.drew)
  have HDD:=hI (show DiskM (wr.alloc (.cells (cells8 ys) 186)).drew (fun c=>(Y c∨c=p)∨c=wr.heap.size) d N kj from HSJ.out.2.1.below hal.drew (fun b hb h=>by rcases h with h | h; exact h; omega))
  have hpl:=HSJ.out.1.lt
  have HXD:=hI (show ∀ c,((Y c∨c=p)∨c=wr.heap.size)→c<(wr.alloc (.cells (cells8 ys) 186)).drew.heap.size from fun c h=>by
   have hz:=hal.drew.size
   have hz2:wr.heap.size<(wr.alloc (.cells (cells8 ys) 186)).drew.heap.size:=by simp[World.drew]
   rcases h with (h | h) | h
   ·exact nL (nL (HYY.out c h) HKJ.out.size) hz
   ·omega
   ·omega)
  have HVD:=hI (show Kept Y wr (wr.alloc (.cells (cells8 ys) 186)).drew from Kept.of_below hal.drew (fun b h=>nL (HYY.out b h) HKJ.out.size))
  have HC1:=hI (show (wr.alloc (.cells (cells8 ys) 186)).drew.cell? ⟨l,0,none⟩=some (.pointer (some ⟨p,0,none⟩)) from (HVD.out.cell (p:=⟨l,0,none⟩) HYL.out).trans ((HKJ.out.cell (p:=⟨l,0,none⟩) HYL.out).trans HC0.out))
  have HR1:=hI (show (wr.alloc (.cells (cells8 ys) 186)).drew.rangeAt wr.heap.size 0 (ys.map (Value.int .u8)) from fun q u hu=>by
   have h:=(show ArrB (wr.alloc (.cells (cells8 ys) 186)) wr.heap.size ys from Blk.new wr _ _).range q u hu
   exact h)
  have HWK:=hI (show Calls Tryz.prog 105 #[.pointer (some ⟨d,0,none⟩),.int .i64 ((i0:Int)+(j:Int)),.agg (cells8 ys)] (wr.alloc (.cells (cells8 ys) 186)).drew fun e w'=>e=.returned (.int .i64 E)∧DiskM w' (fun c=>(Y c∨c=p)∨c=wr.heap.size) d N (kj.wr (Dk.put (i0+j) ys))∧Kept (fun c=>(Y c∨c=p)∨c=wr.heap.size) (wr.alloc (.cells (cells8 ys) 186)).drew w' by
   have h:=write_k HDD.out HXD.out (i0+j) (by omega) ys HLY.out HBY.out (by have h1:=HPJ.out; have h2:=HP.out; omega)
   rw[Int.natCast_add,hE] at h
   exact h)
  have HPN:=hI (show (kj.wr (Dk.put (i0+j) ys)).pend.length≤k.pend.length+(j+1) by have h1:=HPJ.out; have h2:=wr_pend kj (i0+j) ys; omega)
  have HWI:=hI (show IntKind.i64.wrap (IntKind.i64.wrap (i0:Int)+(j:Int))=(i0:Int)+(j:Int) by
   have e:IntKind.i64.wrap (i0:Int)=(i0:Int):=by rw[IntKind.wrap_i64]; omega
   rw[e,IntKind.wrap_i64]
   omega)
  have hx0:=HX0.out
  have hjm:(j:Int)<(m:Int):=by omega
  have hmb:(m:Int)≤2048:=by omega
  clear hgb hrng hys hye hdrop hw2 hE hal hpl
  go_wp2_with (first
   | (refine wpList_load_blk (.tmp 31) rfl rfl gb (off+j*64) rfl ys HLY.out HRY.out ?_)
   | (refine wpList_alloc_blk rfl rfl ?_)
   | (refine wpList_store_new (.tmp 12) (.tmp 32) rfl rfl wr ys rfl rfl (noughts 64) rfl (noughts_length 64) HLY.out ?_))
  have hu26:=Tryz.underlying186
  have hs26:(Tryz.prog.info? 186).map (·.size)=some (ys.map (Value.int .u8)).length:=by rw[size_blk,List.length_map,HLY.out]
  refine wp_region_noPanic ?_
  refine Tillst.region (fun W=>W.cell? ⟨l,0,none⟩=some (.pointer (some ⟨p,0,none⟩))∧W.rangeAt wr.heap.size 0 (ys.map (Value.int .u8))) [] (by kernel_rfl) ⟨HC1.out,HR1.out⟩ (fun hė=>?_)
  generalize (wr.alloc (.cells (cells8 ys) 186)).drew=vd at *
  refine tK 0 lw0 (v:=?_) ?_ hė ?_
  rotate_left
  ·intro W hSW; unfold lw0; go_simp; with_reducible rfl
  simp only[lw0,Act.put,sA,sZ,sS]
  refine tK 1 lw1 (v:=?_) ?_ hė ?_
  rotate_left
  ·intro W hSW; unfold lw1; go_simp; with_reducible rfl
  simp only[lw1,Act.put,sA,sZ,sS]
  refine tK 2 lw2 (v:=?_) ?_ hė ?_
  rotate_left
  ·intro W hSW; unfold lw2; go_simp; with_reducible rfl
  simp only[lw2,Act.put,sA,sZ,sS]
  refine tK 3 lw3 (v:=?_) ?_ hė ?_
  rotate_left
  ·intro W' hSW; have c0:=hSW.1; unfold lw3; go_simp; with_reducible rfl
  simp only[lw3,Act.put,sA,sZ,sS]
  refine tK 5 lw5 (v:=?_) ?_ hė ?_
  rotate_left
  ·intro W hSW; unfold lw5; go_simp; with_reducible rfl
  simp only[lw5,Act.put,sA,sZ,sS]
  refine tK 6 lw6 (v:=?_) ?_ hė ?_
  rotate_left
  ·intro W hSW; unfold lw6; go_simp; with_reducible rfl
  simp only[lw6,Act.put,sA,sZ,sS]
  refine tK 7 lw7 (v:=?_) ?_ hė ?_
  rotate_left
  ·intro W hSW; unfold lw7; go_simp; with_reducible rfl
  simp only[lw7,Act.put,sA,sZ,sS]
  refine tK 8 lw8 (v:=?_) ?_ hė ?_
  rotate_left
  ·intro W hSW; unfold lw8; go_simp; with_reducible rfl
  simp only[lw8,Act.put,sA,sZ,sS]
  refine tK 9 lw9 (v:=?_) ?_ hė ?_
  rotate_left
  ·intro W hSW; unfold lw9; go_simp; with_reducible rfl
  simp only[lw9,Act.put,sA,sZ,sS]
  refine tK 10 lw10 (v:=?_) ?_ hė ?_
  rotate_left
  ·intro W' hSW; refine exec_load_row (.tmp 12) 186 ?_ wr.heap.size 0 ?_ (ys.map (Value.int .u8)) _ hu26 rfl hs26 hSW.2 <;> rfl
  simp only[lw10,Act.put,sA,sZ,sS]
  refine tO 4 lw4 ?_
  intro K hK
  refine step_call 123 #[.tmp 36] #[45] rfl rfl Tryz.func123 rfl rfl [.pointer (some ⟨p,0,none⟩)] rfl ?_
  refine (sto_disk HSD.out).mono ?_
  rintro e v1 ⟨rfl,rfl⟩
  refine ⟨_,rfl,?_⟩
  simp only[lw4,Act.put,sA,sZ,sS]
  refine hK.out _ _ (fun _=>hė) (fun hė=>?_)
  replace hė:=hė (by decide)
  clear hK K
  rw[HWI.out]
  refine tO 11 lw11 ?_
  intro K hK
  refine step_call 105 #[.tmp 37,.tmp 42,.tmp 43] #[25,3,186] rfl rfl Tryz.func105 rfl rfl [.pointer (some ⟨d,0,none⟩),.int .i64 ((i0:Int)+(j:Int)),.agg (cells8 ys)] rfl ?_
  refine HWK.out.mono ?_
  rintro e v2 ⟨rfl,hd2,hk2⟩
  have HD2:=hI hd2
  have HK2:=hI hk2
  have hS2:=And.intro (show v2.cell? ⟨l,0,none⟩=some (.pointer (some ⟨p,0,none⟩)) from (hk2.cell (p:=⟨l,0,none⟩) (.inl (.inl HYL.out))).trans hė.1) (show v2.rangeAt wr.heap.size 0 (ys.map (Value.int .u8)) from fun q u hu=>(hk2.cell (p:=⟨wr.heap.size,0+q,none⟩) (.inr rfl)).trans (hė.2 q u hu))
  clear hd2 hk2
  refine ⟨_,rfl,?_⟩
  simp only[lw11,Act.put,sA,sZ,sS]
  refine hK.out _ _ (fun _=>hS2) (fun hė=>?_)
  replace hė:=hė (by decide)
  clear hK K hS2
  refine tO 12 lw12 ?_
  intro K hK
  refine step_value ?_ rfl ?_ ?_
  rotate_left
  ·unfold lw12; go_simp; with_reducible rfl
  simp only[lw12,Act.put,sA,sZ,sS]
  refine hK.out _ _ (fun _=>hė) (fun hė=>?_)
  replace hė:=hė (by decide)
  clear hK K
  refine Tillst.done (by kernel_rfl) ?_ _
  refine NoPanic.normal ?_
  clear hė
  have HKA:=hI (HKJ.out.trans (HVD.out.trans HK2.out (fun b h=>.inl (.inl h))) (fun b h=>h))
  have HSA:=hI (show StoS v2 Y p d N s t (kj.wr (Dk.put (i0+j) ys)) from ⟨HSD.out.1.kept HK2.out (.inl (.inr rfl)),HD2.out.mono (fun b hb h=>.inl h),HSD.out.2.2⟩)
  by_cases hz:E=0
  ·have hw3:=HW2.out
   rw[if_pos hz] at hw3
   have HW3:=hI hw3
   subst hz
   clear hw3
   go_wp2_with fail
   go_roundw
   case rel=>exact ⟨_,_,_,_,_,⟨j+1,by omega,(by rw[Int.natCast_add]; rfl),kj.wr (Dk.put (i0+j) ys),HSA.out,HKA.out,by rw[HW3.out]; rfl,HPN.out⟩,rfl,rfl,rfl,rfl,rfl⟩
   case measure=>simp[intOf]; omega
  ·have hw3:=HW2.out
   rw[if_neg hz] at hw3
   have HW3:=hI hw3
   have d1:(E != 0)=true:=by simpa using hz
   clear hw3 hz
   go_wp2_with fail
   go_ret
   rw[HW3.out]
   exact ⟨rfl,HSA.out,HKA.out⟩
end
end
section
def hdrL (i:Nat) (g:Int):List Int:=packL g 0 [(i:Int) / 256,(i:Int)]
theorem hdrL_length (i:Nat) (g:Int):(hdrL i g).length=64:=packL_length _ _ _ (by simp)
theorem header_any (i:Nat) (g:Int) (w:World) (hi:i≤15) (hg:1≤g∧g≤18446744073709551615) :
 Calls Tryz.prog 126 #[.int .i64 i,.int .u64 g] w fun e w'=>e=.returned (.tuple #[.agg (cells8 (hdrL i g)),.int .i64 0])∧Below w.heap.size w w':=by
 have hi2:(i:Int)≤15:=by omega
 obtain ⟨ys,hys⟩:∃ ys,hdrL i g=ys:=⟨_,rfl⟩
 have HL:=hI (show ys.length=64 by rw[← hys]; exact hdrL_length i g)
 have HY:=hI (show packL g 0 [(i:Int) / 256,(i:Int)]=ys from hys)
 rw[hys]
 clear hys
 go_enter Tryz.func126,Tryz.ntmps126
 go_wp2_with (refine wpList_alloc_blk rfl rfl ?_)
 have HA:=hI (show Arr (Value.int .u8) ((w.alloc (.cells (cells8 (noughts 64)) 186)).alloc (.cells #[.int .u8 ((i:Int) / 256),.int .u8 (i:Int)] 5)) (w.heap.size+1) 5 [(i:Int) / 256,(i:Int)] from blk_new2 w _ _ _)
 have HR:=hI (show Arr (Value.int .u8) ((w.alloc (.cells (cells8 (noughts 64)) 186)).alloc (.cells #[.int .u8 ((i:Int) / 256),.int .u8 (i:Int)] 5)) w.heap.size 186 (noughts 64) from (Blk.new w _ _).alloc _)
 have HB:=hI (((Below.refl w.heap.size w).alloc (nR _) (.cells (cells8 (noughts 64)) 186)).alloc (by simp) (.cells #[.int .u8 ((i:Int) / 256),.int .u8 (i:Int)] 5))
 refine (pack_ok g 0 _ 2 2 [(i:Int) / 256,(i:Int)] (·<_) _ (HA.out.row 0 (Blk.lt HA.out)) (fun b h=>h) hg.1 hg.2 (by omega) (by omega) (by omega)).mono ?_
 rintro e w2 ⟨rfl,hb⟩
 have HR2:=hI (show Arr (Value.int .u8) w2 w.heap.size 186 (noughts 64) from Blk.below HR.out hb (Blk.lt HR.out))
 have HB2:=hI (HB.out.trans (hb.mono HB.out.size))
 rw[HY.out]
 clear hb
 go_wp2_with (first
  | (refine wpList_store_blk (.tmp 4) (.tmp 16) rfl rfl w.heap.size ys rfl rfl 186 (noughts 64) HR2.out (noughts_length 64) HL.out ?_)
  | (with_reducible refine halt_end ?_))
 exact Halt.ret (results_blk2 (p:=4) (u:=5) rfl _ _ w.heap.size 186 ys rfl (HR2.out.setRow ys) HL.out) rfl ⟨rfl,below_setRow HB2.out (nR _) _⟩
end
section
def pickS9 (E sec:Int):Int:=if E=0 then sec else 0
def pickY9 (E:Int) (ys:List Seg):List Seg:=if E=0 then ys else []
theorem pickS9_zero (sec:Int):pickS9 0 sec=sec:=if_pos rfl
theorem pickY9_zero (ys:List Seg):pickY9 0 ys=ys:=if_pos rfl
theorem OpenT.told9 {w w':World} {sec g:Int} {xs:List Seg} {e:Ending} (h:OpenT w sec xs g e w') :
 ∃ A cap,e=.returned (.tuple #[ringV (pickS9 (openE sec xs g) sec) A (pickY9 (openE sec xs g) (openX xs g)).length cap,.int .i64 (if openE sec xs g=0 then nxtR xs else 0),.int .i64 (openE sec xs g)]) ∧
  OwnZ w' w.heap.size A (pickY9 (openE sec xs g) (openX xs g)).length cap (pickY9 (openE sec xs g) (openX xs g))∧Below w.heap.size w w':=by
 obtain ⟨⟨h0,v,rfl,A,n,cap,rfl,ho⟩ | ⟨h0,rfl⟩,hb⟩:=h
 ·unfold pickS9 pickY9
  simp only[h0,if_pos]
  obtain rfl:n=(openX xs g).length:=ho.1.symm
  exact ⟨A,cap,rfl,ho,hb⟩
 ·unfold pickS9 pickY9
  simp only[if_neg h0]
  exact ⟨none,0,rfl,⟨rfl,⟨rfl,.inl ⟨rfl,rfl⟩⟩,fun _=>rfl,nR _⟩,hb⟩
theorem OwnZ.setRow9 {w:World} {base:Nat} {A:Option Addr} {n cap:Nat} {xs:List Seg} (h:OwnZ w base A n cap xs) {g:Nat} (hg:g<base) (cs:Array Value):OwnZ (w.setRow g cs) base A n cap xs :=
 ⟨h.1,h.2.1.kept (row:=some g) ⟨rfl,rfl,rfl,by simp[World.setRow],fun k _ hne=>setRow_other w g k cs (fun e=>hne (by rw[e]))⟩ (.inr (fun e=>by have:=own_least h.2.1 e; omega)),h.2.2⟩
theorem zero_ring (w:World):(zeroValue 95).run Tryz.prog w=.ok (.agg #[.int .i64 0,.slice none 0 0]) w:=(Tryz.zeroValue95 w).trans rfl
theorem ring_one (a:Int) (A:Option Addr) (n c:Nat):(#[Value.int .i64 a,Value.slice A n c]:Array Value).all (·.oneCell')=true:=by simp[Value.oneCell']
theorem open_nxt {sec:Int} {xs:List Seg} {g:Int} (h:openE sec xs g=0):¬ nxtR xs<0:=by
 intro h3
 by_cases h0:OkR sec xs
 ·by_cases h1:0≤opnR xs
  ·rw[open_state h0 h1] at h; omega
  by_cases h2:g≤topG xs
  ·rw[open_arg h0 h1 h2] at h; omega
  rw[open_full h0 h1 h2 h3] at h
  omega
 ·rw[open_bad h0] at h; omega
def OpnC (v:World) (sec:Int) (zs:List Seg) (g:Int) (t i e:Value) (wy:World):Prop :=
 e=.int .i64 (openE sec zs g)∧i=.int .i64 (if openE sec zs g=0 then nxtR zs else 0)∧∃ nb A c,t=.pointer (some ⟨nb,0,none⟩)∧v.heap.size≤nb ∧
  Blk wy nb 95 #[.int .i64 (pickS9 (openE sec zs g) sec),.slice A (pickY9 (openE sec zs g) (openX zs g)).length c]∧OwnZ wy v.heap.size A (pickY9 (openE sec zs g) (openX zs g)).length c (pickY9 (openE sec zs g) (openX zs g))∧Below v.heap.size v wy
section
variable {v v7 v8:World} {sec:Int} {zs:List Seg} {g:Int} {A:Option Addr} {c:Nat}
theorem OpnC.call (ho:OwnZ v7 v.heap.size A (pickY9 (openE sec zs g) (openX zs g)).length c (pickY9 (openE sec zs g) (openX zs g))) (hb:Below v.heap.size v v7) :
 OpnC v sec zs g (.pointer (some ⟨v7.heap.size,0,none⟩)) (.int .i64 (if openE sec zs g=0 then nxtR zs else 0)) (.int .i64 (openE sec zs g))
  ((v7.alloc (.cells #[.int .i64 0,.slice none 0 0] 95)).setRow v7.heap.size #[.int .i64 (pickS9 (openE sec zs g) sec),.slice A (pickY9 (openE sec zs g) (openX zs g)).length c]):=by
 have h1:=below_setRow ((Below.refl v7.heap.size v7).alloc (nR _) (.cells #[.int .i64 0,.slice none 0 0] 95)) (nR _) #[.int .i64 (pickS9 (openE sec zs g) sec),.slice A (pickY9 (openE sec zs g) (openX zs g)).length c]
 exact ⟨rfl,rfl,_,A,c,rfl,hb.size,setRow_heap _ _ _ _ _ _ (Blk.new v7 _ _),ho.below h1,hb.trans (h1.mono hb.size)⟩
theorem OpnC.laid (ho:OwnZ v8 (v.alloc (.cells #[.int .i64 0,.slice none 0 0] 95)).heap.size A (pickY9 (openE sec zs g) (openX zs g)).length c (pickY9 (openE sec zs g) (openX zs g))) (hb:Below (v.alloc (.cells #[.int .i64 0,.slice none 0 0] 95)).heap.size (v.alloc (.cells #[.int .i64 0,.slice none 0 0] 95)) v8) :
 OpnC v sec zs g (.pointer (some ⟨v.heap.size,0,none⟩)) (.int .i64 (if openE sec zs g=0 then nxtR zs else 0)) (.int .i64 (openE sec zs g))
  (v8.setRow v.heap.size #[.int .i64 (pickS9 (openE sec zs g) sec),.slice A (pickY9 (openE sec zs g) (openX zs g)).length c]):=by
 have hlt:v.heap.size<(v.alloc (.cells #[.int .i64 0,.slice none 0 0] 95)).heap.size:=by simp
 have hk:=Blk.below (Blk.new v 95 #[.int .i64 0,.slice none 0 0]) hb hlt
 have h1:=((Below.refl v.heap.size v).alloc (nR _) (.cells #[.int .i64 0,.slice none 0 0] 95)).trans (hb.mono (Nat.le_of_lt hlt))
 exact ⟨rfl,rfl,_,A,c,rfl,nR _,setRow_heap _ _ _ _ _ _ hk,(ho.setRow9 hlt _).base (Nat.le_of_lt hlt),below_setRow h1 (nR _) _⟩
end
end
end Go.Proofs.YtdkbpchmnhbhcaaGreat
