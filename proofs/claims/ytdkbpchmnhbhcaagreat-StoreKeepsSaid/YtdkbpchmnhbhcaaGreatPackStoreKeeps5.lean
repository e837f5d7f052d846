/- Texts of StoreKeeps, packed. -/
import Derived.Test.YtdkbpchmnhbhcaaGreatPackStoreKeeps4
import Derived.Deep.DeepCutAuto
import Derived.Deep.Slices
import Derived.Deep.Fields
import Derived.ChangeSame
import Derived.Lib.SmallJoins
import Derived.Deep.MidRow
import Derived.Shelf.SlSortCmp.WholeK
import Derived.Ground.SlsfProg
import Derived.Test.YtdkbpchmnhbhcaaGreatProg
import Derived.Lib.Hide
import Derived.Shelf.SlSortCmp.NoneTotal
import Derived.Great.BuildSlice
import Derived.RangeFuncBox
import Derived.OneCell
import Derived.RangeFuncNested
import Derived.RangeFuncBound
import Derived.RangeFuncCalls
import Derived.RangeFuncLeaves
import Derived.RangeFuncFrom
import Derived.Shelf.Abstract
import Derived.Shelf.RegionOpen
import Derived.WalkKit
import Derived.OwnWalkIn
import Derived.TacticsInMore
import Derived.LoopNIn
import Derived.LoopIn
set_option linter.unusedVariables false
set_option linter.unusedSimpArgs false
set_option maxRecDepth 100000
set_option maxHeartbeats 16000000
namespace Go.Proofs.YtdkbpchmnhbhcaaGreat
open Go.RowKit
section
section
variable {w:World} {d H S n:Nat} {v:Value} {m:Nat} {held safe:List Int} {P:List Value} {armed fails:Int} {ops:Int}
def CG (d H S n:Nat) (v:Value) (m:Nat) (held safe:List Int) (P:List Value) (armed fails:Int) (dead:Bool) (ops:Int) (gb:Nat) (ys:List Int) (w4 w2:World):Prop :=
 Dm w2 d H S n v m held safe P armed fails dead ops∧qB w2 gb ys∧Kept (fun b=>b<gb∧b≠d) w4 w2
theorem CG.laid {gb a:Nat} {ys:List Int} {w4 w2:World} {dead:Bool} (h:CG d H S n v m held safe P armed fails dead ops gb ys w4 w2) (hd:d<a) (ha:a+1+1<gb) (x:Int) :
 CG d H S n v m held safe P armed fails dead x gb ys w4 (w2.setCell ⟨d,6,none⟩ (.int .i64 x)) :=
 ⟨h.1.ops_ x,z8.far h.2.1 (p:=⟨d,6,none⟩) (by show gb≠d; omega) _,h.2.2.setCell (fun h=>h.2 rfl) _⟩
theorem R5 {w1 w4:World} (hd1:Dm w1 d H S n v m held safe P armed fails false ops) (hk1:Kept (fun b=>b≠d) w4 w1) (xss:List (List Int)) (hs:qY xss) (hh:held=flat xss) (hn:xss.length=n) (hn2:n≤2048) (i:Nat) (hi:i<n) (a gb:Nat)
 (hgd:z8 w4 a 25 #[.pointer (some ⟨d,0,none⟩)]) (hgi:z8 w4 (a+1) 3 #[.int .i64 i]) (hgb:qB w4 gb (noughts 64)) (hda:d<a) (hag:a+1+1<gb) (hH:H<gb) (hS:S<gb) (hv:∀ g,v.ownBlock=some g→g<gb) {zs:List Int} (hzs:xss.getD i []=zs) :
 Calls Tryz.prog 174 #[.pointer (some ⟨a,0,none⟩),.pointer (some ⟨a+1,0,none⟩),.pointer (some ⟨gb,0,none⟩)] w1 fun e w2=>e=.returned (.tuple #[])∧CG d H S n v m held safe P armed fails false ops gb zs w4 w2:=by
 subst hzs
 refine (L6 hd1 xss hs hh hn hn2 i hi a (a+1) gb (noughts 64) (zC 64) (hgd.kept hk1 (by omega)) (hgi.kept hk1 (by omega)) (qF.kept hgb hk1 (by omega)) (by omega)).mono ?_
 rintro e w2 ⟨rfl,hw2⟩
 have hkk:Kept (fun b=>b≠gb) w1 w2:=by rw[hw2]; exact ((Kept.refl _ w1).drew).setRow (fun h=>h rfl) _
 refine ⟨rfl,hd1.kept hkk (by omega) (by omega) (by omega) (fun g hg=>by have:=hv g hg; omega),?_,?_⟩
 ·rw[hw2]
  exact qF.setRow (qF.kept (w':=w1.drew) hgb hk1.drew (by omega)) _
 ·exact (hk1.mono (S:=fun b=>b<gb∧b≠d) (fun b h=>h.2)).trans hkk (fun b h=>by omega)
theorem Tx (h:Dm w d H S n v m held safe P armed fails false ops) (i:Nat) (hi:i<n) (xss:List (List Int)) (hs:qY xss) (hh:held=flat xss) (hn:xss.length=n) (hn2:n≤2048) (hf0:-9223372036854775808≤fails) (hf1:fails≤9223372036854775807) (hz:fails≠0) (ha0:-9223372036854775808≤armed) (ha1:armed≤9223372036854775807) :
 Calls Tryz.prog 124 #[.pointer (some ⟨d,0,none⟩),.int .i64 i] w fun e w'=>e=.returned (.tuple #[.agg (zA (xss.getD i [])),.int .i64 0]) ∧
  Dm w' d H S n v m held safe P armed (struck fails) false (wrap64 (ops+1))∧Kept (fun b=>b<w.heap.size∧b≠d) w w':=by
 have aP:=uT Tryz.prog
 have HM:=hI h
 have qd:=hI h.blk.lt
 have hgl:=hs.get i (by omega)
 generalize hzs:xss.getD i []=zs at *
 have CS:=hI hzs
 have HS:=hI hs
 have HH:=hI hh
 have HN:=hI hn
 have HZ:=hI hz
 have Cv:=hI hgl
 clear hs hh hn hz hgl hzs
 clear h
 go_enter Tryz.func124,Tryz.ntmps124
 go_upto_region 1 with (refine zG rfl rfl ?_)
 have xw:=hI (((HM.out.alloc (.cells #[.pointer (some ⟨d,0,none⟩)] 25)).alloc (.cells #[.int .i64 i] 3)).alloc (.cells (zA (noughts 64)) 186))
 have HD3:=hI (show z8 (((w.alloc (.cells #[.pointer (some ⟨d,0,none⟩)] 25)).alloc (.cells #[.int .i64 i] 3)).alloc (.cells (zA (noughts 64)) 186)) w.heap.size 25 #[.pointer (some ⟨d,0,none⟩)] from ((z8.new w _ _).alloc _).alloc _)
 have HI3:=hI (show z8 (((w.alloc (.cells #[.pointer (some ⟨d,0,none⟩)] 25)).alloc (.cells #[.int .i64 i] 3)).alloc (.cells (zA (noughts 64)) 186)) (w.heap.size+1) 3 #[.int .i64 i] from (zY w _ _ _).alloc _)
 have HR3:=hI (show qB (((w.alloc (.cells #[.pointer (some ⟨d,0,none⟩)] 25)).alloc (.cells #[.int .i64 i] 3)).alloc (.cells (zA (noughts 64)) 186)) (w.heap.size+1+1) (noughts 64) from jw w _ _ _ _)
 have HB3:=hI (show Below w.heap.size w (((w.alloc (.cells #[.pointer (some ⟨d,0,none⟩)] 25)).alloc (.cells #[.int .i64 i] 3)).alloc (.cells (zA (noughts 64)) 186)) from (((Below.refl _ _).alloc (nR _) _).alloc (by simp) _).alloc (by simp; omega) _)
 generalize hw3:((w.alloc (.cells #[.pointer (some ⟨d,0,none⟩)] 25)).alloc (.cells #[.int .i64 i] 3)).alloc (.cells (zA (noughts 64)) 186)=w3 at *
 clear hw3
 go_wp2_with (refine zG rfl rfl ?_)
 have kM:=hI (xw.out.alloc (.cells (zA (noughts 64)) 186))
 have HD4:=hI (HD3.out.alloc (.cells (zA (noughts 64)) 186))
 have HI4:=hI (HI3.out.alloc (.cells (zA (noughts 64)) 186))
 have HR4:=hI (z8.alloc HR3.out (.cells (zA (noughts 64)) 186))
 have Z4:=hI (show qB (w3.alloc (.cells (zA (noughts 64)) 186)) w3.heap.size (noughts 64) from z8.new w3 _ _)
 have zq:=hI (show Below w.heap.size w (w3.alloc (.cells (zA (noughts 64)) 186)) from HB3.out.alloc HB3.out.size _)
 have HZ3:=hI (show w.heap.size+1+1<w3.heap.size from HR3.out.lt)
 have BF:=hI (show H<w3.heap.size from xw.out.hh.lt)
 generalize hw4:w3.alloc (.cells (zA (noughts 64)) 186)=w4 at *
 clear hw4
 have cd:=HD4.out.cell 0
 have ci:=HI4.out.cell 0
 simp only[List.getElem?_toArray,List.getElem?_cons_zero] at cd ci
 go_region_held3 (fun W=>W.cell? ⟨w.heap.size,0,none⟩=some (.pointer (some ⟨d,0,none⟩))∧W.cell? ⟨w.heap.size+1,0,none⟩=some (.int .i64 i))
  (first | exact ⟨cd,ci⟩ | exact ⟨ed,ei⟩)
  (first
    | (go_at_call 157; refine (fA kM.out.drew i hi).mono ?_; rintro e w' ⟨rfl,rfl⟩; simp only[Bool.false_eq_true,if_false,if_true])
    | (go_at_call 156; refine (RF kM.out.drew hf0 hf1 HZ.out ha0 ha1 _ _ _ (CG d H S n v m held safe P armed (struck fails) false ops w3.heap.size zs w4.drew) (fun w1 hd1 hk1=>R5 hd1 hk1 xss HS.out HH.out HN.out hn2 i hi w.heap.size w3.heap.size HD4.out HI4.out Z4.out qd.out HZ3.out BF.out xw.out.ss.lt xw.out.vlt CS.out) (fun w2 hr=>⟨hr.1.cell.2.2.2.2.2.2,hr.1.frozen 6⟩)).mono ?_; rintro e w' ⟨rfl,w2,hr,rfl⟩; have HF:=hI (hr.laid qd.out HZ3.out (wrap64 (ops+1))); have ed:=((z8.drew HD4.out).kept HF.out.2.2 ⟨by have:=HZ3.out; omega,by have:=qd.out; omega⟩).cell 0; have ei:=((z8.drew HI4.out).kept HF.out.2.2 ⟨by have:=HZ3.out; omega,by have:=qd.out; omega⟩).cell 0; simp only[List.getElem?_toArray,List.getElem?_cons_zero] at ed ei; clear hr))
 all_goals
  generalize hwf:w2.setCell ⟨d,6,none⟩ (.int .i64 (wrap64 (ops+1)))=wf at *
  have Pt:=hI (show qB wf (w.heap.size+1+1) (noughts 64) from qF.kept (w:=w4.drew) HR4.out HF.out.2.2 ⟨by have:=HZ3.out; omega,by have:=qd.out; omega⟩)
  clear ed ei cd ci
  go_wp2_with (first
   | (refine zQ (.tmp 6) rfl rfl w3.heap.size 0 rfl zs Cv.out HF.out.2.1.range ?_)
   | (refine jM (.tmp 4) (.tmp 14) rfl rfl (w.heap.size+1+1) zs rfl rfl 186 (noughts 64) Pt.out (zC 64) Cv.out ?_)
   | (with_reducible refine zJ ?_))
  have hds:d≠w.heap.size+1+1:=by have:=qd.out; omega
  refine Halt.ret (x9 (p:=4) (u:=5) rfl _ _ (w.heap.size+1+1) 186 zs rfl (Pt.out.setRow zs) Cv.out) rfl ⟨rfl,?_,?_⟩
  ·refine HF.out.1.kept ((Kept.refl (fun b=>b≠w.heap.size+1+1) wf).setRow (fun h=>h rfl) _) hds ?_ ?_ ?_
   ·have:=HM.out.hh.lt; omega
   ·have:=HM.out.ss.lt; omega
   ·intro g hg; have:=HM.out.vlt g hg; omega
  ·refine Kept.setRow ?_ (fun h=>by have:=h.1; omega) _
   exact ((Kept.of_below zq.out (S:=fun b=>b<w.heap.size∧b≠d) (fun b h=>h.1)).drew).trans HF.out.2.2 (fun b h=>⟨by have:=HZ3.out; omega,h.2⟩)
theorem zCX (h:Dm w d H S n v m held safe P armed fails false ops) (i:Nat) (hi:i<n) (hf0:-9223372036854775808≤fails) (hf1:fails≤9223372036854775807) (hz:fails=0) :
 Calls Tryz.prog 124 #[.pointer (some ⟨d,0,none⟩),.int .i64 i] w fun e w'=>e=.returned (.tuple #[.agg (zA (noughts 64)),.int .i64 8]) ∧
  Dm w' d H S n v m held safe P armed (-1) false ops∧Kept (fun b=>b<w.heap.size∧b≠d) w w':=by
 have aP:=uT Tryz.prog
 have HM:=hI h
 have qd:=hI h.blk.lt
 have HZ:=hI hz
 clear hz
 clear h
 go_enter Tryz.func124,Tryz.ntmps124
 go_upto_region 1 with (refine zG rfl rfl ?_)
 have xw:=hI (((HM.out.alloc (.cells #[.pointer (some ⟨d,0,none⟩)] 25)).alloc (.cells #[.int .i64 i] 3)).alloc (.cells (zA (noughts 64)) 186))
 have HD3:=hI (show z8 (((w.alloc (.cells #[.pointer (some ⟨d,0,none⟩)] 25)).alloc (.cells #[.int .i64 i] 3)).alloc (.cells (zA (noughts 64)) 186)) w.heap.size 25 #[.pointer (some ⟨d,0,none⟩)] from ((z8.new w _ _).alloc _).alloc _)
 have HI3:=hI (show z8 (((w.alloc (.cells #[.pointer (some ⟨d,0,none⟩)] 25)).alloc (.cells #[.int .i64 i] 3)).alloc (.cells (zA (noughts 64)) 186)) (w.heap.size+1) 3 #[.int .i64 i] from (zY w _ _ _).alloc _)
 have HR3:=hI (show qB (((w.alloc (.cells #[.pointer (some ⟨d,0,none⟩)] 25)).alloc (.cells #[.int .i64 i] 3)).alloc (.cells (zA (noughts 64)) 186)) (w.heap.size+1+1) (noughts 64) from jw w _ _ _ _)
 have HB3:=hI (show Below w.heap.size w (((w.alloc (.cells #[.pointer (some ⟨d,0,none⟩)] 25)).alloc (.cells #[.int .i64 i] 3)).alloc (.cells (zA (noughts 64)) 186)) from (((Below.refl _ _).alloc (nR _) _).alloc (by simp) _).alloc (by simp; omega) _)
 generalize hw3:((w.alloc (.cells #[.pointer (some ⟨d,0,none⟩)] 25)).alloc (.cells #[.int .i64 i] 3)).alloc (.cells (zA (noughts 64)) 186)=w3 at *
 clear hw3
 go_wp2_with (refine zG rfl rfl ?_)
 have kM:=hI (xw.out.alloc (.cells (zA (noughts 64)) 186))
 have HD4:=hI (HD3.out.alloc (.cells (zA (noughts 64)) 186))
 have HI4:=hI (HI3.out.alloc (.cells (zA (noughts 64)) 186))
 have HR4:=hI (z8.alloc HR3.out (.cells (zA (noughts 64)) 186))
 have Z4:=hI (show qB (w3.alloc (.cells (zA (noughts 64)) 186)) w3.heap.size (noughts 64) from z8.new w3 _ _)
 have zq:=hI (show Below w.heap.size w (w3.alloc (.cells (zA (noughts 64)) 186)) from HB3.out.alloc HB3.out.size _)
 have HZ3:=hI (show w.heap.size+1+1<w3.heap.size from HR3.out.lt)
 have BF:=hI (show H<w3.heap.size from xw.out.hh.lt)
 generalize hw4:w3.alloc (.cells (zA (noughts 64)) 186)=w4 at *
 clear hw4
 have cd:=HD4.out.cell 0
 have ci:=HI4.out.cell 0
 simp only[List.getElem?_toArray,List.getElem?_cons_zero] at cd ci
 go_region_held3 (fun W=>W.cell? ⟨w.heap.size,0,none⟩=some (.pointer (some ⟨d,0,none⟩))∧W.cell? ⟨w.heap.size+1,0,none⟩=some (.int .i64 i))
  (first | exact ⟨cd,ci⟩ | exact ⟨ed,ei⟩)
  (first
    | (go_at_call 157; refine (fA kM.out.drew i hi).mono ?_; rintro e w' ⟨rfl,rfl⟩; simp only[Bool.false_eq_true,if_false,if_true])
    | (go_at_call 156; refine (Ad kM.out.drew hf0 hf1 HZ.out _).mono ?_; rintro e wf ⟨rfl,hd,hk⟩; have HF:=hI (show CG d H S n v m held safe P armed (-1) false ops w3.heap.size (noughts 64) w4.drew wf from ⟨hd,qF.kept (w:=w4.drew) Z4.out hk (by show w3.heap.size≠d; have:=qd.out; have:=HZ3.out; omega),hk.mono (fun b h=>h.2)⟩); have ed:=((z8.drew HD4.out).kept HF.out.2.2 ⟨by have:=HZ3.out; omega,by have:=qd.out; omega⟩).cell 0; have ei:=((z8.drew HI4.out).kept HF.out.2.2 ⟨by have:=HZ3.out; omega,by have:=qd.out; omega⟩).cell 0; simp only[List.getElem?_toArray,List.getElem?_cons_zero] at ed ei; clear hk; clear hd))
 all_goals
  have Pt:=hI (show qB wf (w.heap.size+1+1) (noughts 64) from qF.kept (w:=w4.drew) HR4.out HF.out.2.2 ⟨by have:=HZ3.out; omega,by have:=qd.out; omega⟩)
  clear ed ei cd ci
  go_wp2_with (first
   | (refine zQ (.tmp 6) rfl rfl w3.heap.size 0 rfl (noughts 64) (zC 64) HF.out.2.1.range ?_)
   | (refine jM (.tmp 4) (.tmp 14) rfl rfl (w.heap.size+1+1) (noughts 64) rfl rfl 186 (noughts 64) Pt.out (zC 64) (zC 64) ?_)
   | (with_reducible refine zJ ?_))
  have hds:d≠w.heap.size+1+1:=by have:=qd.out; omega
  refine Halt.ret (x9 (p:=4) (u:=5) rfl _ _ (w.heap.size+1+1) 186 (noughts 64) rfl (Pt.out.setRow (noughts 64)) (zC 64)) rfl ⟨rfl,?_,?_⟩
  ·refine HF.out.1.kept ((Kept.refl (fun b=>b≠w.heap.size+1+1) wf).setRow (fun h=>h rfl) _) hds ?_ ?_ ?_
   ·have:=HM.out.hh.lt; omega
   ·have:=HM.out.ss.lt; omega
   ·intro g hg; have:=HM.out.vlt g hg; omega
  ·refine Kept.setRow ?_ (fun h=>by have:=h.1; omega) _
   exact ((Kept.of_below zq.out (S:=fun b=>b<w.heap.size∧b≠d) (fun b h=>h.1)).drew).trans HF.out.2.2 (fun b h=>⟨by have:=HZ3.out; omega,h.2⟩)
theorem Tz (h:Dm w d H S n v m held safe P armed fails true ops) (i:Nat) (hi:i<n) :
 Calls Tryz.prog 124 #[.pointer (some ⟨d,0,none⟩),.int .i64 i] w fun e w'=>e=.returned (.tuple #[.agg (zA (noughts 64)),.int .i64 7]) ∧
  Dm w' d H S n v m held safe P armed fails true ops∧Kept (fun b=>b<w.heap.size∧b≠d) w w':=by
 have aP:=uT Tryz.prog
 have HM:=hI h
 have qd:=hI h.blk.lt
 clear h
 go_enter Tryz.func124,Tryz.ntmps124
 go_upto_region 1 with (refine zG rfl rfl ?_)
 have xw:=hI (((HM.out.alloc (.cells #[.pointer (some ⟨d,0,none⟩)] 25)).alloc (.cells #[.int .i64 i] 3)).alloc (.cells (zA (noughts 64)) 186))
 have HD3:=hI (show z8 (((w.alloc (.cells #[.pointer (some ⟨d,0,none⟩)] 25)).alloc (.cells #[.int .i64 i] 3)).alloc (.cells (zA (noughts 64)) 186)) w.heap.size 25 #[.pointer (some ⟨d,0,none⟩)] from ((z8.new w _ _).alloc _).alloc _)
 have HI3:=hI (show z8 (((w.alloc (.cells #[.pointer (some ⟨d,0,none⟩)] 25)).alloc (.cells #[.int .i64 i] 3)).alloc (.cells (zA (noughts 64)) 186)) (w.heap.size+1) 3 #[.int .i64 i] from (zY w _ _ _).alloc _)
 have HR3:=hI (show qB (((w.alloc (.cells #[.pointer (some ⟨d,0,none⟩)] 25)).alloc (.cells #[.int .i64 i] 3)).alloc (.cells (zA (noughts 64)) 186)) (w.heap.size+1+1) (noughts 64) from jw w _ _ _ _)
 have HB3:=hI (show Below w.heap.size w (((w.alloc (.cells #[.pointer (some ⟨d,0,none⟩)] 25)).alloc (.cells #[.int .i64 i] 3)).alloc (.cells (zA (noughts 64)) 186)) from (((Below.refl _ _).alloc (nR _) _).alloc (by simp) _).alloc (by simp; omega) _)
 generalize hw3:((w.alloc (.cells #[.pointer (some ⟨d,0,none⟩)] 25)).alloc (.cells #[.int .i64 i] 3)).alloc (.cells (zA (noughts 64)) 186)=w3 at *
 clear hw3
 go_wp2_with (refine zG rfl rfl ?_)
 have kM:=hI (xw.out.alloc (.cells (zA (noughts 64)) 186))
 have HD4:=hI (HD3.out.alloc (.cells (zA (noughts 64)) 186))
 have HI4:=hI (HI3.out.alloc (.cells (zA (noughts 64)) 186))
 have HR4:=hI (z8.alloc HR3.out (.cells (zA (noughts 64)) 186))
 have Z4:=hI (show qB (w3.alloc (.cells (zA (noughts 64)) 186)) w3.heap.size (noughts 64) from z8.new w3 _ _)
 have zq:=hI (show Below w.heap.size w (w3.alloc (.cells (zA (noughts 64)) 186)) from HB3.out.alloc HB3.out.size _)
 have HZ3:=hI (show w.heap.size+1+1<w3.heap.size from HR3.out.lt)
 have BF:=hI (show H<w3.heap.size from xw.out.hh.lt)
 generalize hw4:w3.alloc (.cells (zA (noughts 64)) 186)=w4 at *
 clear hw4
 have cd:=HD4.out.cell 0
 have ci:=HI4.out.cell 0
 simp only[List.getElem?_toArray,List.getElem?_cons_zero] at cd ci
 go_region_held3 (fun W=>W.cell? ⟨w.heap.size,0,none⟩=some (.pointer (some ⟨d,0,none⟩))∧W.cell? ⟨w.heap.size+1,0,none⟩=some (.int .i64 i))
  (first | exact ⟨cd,ci⟩ | exact ⟨ed,ei⟩)
  (first
    | (go_at_call 157; refine (fA kM.out.drew i hi).mono ?_; rintro e w' ⟨rfl,rfl⟩; simp only[Bool.false_eq_true,if_false,if_true])
    | (go_at_call 156; refine (mO _ d 7 (by decide) false _).mono ?_; rintro e wf ⟨rfl,JB⟩; have hk:Kept (fun b=>b≠d) w4.drew wf:=(by rw[← JB]; exact Kept.refl _ _); have HF:=hI (show CG d H S n v m held safe P armed fails true ops w3.heap.size (noughts 64) w4.drew wf from ⟨(by rw[← JB]; exact kM.out.drew),qF.kept (w:=w4.drew) Z4.out hk (by show w3.heap.size≠d; have:=qd.out; have:=HZ3.out; omega),hk.mono (fun b h=>h.2)⟩); have ed:=((z8.drew HD4.out).kept HF.out.2.2 ⟨by have:=HZ3.out; omega,by have:=qd.out; omega⟩).cell 0; have ei:=((z8.drew HI4.out).kept HF.out.2.2 ⟨by have:=HZ3.out; omega,by have:=qd.out; omega⟩).cell 0; simp only[List.getElem?_toArray,List.getElem?_cons_zero] at ed ei; clear hk; clear JB))
 all_goals
  have Pt:=hI (show qB wf (w.heap.size+1+1) (noughts 64) from qF.kept (w:=w4.drew) HR4.out HF.out.2.2 ⟨by have:=HZ3.out; omega,by have:=qd.out; omega⟩)
  clear ed ei cd ci
  go_wp2_with (first
   | (refine zQ (.tmp 6) rfl rfl w3.heap.size 0 rfl (noughts 64) (zC 64) HF.out.2.1.range ?_)
   | (refine jM (.tmp 4) (.tmp 14) rfl rfl (w.heap.size+1+1) (noughts 64) rfl rfl 186 (noughts 64) Pt.out (zC 64) (zC 64) ?_)
   | (with_reducible refine zJ ?_))
  have hds:d≠w.heap.size+1+1:=by have:=qd.out; omega
  refine Halt.ret (x9 (p:=4) (u:=5) rfl _ _ (w.heap.size+1+1) 186 (noughts 64) rfl (Pt.out.setRow (noughts 64)) (zC 64)) rfl ⟨rfl,?_,?_⟩
  ·refine HF.out.1.kept ((Kept.refl (fun b=>b≠w.heap.size+1+1) wf).setRow (fun h=>h rfl) _) hds ?_ ?_ ?_
   ·have:=HM.out.hh.lt; omega
   ·have:=HM.out.ss.lt; omega
   ·intro g hg; have:=HM.out.vlt g hg; omega
  ·refine Kept.setRow ?_ (fun h=>by have:=h.1; omega) _
   exact ((Kept.of_below zq.out (S:=fun b=>b<w.heap.size∧b≠d) (fun b h=>h.1)).drew).trans HF.out.2.2 (fun b h=>⟨by have:=HZ3.out; omega,h.2⟩)
end
end
section
structure Dk where
 safe:List (List Int)
 pend:List (Nat × List Int)
 armed:Int
 fails:Int
 dead:Bool
 ops:Int
def Dk.held (k:Dk):List (List Int):=over k.safe k.pend
structure Dk.Ok (k:Dk) (n:Nat):Prop where
 secs:qY k.safe
 len:k.safe.length=n
 small:n≤2048
 byt:∀ i,Bytes (k.safe.getD i [])
 fits:Fits n k.pend
 a0:-9223372036854775808≤k.armed
 a1:k.armed≤9223372036854775807
 f0:-9223372036854775808≤k.fails
 f1:k.fails≤9223372036854775807
def eX (n:Nat):List (List Int):=List.replicate n (noughts 64)
def Dk.fresh (n:Nat):Dk:={ safe:=eX n,pend:=[],armed:=-1,fails:=-1,dead:=false,ops:=0 }
def Dk.rde (k:Dk):Int:=if k.dead then 7 else if k.fails=0 then 8 else 0
def Dk.rdv (k:Dk) (i:Nat):List Int:=if k.dead then noughts 64 else if k.fails=0 then noughts 64 else k.held.getD i []
def Dk.rd (k:Dk):Dk:=if k.dead then k else if k.fails=0 then { k with fails:=-1 } else { k with fails:=struck k.fails,ops:=wrap64 (k.ops+1) }
def Dk.wre (k:Dk):Int:=if k.dead then 7 else if k.fails=0 then 8 else if k.armed=0 then 7 else 0
def Dk.wr (k:Dk) (f:Dk→Dk):Dk:=if k.dead then k else if k.fails=0 then { k with fails:=-1 } else if k.armed=0 then { k with fails:=struck k.fails,armed:=-1,dead:=true } else f { k with fails:=struck k.fails,armed:=struck k.armed,ops:=wrap64 (k.ops+1) }
def Dk.put (i:Nat) (ys:List Int) (k:Dk):Dk:={ k with pend:=k.pend++[(i,ys)] }
def Dk.sync (k:Dk):Dk:={ k with safe:=k.held,pend:=[] }
theorem Qn {c:Int} (h0:-9223372036854775808≤c) (h1:c≤9223372036854775807):-9223372036854775808≤struck c∧struck c≤9223372036854775807:=by
 unfold struck
 split <;> omega
theorem uL:Bytes []:=fun j=>by simp
theorem Ul {L:List (List Int)} (h:∀ i,Bytes (L.getD i [])) (k:Nat) {ys:List Int} (hy:Bytes ys) (i:Nat):Bytes ((L.set k ys).getD i []):=by
 have h1:=h i
 simp only[List.getD,List.getElem?_set] at *
 by_cases e:k=i
 ·rw[if_pos e]
  by_cases e2:k<L.length
  ·rw[if_pos e2]; exact hy
  ·rw[if_neg e2]; exact uL
 ·rw[if_neg e]; exact h1
theorem RL {l:List (Nat × List Int)} (hl:∀ p∈l,Bytes p.2):∀ {s:List (List Int)},(∀ i,Bytes (s.getD i []))→∀ i,Bytes ((over s l).getD i []):=by
 induction l with
 | nil=>intro s h; exact h
 | cons p r ih =>
  intro s h
  exact ih (fun q hq=>hl q (List.mem_cons_of_mem _ hq)) (Ul h p.1 (hl p (List.mem_cons_self ..)))
section
variable {k:Dk} {n:Nat}
theorem Dk.Ok.heldSecs (h:k.Ok n):qY k.held:=aF h.secs (fun p hp=>(h.fits p hp).2.1)
theorem Dk.Ok.heldLen (h:k.Ok n):k.held.length=n:=by rw[Dk.held,pW,h.len]
theorem Dk.Ok.heldBytes (h:k.Ok n):∀ i,Bytes (k.held.getD i []):=RL (fun p hp=>(h.fits p hp).2.2) h.byt
theorem Dk.Ok.rd (h:k.Ok n):k.rd.Ok n:=by
 unfold Dk.rd
 have hs:=Qn h.f0 h.f1
 split
 ·exact h
 split
 ·exact { h with f0:=by show (-9223372036854775808:Int)≤-1; omega,f1:=by show (-1:Int)≤9223372036854775807; omega }
 ·exact { h with f0:=hs.1,f1:=hs.2 }
theorem Dk.Ok.wr (h:k.Ok n) {f:Dk→Dk} (hf:∀ k',k'.safe=k.safe→k'.pend=k.pend→k'.Ok n→(f k').Ok n):(k.wr f).Ok n:=by
 unfold Dk.wr
 have hs:=Qn h.f0 h.f1
 have ha:=Qn h.a0 h.a1
 split
 ·exact h
 split
 ·exact { h with f0:=by show (-9223372036854775808:Int)≤-1; omega,f1:=by show (-1:Int)≤9223372036854775807; omega }
 split
 ·exact { h with f0:=hs.1,f1:=hs.2,a0:=by show (-9223372036854775808:Int)≤-1; omega,a1:=by show (-1:Int)≤9223372036854775807; omega }
 ·exact hf _ rfl rfl { h with f0:=hs.1,f1:=hs.2,a0:=ha.1,a1:=ha.2 }
theorem Dk.Ok.put (h:k.Ok n) {i:Nat} (hi:i<n) {ys:List Int} (hy:ys.length=64) (hb:Bytes ys):(k.put i ys).Ok n :=
 have hf:Fits n (k.pend++[(i,ys)]):=fun p hp=>by
  rcases List.mem_append.1 hp with h1 | h1
  ·exact h.fits p h1
  ·obtain rfl:p=(i,ys):=by simpa using h1
   exact ⟨hi,hy,hb⟩
 { h with fits:=hf }
theorem Dk.Ok.sync (h:k.Ok n):k.sync.Ok n :=
 { h with secs:=h.heldSecs,len:=h.heldLen,byt:=h.heldBytes,fits:=fun p hp=>(by cases hp) }
theorem FZ (n:Nat):∀ i,Bytes ((Dk.fresh n).safe.getD i []):=fun i=>by
 by_cases hi:i<n
 ·have:(Dk.fresh n).safe.getD i []=noughts 64:=by simp[Dk.fresh,eX,List.getD,hi]
  rw[this]; exact dn 64
 ·have:(Dk.fresh n).safe.getD i []=[]:=by simp[Dk.fresh,eX,List.getD,hi]
  rw[this]; exact uL
theorem Dk.Ok.fresh {n:Nat} (h:n≤2048):(Dk.fresh n).Ok n :=
 { small := h, secs := fun xs hx => by rw [List.eq_of_mem_replicate hx, zC], len := by simp [Dk.fresh, eX], fits := fun p hp => (by cases hp),
   byt:=FZ n,
   a0:=by show (-9223372036854775808:Int)≤-1; omega,a1:=by show (-1:Int)≤9223372036854775807; omega,f0:=by show (-9223372036854775808:Int)≤-1; omega,f1:=by show (-1:Int)≤9223372036854775807; omega }
end
def CK (X:Nat→Prop) (d H S:Nat) (v:Value):Prop:=¬ X d∧¬ X H∧¬ X S∧∀ g,v.ownBlock=some g→¬ X g
def jL (w:World) (X:Nat→Prop) (d n:Nat) (k:Dk):Prop :=
 k.Ok n∧∃ H S v,Dm w d H S n v k.pend.length (flat k.held) (flat k.safe) (yE k.pend) k.armed k.fails k.dead k.ops∧CK X d H S v
section
variable {w w':World} {X Y:Nat→Prop} {d n:Nat} {k:Dk}
theorem jL.ok (h:jL w X d n k):k.Ok n:=h.1
theorem jL.lt (h:jL w X d n k):d<w.heap.size:=by
 obtain ⟨_,H,S,v,h,_⟩:=h
 exact h.blk.lt
theorem jL.off (h:jL w X d n k):¬ X d:=by
 obtain ⟨_,H,S,v,_,h⟩:=h
 exact h.1
theorem jL.kept (h:jL w X d n k) {Z:Nat→Prop} (hk:Kept Z w w') (hZ:∀ b,b<w.heap.size→¬ X b→Z b) (hY:∀ b,b<w.heap.size→Y b→X b):jL w' Y d n k:=by
 obtain ⟨h1,H,S,v,h,hd,hH,hS,hv⟩:=h
 have l1:=h.blk.lt
 have l2:=h.hh.lt
 have l3:=h.ss.lt
 exact ⟨h1,H,S,v,h.kept hk (hZ d l1 hd) (hZ H l2 hH) (hZ S l3 hS) (fun g hg=>hZ g (h.vlt g hg) (hv g hg)),fun y=>hd (hY d l1 y),fun y=>hH (hY H l2 y),fun y=>hS (hY S l3 y),fun g hg y=>hv g hg (hY g (h.vlt g hg) y)⟩
theorem jL.below (h:jL w X d n k) (hb:Below w.heap.size w w') (hY:∀ b,b<w.heap.size→Y b→X b):jL w' Y d n k :=
 h.kept (Z:=fun b=>b<w.heap.size) (Kept.of_below hb (fun b h=>h)) (fun b h _=>h) hY
theorem jL.mono (h:jL w X d n k) (hY:∀ b,b<w.heap.size→Y b→X b):jL w Y d n k:=h.below (Below.refl _ _) hY
theorem jL.drewN (h:jL w X d n k) (j:Nat):jL (w.drewN j) X d n k:=h.below (below_drewN (Below.refl _ _) j) (fun b _ h=>h)
theorem lD.disk {H S:Nat} {v:Value} {m:Nat} {held safe:List Int} {P:List Value} {armed fails:Int} {dead:Bool} {ops:Int} (h:lD d H S n v m held safe P armed fails dead ops w w') (ho:CK X d H S v) (hX:∀ b,X b→b<w.heap.size) :
 ∃ v',Dm w' d H S n v' m held safe P armed fails dead ops∧CK X d H S v'∧Kept X w w':=by
 obtain ⟨v',h1,h2,h3⟩:=h
 refine ⟨v',h1,⟨ho.1,ho.2.1,ho.2.2.1,fun g hg x=>?_⟩,h3.mono (fun b x=>⟨hX b x,fun e=>ho.1 (e▸x),fun e=>ho.2.1 (e▸x),fun e=>ho.2.2.1 (e▸x),fun e=>ho.2.2.2 b e x⟩)⟩
 rcases h2 g hg with e | e
 ·exact ho.2.2.2 g e x
 ·exact absurd (hX g x) (by omega)
theorem zJV (h:jL w X d n k):Calls Tryz.prog 155 #[.pointer (some ⟨d,0,none⟩)] w fun e w'=>e=.returned (.int .i64 n)∧w=w':=by
 obtain ⟨_,H,S,v,h,_⟩:=h
 exact zCv h
theorem zEC (h:jL w X d n k) (hX:∀ b,X b→b<w.heap.size) (i:Nat) (hi:i<n) :
 Calls Tryz.prog 124 #[.pointer (some ⟨d,0,none⟩),.int .i64 i] w fun e w'=>e=.returned (.tuple #[.agg (zA (k.rdv i)),.int .i64 k.rde])∧jL w' X d n k.rd∧Kept X w w':=by
 obtain ⟨hok,H,S,v,h,ho⟩:=h
 have hkx:∀ {u},Kept (fun b=>b<w.heap.size∧b≠d) w u→Kept X w u:=fun hk=>hk.mono (fun b x=>⟨hX b x,fun e=>ho.1 (e▸x)⟩)
 have hok':=hok.rd
 obtain ⟨safe,pend,armed,fails,dead,ops⟩:=k
 unfold Dk.rde Dk.rdv
 unfold Dk.rd at hok' ⊢
 simp only[] at h hok' ⊢
 cases dead
 ·simp only[Bool.false_eq_true,if_false] at hok' ⊢
  by_cases hz:fails=0
  ·simp only[hz,if_true] at hok' ⊢
   subst hz
   refine (zCX h i hi hok.f0 hok.f1 rfl).mono ?_
   rintro e u ⟨rfl,h1,h2⟩
   exact ⟨rfl,⟨hok',H,S,v,h1,ho⟩,hkx h2⟩
  ·simp only[hz,if_false] at hok' ⊢
   refine (Tx h i hi _ hok.heldSecs rfl hok.heldLen hok.small hok.f0 hok.f1 hz hok.a0 hok.a1).mono ?_
   rintro e u ⟨rfl,h1,h2⟩
   exact ⟨rfl,⟨hok',H,S,v,h1,ho⟩,hkx h2⟩
 ·simp only[if_true] at hok' ⊢
  refine (Tz h i hi).mono ?_
  rintro e u ⟨rfl,h1,h2⟩
  exact ⟨rfl,⟨hok',H,S,v,h1,ho⟩,hkx h2⟩
theorem Jo (h:jL w X d n k) (hX:∀ b,X b→b<w.heap.size) (i:Nat) (hi:i<n) (ys:List Int) (hy:ys.length=64) (hby:Bytes ys) (hm:k.pend.length≤1000000) :
 Calls Tryz.prog 105 #[.pointer (some ⟨d,0,none⟩),.int .i64 i,.agg (zA ys)] w fun e w'=>e=.returned (.int .i64 k.wre)∧jL w' X d n (k.wr (Dk.put i ys))∧Kept X w w':=by
 obtain ⟨hok,H,S,v,h,ho⟩:=h
 have hok':=hok.wr (f:=Dk.put i ys) (fun k' _ _ h=>h.put hi hy hby)
 obtain ⟨safe,pend,armed,fails,dead,ops⟩:=k
 unfold Dk.wre
 unfold Dk.wr at hok' ⊢
 simp only[] at h hok' hm ⊢
 cases dead
 ·simp only[Bool.false_eq_true,if_false] at hok' ⊢
  by_cases hz:fails=0
  ·simp only[hz,if_true] at hok' ⊢
   subst hz
   refine (Og h i hi ys hy hok.f0 hok.f1 rfl).mono ?_
   rintro e u ⟨rfl,h1⟩
   obtain ⟨v',h1,h2,h3⟩:=h1.sy.disk ho hX
   exact ⟨rfl,⟨hok',H,S,v',h1,h2⟩,h3⟩
  simp only[hz,if_false] at hok' ⊢
  by_cases ha:armed=0
  ·simp only[ha,if_true] at hok' ⊢
   subst ha
   refine (TP h i hi ys hy hok.f0 hok.f1 hz hok.a0 hok.a1 rfl).mono ?_
   rintro e u ⟨rfl,h1⟩
   obtain ⟨v',h1,h2,h3⟩:=h1.sy.disk ho hX
   exact ⟨rfl,⟨hok',H,S,v',h1,h2⟩,h3⟩
  simp only[ha,if_false] at hok' ⊢
  refine (NR h i hi ys hy _ hok.heldSecs rfl hok.heldLen hok.small hok.f0 hok.f1 hz hok.a0 hok.a1 ha hm).mono ?_
  rintro e u ⟨rfl,h1⟩
  obtain ⟨v',h1,h2,h3⟩:=h1.sy.disk ho hX
  refine ⟨rfl,⟨hok',H,S,v',?_,h2⟩,h3⟩
  have e1:flat (Dk.held (Dk.put i ys { safe:=safe,pend:=pend,armed:=struck armed,fails:=struck fails,dead:=false,ops:=wrap64 (ops+1) }))=flat ((over safe pend).set i ys):=by
   show flat (over safe (pend++[(i,ys)]))=_
   rw[Qz]
  rw[e1]
  show Dm u d H S n v' (pend++[(i,ys)]).length _ _ (yE (pend++[(i,ys)])) _ _ _ _
  rw[List.length_append,JM,UW]
  exact h1
 ·simp only[if_true] at hok' ⊢
  refine (NS h i hi ys hy).mono ?_
  rintro e u ⟨rfl,h1⟩
  obtain ⟨v',h1,h2,h3⟩:=h1.sy.disk ho hX
  exact ⟨rfl,⟨hok',H,S,v',h1,h2⟩,h3⟩
theorem Qm (h:jL w X d n k) (hX:∀ b,X b→b<w.heap.size) :
 Calls Tryz.prog 108 #[.pointer (some ⟨d,0,none⟩)] w fun e w'=>e=.returned (.int .i64 k.wre)∧jL w' X d n (k.wr Dk.sync)∧Kept X w w':=by
 obtain ⟨hok,H,S,v,h,ho⟩:=h
 have hok':=hok.wr (f:=Dk.sync) (fun k' _ _ h=>h.sync)
 obtain ⟨safe,pend,armed,fails,dead,ops⟩:=k
 unfold Dk.wre
 unfold Dk.wr at hok' ⊢
 simp only[] at h hok' ⊢
 cases dead
 ·simp only[Bool.false_eq_true,if_false] at hok' ⊢
  by_cases hz:fails=0
  ·simp only[hz,if_true] at hok' ⊢
   subst hz
   refine (zCS h hok.f0 hok.f1 rfl).mono ?_
   rintro e u ⟨rfl,h1⟩
   obtain ⟨v',h1,h2,h3⟩:=h1.disk ho hX
   exact ⟨rfl,⟨hok',H,S,v',h1,h2⟩,h3⟩
  simp only[hz,if_false] at hok' ⊢
  by_cases ha:armed=0
  ·simp only[ha,if_true] at hok' ⊢
   subst ha
   refine (AB h hok.f0 hok.f1 hz hok.a0 hok.a1 rfl).mono ?_
   rintro e u ⟨rfl,h1⟩
   obtain ⟨v',h1,h2,h3⟩:=h1.disk ho hX
   exact ⟨rfl,⟨hok',H,S,v',h1,h2⟩,h3⟩
  simp only[ha,if_false] at hok' ⊢
  refine (Ta h hok.secs rfl hok.len hok.small hok.fits hok.f0 hok.f1 hz hok.a0 hok.a1 ha).mono ?_
  rintro e u ⟨rfl,h1⟩
  obtain ⟨v',h1,h2,h3⟩:=h1.disk ho hX
  exact ⟨rfl,⟨hok',H,S,v',h1,h2⟩,h3⟩
 ·simp only[if_true] at hok' ⊢
  refine (Tc h).mono ?_
  rintro e u ⟨rfl,h1⟩
  obtain ⟨v',h1,h2,h3⟩:=h1.disk ho hX
  exact ⟨rfl,⟨hok',H,S,v',h1,h2⟩,h3⟩
end
end
section
theorem PZ (n:Nat):flat (eX n)=noughts (n*64):=by
 induction n with
 | zero=>rfl
 | succ n ih =>
  have e:eX (n+1)=[noughts 64]++eX n:=by simp[eX,List.replicate_succ]
  rw[e,jm,yJ,ih]
  simp only[noughts,List.replicate_append_replicate]
  congr 1
  omega
theorem BM (k:Nat) (hk:k≤2199023255552) (w:World):(Instr.makeSlice 178 (.int .i64 k) (.int .i64 k)).run Tryz.prog w=.ok (.slice (some ⟨w.heap.size,0,none⟩) k k) (w.alloc (.cells (zA (noughts (k*64))) 186)):=by
 obtain ⟨i0,hi,hz0,hz1,hz2⟩:=info_parts uy
 have hr:=run_make (P:=Tryz.prog) w 178 186 i0 (.agg (zA (noughts 64))) Tryz.underlying178 hi hz0 .i64 .i64 k k (by omega) (by omega) (by rw[hz2]; omega) (by omega)
 simp only[Int.toNat_natCast,hz1,Value.cells,P5] at hr
 exact hr
section
variable {w w':World} {X Y:Nat→Prop} {d n:Nat} {k:Dk}
theorem Ki {w:World} {H S n:Nat} {w1:World} (hn2:n≤2048) (hH:qB w1 H (noughts (n*64))) (hS:qB w1 S (noughts (n*64))) (hne:H≠S) (h1:w.heap.size≤H) (h2:w.heap.size≤S) (hb:Below w.heap.size w w1) :
 jL (w1.alloc (.cells #[.slice (some ⟨H,0,none⟩) n n,.slice (some ⟨S,0,none⟩) n n,.slice none 0 0,.int .i64 (-1),.int .i64 (-1),.bool false,.int .i64 0] 182)) (fun b=>b<w.heap.size) w1.heap.size n (Dk.fresh n):=by
 refine ⟨Dk.Ok.fresh hn2,H,S,.slice none 0 0,⟨z8.new w1 _ _,?_,?_,⟨rfl,.inl ⟨rfl,rfl⟩⟩,hne⟩,by have:=hb.size; omega,by omega,by omega,fun g hg=>(by simp[Value.ownBlock] at hg)⟩
 ·show qB _ H (flat (over (eX n) []))
  rw[Aj,PZ]
  exact z8.alloc hH _
 ·show qB _ S (flat (eX n))
  rw[PZ]
  exact z8.alloc hS _
theorem SH {w:World} {H S n:Nat} (hn2:n≤2048) (h:H=w.heap.size∧S=w.heap.size+1∨H=w.heap.size+1∧S=w.heap.size) :
 jL (((w.alloc (.cells (zA (noughts (n*64))) 186)).alloc (.cells (zA (noughts (n*64))) 186)).alloc (.cells #[.slice (some ⟨H,0,none⟩) n n,.slice (some ⟨S,0,none⟩) n n,.slice none 0 0,.int .i64 (-1),.int .i64 (-1),.bool false,.int .i64 0] 182)).drew (fun b=>b<w.heap.size) (w.heap.size+1+1) n (Dk.fresh n) ∧
  Below w.heap.size w (((w.alloc (.cells (zA (noughts (n*64))) 186)).alloc (.cells (zA (noughts (n*64))) 186)).alloc (.cells #[.slice (some ⟨H,0,none⟩) n n,.slice (some ⟨S,0,none⟩) n n,.slice none 0 0,.int .i64 (-1),.int .i64 (-1),.bool false,.int .i64 0] 182)).drew:=by
 have g0:qB ((w.alloc (.cells (zA (noughts (n*64))) 186)).alloc (.cells (zA (noughts (n*64))) 186)) w.heap.size (noughts (n*64)):=(z8.new w _ _).alloc _
 have g1:qB ((w.alloc (.cells (zA (noughts (n*64))) 186)).alloc (.cells (zA (noughts (n*64))) 186)) (w.heap.size+1) (noughts (n*64)):=zY w _ _ _
 have hb:Below w.heap.size w ((w.alloc (.cells (zA (noughts (n*64))) 186)).alloc (.cells (zA (noughts (n*64))) 186)):=((Below.refl _ _).alloc (nR _) _).alloc (by simp) _
 have hs:((w.alloc (.cells (zA (noughts (n*64))) 186)).alloc (.cells (zA (noughts (n*64))) 186)).heap.size=w.heap.size+1+1:=by simp
 generalize (w.alloc (.cells (zA (noughts (n*64))) 186)).alloc (.cells (zA (noughts (n*64))) 186)=w1 at *
 have hd:jL (w1.alloc (.cells #[.slice (some ⟨H,0,none⟩) n n,.slice (some ⟨S,0,none⟩) n n,.slice none 0 0,.int .i64 (-1),.int .i64 (-1),.bool false,.int .i64 0] 182)) (fun b=>b<w.heap.size) w1.heap.size n (Dk.fresh n):=by
  rcases h with ⟨rfl,rfl⟩ | ⟨rfl,rfl⟩
  ·exact Ki hn2 g0 g1 (by omega) (by omega) (by omega) hb
  ·exact Ki hn2 g1 g0 (by omega) (by omega) (by omega) hb
 rw[hs] at hd
 exact ⟨hd.below (Below.refl _ _).drew (fun b _ h=>h),(hb.alloc hb.size _).drew⟩
theorem zJT (w:World) (n:Nat) (h1:1≤n) (h2:n≤2048) :
 Calls Tryz.prog 41 #[.int .i64 n] w fun e w'=>∃ d,e=.returned (.tuple #[.pointer (some ⟨d,0,none⟩),.int .i64 0])∧jL w' (fun b=>b<w.heap.size) d n (Dk.fresh n)∧Below w.heap.size w w':=by
 have d1:decide ((n:Int)<1)=false:=by simp; omega
 have d2:decide ((2048:Int)<(n:Int))=false:=by simp; omega
 have hmk:=BM n (by omega)
 go_enter Tryz.func41,Tryz.ntmps41
 go_wp2
 go_region_held3 (fun W=>True) (exact trivial)
  (fail)
 all_goals
  go_wp2
  go_ret2
  exact ⟨_,rfl,SH h2 (by omega)⟩
end
end
section
theorem ZJ (a b g r v f t:Int) (w:World) (h0:0≤t) (h1:t≤18446744073709551615) :
 Calls Tryz.prog 106 #[.agg (qx a b g r v f t)] w fun e w'=>e=.returned (.int .i64 (t % 2))∧Below w.heap.size w w':=by
 have e1:IntKind.u64.wrap (t.tmod 2)=t % 2:=by rw[Int.tmod_eq_emod_of_nonneg h0,IntKind.wrap_u64]; omega
 have e2:IntKind.i64.wrap (t % 2)=t % 2:=IntWalk.i64_in _ ⟨by omega,by omega⟩
 go_enter Tryz.func106,Tryz.ntmps106
 go_wp2
 go_ret
 refine ⟨pV ?_,(Below.refl _ _).alloc (nR _) _⟩
 first | rfl | (rw[e1,e2]) | (rw[e1]) | omega
def qy (t:Int):Int:=(t+1) % 18446744073709551616
theorem J3 (t:Int):0≤qy t∧qy t≤18446744073709551615:=by unfold qy; omega
theorem XZ (a b g r v f t:Int) (w:World) :
 Calls Tryz.prog 107 #[.agg (qx a b g r v f t)] w fun e w'=>e=.returned (.agg (qx a b g r v f (qy t)))∧Below w.heap.size w w':=by
 have e1:IntKind.u64.wrap (t+1)=qy t:=by rw[IntKind.wrap_u64]; rfl
 go_enter Tryz.func107,Tryz.ntmps107
 go_wp2_with (with_reducible refine zJ ?_)
 exact Halt.ret (jF (p:=2) rfl _ _ (w.heap.size+1) 184 (qx a b g r v f (qy t)) _ rfl (zY w _ _ _) Tryz.underlying184 rfl YG) rfl ⟨rfl,((Below.refl _ _).alloc (nR _) _).alloc (by simp) _⟩
def bO (g r v f g' r' v' f':Int):Prop:=g'<g∨r'<r∨v'<v∨f'<f
instance zNC (g r v f g' r' v' f':Int):Decidable (bO g r v f g' r' v' f'):=by unfold bO; infer_instance
theorem zAF (a b g r v f a' b' g' r' v' f':Int) (w:World) :
 Calls Tryz.prog 131 #[.agg (qR a b g r v f),.agg (qR a' b' g' r' v' f')] w fun e w'=>e=.returned (.bool (decide (bO g r v f g' r' v' f')))∧Below w.heap.size w w':=by
 by_cases h0:g'<g
 case pos =>
  have hyes:decide (bO g r v f g' r' v' f')=true:=decide_eq_true (Or.inl h0)
  rw[hyes]
  have e0:decide (g'<g)=true:=decide_eq_true h0
  go_enter Tryz.func131,Tryz.ntmps131
  go_wp2
  go_ret
  exact ⟨rfl,((Below.refl _ _).alloc (nR _) _).alloc (by simp) _⟩
 have e0:decide (g'<g)=false:=decide_eq_false h0
 by_cases h1:r'<r
 case pos =>
  have hyes:decide (bO g r v f g' r' v' f')=true:=decide_eq_true (Or.inr (Or.inl h1))
  rw[hyes]
  have e1:decide (r'<r)=true:=decide_eq_true h1
  go_enter Tryz.func131,Tryz.ntmps131
  go_wp2
  go_ret
  exact ⟨rfl,((Below.refl _ _).alloc (nR _) _).alloc (by simp) _⟩
 have e1:decide (r'<r)=false:=decide_eq_false h1
 by_cases h2:v'<v
 case pos =>
  have hyes:decide (bO g r v f g' r' v' f')=true:=decide_eq_true (Or.inr (Or.inr (Or.inl h2)))
  rw[hyes]
  have e2:decide (v'<v)=true:=decide_eq_true h2
  go_enter Tryz.func131,Tryz.ntmps131
  go_wp2
  go_ret
  exact ⟨rfl,((Below.refl _ _).alloc (nR _) _).alloc (by simp) _⟩
 have e2:decide (v'<v)=false:=decide_eq_false h2
 by_cases h3:f'<f
 case pos =>
  have hyes:decide (bO g r v f g' r' v' f')=true:=decide_eq_true (Or.inr (Or.inr (Or.inr h3)))
  rw[hyes]
  have e3:decide (f'<f)=true:=decide_eq_true h3
  go_enter Tryz.func131,Tryz.ntmps131
  go_wp2
  go_ret
  exact ⟨rfl,((Below.refl _ _).alloc (nR _) _).alloc (by simp) _⟩
 have e3:decide (f'<f)=false:=decide_eq_false h3
 have hno:decide (bO g r v f g' r' v' f')=false:=decide_eq_false (fun h=>by rcases h with h | h | h | h; exact h0 h; exact h1 h; exact h2 h; exact h3 h)
 rw[hno]
 go_enter Tryz.func131,Tryz.ntmps131
 go_wp2
 go_ret
 exact ⟨rfl,((Below.refl _ _).alloc (nR _) _).alloc (by simp) _⟩
theorem Hz {a b g r:Int} (h:wZ a b g r):96≤a*b∧a*b≤1024:=by
 obtain ⟨h1,h2,h3,h4,_⟩:=h
 have e1:(4:Int)*24≤a*b:=Int.mul_le_mul h1 h3 (by omega) (by omega)
 have e2:a*b≤16*64:=Int.mul_le_mul h2 h4 (by omega) (by omega)
 omega
theorem AZ {w:World} {X:Nat→Prop} {d n:Nat} {k:Dk} (hd:jL w X d n k) (a b g r v f:Int) (h:wZ a b g r) :
 Calls Tryz.prog 104 #[.pointer (some ⟨d,0,none⟩),.agg (qR a b g r v f)] w fun e w'=>e=.returned (.bool (decide (2+a*b≤(n:Int))))∧Below w.heap.size w w':=by
 have har:=Hz h
 have e1:IntKind.i64.wrap (a*b)=a*b:=IntWalk.i64_in _ ⟨by omega,by omega⟩
 have e2:IntKind.i64.wrap (2+a*b)=2+a*b:=IntWalk.i64_in _ ⟨by omega,by omega⟩
 have HD:=hI (hd.below (w':=w.alloc (.cells (qR a b g r v f) 115)) ((Below.refl _ _).alloc (nR _) _) (fun b _ h=>h))
 clear hd h har
 go_enter Tryz.func104,Tryz.ntmps104
 go_wp2
 go_quiet ((go_at_call 155; exact R6 ((zJV (HD.out.drewN _)).mono (fun e w' ⟨h1,h2⟩=>⟨h1,0,h2⟩))))
 go_wp2
 go_ret
 exact ⟨rfl,below_drewN ((Below.refl _ _).alloc (nR _) _) _⟩
end
section
theorem zCd (a b g r v f:Int):(qR a b g r v f).all (·.oneCell')=true:=by simp[qR,Value.oneCell']
end
section
abbrev uY (a b g r v f t:Int) (d:Nat):Array Value:=#[.int .i64 a,.int .i64 b,.int .u64 g,.int .u64 r,.int .u64 v,.int .u64 f,.int .u64 t,.pointer (some ⟨d,0,none⟩)]
def zk (w:World) (X:Nat→Prop) (p d n:Nat) (a b g r v f t:Int) (k:Dk):Prop :=
 z8 w p 193 (uY a b g r v f t d)∧jL w (fun c=>X c∨c=p) d n k∧¬ X p
abbrev fm0:Oper:=⟨some 35,.move (.tmp 0),25,"super.go:45",#[],none⟩
abbrev fm1:Oper:=⟨some 36,.load 184 (.tmp 8),184,"super.go:45",#[],none⟩
abbrev fm2:Oper:=⟨some 37,.call { callee:=.value (.func 106),args:=#[.tmp 36],argTypes:=#[184] },3,"super.go:45",#[⟨1,.data⟩],none⟩
abbrev fm3:Oper:=⟨some 38,.load 186 (.tmp 9),186,"super.go:45",#[],none⟩
abbrev fm4:Oper:=⟨some 39,.call { callee:=.value (.func 105),args:=#[.tmp 35,.tmp 37,.tmp 38],argTypes:=#[25,3,186] },36,"super.go:45",#[⟨0,.data⟩,⟨2,.data⟩,⟨3,.data⟩,⟨2,.chain⟩],none⟩
abbrev fm5:Oper:=⟨some 11,.assign (.tmp 39),36,"super.go:45",#[⟨4,.data⟩,⟨4,.chain⟩,⟨0,.phase⟩,⟨1,.phase⟩,⟨2,.phase⟩,⟨3,.phase⟩,⟨4,.phase⟩],none⟩
theorem UR {w:World} {X:Nat→Prop} {d n:Nat} {k:Dk} (hd:jL w X d n k) (hX:∀ c,X c→c<w.heap.size) (a b:Int) (h:wZ a b 0 0) (hr:2+a*b≤(n:Int)) (hp:k.pend.length≤1000) (h0:k.wre=0)
 (h1:(k.wr (Dk.put 0 (wT a b 0 0 0 0 0))).wre=0) (h2:((k.wr (Dk.put 0 (wT a b 0 0 0 0 0))).wr (Dk.put 1 (noughts 64))).wre=0) :
 Calls Tryz.prog 42 #[.pointer (some ⟨d,0,none⟩),.int .i64 a,.int .i64 b] w fun e w'=>∃ p,e=.returned (.tuple #[.pointer (some ⟨p,0,none⟩),.int .i64 0]) ∧
  zk w' X p d n a b 0 0 0 0 0 (((k.wr (Dk.put 0 (wT a b 0 0 0 0 0))).wr (Dk.put 1 (noughts 64))).wr Dk.sync)∧Kept X w w':=by
 have hn2:98≤n:=by have:=(Hz h).1; omega
 have hp1:(k.wr (Dk.put 0 (wT a b 0 0 0 0 0))).pend.length≤1000000:=by
  unfold Dk.wr
  split
  ·omega
  split
  ·show k.pend.length≤_; omega
  split
  ·show k.pend.length≤_; omega
  ·show (k.pend++[_]).length≤_; simp; omega
 have gN:=hI h
 have NG:=hI (show decide (2+a*b≤(n:Int))=true from decide_eq_true hr)
 have hin:lG a b 0 0 0 0:=by obtain ⟨_,_,_,_,_⟩:=h; unfold lG; omega
 have hsl:=eP a b 0 0 0 0 0
 have hsb:=Yz a b 0 0 0 0 0
 have nX:=hI (fun u=>Dv a b 0 0 0 0 0 u h hin ⟨by omega,by omega⟩)
 generalize wT a b 0 0 0 0 0=sl at *
 have HSL:=hI hsl
 have Ca:=hI hsb
 have HD:=hI hd
 have HX:=hI hX
 have H0:=hI h0
 have H1:=hI h1
 have H2:=hI h2
 have nU:=hI hp1
 clear h hr hin hsl hd hX h0 h1 h2 hsb hp1
 go_enter Tryz.func42,Tryz.ntmps42
 go_wp2_with fail
 have HT1:=hI (show z8 (w.alloc (.cells (qx a b 0 0 0 0 0) 184)) w.heap.size 184 (qx a b 0 0 0 0 0) from z8.new w _ _)
 have HB1:=hI (show Below w.heap.size w (w.alloc (.cells (qx a b 0 0 0 0 0) 184)) from (Below.refl _ _).alloc (nR _) _)
 generalize hw1:w.alloc (.cells (qx a b 0 0 0 0 0) 184)=w1 at *
 clear hw1
 refine (nX.out _).mono ?_
 rintro e w2 ⟨rfl,hb⟩
 have HB2:=hI (HB1.out.trans (hb.mono HB1.out.size))
 have HT2:=hI (HT1.out.below hb HT1.out.lt)
 have HZ2:=hI (show w.heap.size<w2.heap.size from HT2.out.lt)
 obtain ⟨w3,hw3⟩:∃ w3,w3=w2.alloc (.cells (zA sl) 186):=⟨_,rfl⟩
 have HW3:=hI hw3
 have HT3:=hI (show z8 w3 w.heap.size 184 (qx a b 0 0 0 0 0) by rw[hw3]; exact HT2.out.alloc _)
 have wO:=hI (show qB w3 w2.heap.size sl by rw[hw3]; exact z8.new w2 _ _)
 have HB3:=hI (show Below w.heap.size w w3 by rw[hw3]; exact HB2.out.alloc HB2.out.size _)
 clear hb hw3
 obtain ⟨c0,c1,c2,c3,c4,c5⟩:_∧_∧_∧_∧_∧_:=⟨HT3.out.cell 0,HT3.out.cell 1,HT3.out.cell 2,HT3.out.cell 3,HT3.out.cell 4,HT3.out.cell 5⟩
 simp only[List.getElem?_toArray,List.getElem?_cons_zero,List.getElem?_cons_succ] at c0 c1 c2 c3 c4 c5
 go_wp2_with (first
  | (refine zG rfl rfl ?_)
  | (refine zU (.tmp 9) (.tmp 23) rfl rfl w2 sl rfl rfl (noughts 64) rfl (zC 64) HSL.out ?_; rw[← HW3.out]))
 clear c0 c1 c2 c3 c4 c5
 have HD3:=hI (show jL w3 (fun c=>X c∨c=w.heap.size∨c=w2.heap.size) d n k from HD.out.below HB3.out (fun c hc h=>by rcases h with h | h | h; exact h; omega; have:=HZ2.out; omega))
 refine (AZ HD3.out a b 0 0 0 0 gN.out).mono ?_
 rintro e w4 ⟨rfl,hb⟩
 rw[NG.out]
 have HD4:=hI (HD3.out.below (Y:=fun c=>X c∨c=w.heap.size∨c=w2.heap.size) hb (fun c _ h=>h))
 have lI:=hI (HT3.out.below hb HT3.out.lt)
 have Z4:=hI (show qB w4 w2.heap.size sl from qF.below wO.out hb wO.out.lt)
 have zq:=hI (HB3.out.trans (hb.mono HB3.out.size))
 clear hb
 go_wp2_with fail
 have Xf:w4.rangeAt w.heap.size 0 (qx a b 0 0 0 0 0).toList:=z8.rangeL (cs:=(qx a b 0 0 0 0 0).toList) lI.out
 have Xe:=Z4.out.range
 have Rq:=Tryz.underlying184
 have Vp:=Tryz.underlying186
 have Rx:(Tryz.prog.info? 184).map (·.size)=some (qx a b 0 0 0 0 0).toList.length:=YG
 have YZ:(Tryz.prog.info? 186).map (·.size)=some (sl.map (Value.int .u8)).length:=by rw[vF,List.length_map,HSL.out]
 refine wp_region_noPanic ?_
 refine zB.region (fun W=>W.rangeAt w.heap.size 0 (qx a b 0 0 0 0 0).toList∧W.rangeAt w2.heap.size 0 (sl.map (Value.int .u8))) [] (by kernel_rfl) ⟨Xf,Xe⟩ (fun hė=>?_)
 refine tK 0 fm0 (v:=?_) ?_ hė ?_
 rotate_left
 ·intro W hSW; unfold fm0; go_simp; with_reducible rfl
 simp only[fm0,Act.put,sA,sZ,sS]
 refine tK 1 fm1 (v:=?_) ?_ hė ?_
 rotate_left
 ·intro W hSW; refine qw (.tmp 8) 184 ?_ w.heap.size 0 ?_ (qx a b 0 0 0 0 0).toList _ Rq rfl Rx hSW.1 <;> rfl
 simp only[fm1,Act.put,sA,sZ,sS]
 refine tK 3 fm3 (v:=?_) ?_ hė ?_
 rotate_left
 ·intro W hSW; refine qw (.tmp 9) 186 ?_ w2.heap.size 0 ?_ (sl.map (Value.int .u8)) _ Vp rfl YZ hSW.2 <;> rfl
 simp only[fm3,Act.put,sA,sZ,sS]
 refine tO 2 fm2 ?_
 intro K hK
 refine zN 106 #[.tmp 36] #[184] rfl rfl Tryz.func106 rfl rfl [.agg (qx a b 0 0 0 0 0)] rfl ?_
 refine (ZJ a b 0 0 0 0 0 w4.drew (by omega) (by omega)).mono ?_
 rintro e w5 ⟨rfl,hb⟩
 have hb5:Below w4.heap.size w4 w5:=(Below.refl _ _).drew.trans hb
 have HD5:=hI (HD4.out.below (Y:=fun c=>X c∨c=w.heap.size∨c=w2.heap.size) hb5 (fun c _ h=>h))
 have HT5:=hI (lI.out.below hb5 lI.out.lt)
 have HV5:=hI (show qB w5 w2.heap.size sl from qF.below Z4.out hb5 Z4.out.lt)
 have qM:=hI (zq.out.trans (hb5.mono zq.out.size))
 have xK:=hI (show w2.heap.size<w5.heap.size from HV5.out.lt)
 have hS:=And.intro (z8.rangeL (cs:=(qx a b 0 0 0 0 0).toList) HT5.out) HV5.out.range
 clear hb hb5
 refine ⟨_,rfl,?_⟩
 simp only[fm2,Act.put,sA,sZ,sS]
 refine hU hK rfl _ _ hS (fun hė=>?_)
 clear hK K hS
 refine tO 4 fm4 ?_
 intro K hK
 refine zN 105 #[.tmp 35,.tmp 37,.tmp 38] #[25,3,186] rfl rfl Tryz.func105 rfl rfl [.pointer (some ⟨d,0,none⟩),.int .i64 0,.agg (zA sl)] rfl ?_
 refine (Jo HD5.out (fun c h=>by rcases h with h | h | h; exact nL (HX.out c h) qM.out.size; have:=HZ2.out; have:=xK.out; omega; have:=xK.out; omega) 0 (by omega) sl HSL.out Ca.out (by omega)).mono ?_
 rintro e w6 ⟨rfl,hd6,xU⟩
 rw[H0.out]
 have HD6:=hI hd6
 have lH:=hI (HT5.out.kept xU (.inr (.inl rfl)))
 have Qb:=hI (show qB w6 w2.heap.size sl from qF.kept HV5.out xU (.inr (.inr rfl)))
 have je:=hI (show Kept X w w6 from (Kept.of_below qM.out HX.out).trans xU (fun c h=>.inl h))
 have gK:=hI (show w2.heap.size<w6.heap.size from Qb.out.lt)
 have hS:=And.intro (z8.rangeL (cs:=(qx a b 0 0 0 0 0).toList) lH.out) Qb.out.range
 clear hd6 xU
 refine ⟨_,rfl,?_⟩
 simp only[fm4,Act.put,sA,sZ,sS]
 refine hU hK rfl _ _ hS (fun hė=>?_)
 clear hK K hS
 refine tO 5 fm5 ?_
 intro K hK
 refine qg ?_ rfl ?_ ?_
 rotate_left
 ·unfold fm5; go_simp; with_reducible rfl
 simp only[fm5,Act.put,sA,sZ,sS]
 refine hU hK rfl _ _ hė (fun hė=>?_)
 clear hK K
 refine zB.done (by kernel_rfl) ?_ _
 refine NoPanic.normal ?_
 clear hė Xf Xe YZ
 obtain ⟨c0,c1,c2,c3,c4,c5,c6⟩:_∧_∧_∧_∧_∧_∧_:=⟨lH.out.cell 0,lH.out.cell 1,lH.out.cell 2,lH.out.cell 3,lH.out.cell 4,lH.out.cell 5,lH.out.cell 6⟩
 simp only[List.getElem?_toArray,List.getElem?_cons_zero,List.getElem?_cons_succ] at c0 c1 c2 c3 c4 c5 c6
 go_wp2_with fail
 clear c0 c1 c2 c3 c4 c5 c6
 refine (XZ a b 0 0 0 0 0 _).mono ?_
 rintro e w7 ⟨rfl,hb⟩
 have jy:Below w6.heap.size w6 w7:=hb
 go_wp2_with fail
 refine (ZJ a b 0 0 0 0 (qy 0) _ (J3 0).1 (J3 0).2).mono ?_
 rintro e w8 ⟨rfl,hb⟩
 have jK:Below w6.heap.size w6 w8:=jy.trans (hb.mono jy.size)
 have HD8:=hI (HD6.out.below (Y:=fun c=>X c∨c=w.heap.size∨c=w2.heap.size) jK (fun c _ h=>h))
 have OD:=hI (lH.out.below jK lH.out.lt)
 have dZ:=hI (show Kept X w w8 from je.out.below jK (fun c h=>nL (HX.out c h) je.out.size))
 have HZ8:=hI (show w2.heap.size<w8.heap.size from nL gK.out jK.size)
 have e1:qy 0 % 2=1:=by decide
 rw[e1]
 clear hb jy jK e1
 go_wp2_with (refine wS rfl rfl ?_)
 have hw:(1:Int)=((1:Nat):Int):=rfl
 rw[hw]
 clear hw
 refine (Jo HD8.out (fun c h=>by rcases h with h | h | h; exact nL (HX.out c h) dZ.out.size; have:=HZ2.out; have:=HZ8.out; omega; have:=HZ8.out; omega) 1 (by omega) (noughts 64) (zC 64) (dn 64) nU.out).mono ?_
 rintro e w9 ⟨rfl,hd9,xI⟩
 rw[H1.out]
 have HD9:=hI hd9
 have NC:=hI (OD.out.kept xI (.inr (.inl rfl)))
 have bK:=hI (show Kept X w w9 from dZ.out.trans xI (fun c h=>.inl h))
 clear hd9 xI
 go_wp2_with fail
 have zQJ:=NC.out.lt
 refine (Qm (HD9.out.mono (Y:=fun c=>X c∨c=w.heap.size) (fun c _ h=>by rcases h with h | h; exact .inl h; exact .inr (.inl h))) (fun c h=>by rcases h with h | h; exact nL (HX.out c h) bK.out.size; omega)).mono ?_
 rintro e wa ⟨rfl,hda,hka⟩
 rw[H2.out]
 have HDa:=hI hda
 have Ja:=hI (NC.out.kept hka (.inr rfl))
 have VG:=hI (show Kept X w wa from bK.out.trans hka (fun c h=>.inl h))
 clear hda hka
 obtain ⟨c0,c1,c2,c3,c4,c5,c6⟩:_∧_∧_∧_∧_∧_∧_:=⟨Ja.out.cell 0,Ja.out.cell 1,Ja.out.cell 2,Ja.out.cell 3,Ja.out.cell 4,Ja.out.cell 5,Ja.out.cell 6⟩
 simp only[List.getElem?_toArray,List.getElem?_cons_zero,List.getElem?_cons_succ] at c0 c1 c2 c3 c4 c5 c6
 go_wp2_with fail
 go_ret2
 refine ⟨wa.heap.size,rfl,⟨z8.new wa _ _,HDa.out.below ((Below.refl _ _).alloc (nR _) _) (fun c hc h=>?_),?_⟩,VG.out.alloc (fun c h=>nL (HX.out c h) VG.out.size) _⟩
 ·rcases h with h | h
  ·exact .inl h
  ·exact absurd h (by omega)
 ·intro h
  have:=HX.out _ h
  have:=VG.out.size
  omega
end
section
def vT (t:Int):Nat:=(qy t % 2).toNat
theorem AP (t:Int):qy t % 2=((vT t:Nat):Int):=by unfold vT; omega
theorem GH (t:Int):vT t<2:=by unfold vT; omega
theorem zk.below {w w':World} {X:Nat→Prop} {p d n:Nat} {a b g r v f t:Int} {k:Dk} (h:zk w X p d n a b g r v f t k) (hb:Below w.heap.size w w'):zk w' X p d n a b g r v f t k :=
 ⟨h.1.below hb h.1.lt,h.2.1.below hb (fun c _ h=>h),h.2.2⟩
abbrev Ny:Oper:=⟨some 50,.move (.tmp 0),45,"super.go:102",#[],none⟩
abbrev Nw:Oper:=⟨some 51,.nilCheck (.tmp 50),0,"super.go:102",#[⟨0,.data⟩],none⟩
abbrev Nv:Oper:=⟨some 52,.fieldAddr 193 (.tmp 51) 0,0,"super.go:102",#[⟨1,.data⟩],none⟩
abbrev Nu:Oper:=⟨some 53,.fieldAddr 184 (.tmp 52) 0,0,"super.go:102",#[⟨2,.data⟩],none⟩
abbrev zAp:Oper:=⟨some 54,.load 115 (.tmp 53),115,"super.go:102",#[⟨3,.data⟩],none⟩
abbrev zAo:Oper:=⟨some 55,.load 115 (.tmp 3),115,"super.go:102",#[],none⟩
abbrev zAn:Oper:=⟨some 56,.call { callee:=.value (.func 131),args:=#[.tmp 54,.tmp 55],argTypes:=#[115,115] },4,"super.go:102",#[⟨4,.data⟩,⟨5,.data⟩],none⟩
abbrev Nt:Oper:=⟨some 49,.assign (.tmp 56),4,"super.go:102",#[⟨6,.data⟩,⟨6,.chain⟩],none⟩
abbrev Ns:Oper:=⟨some 57,.move (.tmp 0),45,"super.go:105",#[],none⟩
abbrev Nr:Oper:=⟨some 58,.nilCheck (.tmp 57),0,"super.go:105",#[⟨0,.data⟩],none⟩
abbrev Nq:Oper:=⟨some 59,.fieldAddr 193 (.tmp 58) 1,0,"super.go:105",#[⟨1,.data⟩],none⟩
abbrev Np:Oper:=⟨some 60,.load 25 (.tmp 59),25,"super.go:105",#[⟨2,.data⟩],none⟩
abbrev zAm:Oper:=⟨some 61,.load 184 (.tmp 5),184,"super.go:105",#[],none⟩
abbrev zAl:Oper:=⟨some 62,.call { callee:=.value (.func 106),args:=#[.tmp 61],argTypes:=#[184] },3,"super.go:105",#[⟨4,.data⟩],none⟩
abbrev zAk:Oper:=⟨some 63,.load 186 (.tmp 6),186,"super.go:105",#[],none⟩
abbrev zAj:Oper:=⟨some 64,.call { callee:=.value (.func 105),args:=#[.tmp 60,.tmp 62,.tmp 63],argTypes:=#[25,3,186] },36,"super.go:105",#[⟨3,.data⟩,⟨5,.data⟩,⟨6,.data⟩,⟨5,.chain⟩],none⟩
abbrev Nn:Oper:=⟨some 8,.assign (.tmp 64),36,"super.go:105",#[⟨7,.data⟩,⟨7,.chain⟩,⟨0,.phase⟩,⟨1,.phase⟩,⟨2,.phase⟩,⟨3,.phase⟩,⟨4,.phase⟩,⟨5,.phase⟩,⟨6,.phase⟩,⟨7,.phase⟩],none⟩
theorem G6 {w:World} {X:Nat→Prop} {p d n:Nat} {a b g r v f t:Int} {k:Dk} (hs:zk w X p d n a b g r v f t k) (hX:∀ c,X c→c<w.heap.size) (g' r' v' f':Int) (h:wZ a b g' r') (hin:lG a b g' r' v' f') (hbk:¬ bO g r v f g' r' v' f') (hn:2≤n) (hp:k.pend.length≤1000000) (h0:k.wre=0) (h1:(k.wr (Dk.put (vT t) (wT a b g' r' v' f' (qy t)))).wre=0) :
 Calls Tryz.prog 61 #[.pointer (some ⟨p,0,none⟩),.agg (qR a b g' r' v' f')] w fun e w'=>e=.returned (.int .i64 0)∧zk w' X p d n a b g' r' v' f' (qy t) ((k.wr (Dk.put (vT t) (wT a b g' r' v' f' (qy t)))).wr Dk.sync)∧Kept X w w':=by
 obtain ⟨hblk,hd,hxp⟩:=hs
 have hpl:=hblk.lt
 have zOC:=hI (show decide (bO g r v f g' r' v' f')=false from decide_eq_false hbk)
 clear hbk
 have pq:=hI (AP t)
 have HN:=hI hn
 have HP:=hI hp
 clear hn hp
 have HST:=hI (show zk w X p d n a b g r v f t k from ⟨hblk,hd,hxp⟩)
 have hsl:=eP a b g' r' v' f' (qy t)
 have hsb:=Yz a b g' r' v' f' (qy t)
 have nX:=hI (fun u=>Dv a b g' r' v' f' (qy t) u h hin (J3 t))
 generalize wT a b g' r' v' f' (qy t)=sl at *
 have HSL:=hI hsl
 have Ca:=hI hsb
 clear h hin hsl hsb
 have H0:=hI h0
 have H1:=hI h1
 clear h0 h1
 have HX:=hI hX
 have HXP:=hI hxp
 have Z5:=hI hpl
 have ql:=hI (hblk.alloc (.cells (qR a b g' r' v' f') 115))
 have mF:=hI (show z8 (w.alloc (.cells (qR a b g' r' v' f') 115)) w.heap.size 115 (qR a b g' r' v' f') from z8.new w _ _)
 have HB1:=hI (show Below w.heap.size w (w.alloc (.cells (qR a b g' r' v' f') 115)) from (Below.refl _ _).alloc (nR _) _)
 have HD:=hI hd
 obtain ⟨s0,s1,s2,s3,s4,s5,s6⟩:_∧_∧_∧_∧_∧_∧_:=⟨ql.out.cell 0,ql.out.cell 1,ql.out.cell 2,ql.out.cell 3,ql.out.cell 4,ql.out.cell 5,ql.out.cell 6⟩
 simp only[List.getElem?_toArray,List.getElem?_cons_zero,List.getElem?_cons_succ] at s0 s1 s2 s3 s4 s5 s6
 clear hblk hd hxp hX hpl
 go_enter Tryz.func61,Tryz.ntmps61
 go_wp2_with fail
 clear s0 s1 s2 s3 s4 s5 s6
 generalize hw1:w.alloc (.cells (qR a b g' r' v' f') 115)=w1 at *
 clear hw1
 refine (XZ a b g r v f t _).mono ?_
 rintro e w2 ⟨rfl,hb⟩
 have HS2:=hI (ql.out.below hb ql.out.lt)
 have HG2:=hI (mF.out.below hb mF.out.lt)
 have HB2:=hI (HB1.out.trans (hb.mono HB1.out.size))
 have HZ2:=hI (show w.heap.size<w2.heap.size from HG2.out.lt)
 clear hb
 go_upto_region 4 with fail
 have yG:=hI (HS2.out.alloc (.cells (qx a b g r v f (qy t)) 184))
 have mE:=hI (HG2.out.alloc (.cells (qx a b g r v f (qy t)) 184))
 have HT3:=hI (show z8 (w2.alloc (.cells (qx a b g r v f (qy t)) 184)) w2.heap.size 184 (qx a b g r v f (qy t)) from z8.new w2 _ _)
 have HB3:=hI (HB2.out.alloc HB2.out.size (.cells (qx a b g r v f (qy t)) 184))
 generalize hw3:w2.alloc (.cells (qx a b g r v f (qy t)) 184)=w3 at *
 clear hw3
 obtain ⟨q0,q1,q2,q3,q4,q5⟩:_∧_∧_∧_∧_∧_:=⟨mE.out.cell 0,mE.out.cell 1,mE.out.cell 2,mE.out.cell 3,mE.out.cell 4,mE.out.cell 5⟩
 simp only[List.getElem?_toArray,List.getElem?_cons_zero,List.getElem?_cons_succ] at q0 q1 q2 q3 q4 q5
 have hzs:∀ w,(sizeOf 115).run Tryz.prog w=.ok 6 w:=Tryz.sizeOf115
 have CS:=hI hzs
 have he:(List.take 0 (qx a b g r v f (qy t)).toList++(qR a b g' r' v' f').toList++List.drop (0+6) (qx a b g r v f (qy t)).toList).toArray=qx a b g' r' v' f' (qy t):=by simp[qR,qx]
 have HE:=hI he
 clear hzs he
 go_upto_region 5 with (refine l7 (.tmp 18) (.tmp 17) 115 rfl rfl CS.out w2.heap.size 0 (qR a b g' r' v' f').toList rfl rfl 184 (qx a b g r v f (qy t)).toList HT3.out rfl (by intro u hu; simp[qR] at hu; rcases hu with rfl | rfl | rfl | rfl | rfl | rfl <;> rfl) (by simp[qx]) ?_; rw[HE.out])
 clear q0 q1 q2 q3 q4 q5
 have hk4:Kept (fun c=>c≠w2.heap.size) w3 (w3.setRow w2.heap.size (qx a b g' r' v' f' (qy t))):=(Kept.refl _ w3).setRow (fun h=>h rfl) _
 have yg:=hI (yG.out.kept hk4 (by have:=HZ2.out; have:=Z5.out; omega))
 have oZ:=hI (mE.out.kept hk4 (by have:=HZ2.out; omega))
 have lI:=hI (show z8 (w3.setRow w2.heap.size (qx a b g' r' v' f' (qy t))) w2.heap.size 184 (qx a b g' r' v' f' (qy t)) from setRow_heap _ _ _ _ _ _ HT3.out)
 have zq:=hI (show Below w.heap.size w (w3.setRow w2.heap.size (qx a b g' r' v' f' (qy t))) from below_setRow HB3.out (by have:=HZ2.out; omega) _)
 generalize hw4:w3.setRow w2.heap.size (qx a b g' r' v' f' (qy t))=w4 at *
 clear hw4 hk4
 obtain ⟨c0,c1,c2,c3,c4,c5,c6⟩:_∧_∧_∧_∧_∧_∧_:=⟨lI.out.cell 0,lI.out.cell 1,lI.out.cell 2,lI.out.cell 3,lI.out.cell 4,lI.out.cell 5,lI.out.cell 6⟩
 simp only[List.getElem?_toArray,List.getElem?_cons_zero,List.getElem?_cons_succ] at c0 c1 c2 c3 c4 c5 c6
 go_wp2_with fail
 clear c0 c1 c2 c3 c4 c5 c6
 refine (nX.out _).mono ?_
 rintro e w5 ⟨rfl,hb⟩
 obtain ⟨w6,xB⟩:∃ w6,w6=w5.alloc (.cells (zA sl) 186):=⟨_,rfl⟩
 have nS:=hI xB
 have vL:=hI (show z8 w6 p 193 (uY a b g r v f t d) by rw[xB]; exact (yg.out.below hb yg.out.lt).alloc _)
 have Y6:=hI (show z8 w6 w.heap.size 115 (qR a b g' r' v' f') by rw[xB]; exact (oZ.out.below hb oZ.out.lt).alloc _)
 have lH:=hI (show z8 w6 w2.heap.size 184 (qx a b g' r' v' f' (qy t)) by rw[xB]; exact (lI.out.below hb lI.out.lt).alloc _)
 have Qb:=hI (show qB w6 w5.heap.size sl by rw[xB]; exact z8.new w5 _ _)
 have qK:=hI (show Below w.heap.size w w6 by rw[xB]; exact (zq.out.trans (hb.mono zq.out.size)).alloc (nT zq.out.size hb.size) _)
 have xK:=hI (show w2.heap.size<w5.heap.size from nL lI.out.lt hb.size)
 clear hb xB
 have s0:=vL.out.cell 0
 have s1:=vL.out.cell 1
 have q0:=Y6.out.cell 0
 have q1:=Y6.out.cell 1
 simp only[List.getElem?_toArray,List.getElem?_cons_zero,List.getElem?_cons_succ] at s0 s1 q0 q1
 go_wp2_with (first
  | (refine zG rfl rfl ?_)
  | (refine zU (.tmp 6) (.tmp 22) rfl rfl w5 sl rfl rfl (noughts 64) rfl (zC 64) HSL.out ?_; rw[← nS.out]))
 have n0:(a != a)=false:=by simp[bne]
 have n1:(b != b)=false:=by simp[bne]
 go_quiet (fail)
 clear s0 s1 q0 q1 n0 n1
 go_wp2
 have ah:=hI (show z8 (w6.drewN nq) p 193 (uY a b g r v f t d) from vL.out)
 have Y5:=hI (show z8 (w6.drewN nq) w.heap.size 115 (qR a b g' r' v' f') from Y6.out)
 have HT7:=hI (show z8 (w6.drewN nq) w2.heap.size 184 (qx a b g' r' v' f' (qy t)) from lH.out)
 have OB:=hI (show qB (w6.drewN nq) w5.heap.size sl from Qb.out)
 have kN:=hI (show Below w.heap.size w (w6.drewN nq) from below_drewN qK.out _)
 generalize hw7:w6.drewN nq=w7 at *
 clear hw7
 have hr1:w7.rangeAt p 0 (qR a b g r v f).toList:=fun j u hu=>by
  rw[Nat.zero_add,ah.out.cell j]
  match j,hu with
  | 0,hu | 1,hu | 2,hu | 3,hu | 4,hu | 5,hu=>simpa [qR,uY] using hu
  | (m+6),hu=>simp[qR] at hu
 have hr2:w7.rangeAt w.heap.size 0 (qR a b g' r' v' f').toList:=z8.rangeL (cs:=(qR a b g' r' v' f').toList) Y5.out
 have I7:=Tryz.underlying115
 have IB:∀ a b g r v f,(Tryz.prog.info? 115).map (·.size)=some (qR a b g r v f).toList.length:=fun a b g r v f=>uZ
 refine wp_region_noPanic ?_
 refine zB.region (fun W=>W.rangeAt p 0 (qR a b g r v f).toList∧W.rangeAt w.heap.size 0 (qR a b g' r' v' f').toList) [] (by kernel_rfl) ⟨hr1,hr2⟩ (fun hė=>?_)
 refine tK 0 Ny (v:=?_) ?_ hė ?_
 rotate_left
 ·intro W hSW; unfold Ny; go_simp; with_reducible rfl
 simp only[Ny,Act.put,sA,sZ,sS]
 refine tK 1 Nw (v:=?_) ?_ hė ?_
 rotate_left
 ·intro W hSW; unfold Nw; go_simp; with_reducible rfl
 simp only[Nw,Act.put,sA,sZ,sS]
 refine tK 2 Nv (v:=?_) ?_ hė ?_
 rotate_left
 ·intro W hSW; unfold Nv; go_simp; with_reducible rfl
 simp only[Nv,Act.put,sA,sZ,sS]
 refine tK 3 Nu (v:=?_) ?_ hė ?_
 rotate_left
 ·intro W hSW; unfold Nu; go_simp; with_reducible rfl
 simp only[Nu,Act.put,sA,sZ,sS]
 refine tK 4 zAp (v:=?_) ?_ hė ?_
 rotate_left
 ·intro W hSW; refine qw (.tmp 53) 115 ?_ p 0 ?_ (qR a b g r v f).toList _ I7 rfl (IB _ _ _ _ _ _) hSW.1 <;> rfl
 simp only[zAp,Act.put,sA,sZ,sS]
 refine tK 5 zAo (v:=?_) ?_ hė ?_
 rotate_left
 ·intro W hSW; refine qw (.tmp 3) 115 ?_ w.heap.size 0 ?_ (qR a b g' r' v' f').toList _ I7 rfl (IB _ _ _ _ _ _) hSW.2 <;> rfl
 simp only[zAo,Act.put,sA,sZ,sS]
 refine tO 6 zAn ?_
 intro K hK
 refine zN 131 #[.tmp 54,.tmp 55] #[115,115] rfl rfl Tryz.func131 rfl rfl [.agg (qR a b g r v f),.agg (qR a b g' r' v' f')] rfl ?_
 refine (zAF a b g r v f a b g' r' v' f' w7.drew).mono ?_
 rintro e w8 ⟨rfl,hb⟩
 rw[zOC.out]
 have jK:Below w7.heap.size w7 w8:=(Below.refl _ _).drew.trans hb
 have aZ:=hI (ah.out.below jK ah.out.lt)
 have Cw:=hI (Y5.out.below jK Y5.out.lt)
 have OD:=hI (HT7.out.below jK HT7.out.lt)
 have NA:=hI (show qB w8 w5.heap.size sl from qF.below OB.out jK OB.out.lt)
 have yj:=hI (kN.out.trans (jK.mono kN.out.size))
 have hS:=And.intro (XP hr1 jK ah.out.lt) (XP hr2 jK Y5.out.lt)
 clear hb jK hr1 hr2
 refine ⟨_,rfl,?_⟩
 simp only[zAn,Act.put,sA,sZ,sS]
 refine hU hK rfl _ _ hS (fun hė=>?_)
 clear hK K hS
 refine tO 7 Nt ?_
 intro K hK
 refine qg ?_ rfl ?_ ?_
 rotate_left
 ·unfold Nt; go_simp; with_reducible rfl
 simp only[Nt,Act.put,sA,sZ,sS]
 refine hU hK rfl _ _ hė (fun hė=>?_)
 clear hK K
 refine zB.done (by kernel_rfl) ?_ _
 refine NoPanic.normal ?_
 clear hė I7 IB
 go_wp2
 have hr1:w8.rangeAt w2.heap.size 0 (qx a b g' r' v' f' (qy t)).toList:=z8.rangeL (cs:=(qx a b g' r' v' f' (qy t)).toList) OD.out
 have hr2:=NA.out.range
 have Df:w8.cell? ⟨p,7,none⟩=some (.pointer (some ⟨d,0,none⟩)):=aZ.out.cell 7
 have Rq:=Tryz.underlying184
 have Vp:=Tryz.underlying186
 have Rx:(Tryz.prog.info? 184).map (·.size)=some (qx a b g' r' v' f' (qy t)).toList.length:=YG
 have YZ:(Tryz.prog.info? 186).map (·.size)=some (sl.map (Value.int .u8)).length:=by rw[vF,List.length_map,HSL.out]
 refine wp_region_noPanic ?_
 refine zB.region (fun W=>W.cell? ⟨p,7,none⟩=some (.pointer (some ⟨d,0,none⟩))∧W.rangeAt w2.heap.size 0 (qx a b g' r' v' f' (qy t)).toList∧W.rangeAt w5.heap.size 0 (sl.map (Value.int .u8))) [] (by kernel_rfl) ⟨Df,hr1,hr2⟩ (fun hė=>?_)
 refine tK 0 Ns (v:=?_) ?_ hė ?_
 rotate_left
 ·intro W hSW; unfold Ns; go_simp; with_reducible rfl
 simp only[Ns,Act.put,sA,sZ,sS]
 refine tK 1 Nr (v:=?_) ?_ hė ?_
 rotate_left
 ·intro W hSW; unfold Nr; go_simp; with_reducible rfl
 simp only[Nr,Act.put,sA,sZ,sS]
 refine tK 2 Nq (v:=?_) ?_ hė ?_
 rotate_left
 ·intro W hSW; unfold Nq; go_simp; with_reducible rfl
 simp only[Nq,Act.put,sA,sZ,sS]
 refine tK 3 Np (v:=?_) ?_ hė ?_
 rotate_left
 ·intro W hSW; have hc:=hSW.1; unfold Np; go_simp; with_reducible rfl
 simp only[Np,Act.put,sA,sZ,sS]
 refine tK 4 zAm (v:=?_) ?_ hė ?_
 rotate_left
 ·intro W hSW; refine qw (.tmp 5) 184 ?_ w2.heap.size 0 ?_ (qx a b g' r' v' f' (qy t)).toList _ Rq rfl Rx hSW.2.1 <;> rfl
 simp only[zAm,Act.put,sA,sZ,sS]
 refine tK 6 zAk (v:=?_) ?_ hė ?_
 rotate_left
 ·intro W hSW; refine qw (.tmp 6) 186 ?_ w5.heap.size 0 ?_ (sl.map (Value.int .u8)) _ Vp rfl YZ hSW.2.2 <;> rfl
 simp only[zAk,Act.put,sA,sZ,sS]
 refine tO 5 zAl ?_
 intro K hK
 refine zN 106 #[.tmp 61] #[184] rfl rfl Tryz.func106 rfl rfl [.agg (qx a b g' r' v' f' (qy t))] rfl ?_
 refine (ZJ a b g' r' v' f' (qy t) w8.drew (J3 t).1 (J3 t).2).mono ?_
 rintro e w9 ⟨rfl,hb⟩
 rw[pq.out]
 have bC:Below w8.heap.size w8 w9:=(Below.refl _ _).drew.trans hb
 have Jc:=hI (aZ.out.below bC aZ.out.lt)
 have NC:=hI (OD.out.below bC OD.out.lt)
 have HV9:=hI (show qB w9 w5.heap.size sl from qF.below NA.out bC NA.out.lt)
 have oq:=hI (yj.out.trans (bC.mono yj.out.size))
 have V5:=hI (show w5.heap.size<w9.heap.size from HV9.out.lt)
 have HD9:=hI (show jL w9 (fun c=>X c∨c=p∨c=w2.heap.size∨c=w5.heap.size) d n k from HD.out.below oq.out (fun c hc h=>by rcases h with h | h | h | h; exact .inl h; exact .inr h; have:=HZ2.out; omega; have:=HZ2.out; have:=xK.out; omega))
 have hS:=And.intro (show w9.cell? ⟨p,7,none⟩=some (.pointer (some ⟨d,0,none⟩)) from Jc.out.cell 7) (And.intro (z8.rangeL (cs:=(qx a b g' r' v' f' (qy t)).toList) NC.out) HV9.out.range)
 clear hb bC hr1 hr2 Df
 refine ⟨_,rfl,?_⟩
 simp only[zAl,Act.put,sA,sZ,sS]
 refine hU hK rfl _ _ hS (fun hė=>?_)
 clear hK K hS
 refine tO 7 zAj ?_
 intro K hK
 refine zN 105 #[.tmp 60,.tmp 62,.tmp 63] #[25,3,186] rfl rfl Tryz.func105 rfl rfl [.pointer (some ⟨d,0,none⟩),.int .i64 (vT t:Nat),.agg (zA sl)] rfl ?_
 refine (Jo HD9.out (fun c h=>by rcases h with h | h | h | h; exact nL (HX.out c h) oq.out.size; rw[h]; exact Jc.out.lt; rw[h]; exact NC.out.lt; rw[h]; exact HV9.out.lt) (vT t) (nL (GH t) HN.out) sl HSL.out Ca.out HP.out).mono ?_
 rintro e wa ⟨rfl,hda,hka⟩
 rw[H0.out]
 have HDa:=hI hda
 have HSa:=hI (Jc.out.kept hka (.inr (.inl rfl)))
 have Ja:=hI (NC.out.kept hka (.inr (.inr (.inl rfl))))
 have HVa:=hI (show qB wa w5.heap.size sl from qF.kept HV9.out hka (.inr (.inr (.inr rfl))))
 have VG:=hI (show Kept X w wa from (Kept.of_below oq.out HX.out).trans hka (fun c h=>.inl h))
 have hS:=And.intro (show wa.cell? ⟨p,7,none⟩=some (.pointer (some ⟨d,0,none⟩)) from HSa.out.cell 7) (And.intro (z8.rangeL (cs:=(qx a b g' r' v' f' (qy t)).toList) Ja.out) HVa.out.range)
 clear hda hka
 refine ⟨_,rfl,?_⟩
 simp only[zAj,Act.put,sA,sZ,sS]
 refine hU hK rfl _ _ hS (fun hė=>?_)
 clear hK K hS
 refine tO 8 Nn ?_
 intro K hK
 refine qg ?_ rfl ?_ ?_
 rotate_left
 ·unfold Nn; go_simp; with_reducible rfl
 simp only[Nn,Act.put,sA,sZ,sS]
 refine hU hK rfl _ _ hė (fun hė=>?_)
 clear hK K
 refine zB.done (by kernel_rfl) ?_ _
 refine NoPanic.normal ?_
 clear hė Rq Vp Rx YZ
 have Df:wa.cell? ⟨p,7,none⟩=some (.pointer (some ⟨d,0,none⟩)):=HSa.out.cell 7
 go_wp2_with fail
 clear Df
 refine (Qm (HDa.out.mono (Y:=fun c=>X c∨c=p∨c=w2.heap.size) (fun c _ h=>by rcases h with h | h | h; exact .inl h; exact .inr (.inl h); exact .inr (.inr (.inl h)))) (fun c h=>by rcases h with h | h | h; exact nL (HX.out c h) VG.out.size; rw[h]; exact HSa.out.lt; rw[h]; exact Ja.out.lt)).mono ?_
 rintro e wb ⟨rfl,hdb,hkb⟩
 rw[H1.out]
 have HDb:=hI hdb
 have HSb:=hI (HSa.out.kept hkb (.inr (.inl rfl)))
 have CY:=hI (Ja.out.kept hkb (.inr (.inr rfl)))
 have HKb:=hI (show Kept X w wb from VG.out.trans hkb (fun c h=>.inl h))
 clear hdb hkb
 obtain ⟨c0,c1,c2,c3,c4,c5,c6⟩:_∧_∧_∧_∧_∧_∧_:=⟨CY.out.cell 0,CY.out.cell 1,CY.out.cell 2,CY.out.cell 3,CY.out.cell 4,CY.out.cell 5,CY.out.cell 6⟩
 simp only[List.getElem?_toArray,List.getElem?_cons_zero,List.getElem?_cons_succ] at c0 c1 c2 c3 c4 c5 c6
 have Xd:∀ w,(sizeOf 184).run Tryz.prog w=.ok 7 w:=Tryz.sizeOf184
 have ig:=hI Xd
 have he7:(List.take 0 (uY a b g r v f t d).toList++(qx a b g' r' v' f' (qy t)).toList++List.drop (0+7) (uY a b g r v f t d).toList).toArray=uY a b g' r' v' f' (qy t) d:=by simp[uY,qx]
 have sj:=hI he7
 clear Xd he7
 go_wp2_with (refine l7 (.tmp 79) (.tmp 77) 184 rfl rfl ig.out p 0 (qx a b g' r' v' f' (qy t)).toList rfl rfl 193 (uY a b g r v f t d).toList HSb.out rfl (by intro u hu; simp[qx] at hu; rcases hu with rfl | rfl | rfl | rfl | rfl | rfl | rfl <;> rfl) (by simp[uY]) ?_; rw[sj.out])
 go_ret
 have hkf:Kept (fun c=>c≠p) wb (wb.setRow p (uY a b g' r' v' f' (qy t) d)):=(Kept.refl _ wb).setRow (fun h=>h rfl) _
 exact ⟨rfl,⟨setRow_heap _ _ _ _ _ _ HSb.out,HDb.out.kept hkf (fun c _ h e=>h (.inr (.inl e))) (fun c _ h=>by rcases h with h | h; exact .inl h; exact .inr (.inl h)),HXP.out⟩,HKb.out.setRow HXP.out _⟩
end
section
theorem zJU (w:World) (x:Int) (n:Nat) (hx:x=n) (h1:1≤n) (h2:n≤2048) :
 Calls Tryz.prog 41 #[.int .i64 x] w fun e w'=>∃ d,e=.returned (.tuple #[.pointer (some ⟨d,0,none⟩),.int .i64 0])∧jL w' (fun b=>b<w.heap.size) d n (Dk.fresh n)∧Below w.heap.size w w':=by
 subst hx
 exact zJT w n h1 h2
def Good (k:Dk):Prop:=k.dead=false∧k.fails=-1∧k.armed=-1
theorem Good.fresh (n:Nat):Good (Dk.fresh n):=⟨rfl,rfl,rfl⟩
theorem Good.wre {k:Dk} (h:Good k):k.wre=0:=by
 obtain ⟨h1,h2,h3⟩:=h
 unfold Dk.wre
 rw[h1,h2,h3]
 rfl
theorem Good.rde {k:Dk} (h:Good k):k.rde=0:=by
 obtain ⟨h1,h2,h3⟩:=h
 unfold Dk.rde
 rw[h1,h2]
 rfl
theorem Good.wr {k:Dk} (h:Good k) (f:Dk→Dk):k.wr f=f { k with ops:=wrap64 (k.ops+1) }:=by
 obtain ⟨h1,h2,h3⟩:=h
 obtain ⟨safe,pend,armed,fails,dead,ops⟩:=k
 simp only[] at h1 h2 h3
 subst h1 h2 h3
 rfl
theorem Good.rd {k:Dk} (h:Good k):k.rd={ k with ops:=wrap64 (k.ops+1) }:=by
 obtain ⟨h1,h2,h3⟩:=h
 obtain ⟨safe,pend,armed,fails,dead,ops⟩:=k
 simp only[] at h1 h2 h3
 subst h1 h2 h3
 rfl
theorem Good.rdv {k:Dk} (h:Good k) (i:Nat):k.rdv i=k.held.getD i []:=by
 obtain ⟨h1,h2,h3⟩:=h
 unfold Dk.rdv
 rw[h1,h2]
 rfl
theorem Good.put {k:Dk} (h:Good k) (i:Nat) (ys:List Int):Good (k.wr (Dk.put i ys)):=by
 rw[h.wr]
 exact h
theorem Good.sync {k:Dk} (h:Good k):Good (k.wr Dk.sync):=by
 rw[h.wr]
 exact h
theorem Good.read {k:Dk} (h:Good k):Good k.rd:=by
 rw[h.rd]
 exact h
theorem Good.pend_sync {k:Dk} (h:Good k):(k.wr Dk.sync).pend=[]:=by
 rw[h.wr]
 rfl
theorem Good.held_put {k:Dk} (h:Good k) (i:Nat) (ys:List Int):(k.wr (Dk.put i ys)).held=k.held.set i ys:=by
 rw[h.wr]
 exact Qz _ _ _
theorem Good.held_sync {k:Dk} (h:Good k):(k.wr Dk.sync).held=k.held:=by
 rw[h.wr]
 rfl
theorem rG {w:World} {X:Nat→Prop} {p d n:Nat} {a b g r v f t:Int} {k:Dk} (hs:zk w X p d n a b g r v f t k) :
 Calls Tryz.prog 53 #[.pointer (some ⟨p,0,none⟩)] w fun e w'=>e=.returned (.agg (qR a b g r v f))∧Below w.heap.size w w':=by
 have HS:=hI (hs.1.alloc (.cells (qR 0 0 0 0 0 0) 115))
 obtain ⟨s0,s1,s2,s3,s4,s5⟩:_∧_∧_∧_∧_∧_:=⟨HS.out.cell 0,HS.out.cell 1,HS.out.cell 2,HS.out.cell 3,HS.out.cell 4,HS.out.cell 5⟩
 simp only[List.getElem?_toArray,List.getElem?_cons_zero,List.getElem?_cons_succ] at s0 s1 s2 s3 s4 s5
 clear hs
 go_enter Tryz.func53,Tryz.ntmps53
 go_wp2_with (first
  | (refine wC (.tmp 2) (.tmp 10) 115 rfl rfl w (qR 0 0 0 0 0 0) (qR a b g r v f) rfl rfl 115 rfl uZ rfl (zCd _ _ _ _ _ _) ?_)
  | (with_reducible refine zJ ?_))
 exact Halt.ret (jF (p:=2) rfl _ _ w.heap.size 115 (qR a b g r v f) _ rfl (z8.new w _ _) Tryz.underlying115 rfl uZ) rfl ⟨rfl,(Below.refl _ _).alloc (nR _) _⟩
def Tidy (k:Dk):Prop:=Good k∧k.pend=[]
theorem Oy {k:Dk} (h:Tidy k) (i:Nat) (B:List Int):Tidy ((k.wr (Dk.put i B)).wr Dk.sync):=⟨(h.1.put i B).sync,(h.1.put i B).pend_sync⟩
theorem Dj {w:World} {X:Nat→Prop} {d n:Nat} (hd:jL w X d n (Dk.fresh n)) (hX:∀ c,X c→c<w.heap.size) (a b:Int) (h:wZ a b 0 0) (hr:2+a*b≤(n:Int)) :
 Calls Tryz.prog 42 #[.pointer (some ⟨d,0,none⟩),.int .i64 a,.int .i64 b] w fun e w'=>∃ p,e=.returned (.tuple #[.pointer (some ⟨p,0,none⟩),.int .i64 0]) ∧
  zk w' X p d n a b 0 0 0 0 0 ((((Dk.fresh n).wr (Dk.put 0 (wT a b 0 0 0 0 0))).wr (Dk.put 1 (noughts 64))).wr Dk.sync)∧Kept X w w' :=
 UR hd hX a b h hr (by simp[Dk.fresh]) (Good.fresh n).wre ((Good.fresh n).put 0 _).wre (((Good.fresh n).put 0 _).put 1 _).wre
end
section
open Go.RowKit Go.ChangeShapes Go.WideShapes Go.Deep Go.Joins
structure Sup where
 a:Int
 b:Int
 g:Int
 r:Int
 v:Int
 f:Int
def Sup.zero:Sup:=⟨0,0,0,0,0,0⟩
def Sup.c (s:Sup):Array Value:=qR s.a s.b s.g s.r s.v s.f
def Sup.In (s:Sup):Prop:=lG s.a s.b s.g s.r s.v s.f
theorem Sup.size (s:Sup):s.c.toList.length=6:=rfl
def zAM (w:World) (S:Nat→Prop) (A:Option Addr) (n:Nat) (zs:List Sup):Prop :=
 zs.length=n∧(0<n→∃ b off,A=some ⟨b,off,none⟩∧S b∧∀ i,i<n→w.rangeAt b (off+i*6) (zs.getD i Sup.zero).c.toList)
theorem zAM.keep {w w':World} {S:Nat→Prop} {A:Option Addr} {n:Nat} {zs:List Sup} (h:zAM w S A n zs) (hk:∀ p:Addr,S p.block→w'.cell? p=w.cell? p):zAM w' S A n zs :=
 ⟨h.1,fun hn=>by
  obtain ⟨b,off,e,hb,hc⟩:=h.2 hn
  exact ⟨b,off,e,hb,fun i hi j v hv=>by rw[hk _ hb]; exact hc i hi j v hv⟩⟩
end
section
def Sup.May (s:Sup):Prop:=wZ s.a s.b s.g s.r
def Sup.Back (o s:Sup):Prop:=bO o.g o.r o.v o.f s.g s.r s.v s.f
def Sup.L (s:Sup) (t:Int):List Int:=wT s.a s.b s.g s.r s.v s.f t
instance zJb (s:Sup):Decidable s.May:=by unfold Sup.May; infer_instance
instance zJa (o s:Sup):Decidable (o.Back s):=by unfold Sup.Back; infer_instance
def Holds (s:Sup) (t:Int) (n:Nat) (k:Dk):Prop :=
 Tidy k∧k.held.length=n∧k.held.getD (t % 2).toNat []=s.L t
theorem Holds.read {s:Sup} {t:Int} {n:Nat} {k:Dk} (h:Holds s t n k):Holds s t n k.rd:=by
 have e:=h.1.1.rd
 refine ⟨⟨h.1.1.read,?_⟩,?_,?_⟩
 ·rw[e]; exact h.1.2
 ·rw[e]; exact h.2.1
 ·rw[e]; exact h.2.2
theorem Holds.rdv {s:Sup} {t:Int} {n:Nat} {k:Dk} (h:Holds s t n k):k.rdv (t % 2).toNat=s.L t:=by
 rw[h.1.1.rdv,h.2.2]
theorem Holds.set {s x:Sup} {t:Int} {n:Nat} {k:Dk} (h:Holds s t n k) (hn:2≤n):Holds x (qy t) n ((k.wr (Dk.put (vT t) (x.L (qy t)))).wr Dk.sync):=by
 have hg:=h.1.1.put (vT t) (x.L (qy t))
 have hl:=GH t
 refine ⟨Oy h.1 _ _,?_,?_⟩
 ·rw[hg.held_sync,h.1.1.held_put,List.length_set,h.2.1]
 ·rw[hg.held_sync,h.1.1.held_put]
  show (k.held.set (vT t) (x.L (qy t))).getD (vT t) []=_
  simp[List.getD,List.getElem?_set,h.2.1,show vT t<n by omega]
theorem zk.kept {w w':World} {X Y Z:Nat→Prop} {p d n:Nat} {a b g r v f t:Int} {k:Dk} (h:zk w X p d n a b g r v f t k) (hk:Kept Z w w') (hZ:∀ b,b<w.heap.size→¬ X b→Z b) (hY:∀ b,b<w.heap.size→Y b→X b):zk w' Y p d n a b g r v f t k :=
 ⟨h.1.kept hk (hZ p h.1.lt h.2.2),h.2.1.kept hk (fun b hb hx=>hZ b hb (fun c=>hx (.inl c))) (fun b hb hy=>hy.elim (fun c=>.inl (hY b hb c)) .inr),fun c=>h.2.2 (hY p h.1.lt c)⟩
end
section
def lenOf:Value→Nat
 | .slice _ n _=>n
 | _=>0
end
section
section
variable {P:Program} {w:World} {o:Oper} {a:Act} {Q:Exit→Act→World→Prop} {K:Act→World→Prop} {E:Prop} {ops:Array Oper}
theorem yM (ty:TypeId) (ho:o.op=.alloc ty) (hgd:Region.wanted o (yielded ops a.tmps)=true) (zs:Array Value) (hz:∀ w,(zeroValue ty).run P w=.ok (.agg zs) w)
 (h:K (a.put o.dst (.pointer (some ⟨w.heap.size,0,none⟩))) (w.alloc (.cells zs ty))):if Region.wanted o (yielded ops a.tmps)=true then Oper.wp P o a w K Q else E:=by
 rw[if_pos hgd]
 unfold Oper.wp execOp
 simp only[ho,Instr.alloc,Sem.run_bind,hz,Result.andThen_ok]
 exact h
variable {md:Region.Mode} {S:World→Prop} {st:List Nat}
end
abbrev rs3:Oper:=⟨some 27,.move (.tmp 26),4,"ref.go:39",#[⟨2,.data⟩,⟨1,.chain⟩],none⟩
end
section
abbrev Seg:=Int × Int × Int
abbrev Num:=Nat × Seg
abbrev zK:Seg:=(0,0,0)
abbrev xO:Num:=(0,zK)
abbrev zu (s:Seg):List Value:=[.int .i64 s.1,.int .u64 s.2.1,.int .i64 s.2.2]
abbrev xL (x:Num):List Value:=[.int .i64 x.1,.int .i64 x.2.1,.int .u64 x.2.2.1,.int .i64 x.2.2.2]
theorem wV:(Tryz.prog.info? 126).map (·.size)=some 3:=by kernel_rfl
theorem Bj (w:World):(zeroValue 126).run Tryz.prog w=.ok (.agg (zu zK).toArray) w:=(Tryz.zeroValue126 w).trans rfl
theorem ML (s:Seg):(zu s).toArray.all (·.oneCell')=true:=by simp[zu,Value.oneCell']
theorem YO (s:Seg):∀ v∈zu s,v.oneCell'=true:=by
 intro v hv
 simp[zu] at hv
 rcases hv with rfl | rfl | rfl <;> rfl
theorem Gs (x:Num):∀ v∈xL x,v.oneCell'=true:=by
 intro v hv
 simp[xL] at hv
 rcases hv with rfl | rfl | rfl | rfl <;> rfl
def wI {α:Type} (enc:α→List Value) (k:Nat) (d:α) (w:World) (S:Nat→Prop) (A:Option Addr) (n:Nat) (xs:List α):Prop :=
 xs.length=n∧(0<n→∃ b off,A=some ⟨b,off,none⟩∧S b∧∀ i,i<n→w.rangeAt b (off+i*k) (enc (xs.getD i d)))
abbrev qH:=wI zu 3 zK
abbrev zIC:=wI xL 4 xO
section
variable {α:Type} {enc:α→List Value} {k:Nat} {d:α} {w w':World} {S T:Nat→Prop} {A:Option Addr} {n:Nat} {xs:List α}
theorem wI.keep (h:wI enc k d w S A n xs) (hk:∀ p:Addr,S p.block→w'.cell? p=w.cell? p):wI enc k d w' S A n xs :=
 ⟨h.1,fun hn=>by
  obtain ⟨b,off,e,hb,hc⟩:=h.2 hn
  exact ⟨b,off,e,hb,fun i hi j v hv=>by rw[hk _ hb]; exact hc i hi j v hv⟩⟩
theorem wI.more (h:wI enc k d w S A n xs) (hs:∀ b,S b→T b):wI enc k d w T A n xs :=
 ⟨h.1,fun hn=>by
  obtain ⟨b,off,e,hb,hc⟩:=h.2 hn
  exact ⟨b,off,e,hs b hb,hc⟩⟩
theorem wI.below {B:Nat} (h:wI enc k d w S A n xs) (hb:Below B w w') (hs:∀ b,S b→b<B):wI enc k d w' S A n xs:=h.keep fun _ hp=>hb.cell (hs _ hp)
theorem wI.kept (h:wI enc k d w S A n xs) (hb:Kept T w w') (hs:∀ b,S b→T b):wI enc k d w' S A n xs:=h.keep fun _ hp=>hb.cell (hs _ hp)
theorem wI.nil (enc:α→List Value) (k:Nat) (d:α) (w:World) (S:Nat→Prop) (A:Option Addr):wI enc k d w S A 0 []:=⟨rfl,fun h=>absurd h (by omega)⟩
end
def xA (xs:List Seg):Nat→List Num
 | 0=>[]
 | j+1=>xA xs j++(if (xs.getD j zK).1=0 then [] else [(j,xs.getD j zK)])
def live (xs:List Seg):List Num:=xA xs xs.length
theorem pE (xs:List Seg):∀ j,(xA xs j).length≤j
 | 0=>nR _
 | j+1=>by
  have:=pE xs j
  unfold xA
  split <;> simp <;> omega
theorem Zb (xs:List Seg) (x:Num):∀ j,x∈xA xs j↔x.1<j∧x.2=xs.getD x.1 zK∧x.2.1≠0
 | 0=>by simp[xA]
 | j + 1 => by
  unfold xA
  rw[List.mem_append,Zb xs x j]
  obtain ⟨i,s⟩:=x
  by_cases h:(xs.getD j zK).1=0
  ·rw[if_pos h]
   constructor
   ·rintro (⟨h1,h2,h3⟩ | h1)
    ·exact ⟨by simp only[] at *; omega,h2,h3⟩
    ·cases h1
   ·rintro ⟨h1,h2,h3⟩
    refine .inl ⟨?_,h2,h3⟩
    simp only[] at *
    rcases Nat.lt_or_ge i j with hlt | hge
    ·exact hlt
    ·obtain rfl:i=j:=by omega
     rw[h2] at h3
     exact absurd h h3
  ·rw[if_neg h]
   simp only[List.mem_singleton,Prod.mk.injEq]
   constructor
   ·rintro (⟨h1,h2,h3⟩ | ⟨rfl,rfl⟩)
    ·exact ⟨by omega,h2,h3⟩
    ·exact ⟨by omega,rfl,h⟩
   ·rintro ⟨h1,h2,h3⟩
    rcases Nat.lt_or_ge i j with hlt | hge
    ·exact .inl ⟨hlt,h2,h3⟩
    ·obtain rfl:i=j:=by omega
     exact .inr ⟨rfl,h2⟩
theorem D8 {xs:List Seg} {x:Num}:x∈live xs↔x.1<xs.length∧x.2=xs.getD x.1 zK∧x.2.1≠0:=Zb xs x _
section
variable {P:Program} {w:World} {ops:Array Oper} {rest:List Oper} {o:Oper} {a:Act} {Q:Exit→Act→World→Prop}
theorem nM (ty:TypeId) (ho:o.op=.alloc ty) (hgd:o.guard=none) (zs:Array Value) (hz:∀ w,(zeroValue ty).run P w=.ok (.agg zs) w)
 (h:wpList P ops Q rest (a.put o.dst (.pointer (some ⟨w.heap.size,0,none⟩))) (w.alloc (.cells zs ty))):wpList P ops Q (o::rest) a w:=by
 refine wpList_plain hgd fun K hK=>?_
 unfold Oper.wp execOp
 simp only[ho,Instr.alloc,Sem.run_bind,hz,Result.andThen_ok]
 exact hK _ _ h
theorem fI (x y:Operand) (ty:TypeId) (ho:o.op=.store ty x y) (hgd:o.guard=none) (w0:World) (zs cs:Array Value)
 (hx:a.eval x=.pointer (some ⟨w0.heap.size,0,none⟩)) (hy:a.eval y=.agg cs) (t:TypeId) (hw:w=w0.alloc (.cells zs t)) (hi:(P.info? ty).map (·.size)=some cs.size) (hl:zs.size=cs.size) (hone:cs.all (·.oneCell')=true)
 (h:wpList P ops Q rest (a.put o.dst undef) (w0.alloc (.cells cs t))):wpList P ops Q (o::rest) a w:=by
 subst hw
 refine wpList_store_row hgd ty x y ho w0.heap.size cs hx hy t zs (heap_alloc_last w0 _) hi hl hone ?_
 rw[World.setRow_alloc_new]
 exact h
theorem nK (x:Operand) (ty:TypeId) (ho:o.op=.load ty x) (hgd:Region.wanted o (yielded ops a.tmps)=true) (b off:Nat) (hx:a.eval x=.pointer (some ⟨b,off,none⟩))
 (cs:List Value) (d:TypeDesc) (hu:P.underlying ty=some d) (hd:d.isRow=true) (hi:(P.info? ty).map (·.size)=some cs.length) (hc:w.rangeAt b off cs)
 (h:wpList P ops Q rest (a.put o.dst (.agg cs.toArray)) w):wpList P ops Q (o::rest) a w:=by
 refine wpList_step fun K hK=>?_
 rw[if_pos hgd]
 exact wp_load_mid ty x ho b off hx cs d hc hu hd hi (hK _ _ h)
end
end
section
open Go.Shelf
def FK:Go.Shelf.Ren:=⟨fun | 6=>181 | 15=>209 | 14=>208 | 28=>227 | 29=>228 | 20=>219 | 21=>220 | 22=>221 | 23=>222 | 24=>223 | 25=>224 | 26=>225 | 27=>226 | 46=>229 | 47=>230 | 48=>231 | 49=>232 | 50=>233 | 57=>234 | n=>n,fun | 22=>268 | 24=>270 | 25=>273 | 3=>3 | 39=>75 | 0=>0 | 53=>29 | 55=>30 | 4=>4 | 46=>299 | 45=>298 | 50=>303 | 5=>5 | 9=>9 | 66=>308 | 70=>307 | 76=>312 | 77=>313 | n=>n,fun | n=>n⟩
theorem MB:Go.Proofs.SlLaysF0.n6 Tryz.prog FK:={
 mixed:=by kernel_rfl
 f6:=⟨Tryz.f181.name,by decide,Tryz.func181.trans (congrArg some (by kernel_rfl))⟩
 f14:=⟨Tryz.f208.name,by decide,Tryz.func208.trans (congrArg some (by kernel_rfl))⟩
 f15:=Tryz.func209.trans (congrArg some (by kernel_rfl))
 f20:=⟨Tryz.f219.name,by decide,Tryz.func219.trans (congrArg some (by kernel_rfl))⟩
 f21:=⟨Tryz.f220.name,by decide,Tryz.func220.trans (congrArg some (by kernel_rfl))⟩
 f22:=⟨Tryz.f221.name,by decide,Tryz.func221.trans (congrArg some (by kernel_rfl))⟩
 f23:=⟨Tryz.f222.name,by decide,Tryz.func222.trans (congrArg some (by kernel_rfl))⟩
 f24:=⟨Tryz.f223.name,by decide,Tryz.func223.trans (congrArg some (by kernel_rfl))⟩
 f25:=⟨Tryz.f224.name,by decide,Tryz.func224.trans (congrArg some (by kernel_rfl))⟩
 f26:=⟨Tryz.f225.name,by decide,Tryz.func225.trans (congrArg some (by kernel_rfl))⟩
 f27:=⟨Tryz.f226.name,by decide,Tryz.func226.trans (congrArg some (by kernel_rfl))⟩
 f28:=Tryz.func227.trans (congrArg some (by kernel_rfl))
 f29:=Tryz.func228.trans (congrArg some (by kernel_rfl))
 f46:=⟨Tryz.f229.name,by decide,Tryz.func229.trans (congrArg some (by kernel_rfl))⟩
 f47:=Tryz.func230.trans (congrArg some (by kernel_rfl))
 f48:=Tryz.func231.trans (congrArg some (by kernel_rfl))
 f49:=⟨Tryz.f232.name,by decide,Tryz.func232.trans (congrArg some (by kernel_rfl))⟩
 f50:=⟨Tryz.f233.name,by decide,Tryz.func233.trans (congrArg some (by kernel_rfl))⟩
 f57:=⟨Tryz.f234.name,by decide,Tryz.func234.trans (congrArg some (by kernel_rfl))⟩
 t0:=Tryz.underlying0
 a0:=Tryz.isAgg0
 z0:=Tryz.sizeOf0
 v0:=Tryz.zeroValue0
 t3:=Tryz.underlying3
 a3:=Tryz.isAgg3
 z3:=Tryz.sizeOf3
 v3:=Tryz.zeroValue3
 t4:=Tryz.underlying4
 a4:=Tryz.isAgg4
 z4:=Tryz.sizeOf4
 v4:=Tryz.zeroValue4
 t5:=Tryz.underlying5
 a5:=Tryz.isAgg5
 z5:=Tryz.sizeOf5
 v5:=Tryz.zeroValue5
 t9:=Tryz.underlying9
 a9:=Tryz.isAgg9
 z9:=Tryz.sizeOf9
 v9:=Tryz.zeroValue9
 t22:=Tryz.underlying268
 a22:=Tryz.isAgg268
 z22:=Tryz.sizeOf268
 v22:=Tryz.zeroValue268
 t25:=Tryz.underlying273
 a25:=Tryz.isAgg273
 z25:=Tryz.sizeOf273
 v25:=Tryz.zeroValue273
 t39:=Tryz.underlying75
 a39:=Tryz.isAgg75
 z39:=Tryz.sizeOf75
 v39:=Tryz.zeroValue75
 t45:=Tryz.underlying298
 a45:=Tryz.isAgg298
 z45:=Tryz.sizeOf298
 v45:=Tryz.zeroValue298
 t46:=Tryz.underlying299
 a46:=Tryz.isAgg299
 z46:=Tryz.sizeOf299
 v46:=Tryz.zeroValue299
 t50:=Tryz.underlying303
 a50:=Tryz.isAgg303
 z50:=Tryz.sizeOf303
 v50:=Tryz.zeroValue303
 t53:=Tryz.underlying29
 a53:=Tryz.isAgg29
 z53:=Tryz.sizeOf29
 v53:=Tryz.zeroValue29
 t55:=Tryz.underlying30
 a55:=Tryz.isAgg30
 z55:=Tryz.sizeOf30
 v55:=Tryz.zeroValue30
 t66:=Tryz.underlying308
 a66:=Tryz.isAgg308
 z66:=Tryz.sizeOf308
 v66:=Tryz.zeroValue308
 t70:=Tryz.underlying307
 a70:=Tryz.isAgg307
 z70:=Tryz.sizeOf307
 v70:=Tryz.zeroValue307
 t76:=Tryz.underlying312
 a76:=Tryz.isAgg312
 z76:=Tryz.sizeOf312
 v76:=Tryz.zeroValue312
 t77:=Tryz.underlying313
 a77:=Tryz.isAgg313
 z77:=Tryz.sizeOf313
 v77:=Tryz.zeroValue313 }
end
section
open Go.RowKit Go.Shelf Go.Lib Go.Sort
theorem Vg (x:Int) (w:World):Calls Tryz.prog 210 #[.int .u64 x] w fun e w'=>e=.returned (.bool false)∧w'=w:=by
 go_enter Tryz.func210,Tryz.ntmps210
 go_wp2
 go_ret
 exact ⟨rfl,rfl⟩
def Dt (x y:Int):Int:=if x<y then -1 else if y<x then 1 else 0
theorem zDM (x y:Int) (w:World):Calls Tryz.prog 183 #[.int .u64 x,.int .u64 y] w fun e w'=>e=.returned (.int .i64 (Dt x y))∧w'=w:=by
 unfold Dt
 by_cases h1:x<y
 ·rw[if_pos h1]
  have hd:decide (x<y)=true:=decide_eq_true h1
  go_enter Tryz.func183,Tryz.ntmps183
  go_wp2_with (go_at_call 210; refine (Vg _ _).mono ?_; rintro e w' ⟨rfl,rfl⟩)
  go_ret
  exact ⟨rfl,rfl⟩
 ·rw[if_neg h1]
  have hd:decide (x<y)=false:=decide_eq_false h1
  by_cases h2:y<x
  ·rw[if_pos h2]
   have hd2:decide (y<x)=true:=decide_eq_true h2
   go_enter Tryz.func183,Tryz.ntmps183
   go_wp2_with (go_at_call 210; refine (Vg _ _).mono ?_; rintro e w' ⟨rfl,rfl⟩)
   go_ret
   exact ⟨rfl,rfl⟩
  ·rw[if_neg h2]
   have hd2:decide (y<x)=false:=decide_eq_false h2
   go_enter Tryz.func183,Tryz.ntmps183
   go_wp2_with (go_at_call 210; refine (Vg _ _).mono ?_; rintro e w' ⟨rfl,rfl⟩)
   go_ret
   exact ⟨rfl,rfl⟩
abbrev Vz (x y:Num):Int:=Dt x.2.2.1 y.2.2.1
theorem ltN (x y:Num):ltOf Vz x y=decide (x.2.2.1<y.2.2.1):=by
 unfold ltOf Vz Dt
 by_cases h1:x.2.2.1<y.2.2.1
 ·simp[h1]
 ·by_cases h2:y.2.2.1<x.2.2.1 <;> simp[h1,h2]
theorem zMP:SWO (ltOf Vz) where
 irrefl x:=by rw[ltN]; simp
 trans x y z h1 h2:=by rw[ltN] at *; simp at *; omega
 ntrans x y z h1 h2:=by rw[ltN] at *; simp at *; omega
theorem Fh (x y:Num) (W:World):Calls Tryz.prog 182 #[.agg (xL x).toArray,.agg (xL y).toArray] W fun e w'=>e=.returned (.int .i64 (Vz x y))∧∃ q os',w'=grow (W.drewN q) os':=by
 obtain ⟨i,st,g,u⟩:=x
 obtain ⟨i',st',g',u'⟩:=y
 have hcon:=fun W'=>zDM g g' W'
 simp only[Vz]
 generalize Dt g g'=r at hcon ⊢
 go_enter Tryz.func182,Tryz.ntmps182
 go_wp2_with (go_at_call 183; refine (hcon _).mono ?_; rintro e w' ⟨rfl,rfl⟩)
 go_ret
 exact ⟨rfl,0,_,by rw[alloc_eq_grow,alloc_eq_grow,grow_grow]; rfl⟩
theorem BS {α:Type} [Inhabited α] {enc:α→List Value} {k:Nat} {w:World} {g off n:Nat} {os:Array Obj} (d:Array α):w.grownBy (sortWorldK enc k w g off n d os) (some g):=by
 unfold sortWorldK putRowK
 refine ⟨rfl,rfl,rfl,by simp,fun j hj hne=>?_⟩
 rw[heap_grow_old _ _ (by simpa using hj)]
 have:g≠j:=fun e=>hne (by rw[e])
 simp[putRow,mapBlock,Sort.ahead,Array.getElem?_modify,this]
theorem AL (blk off cap:Nat) (d:Array Num) (w:World) (hH:HoldsK xL 4 w blk off d) (hblk:blk<w.heap.size) (hsz:d.size<4611686018427387904) :
 Calls Tryz.prog 181 #[.slice (some ⟨blk,off,none⟩) d.size cap,.func (.func 182) #[] #[]] w fun e w' =>
  e=.returned (.tuple #[])∧∃ d',d'.size=d.size∧d'.toList.Perm d.toList∧(∀ i j,i<j→j<d.size→(d'[i]!).2.2.1≤(d'[j]!).2.2.1)∧HoldsK xL 4 w' blk off d'∧w.grownBy w' (some blk):=by
 have eg:∀ args w,(callFunc 182 args).run Tryz.prog w=.ok (.enter 182 args) w:=enters_of Tryz.func182 (by kernel_rfl) rfl
 have hcon:=AnyQ.slices_SortFunc (α:=Num) MB 4 Tryz.isAgg270 Tryz.sizeOf270 xL (fun _=>rfl) Gs Vz zMP 182 #[] blk off cap d w eg (fun m os dk _ x y=>Fh x y _) hH hblk hsz
 refine Calls.mono (hcon:Calls Tryz.prog 181 _ _ _) ?_
 rintro e w' ⟨rfl,d',n,os,hp,hs,rfl⟩
 refine ⟨rfl,d',hp.1,?_,?_,holdsK_sortWorldK _ _ _ _ _ _ d d' os hblk hH hp.1,BS d'⟩
 ·have h:=hp.2.2
  have e1:d'.extract 0 d.size=d':=by rw[← hp.1]; simp
  have e2:d.extract 0 d.size=d:=by simp
  rwa [e1,e2] at h
 ·intro i j hij hj
  have h:=hs i j (Nat.zero_le _) hij hj
  rw[ltN] at h
  simp at h
  simpa using h
end
section
open Go.RowKit Go.Shelf Go.Lib Go.Sort
theorem Ti (p:Option Addr) (cap:Nat) (fv:Value) (w:World) :
 Calls Tryz.prog 181 #[.slice p 0 cap,fv] w fun e w'=>e=.returned (.tuple #[])∧w'=w :=
 AnyF.slices_SortFunc_none MB p cap fv w
end
section
open Go.RowKit Go.Shelf Go.Lib Go.Sort
theorem DK:(Tryz.prog.info? 270).map (fun i=>(i.zero,i.size,i.bytes))=some (some (.agg (xL xO).toArray),4,32):=by kernel_rfl
section
variable {w:World} {ops:Array Oper} {rest:List Oper} {o:Oper} {a:Act} {Q:Exit→Act→World→Prop}
theorem VP (x:Operand) (ho:o.op=.buildSlice 268 1 #[(0,x)]) (hgd:o.guard=none) (y:Num) (hx:a.eval x=.agg (xL y).toArray)
 (h:wpList Tryz.prog ops Q rest (a.put o.dst (.slice (some ⟨w.heap.size,0,none⟩) 1 1)) (w.alloc (.cells (xL y).toArray 270))):wpList Tryz.prog ops Q (o::rest) a w:=by
 obtain ⟨i0,hi,hz0,hz1,hz2⟩:=info_parts DK
 refine wpList_buildSlice hgd 268 270 1 #[(0,x)] ho (xL y).toArray i0 _ Tryz.underlying268 hi hz0 (by rw[hz1]; decide) (by rw[hz1]; decide) ?_ h
 rw[hz1]
 have e:(Array.map (fun (p:Nat × Operand)=>(p.1,a.eval p.2)) #[(0,x)]).toList=[(0,.agg (xL y).toArray)]:=by simp[hx]
 refine (congrArg _ e).trans ?_
 obtain ⟨i,st,g,u⟩:=y
 kernel_rfl
theorem XG (s x:Operand) (ho:o.op=.call { callee:=.builtin .append,args:=#[s,x],argTypes:=#[268,268] }) (hgd:o.guard=none)
 (base:Nat) (v:Value) (m:Nat) (P:List Value) (hs:a.eval s=v) (hown:w.ownsRow base 270 4 v m P) (g:Nat) (y:Num) (hx:a.eval x=.slice (some ⟨g,0,none⟩) 1 1) (hg:z8 w g 270 (xL y).toArray)
 (hm:m≤1000000) (hbase:base≤w.heap.size)
 (h:∀ v' w',w'.ownsRow base 270 4 v' (m+1) (P++xL y)→w.grownBy w' v.ownBlock→(v'.ownBlock=v.ownBlock∨v'.ownBlock=some w.heap.size)→wpList Tryz.prog ops Q rest (a.put o.dst v') w') :
 wpList Tryz.prog ops Q (o::rest) a w:=by
 obtain ⟨i0,hi,hz0,hz1,hz2⟩:=info_parts DK
 obtain ⟨v',w',hrun,h2,h3,_,h4⟩:=run_append_own_at (P:=Tryz.prog) w base 268 o.type 270 i0 _ 4 32 Tryz.underlying268 hi hz0 hz1 hz2 (by simp[Value.cells]) (by omega) v m P hown ⟨g,0,none⟩ 1 1 (xL y) (by simp)
  (fun j u hu=>by rw[add_plain,Nat.zero_add,hg.cell j]; simpa using hu) (Gs y) (by unfold maxLen; omega) (by omega) hbase
 refine wpList_plain hgd fun K hK=>?_
 unfold Oper.wp execOp
 simp only[ho,resolve,invoke,builtin,Sem.run_bind,Sem.run_pure,Result.andThen_ok,List.map_toArray,List.map_cons,List.map_nil,hs,hx,hrun]
 exact hK _ _ (h v' w' h2 h3 h4)
end
theorem sH {w:World} {base size n k:Nat} {e:TypeId} {v:Value} {xs:List Value} (h:w.ownsRow base e size v n xs) (hk:v.ownBlock=some k):base≤k:=by
 rcases h.2 with ⟨rfl,_⟩ | ⟨g,cap,cur,rfl,hb,_⟩
 ·simp[Value.ownBlock] at hk
 ·have:g=k:=by simpa [Value.ownBlock] using hk
  omega
theorem Dn:∀ (L:List Num) (t:Nat),t<L.length*4→(L.flatMap xL)[t]? = (xL (L.getD (t / 4) xO))[t % 4]?
 | [],t,h=>by simp at h
 | y :: L, t, h => by
  rw[List.flatMap_cons]
  by_cases h4:t<4
  ·rw[List.getElem?_append_left (by simpa using h4)]
   rw[show t / 4=0 by omega,show t % 4=t by omega]
   rfl
  ·have e:t-(xL y).length=t-4:=by simp
   rw[List.getElem?_append_right (by simp; omega),e,Dn L (t-4) (by simp at h; omega)]
   rw[show t / 4=(t-4) / 4+1 by omega,show t % 4=(t-4) % 4 by omega]
   rfl
theorem U2 {w:World} {base m:Nat} {v:Value} {L:List Num} (h:w.ownsRow base 270 4 v m (L.flatMap xL)) (hm:m=L.length) :
 (v=.slice none 0 0∧L=[])∨∃ g cap,v=.slice (some ⟨g,0,none⟩) L.length cap∧base≤g∧g<w.heap.size∧HoldsK xL 4 w g 0 L.toArray:=by
 subst hm
 rcases h.2 with ⟨rfl,hn⟩ | ⟨g,cap,cur,rfl,hb,hh,h1,h2,h3,h4⟩
 ·exact .inl ⟨rfl,List.length_eq_zero_iff.1 hn⟩
 ·refine .inr ⟨g,cap,rfl,hb,(Array.getElem?_eq_some_iff.1 hh).1,?_⟩
  intro t ht
  have ht':t<L.length*4:=by simpa using ht
  refine ⟨?_,by simp[World.frozen?,hh]⟩
  rw[get_flatK xL 4 L.toArray t (by simpa using ht')]
  have e1:cur.toList[t]? = (L.flatMap xL)[t]? := by
   rw[← h4,List.getElem?_take_of_lt ht']
  rw[Dn L t ht'] at e1
  simp only[World.cell?,hh,Nat.zero_add]
  simp only[Option.isSome_none,Bool.false_eq_true,if_false]
  rw[← Array.getElem?_toList,e1]
  have hlt:t / 4<L.length:=by omega
  have e2:L.toArray[t / 4]! = L.getD (t / 4) xO:=by simp[List.getD,hlt]
  rw[e2]
  have h5:t % 4<(xL (L.getD (t / 4) xO)).length:=by simp; omega
  rw[List.getElem?_eq_getElem h5,getElem!_pos (xL (L.getD (t / 4) xO)) (t % 4) h5]
  rfl
theorem Tq {w:World} {g:Nat} {d:Array Num} (h:HoldsK xL 4 w g 0 d) {S:Nat→Prop} (hS:S g):zIC w S (some ⟨g,0,none⟩) d.size d.toList:=by
 refine ⟨by simp,fun _=>⟨g,0,rfl,hS,fun i hi j v hv=>?_⟩⟩
 have hj:j<4:=by
  have:=(List.getElem?_eq_some_iff.1 hv).1
  simpa using this
 have hc:=(HoldsK.cell h hi hj).1
 have e:d.toList.getD i xO=d[i]! := by simp[List.getD,hi]
 rw[e] at hv
 have h5:j<(xL d[i]!).length:=by simpa using hj
 rw[List.getElem?_eq_getElem h5] at hv
 rw[hc,← hv,getElem!_pos (xL d[i]!) j h5]
def CF (w:World) (n₀ B:Nat) (L:List Num):Prop :=
 n₀≤B∧B<w.heap.size∧∃ A cap,w.cell? ⟨B,0,none⟩=some (.slice A L.length cap)∧zIC w (fun b=>n₀≤b∧b<w.heap.size) A L.length L
def XE (L:List Num):Prop:=∀ i j,i<j→j<L.length→(L.getD i xO).2.2.1≤(L.getD j xO).2.2.1
def zNG (w:World) (xs:List Seg) (n:Nat) (wr:World) (i:Value):Prop :=
 ∃ (j:Nat) (v:Value),j≤n∧i=.int .i64 j∧z8 wr w.heap.size 268 #[v]∧wr.ownsRow w.heap.size 270 4 v (xA xs j).length ((xA xs j).flatMap xL)∧Below w.heap.size w wr
theorem KC {w:World} {A:Option Addr} {n cap:Nat} {xs:List Seg} (h:qH w (·<w.heap.size) A n xs) (hn:n≤16) :
 Calls Tryz.prog 130 #[.slice A n cap] w fun e w'=>∃ B L,e=.returned (.func (.func 184) #[] #[.pointer (some ⟨B,0,none⟩)])∧CF w' w.heap.size B L∧L.Perm (live xs)∧XE L∧Below w.heap.size w w':=by
 have HX:=hI h
 have HN:=hI hn
 clear h hn
 go_enter Tryz.func130,Tryz.ntmps130
 go_wp2_with fail
 go_loopw [8] (fun i wr=>zNG w xs n wr i) (fun i _=>n-(intOf i).toNat)
 case atStart=>exact ⟨0,.slice none 0 0,Nat.zero_le _,rfl,z8.new w _ _,⟨rfl,.inl ⟨rfl,rfl⟩⟩,(Below.refl _ _).alloc (nR _) _⟩
 case round =>
  obtain ⟨j,v,hj,rfl,hb,ho,hbel⟩:=hrel
  have HB:=hI hb
  have HO:=hI ho
  have yO:=hI hbel
  have hn16:=HN.out
  clear hb ho hbel
  by_cases hlt:j<n
  ·obtain ⟨b,off,rfl,hbb,hcc⟩:=(HX.out.below yO.out (fun b h=>h)).2 (by omega)
   have HR:=hI (hcc j hlt)
   obtain ⟨w6,xB⟩:∃ w6,w6=wr.alloc (.cells (zu (xs.getD j zK)).toArray 126):=⟨_,rfl⟩
   have nS:=hI xB
   have Qa:=hI (show z8 w6 wr.heap.size 126 (zu (xs.getD j zK)).toArray by rw[xB]; exact z8.new wr _ _)
   have qK:=hI (show z8 w6 w.heap.size 268 #[v] by rw[xB]; exact HB.out.alloc _)
   have Qc:=hI (show w6.ownsRow w.heap.size 270 4 v (xA xs j).length ((xA xs j).flatMap xL) by rw[xB]; exact HO.out.alloc _)
   have iH:=hI (show Below w.heap.size w w6 by rw[xB]; exact yO.out.alloc yO.out.size _)
   clear hcc hbb xB
   obtain ⟨st,g,u,hx⟩:∃ st g u,xs.getD j zK=(st,g,u):=⟨_,_,_,rfl⟩
   have O7:=hI hx
   rw[hx] at HR nS Qa
   clear hx
   obtain ⟨c0,c1,c2⟩:_∧_∧_:=⟨Qa.out.cell 0,Qa.out.cell 1,Qa.out.cell 2⟩
   have cB:=qK.out.cell 0
   simp only[zu,List.getElem?_toArray,List.getElem?_cons_zero,List.getElem?_cons_succ] at c0 c1 c2 cB
   by_cases h0:st=0
   ·subst h0
    go_wp2_with (first
     | (refine nK (.tmp 11) 126 rfl rfl b (off+j*3) rfl (zu (0,g,u)) _ Tryz.underlying126 rfl wV HR.out ?_)
     | (refine nM 126 rfl rfl (zu zK).toArray Bj ?_)
     | (refine fI (.tmp 5) (.tmp 12) 126 rfl rfl wr (zu zK).toArray (zu (0,g,u)).toArray rfl rfl 126 rfl wV rfl (ML _) ?_; rw[← nS.out]))
    go_roundw
    case rel =>
     have e:xA xs (j+1)=xA xs j:=by
      conv=>lhs; unfold xA
      rw[O7.out,if_pos rfl,List.append_nil]
     refine ⟨j+1,v,by omega,by simp,qK.out,?_,iH.out⟩
     rw[e]
     exact Qc.out
    case measure=>simp[intOf]; omega
   ·have hne:(st != 0)=true:=by simpa using h0
    have hlive:=pE xs j
    have wQ:=hI (Qc.out.alloc (.cells (xL (j,st,g,u)).toArray 270))
    have kN:=hI (qK.out.alloc (.cells (xL (j,st,g,u)).toArray 270))
    have QH:=hI (iH.out.alloc iH.out.size (.cells (xL (j,st,g,u)).toArray 270))
    have zMk:(xA xs j).length≤1000000:=by omega
    have VE:=hI (yT wQ.out kN.out (by decide))
    have mG:=hI QH.out.size
    go_wp2_with (first
     | (refine nK (.tmp 11) 126 rfl rfl b (off+j*3) rfl (zu (st,g,u)) _ Tryz.underlying126 rfl wV HR.out ?_)
     | (refine zV (.tmp 5) 126 rfl rfl wr.heap.size rfl 126 (zu (st,g,u)) _ Tryz.underlying126 rfl wV Qa.out ?_)
     | (refine nM 126 rfl rfl (zu zK).toArray Bj ?_)
     | (refine fI (.tmp 5) (.tmp 12) 126 rfl rfl wr (zu zK).toArray (zu (st,g,u)).toArray rfl rfl 126 rfl wV rfl (ML _) ?_; rw[← nS.out])
     | (refine VP (.tmp 19) rfl rfl (j,st,g,u) rfl ?_)
     | (refine XG (.tmp 16) (.tmp 20) rfl rfl w.heap.size v (xA xs j).length ((xA xs j).flatMap xL) rfl wQ.out w6.heap.size (j,st,g,u) rfl (z8.new w6 _ _) zMk mG.out ?_; rintro v' w8 ho8 lC _; obtain ⟨g',cap',rfl⟩:=ownsRow_succ ho8; have Xv:=hI ho8; have yj:=hI (kN.out.grown lC (fun e=>VE.out e.symm)); have F3:=hI (QH.out.grown lC mG.out (fun k e=>sH wQ.out e)); have c8:=yj.out.cell 0; have f8:=yj.out.frozen 0; simp only[List.getElem?_toArray,List.getElem?_cons_zero] at c8; clear ho8 lC))
    go_roundw
    case rel =>
     have e:xA xs (j+1)=xA xs j++[(j,st,g,u)]:=by
      conv=>lhs; unfold xA
      rw[O7.out,if_neg h0]
     refine ⟨j+1,_,by omega,by simp,yj.out.set_ 0 _,?_,F3.out.setCell (p:=⟨w.heap.size,0,none⟩) (nR _) _⟩
     rw[e,List.length_append,List.flatMap_append,List.flatMap_singleton]
     exact ownsRow_setCell_other Xv.out (a:=⟨w.heap.size,0,none⟩) (fun e=>yT Xv.out yj.out (by decide) e) _
    case measure=>simp[intOf]; omega
  ·obtain rfl:j=n:=by omega
   have hl:live xs=xA xs j:=by unfold live; rw[HX.out.1]
   have HLV:=hI hl
   have hlen:=pE xs j
   clear hl
   rcases U2 HO.out rfl with ⟨rfl,hnil⟩ | ⟨g,cap',rfl,hg1,hg2,hH⟩
   ·have iG:=hI hnil
    clear hnil
    have cB:=HB.out.cell 0
    simp only[List.getElem?_toArray,List.getElem?_cons_zero] at cB
    go_wp2_with (go_at_call 181; refine (Ti _ _ _ _).mono ?_; rintro e w' ⟨rfl,rfl⟩)
    go_ret
    exact ⟨w.heap.size,[],rfl,⟨nR _,HB.out.lt,none,0,cB,wI.nil _ _ _ _ _ _⟩,(by rw[HLV.out,iG.out]),fun i j _ h=>absurd h (by simp),yO.out⟩
   ·have hsort:=AL g 0 cap' (xA xs j).toArray wr hH hg2 (by simp; omega)
    simp only[List.size_toArray] at hsort
    have zJn:=hI hsort
    have hne:g≠w.heap.size:=fun e=>yT HO.out HB.out (by decide) (by rw[e]; rfl)
    have cB:=HB.out.cell 0
    simp only[List.getElem?_toArray,List.getElem?_cons_zero] at cB
    clear hsort hH
    go_wp2_with (go_at_call 181; refine zJn.out.mono ?_; rintro e w9 ⟨rfl,d',Lx,U1,Xe,hh9,iV⟩; have Jc:=hI Lx; have HP9:=hI U1; have HR9:=hI Xe; have HH9:=hI hh9; have OX:=hI iV; clear Lx U1 Xe hh9 iV)
    go_ret
    have hB9:=HB.out.grown OX.out (fun e=>by injection e with e; exact hne e.symm)
    have cB9:=hB9.cell 0
    simp only[List.getElem?_toArray,List.getElem?_cons_zero] at cB9
    refine ⟨w.heap.size,d'.toList,rfl,⟨nR _,hB9.lt,some ⟨g,0,none⟩,cap',?_,?_⟩,(by rw[HLV.out]; exact HP9.out),?_,yO.out.grown OX.out yO.out.size (fun k e=>by injection e with e; omega)⟩
    ·rw[cB9]
     have e:d'.toList.length=(xA xs j).length:=Jc.out
     rw[e]
    ·rw[Array.length_toList]
     exact Tq HH9.out ⟨hg1,nL hg2 OX.out.size⟩
    ·intro i k hik hk
     have hk':k<d'.size:=by simpa using hk
     have h1:=HR9.out i k hik (by rw[← Jc.out]; exact hk')
     have e:∀ q,q<d'.size→d'.toList.getD q xO=d'[q]! := fun q hq=>by simp[List.getD,hq]
     rw[e i (by omega),e k hk']
     exact h1
end
section
open Go.RowKit Go.Shelf
attribute [local go_sem] Oper.semAt_some
abbrev zEd (x:Num):Array Value:=#[.int .i64 x.1,.agg (zu x.2).toArray]
theorem take_one (L:List Num) (k:Nat) (h:k<L.length):L.take (k+1)=L.take k++[L.getD k xO]:=by
 rw[List.take_add_one]
 simp[List.getD,List.getElem?_eq_getElem h]
theorem Aa (F:Fence) (n:Nat) (h7:F.fn 184) (hro:F.round=none) (hn:1≤n) (l Bs b off cap:Nat) (S:Nat→Prop) (L:List Num) (hL:L.length≤16) (hb:S b) (J Jx:List Num→World→Prop) (W:World) (hS:∀ b,S b→b<W.heap.size) (hJ:AbidesFrom W.heap.size J)
 (hY:∀ pre x W,J pre W→pre.length<L.length→YieldAt F (n-1) Tryz.prog l (zEd x) W fun e W' =>
   (e=.returned (.bool true)∧J (pre++[x]) W'∧Kept S W W')∨(e=.returned (.bool false)∧Jx (pre++[x]) W'))
 (hBs:W.cell? ⟨Bs,0,none⟩=some (.slice (some ⟨b,off,none⟩) L.length cap)) (hc:∀ j,j<L.length→W.rangeAt b (off+j*4) (xL (L.getD j xO))) (h0:J [] W) :
 CallsIn F n Tryz.prog 184 #[.func (.yield l) #[] #[],.pointer (some ⟨Bs,0,none⟩)] W fun e W'=>(∃ v,e=.returned v) ∧
  ((∃ ys,ys=L∧J ys W')∨(∃ pre,(∃ k,k≤L.length∧pre=L.take k)∧Jx pre W')):=by
 refine callsIn_of_wp Tryz.func184 rfl h7 ?_ hro
 simp only[Tryz.ntmps184,List.size_toArray,List.length_cons,List.length_nil,Nat.reduceAdd,Nat.reduceSub,Array.replicate_succ,Array.replicate_zero,List.push_toArray,List.append_toArray,List.nil_append,List.cons_append]
 gi_wp2
 gi_loopw [7] (fun i wr=>∃ k:Nat,k≤L.length∧i=.int .i64 k∧J (L.take k) wr∧Kept S W wr)
  (fun i _=>L.length-(intOf i).toNat)
 case atStart=>exact ⟨0,Nat.zero_le _,rfl,h0,Kept.refl _ _⟩
 case round =>
  obtain ⟨k,hk,rfl,hJs,hnx⟩:=hrel
  by_cases hlt:k<L.length
  ·have hr:=hc k hlt
   obtain ⟨i,st,g,u,hx⟩:∃ i st g u,L.getD k xO=(i,st,g,u):=⟨_,_,_,_,rfl⟩
   rw[hx] at hr
   have hJ2:=hJ _ _ (wr.alloc (.cells (xL (i,st,g,u)).toArray 270)) none hJs (World.grownBy_alloc _ _ none) (fun r e=>by cases e)
   obtain ⟨fn,tmps,assign,body,hy,hR⟩:=hY _ (i,st,g,u) _ hJ2 (by rw[List.length_take]; omega)
   obtain ⟨c0,c1,c2,c3⟩:wr.cell? ⟨b,off+k*4,none⟩=some (.int .i64 i)∧wr.cell? ⟨b,off+k*4+1,none⟩=some (.int .i64 st)∧wr.cell? ⟨b,off+k*4+2,none⟩=some (.int .u64 g)∧wr.cell? ⟨b,off+k*4+3,none⟩=some (.int .i64 u) :=
    ⟨(hnx.cell (p:=⟨b,_,none⟩) hb).trans (hr 0 _ rfl),(hnx.cell (p:=⟨b,_,none⟩) hb).trans (hr 1 _ rfl),(hnx.cell (p:=⟨b,_,none⟩) hb).trans (hr 2 _ rfl),(hnx.cell (p:=⟨b,_,none⟩) hb).trans (hr 3 _ rfl)⟩
   have hX:=hI hx
   have HJ:=hI hJ
   clear hx hr hJ2 hJ
   gi_wp2
   refine hR.mono ?_
   rintro e W3 (⟨rfl,hJ3,hk3⟩ | ⟨rfl,hJx3⟩)
   ·gi_wp2
    go_roundw
    case rel=>exact ⟨k+1,by omega,by simp,by rw[take_one L k hlt,hX.out]; exact hJ3,(hnx.alloc (fun b h=>nL (hS b h) hnx.size) _).trans hk3 (fun b h=>h)⟩
    case measure=>simp[intOf]; omega
   ·gi_wp2
    refine bodyPost_ret (results_none rfl _ _ _) rfl ?_
    exact ⟨⟨_,rfl⟩,.inr ⟨_,⟨k+1,by omega,rfl⟩,by rw[take_one L k hlt,hX.out]; exact hJx3⟩⟩
  ·obtain rfl:k=L.length:=by omega
   rw[List.take_length] at hJs
   gi_wp2
   go_end0
   exact ⟨⟨_,rfl⟩,.inl ⟨_,rfl,hJs⟩⟩
theorem Tv (F:Fence) (n:Nat) (h7:F.fn 184) (hro:F.round=none) (l Bs cap:Nat) (A:Option Addr) (J:List Num→World→Prop) (W:World) (hBs:W.cell? ⟨Bs,0,none⟩=some (.slice A 0 cap)) (h0:J [] W) :
 CallsIn F n Tryz.prog 184 #[.func (.yield l) #[] #[],.pointer (some ⟨Bs,0,none⟩)] W fun e W'=>(∃ v,e=.returned v)∧J [] W':=by
 refine callsIn_of_wp Tryz.func184 rfl h7 ?_ hro
 simp only[Tryz.ntmps184,List.size_toArray,List.length_cons,List.length_nil,Nat.reduceAdd,Nat.reduceSub,Array.replicate_succ,Array.replicate_zero,List.push_toArray,List.append_toArray,List.nil_append,List.cons_append]
 gi_wp2
 gi_loopw [7] (fun i wr=>i=.int .i64 0∧J [] wr) (fun _ _=>0)
 case atStart=>exact ⟨rfl,h0⟩
 case round =>
  obtain ⟨rfl,hJs⟩:=hrel
  gi_wp2
  go_end0
  exact ⟨⟨_,rfl⟩,hJs⟩
theorem KD (F:Fence) (n:Nat) (h7:F.fn 184) (hro:F.round=none) (hn:1≤n) (B n₁ n₂:Nat) (L:List Num) (hL:L.length≤16) (w:World) (hs:CF w n₁ B L) (hn₂:n₂=w.heap.size) :
 SeqStopsK F n Tryz.prog 184 #[.pointer (some ⟨B,0,none⟩)] zEd (Kept (fun b=>n₁≤b∧b<n₂)) (fun ys=>ys=L) (fun pre=>∃ k,k≤L.length∧pre=L.take k) L.length w:=fun l J Jx W hW hJ hJx hY h0=>by
 subst hn₂
 obtain ⟨_,hB,A,cap,hc,hrow⟩:=hs
 have hc':=(hW.cell (p:=⟨B,0,none⟩) hB).trans hc
 rcases Nat.eq_zero_or_pos L.length with hz | hp
 ·obtain rfl:L=[]:=List.length_eq_zero_iff.1 hz
  exact (Tv F n h7 hro l B cap A J W hc' h0).mono fun e W' ⟨he,hj⟩=>⟨he,.inl ⟨_,rfl,hj⟩⟩
 ·obtain ⟨b,off,rfl,hb,hcs⟩:=(hrow.below hW (fun b h=>h.2)).2 hp
  exact Aa F n h7 hro hn l B b off cap _ L hL hb J Jx W (fun b h=>nL h.2 hW.size) hJ hY hc' hcs h0
theorem Mv {S:Nat→Prop} {A B C:World} (h:Kept S A B) (k:Kept S B C):Kept S A C:=h.trans k (fun _ h=>h)
theorem Mw {n₁ n₂:Nat} {w:World} (hn:n₂≤w.heap.size) (W:World) (l:Nat) (o o':Obj) (hl:w.heap.size≤l) (h:W.heap[l]? = some o) (_:o.isCells=false) (_:o.isWalk=false):Kept (fun b=>n₁≤b∧b<n₂) W (W.putObj l o') :=
 (Kept.refl _ W).grown (grownBy_putObj' W l o') (fun b hb=>nL hb.2 (nT hn (nT hl (Nat.le_of_lt (Array.getElem?_eq_some_iff.1 h).1)))) (fun g e hg=>by cases e; omega)
end
end Go.Proofs.YtdkbpchmnhbhcaaGreat
