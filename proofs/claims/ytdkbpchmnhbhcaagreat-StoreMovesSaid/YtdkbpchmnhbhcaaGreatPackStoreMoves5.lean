/- Texts of StoreMoves, packed. -/
import Derived.Test.YtdkbpchmnhbhcaaGreatPackStoreMoves4
import Derived.Deep.DeepCutAuto
import Derived.Deep.Slices
import Derived.Deep.Fields
import Derived.ChangeSame
import Derived.Lib.SmallJoins
import Derived.Deep.MidRow
import Derived.Shelf.SlSortCmp.WholeK
import Derived.Ground.SlsfProg
import Derived.Test.YtdkbpchmnhbhcaaGreatProg
import Derived.Lib.Hide
import Derived.Shelf.SlSortCmp.NoneTotal
set_option linter.unusedVariables false
set_option linter.unusedSimpArgs false
set_option maxRecDepth 100000
set_option maxHeartbeats 16000000
namespace Go.Proofs.YtdkbpchmnhbhcaaGreat
open Go.RowKit
section
section
variable {w:World} {d H S n:Nat} {v:Value} {m:Nat} {held safe:List Int} {P:List Value} {armed fails:Int} {ops:Int}
def SyR (d H S n:Nat) (v:Value) (m:Nat) (held safe:List Int) (P:List Value) (armed fails:Int) (dead:Bool) (ops:Int) (w4 w2:World):Prop :=
 ∃ v',Dm w2 d H S n v' m held safe P armed fails dead ops∧(∀ g,v'.ownBlock=some g→v.ownBlock=some g∨w4.heap.size≤g)∧Kept (fun b=>b<w4.heap.size∧b≠d∧b≠H∧b≠S∧v.ownBlock≠some b) w4 w2
theorem WrR.sy {dead:Bool} {w4 w2:World} (h:WrR d H S n v m held safe P armed fails dead ops w4 w2):SyR d H S n v m held safe P armed fails dead ops w4 w2:=by
 obtain ⟨v',h1,h2,h3⟩:=h
 exact ⟨v',h1,h2,h3.mono (fun b h=>⟨h.1,h.2.1,h.2.2.1,h.2.2.2.2⟩)⟩
theorem SyR.laid {dead:Bool} {w4 w2:World} (h:SyR d H S n v m held safe P armed fails dead ops w4 w2) (x:Int):SyR d H S n v m held safe P armed fails dead x w4 (w2.setCell ⟨d,6,none⟩ (.int .i64 x)):=by
 obtain ⟨v',h1,h2,h3⟩:=h
 exact ⟨v',h1.ops_ x,h2,h3.setCell (fun h=>h.2.1 rfl) _⟩
theorem SyR.base {dead:Bool} {w4 w2:World} (h:SyR d H S n v m held safe P armed fails dead ops w4 w2) (hb:Below w.heap.size w w4):SyR d H S n v m held safe P armed fails dead ops w w2:=by
 obtain ⟨v',h1,h2,h3⟩:=h
 refine ⟨v',h1,fun g hg=>?_,?_⟩
 ·rcases h2 g hg with h | h
  ·exact .inl h
  ·exact .inr (nT hb.size h)
 ·exact (Kept.of_below hb (fun b h=>h.1)).trans h3 (fun b h=>⟨nL h.1 hb.size,h.2⟩)
theorem sync1_any {dead:Bool} {held safe:List (List Int)} {pend:List (Nat × List Int)} (h:Dm w d H S n v m (flat held) (flat safe) (flatP pend) armed fails dead ops) (hs:Secs safe) (hheld:held=over safe pend) (hn:safe.length=n) (hn2:n≤2048) (hf:Fits n pend)
 (g:Nat) (hg:w.cell? ⟨g,0,none⟩=some (.pointer (some ⟨d,0,none⟩))) :
 Calls Tryz.prog 160 #[.pointer (some ⟨g,0,none⟩)] w fun e w'=>e=.returned (.tuple #[]) ∧
  Dm w' d H S n (.slice none 0 0) 0 (flat (over safe pend)) (flat (over safe pend)) [] armed fails dead ops∧Kept (fun b=>b<w.heap.size∧b≠d∧b≠H∧b≠S) w w':=by
 have hlen:=own_len h.own (fun p hp=>(hf p hp).2.1)
 have HL:=hI (show lived (fun _=>true) pend m=pend by rw[lived_all]; exact List.take_of_length_le (by omega))
 have HC:=hI (fun (u:Unit)=>settle_all h hs hheld hn hn2 hf)
 clear h hs hheld hn hf hlen
 go_enter Tryz.func160,Tryz.ntmps160
 go_wp2_with (go_at_call 161; refine (HC.out ()).mono ?_; rintro e w' ⟨rfl,hdm,hk⟩; rw[HL.out] at hdm; have HD:=hI hdm; have HK:=hI hk; clear hdm hk)
 go_end0
 exact ⟨rfl,HD.out,HK.out⟩
theorem sync1_kept {held safe:List (List Int)} {pend:List (Nat × List Int)} {w1 w4:World} (hd1:Dm w1 d H S n v m (flat held) (flat safe) (flatP pend) armed fails false ops) (hk1:Kept (fun b=>b≠d) w4 w1) (hs:Secs safe) (hheld:held=over safe pend) (hn:safe.length=n) (hn2:n≤2048) (hf:Fits n pend)
 (g:Nat) (hg:Blk w4 g 25 #[.pointer (some ⟨d,0,none⟩)]) (hdg:d<g) :
 Calls Tryz.prog 160 #[.pointer (some ⟨g,0,none⟩)] w1 fun e w2=>e=.returned (.tuple #[])∧SyR d H S n v 0 (flat (over safe pend)) (flat (over safe pend)) [] armed fails false ops w4 w2:=by
 refine (sync1_any hd1 hs hheld hn hn2 hf g ((hg.kept hk1 (by omega)).cell 0)).mono ?_
 rintro e w2 ⟨rfl,h1,h2⟩
 refine ⟨rfl,_,h1,fun g hg=>(by simp[Value.ownBlock] at hg),?_⟩
 exact (hk1.mono (fun b h=>h.2.1)).trans h2 (fun b h=>⟨nL h.1 hk1.size,h.2.1,h.2.2.1,h.2.2.2.1⟩)
theorem sync_done {held safe:List (List Int)} {pend:List (Nat × List Int)} (h:Dm w d H S n v m (flat held) (flat safe) (flatP pend) armed fails false ops) (hs:Secs safe) (hheld:held=over safe pend) (hn:safe.length=n) (hn2:n≤2048) (hf:Fits n pend) (hf0:-9223372036854775808≤fails) (hf1:fails≤9223372036854775807) (hz:fails≠0) (ha0:-9223372036854775808≤armed) (ha1:armed≤9223372036854775807) (haz:armed≠0) :
 Calls Tryz.prog 108 #[.pointer (some ⟨d,0,none⟩)] w fun e w'=>e=.returned (.int .i64 0)∧SyR d H S n v 0 (flat (over safe pend)) (flat (over safe pend)) [] (struck armed) (struck fails) false (wrap64 (ops+1)) w w':=by
 have hmf:∀ (fn:Fn) (first cap:Array Value) (w:World),(Instr.makeFunc fn first cap).run Tryz.prog w=.ok (.func fn first cap) w:=fun _ _ _ _=>rfl
 have HM:=hI h
 have HLT:=hI h.blk.lt
 have HS:=hI hs
 have HH:=hI hheld
 have HN:=hI hn
 have HZ:=hI hz
 have HAZ:=hI haz
 have HFT:=hI hf
 clear hs hheld hn hz haz hf
 clear h
 go_enter Tryz.func108,Tryz.ntmps108
 go_upto_region 1 with fail
 have HM3:=hI (HM.out.alloc (.cells #[.pointer (some ⟨d,0,none⟩)] 25))
 have HD3:=hI (show Blk (w.alloc (.cells #[.pointer (some ⟨d,0,none⟩)] 25)) w.heap.size 25 #[.pointer (some ⟨d,0,none⟩)] from Blk.new w _ _)
 have HB3:=hI (show Below w.heap.size w (w.alloc (.cells #[.pointer (some ⟨d,0,none⟩)] 25)) from (Below.refl _ _).alloc (nR _) _)
 generalize hw3:w.alloc (.cells #[.pointer (some ⟨d,0,none⟩)] 25)=w4 at *
 have HZ3:=hI (show w.heap.size<w4.heap.size from HD3.out.lt)
 have HHL:=hI (show H<w.heap.size from HM.out.hh.lt)
 have HSL:=hI (show S<w.heap.size from HM.out.ss.lt)
 have HVL:=hI HM.out.vlt
 clear hw3
 have cd:=HD3.out.cell 0
 simp only[List.getElem?_toArray,List.getElem?_cons_zero] at cd
 go_region_held3 (fun W=>W.cell? ⟨w.heap.size,0,none⟩=some (.pointer (some ⟨d,0,none⟩)))
  (first | exact cd | exact ed)
  (first
    | (go_at_call 159; refine (power_any HM3.out.drew).mono ?_; rintro e w' ⟨rfl,rfl⟩; simp only[Bool.false_eq_true,if_false,if_true])
    | (go_at_call 156; refine (psync_done HM3.out.drew hf0 hf1 HZ.out ha0 ha1 HAZ.out _ (SyR d H S n v 0 (flat (over safe pend)) (flat (over safe pend)) [] (struck armed) (struck fails) false ops w4.drew) (fun w1 hd1 hk1=>sync1_kept hd1 hk1 HS.out HH.out HN.out hn2 HFT.out w.heap.size HD3.out HLT.out) (fun w2 hr=>⟨hr.choose_spec.1.cell.2.2.2.2.2.2,hr.choose_spec.1.frozen 6⟩)).mono ?_; rintro e wf ⟨rfl,w2,hr,hwf⟩; have hf:SyR d H S n v 0 (flat (over safe pend)) (flat (over safe pend)) [] (struck armed) (struck fails) false (wrap64 (ops+1)) w4.drew wf:=(by rw[hwf]; exact hr.laid _); clear hr hwf; have HF:=hI hf; have ed:=((Blk.drew HD3.out).kept (HF.out.choose_spec.2.2) ⟨by show w.heap.size<w4.heap.size; have:=HZ3.out; omega,by have:=HLT.out; omega,by have:=HHL.out; omega,by have:=HSL.out; omega,fun h=>by have:=HVL.out _ h; omega⟩).cell 0; simp only[List.getElem?_toArray,List.getElem?_cons_zero] at ed; clear hf))
 all_goals
  clear ed cd
  go_wp2
  go_ret
  exact ⟨rfl,HF.out.base HB3.out.drew⟩
theorem sync_io (h:Dm w d H S n v m held safe P armed fails false ops) (hf0:-9223372036854775808≤fails) (hf1:fails≤9223372036854775807) (hz:fails=0) :
 Calls Tryz.prog 108 #[.pointer (some ⟨d,0,none⟩)] w fun e w'=>e=.returned (.int .i64 8)∧SyR d H S n v m held safe P armed (-1) false ops w w':=by
 have hmf:∀ (fn:Fn) (first cap:Array Value) (w:World),(Instr.makeFunc fn first cap).run Tryz.prog w=.ok (.func fn first cap) w:=fun _ _ _ _=>rfl
 have HM:=hI h
 have HLT:=hI h.blk.lt
 have HZ:=hI hz
 clear hz
 clear h
 go_enter Tryz.func108,Tryz.ntmps108
 go_upto_region 1 with fail
 have HM3:=hI (HM.out.alloc (.cells #[.pointer (some ⟨d,0,none⟩)] 25))
 have HD3:=hI (show Blk (w.alloc (.cells #[.pointer (some ⟨d,0,none⟩)] 25)) w.heap.size 25 #[.pointer (some ⟨d,0,none⟩)] from Blk.new w _ _)
 have HB3:=hI (show Below w.heap.size w (w.alloc (.cells #[.pointer (some ⟨d,0,none⟩)] 25)) from (Below.refl _ _).alloc (nR _) _)
 generalize hw3:w.alloc (.cells #[.pointer (some ⟨d,0,none⟩)] 25)=w4 at *
 have HZ3:=hI (show w.heap.size<w4.heap.size from HD3.out.lt)
 have HHL:=hI (show H<w.heap.size from HM.out.hh.lt)
 have HSL:=hI (show S<w.heap.size from HM.out.ss.lt)
 have HVL:=hI HM.out.vlt
 clear hw3
 have cd:=HD3.out.cell 0
 simp only[List.getElem?_toArray,List.getElem?_cons_zero] at cd
 go_region_held3 (fun W=>W.cell? ⟨w.heap.size,0,none⟩=some (.pointer (some ⟨d,0,none⟩)))
  (first | exact cd | exact ed)
  (first
    | (go_at_call 159; refine (power_any HM3.out.drew).mono ?_; rintro e w' ⟨rfl,rfl⟩; simp only[Bool.false_eq_true,if_false,if_true])
    | (go_at_call 156; refine (pwrite_io HM3.out.drew hf0 hf1 HZ.out _).mono ?_; rintro e wf ⟨rfl,hd,hk⟩; have hf:=(WrR.same (v:=v) hd hk).sy; clear hd hk; have HF:=hI hf; have ed:=((Blk.drew HD3.out).kept (HF.out.choose_spec.2.2) ⟨by show w.heap.size<w4.heap.size; have:=HZ3.out; omega,by have:=HLT.out; omega,by have:=HHL.out; omega,by have:=HSL.out; omega,fun h=>by have:=HVL.out _ h; omega⟩).cell 0; simp only[List.getElem?_toArray,List.getElem?_cons_zero] at ed; clear hf))
 all_goals
  clear ed cd
  go_wp2
  go_ret
  exact ⟨rfl,HF.out.base HB3.out.drew⟩
theorem sync_off (h:Dm w d H S n v m held safe P armed fails false ops) (hf0:-9223372036854775808≤fails) (hf1:fails≤9223372036854775807) (hz:fails≠0) (ha0:-9223372036854775808≤armed) (ha1:armed≤9223372036854775807) (haz:armed=0) :
 Calls Tryz.prog 108 #[.pointer (some ⟨d,0,none⟩)] w fun e w'=>e=.returned (.int .i64 7)∧SyR d H S n v m held safe P (-1) (struck fails) true ops w w':=by
 have hmf:∀ (fn:Fn) (first cap:Array Value) (w:World),(Instr.makeFunc fn first cap).run Tryz.prog w=.ok (.func fn first cap) w:=fun _ _ _ _=>rfl
 have HM:=hI h
 have HLT:=hI h.blk.lt
 have HZ:=hI hz
 have HAZ:=hI haz
 clear hz haz
 clear h
 go_enter Tryz.func108,Tryz.ntmps108
 go_upto_region 1 with fail
 have HM3:=hI (HM.out.alloc (.cells #[.pointer (some ⟨d,0,none⟩)] 25))
 have HD3:=hI (show Blk (w.alloc (.cells #[.pointer (some ⟨d,0,none⟩)] 25)) w.heap.size 25 #[.pointer (some ⟨d,0,none⟩)] from Blk.new w _ _)
 have HB3:=hI (show Below w.heap.size w (w.alloc (.cells #[.pointer (some ⟨d,0,none⟩)] 25)) from (Below.refl _ _).alloc (nR _) _)
 generalize hw3:w.alloc (.cells #[.pointer (some ⟨d,0,none⟩)] 25)=w4 at *
 have HZ3:=hI (show w.heap.size<w4.heap.size from HD3.out.lt)
 have HHL:=hI (show H<w.heap.size from HM.out.hh.lt)
 have HSL:=hI (show S<w.heap.size from HM.out.ss.lt)
 have HVL:=hI HM.out.vlt
 clear hw3
 have cd:=HD3.out.cell 0
 simp only[List.getElem?_toArray,List.getElem?_cons_zero] at cd
 go_region_held3 (fun W=>W.cell? ⟨w.heap.size,0,none⟩=some (.pointer (some ⟨d,0,none⟩)))
  (first | exact cd | exact ed)
  (first
    | (go_at_call 159; refine (power_any HM3.out.drew).mono ?_; rintro e w' ⟨rfl,rfl⟩; simp only[Bool.false_eq_true,if_false,if_true])
    | (go_at_call 156; refine (pwrite_dead HM3.out.drew hf0 hf1 HZ.out ha0 ha1 HAZ.out _).mono ?_; rintro e wf ⟨rfl,hd,hk⟩; have hf:=(WrR.same (v:=v) hd hk).sy; clear hd hk; have HF:=hI hf; have ed:=((Blk.drew HD3.out).kept (HF.out.choose_spec.2.2) ⟨by show w.heap.size<w4.heap.size; have:=HZ3.out; omega,by have:=HLT.out; omega,by have:=HHL.out; omega,by have:=HSL.out; omega,fun h=>by have:=HVL.out _ h; omega⟩).cell 0; simp only[List.getElem?_toArray,List.getElem?_cons_zero] at ed; clear hf))
 all_goals
  clear ed cd
  go_wp2
  go_ret
  exact ⟨rfl,HF.out.base HB3.out.drew⟩
theorem sync_dead (h:Dm w d H S n v m held safe P armed fails true ops) :
 Calls Tryz.prog 108 #[.pointer (some ⟨d,0,none⟩)] w fun e w'=>e=.returned (.int .i64 7)∧SyR d H S n v m held safe P armed fails true ops w w':=by
 have hmf:∀ (fn:Fn) (first cap:Array Value) (w:World),(Instr.makeFunc fn first cap).run Tryz.prog w=.ok (.func fn first cap) w:=fun _ _ _ _=>rfl
 have HM:=hI h
 have HLT:=hI h.blk.lt
 clear h
 go_enter Tryz.func108,Tryz.ntmps108
 go_upto_region 1 with fail
 have HM3:=hI (HM.out.alloc (.cells #[.pointer (some ⟨d,0,none⟩)] 25))
 have HD3:=hI (show Blk (w.alloc (.cells #[.pointer (some ⟨d,0,none⟩)] 25)) w.heap.size 25 #[.pointer (some ⟨d,0,none⟩)] from Blk.new w _ _)
 have HB3:=hI (show Below w.heap.size w (w.alloc (.cells #[.pointer (some ⟨d,0,none⟩)] 25)) from (Below.refl _ _).alloc (nR _) _)
 generalize hw3:w.alloc (.cells #[.pointer (some ⟨d,0,none⟩)] 25)=w4 at *
 have HZ3:=hI (show w.heap.size<w4.heap.size from HD3.out.lt)
 have HHL:=hI (show H<w.heap.size from HM.out.hh.lt)
 have HSL:=hI (show S<w.heap.size from HM.out.ss.lt)
 have HVL:=hI HM.out.vlt
 clear hw3
 have cd:=HD3.out.cell 0
 simp only[List.getElem?_toArray,List.getElem?_cons_zero] at cd
 go_region_held3 (fun W=>W.cell? ⟨w.heap.size,0,none⟩=some (.pointer (some ⟨d,0,none⟩)))
  (first | exact cd | exact ed)
  (first
    | (go_at_call 159; refine (power_any HM3.out.drew).mono ?_; rintro e w' ⟨rfl,rfl⟩; simp only[Bool.false_eq_true,if_false,if_true])
    | (go_at_call 156; refine (perform_refused _ d 7 (by decide) true _).mono ?_; rintro e wf ⟨rfl,hww⟩; have hf:=(WrR.same (v:=v) (w4:=w4.drew) (w2:=wf) (by rw[← hww]; exact HM3.out.drew) (by rw[← hww]; exact Kept.refl _ _)).sy; clear hww; have HF:=hI hf; have ed:=((Blk.drew HD3.out).kept (HF.out.choose_spec.2.2) ⟨by show w.heap.size<w4.heap.size; have:=HZ3.out; omega,by have:=HLT.out; omega,by have:=HHL.out; omega,by have:=HSL.out; omega,fun h=>by have:=HVL.out _ h; omega⟩).cell 0; simp only[List.getElem?_toArray,List.getElem?_cons_zero] at ed; clear hf))
 all_goals
  clear ed cd
  go_wp2
  go_ret
  exact ⟨rfl,HF.out.base HB3.out.drew⟩
end
end
section
section
variable {w:World} {d H S n:Nat} {v:Value} {m:Nat} {held safe:List Int} {P:List Value} {armed fails:Int} {ops:Int}
def RdR (d H S n:Nat) (v:Value) (m:Nat) (held safe:List Int) (P:List Value) (armed fails:Int) (dead:Bool) (ops:Int) (gb:Nat) (ys:List Int) (w4 w2:World):Prop :=
 Dm w2 d H S n v m held safe P armed fails dead ops∧ArrB w2 gb ys∧Kept (fun b=>b<gb∧b≠d) w4 w2
theorem RdR.laid {gb a:Nat} {ys:List Int} {w4 w2:World} {dead:Bool} (h:RdR d H S n v m held safe P armed fails dead ops gb ys w4 w2) (hd:d<a) (ha:a+1+1<gb) (x:Int) :
 RdR d H S n v m held safe P armed fails dead x gb ys w4 (w2.setCell ⟨d,6,none⟩ (.int .i64 x)) :=
 ⟨h.1.ops_ x,Blk.far h.2.1 (p:=⟨d,6,none⟩) (by show gb≠d; omega) _,h.2.2.setCell (fun h=>h.2 rfl) _⟩
theorem read1_kept {w1 w4:World} (hd1:Dm w1 d H S n v m held safe P armed fails false ops) (hk1:Kept (fun b=>b≠d) w4 w1) (xss:List (List Int)) (hs:Secs xss) (hh:held=flat xss) (hn:xss.length=n) (hn2:n≤2048) (i:Nat) (hi:i<n) (a gb:Nat)
 (hgd:Blk w4 a 25 #[.pointer (some ⟨d,0,none⟩)]) (hgi:Blk w4 (a+1) 3 #[.int .i64 i]) (hgb:ArrB w4 gb (noughts 64)) (hda:d<a) (hag:a+1+1<gb) (hH:H<gb) (hS:S<gb) (hv:∀ g,v.ownBlock=some g→g<gb) {zs:List Int} (hzs:xss.getD i []=zs) :
 Calls Tryz.prog 174 #[.pointer (some ⟨a,0,none⟩),.pointer (some ⟨a+1,0,none⟩),.pointer (some ⟨gb,0,none⟩)] w1 fun e w2=>e=.returned (.tuple #[])∧RdR d H S n v m held safe P armed fails false ops gb zs w4 w2:=by
 subst hzs
 refine (read1_any hd1 xss hs hh hn hn2 i hi a (a+1) gb (noughts 64) (noughts_length 64) (hgd.kept hk1 (by omega)) (hgi.kept hk1 (by omega)) (Arr.kept hgb hk1 (by omega)) (by omega)).mono ?_
 rintro e w2 ⟨rfl,hw2⟩
 have hkk:Kept (fun b=>b≠gb) w1 w2:=by rw[hw2]; exact ((Kept.refl _ w1).drew).setRow (fun h=>h rfl) _
 refine ⟨rfl,hd1.kept hkk (by omega) (by omega) (by omega) (fun g hg=>by have:=hv g hg; omega),?_,?_⟩
 ·rw[hw2]
  exact Arr.setRow (Arr.kept (w':=w1.drew) hgb hk1.drew (by omega)) _
 ·exact (hk1.mono (S:=fun b=>b<gb∧b≠d) (fun b h=>h.2)).trans hkk (fun b h=>by omega)
theorem read_done (h:Dm w d H S n v m held safe P armed fails false ops) (i:Nat) (hi:i<n) (xss:List (List Int)) (hs:Secs xss) (hh:held=flat xss) (hn:xss.length=n) (hn2:n≤2048) (hf0:-9223372036854775808≤fails) (hf1:fails≤9223372036854775807) (hz:fails≠0) (ha0:-9223372036854775808≤armed) (ha1:armed≤9223372036854775807) :
 Calls Tryz.prog 124 #[.pointer (some ⟨d,0,none⟩),.int .i64 i] w fun e w'=>e=.returned (.tuple #[.agg (cells8 (xss.getD i [])),.int .i64 0]) ∧
  Dm w' d H S n v m held safe P armed (struck fails) false (wrap64 (ops+1))∧Kept (fun b=>b<w.heap.size∧b≠d) w w':=by
 have hmf:∀ (fn:Fn) (first cap:Array Value) (w:World),(Instr.makeFunc fn first cap).run Tryz.prog w=.ok (.func fn first cap) w:=fun _ _ _ _=>rfl
 have HM:=hI h
 have HLT:=hI h.blk.lt
 have hgl:=hs.get i (by omega)
 generalize hzs:xss.getD i []=zs at *
 have HZS:=hI hzs
 have HS:=hI hs
 have HH:=hI hh
 have HN:=hI hn
 have HZ:=hI hz
 have HGL:=hI hgl
 clear hs hh hn hz hgl hzs
 clear h
 go_enter Tryz.func124,Tryz.ntmps124
 go_upto_region 1 with (refine wpList_alloc_blk rfl rfl ?_)
 have HM3:=hI (((HM.out.alloc (.cells #[.pointer (some ⟨d,0,none⟩)] 25)).alloc (.cells #[.int .i64 i] 3)).alloc (.cells (cells8 (noughts 64)) 186))
 have HD3:=hI (show Blk (((w.alloc (.cells #[.pointer (some ⟨d,0,none⟩)] 25)).alloc (.cells #[.int .i64 i] 3)).alloc (.cells (cells8 (noughts 64)) 186)) w.heap.size 25 #[.pointer (some ⟨d,0,none⟩)] from ((Blk.new w _ _).alloc _).alloc _)
 have HI3:=hI (show Blk (((w.alloc (.cells #[.pointer (some ⟨d,0,none⟩)] 25)).alloc (.cells #[.int .i64 i] 3)).alloc (.cells (cells8 (noughts 64)) 186)) (w.heap.size+1) 3 #[.int .i64 i] from (blk_new2 w _ _ _).alloc _)
 have HR3:=hI (show ArrB (((w.alloc (.cells #[.pointer (some ⟨d,0,none⟩)] 25)).alloc (.cells #[.int .i64 i] 3)).alloc (.cells (cells8 (noughts 64)) 186)) (w.heap.size+1+1) (noughts 64) from blk_new3 w _ _ _ _)
 have HB3:=hI (show Below w.heap.size w (((w.alloc (.cells #[.pointer (some ⟨d,0,none⟩)] 25)).alloc (.cells #[.int .i64 i] 3)).alloc (.cells (cells8 (noughts 64)) 186)) from (((Below.refl _ _).alloc (nR _) _).alloc (by simp) _).alloc (by simp; omega) _)
 generalize hw3:((w.alloc (.cells #[.pointer (some ⟨d,0,none⟩)] 25)).alloc (.cells #[.int .i64 i] 3)).alloc (.cells (cells8 (noughts 64)) 186)=w3 at *
 clear hw3
 go_wp2_with (refine wpList_alloc_blk rfl rfl ?_)
 have HM4:=hI (HM3.out.alloc (.cells (cells8 (noughts 64)) 186))
 have HD4:=hI (HD3.out.alloc (.cells (cells8 (noughts 64)) 186))
 have HI4:=hI (HI3.out.alloc (.cells (cells8 (noughts 64)) 186))
 have HR4:=hI (Blk.alloc HR3.out (.cells (cells8 (noughts 64)) 186))
 have HV4:=hI (show ArrB (w3.alloc (.cells (cells8 (noughts 64)) 186)) w3.heap.size (noughts 64) from Blk.new w3 _ _)
 have HB4:=hI (show Below w.heap.size w (w3.alloc (.cells (cells8 (noughts 64)) 186)) from HB3.out.alloc HB3.out.size _)
 have HZ3:=hI (show w.heap.size+1+1<w3.heap.size from HR3.out.lt)
 have HH3:=hI (show H<w3.heap.size from HM3.out.hh.lt)
 generalize hw4:w3.alloc (.cells (cells8 (noughts 64)) 186)=w4 at *
 clear hw4
 have cd:=HD4.out.cell 0
 have ci:=HI4.out.cell 0
 simp only[List.getElem?_toArray,List.getElem?_cons_zero] at cd ci
 go_region_held3 (fun W=>W.cell? ⟨w.heap.size,0,none⟩=some (.pointer (some ⟨d,0,none⟩))∧W.cell? ⟨w.heap.size+1,0,none⟩=some (.int .i64 i))
  (first | exact ⟨cd,ci⟩ | exact ⟨ed,ei⟩)
  (first
    | (go_at_call 157; refine (reach_ok HM4.out.drew i hi).mono ?_; rintro e w' ⟨rfl,rfl⟩; simp only[Bool.false_eq_true,if_false,if_true])
    | (go_at_call 156; refine (pread_done HM4.out.drew hf0 hf1 HZ.out ha0 ha1 _ _ _ (RdR d H S n v m held safe P armed (struck fails) false ops w3.heap.size zs w4.drew) (fun w1 hd1 hk1=>read1_kept hd1 hk1 xss HS.out HH.out HN.out hn2 i hi w.heap.size w3.heap.size HD4.out HI4.out HV4.out HLT.out HZ3.out HH3.out HM3.out.ss.lt HM3.out.vlt HZS.out) (fun w2 hr=>⟨hr.1.cell.2.2.2.2.2.2,hr.1.frozen 6⟩)).mono ?_; rintro e w' ⟨rfl,w2,hr,rfl⟩; have HF:=hI (hr.laid HLT.out HZ3.out (wrap64 (ops+1))); have ed:=((Blk.drew HD4.out).kept HF.out.2.2 ⟨by have:=HZ3.out; omega,by have:=HLT.out; omega⟩).cell 0; have ei:=((Blk.drew HI4.out).kept HF.out.2.2 ⟨by have:=HZ3.out; omega,by have:=HLT.out; omega⟩).cell 0; simp only[List.getElem?_toArray,List.getElem?_cons_zero] at ed ei; clear hr))
 all_goals
  generalize hwf:w2.setCell ⟨d,6,none⟩ (.int .i64 (wrap64 (ops+1)))=wf at *
  have HRF:=hI (show ArrB wf (w.heap.size+1+1) (noughts 64) from Arr.kept (w:=w4.drew) HR4.out HF.out.2.2 ⟨by have:=HZ3.out; omega,by have:=HLT.out; omega⟩)
  clear ed ei cd ci
  go_wp2_with (first
   | (refine wpList_load_blk (.tmp 6) rfl rfl w3.heap.size 0 rfl zs HGL.out HF.out.2.1.range ?_)
   | (refine wpList_store_blk (.tmp 4) (.tmp 14) rfl rfl (w.heap.size+1+1) zs rfl rfl 186 (noughts 64) HRF.out (noughts_length 64) HGL.out ?_)
   | (with_reducible refine halt_end ?_))
  have hds:d≠w.heap.size+1+1:=by have:=HLT.out; omega
  refine Halt.ret (results_blk2 (p:=4) (u:=5) rfl _ _ (w.heap.size+1+1) 186 zs rfl (HRF.out.setRow zs) HGL.out) rfl ⟨rfl,?_,?_⟩
  ·refine HF.out.1.kept ((Kept.refl (fun b=>b≠w.heap.size+1+1) wf).setRow (fun h=>h rfl) _) hds ?_ ?_ ?_
   ·have:=HM.out.hh.lt; omega
   ·have:=HM.out.ss.lt; omega
   ·intro g hg; have:=HM.out.vlt g hg; omega
  ·refine Kept.setRow ?_ (fun h=>by have:=h.1; omega) _
   exact ((Kept.of_below HB4.out (S:=fun b=>b<w.heap.size∧b≠d) (fun b h=>h.1)).drew).trans HF.out.2.2 (fun b h=>⟨by have:=HZ3.out; omega,h.2⟩)
theorem read_io (h:Dm w d H S n v m held safe P armed fails false ops) (i:Nat) (hi:i<n) (hf0:-9223372036854775808≤fails) (hf1:fails≤9223372036854775807) (hz:fails=0) :
 Calls Tryz.prog 124 #[.pointer (some ⟨d,0,none⟩),.int .i64 i] w fun e w'=>e=.returned (.tuple #[.agg (cells8 (noughts 64)),.int .i64 8]) ∧
  Dm w' d H S n v m held safe P armed (-1) false ops∧Kept (fun b=>b<w.heap.size∧b≠d) w w':=by
 have hmf:∀ (fn:Fn) (first cap:Array Value) (w:World),(Instr.makeFunc fn first cap).run Tryz.prog w=.ok (.func fn first cap) w:=fun _ _ _ _=>rfl
 have HM:=hI h
 have HLT:=hI h.blk.lt
 have HZ:=hI hz
 clear hz
 clear h
 go_enter Tryz.func124,Tryz.ntmps124
 go_upto_region 1 with (refine wpList_alloc_blk rfl rfl ?_)
 have HM3:=hI (((HM.out.alloc (.cells #[.pointer (some ⟨d,0,none⟩)] 25)).alloc (.cells #[.int .i64 i] 3)).alloc (.cells (cells8 (noughts 64)) 186))
 have HD3:=hI (show Blk (((w.alloc (.cells #[.pointer (some ⟨d,0,none⟩)] 25)).alloc (.cells #[.int .i64 i] 3)).alloc (.cells (cells8 (noughts 64)) 186)) w.heap.size 25 #[.pointer (some ⟨d,0,none⟩)] from ((Blk.new w _ _).alloc _).alloc _)
 have HI3:=hI (show Blk (((w.alloc (.cells #[.pointer (some ⟨d,0,none⟩)] 25)).alloc (.cells #[.int .i64 i] 3)).alloc (.cells (cells8 (noughts 64)) 186)) (w.heap.size+1) 3 #[.int .i64 i] from (blk_new2 w _ _ _).alloc _)
 have HR3:=hI (show ArrB (((w.alloc (.cells #[.pointer (some ⟨d,0,none⟩)] 25)).alloc (.cells #[.int .i64 i] 3)).alloc (.cells (cells8 (noughts 64)) 186)) (w.heap.size+1+1) (noughts 64) from blk_new3 w _ _ _ _)
 have HB3:=hI (show Below w.heap.size w (((w.alloc (.cells #[.pointer (some ⟨d,0,none⟩)] 25)).alloc (.cells #[.int .i64 i] 3)).alloc (.cells (cells8 (noughts 64)) 186)) from (((Below.refl _ _).alloc (nR _) _).alloc (by simp) _).alloc (by simp; omega) _)
 generalize hw3:((w.alloc (.cells #[.pointer (some ⟨d,0,none⟩)] 25)).alloc (.cells #[.int .i64 i] 3)).alloc (.cells (cells8 (noughts 64)) 186)=w3 at *
 clear hw3
 go_wp2_with (refine wpList_alloc_blk rfl rfl ?_)
 have HM4:=hI (HM3.out.alloc (.cells (cells8 (noughts 64)) 186))
 have HD4:=hI (HD3.out.alloc (.cells (cells8 (noughts 64)) 186))
 have HI4:=hI (HI3.out.alloc (.cells (cells8 (noughts 64)) 186))
 have HR4:=hI (Blk.alloc HR3.out (.cells (cells8 (noughts 64)) 186))
 have HV4:=hI (show ArrB (w3.alloc (.cells (cells8 (noughts 64)) 186)) w3.heap.size (noughts 64) from Blk.new w3 _ _)
 have HB4:=hI (show Below w.heap.size w (w3.alloc (.cells (cells8 (noughts 64)) 186)) from HB3.out.alloc HB3.out.size _)
 have HZ3:=hI (show w.heap.size+1+1<w3.heap.size from HR3.out.lt)
 have HH3:=hI (show H<w3.heap.size from HM3.out.hh.lt)
 generalize hw4:w3.alloc (.cells (cells8 (noughts 64)) 186)=w4 at *
 clear hw4
 have cd:=HD4.out.cell 0
 have ci:=HI4.out.cell 0
 simp only[List.getElem?_toArray,List.getElem?_cons_zero] at cd ci
 go_region_held3 (fun W=>W.cell? ⟨w.heap.size,0,none⟩=some (.pointer (some ⟨d,0,none⟩))∧W.cell? ⟨w.heap.size+1,0,none⟩=some (.int .i64 i))
  (first | exact ⟨cd,ci⟩ | exact ⟨ed,ei⟩)
  (first
    | (go_at_call 157; refine (reach_ok HM4.out.drew i hi).mono ?_; rintro e w' ⟨rfl,rfl⟩; simp only[Bool.false_eq_true,if_false,if_true])
    | (go_at_call 156; refine (pread_io HM4.out.drew hf0 hf1 HZ.out _).mono ?_; rintro e wf ⟨rfl,hd,hk⟩; have HF:=hI (show RdR d H S n v m held safe P armed (-1) false ops w3.heap.size (noughts 64) w4.drew wf from ⟨hd,Arr.kept (w:=w4.drew) HV4.out hk (by show w3.heap.size≠d; have:=HLT.out; have:=HZ3.out; omega),hk.mono (fun b h=>h.2)⟩); have ed:=((Blk.drew HD4.out).kept HF.out.2.2 ⟨by have:=HZ3.out; omega,by have:=HLT.out; omega⟩).cell 0; have ei:=((Blk.drew HI4.out).kept HF.out.2.2 ⟨by have:=HZ3.out; omega,by have:=HLT.out; omega⟩).cell 0; simp only[List.getElem?_toArray,List.getElem?_cons_zero] at ed ei; clear hk; clear hd))
 all_goals
  have HRF:=hI (show ArrB wf (w.heap.size+1+1) (noughts 64) from Arr.kept (w:=w4.drew) HR4.out HF.out.2.2 ⟨by have:=HZ3.out; omega,by have:=HLT.out; omega⟩)
  clear ed ei cd ci
  go_wp2_with (first
   | (refine wpList_load_blk (.tmp 6) rfl rfl w3.heap.size 0 rfl (noughts 64) (noughts_length 64) HF.out.2.1.range ?_)
   | (refine wpList_store_blk (.tmp 4) (.tmp 14) rfl rfl (w.heap.size+1+1) (noughts 64) rfl rfl 186 (noughts 64) HRF.out (noughts_length 64) (noughts_length 64) ?_)
   | (with_reducible refine halt_end ?_))
  have hds:d≠w.heap.size+1+1:=by have:=HLT.out; omega
  refine Halt.ret (results_blk2 (p:=4) (u:=5) rfl _ _ (w.heap.size+1+1) 186 (noughts 64) rfl (HRF.out.setRow (noughts 64)) (noughts_length 64)) rfl ⟨rfl,?_,?_⟩
  ·refine HF.out.1.kept ((Kept.refl (fun b=>b≠w.heap.size+1+1) wf).setRow (fun h=>h rfl) _) hds ?_ ?_ ?_
   ·have:=HM.out.hh.lt; omega
   ·have:=HM.out.ss.lt; omega
   ·intro g hg; have:=HM.out.vlt g hg; omega
  ·refine Kept.setRow ?_ (fun h=>by have:=h.1; omega) _
   exact ((Kept.of_below HB4.out (S:=fun b=>b<w.heap.size∧b≠d) (fun b h=>h.1)).drew).trans HF.out.2.2 (fun b h=>⟨by have:=HZ3.out; omega,h.2⟩)
theorem read_dead (h:Dm w d H S n v m held safe P armed fails true ops) (i:Nat) (hi:i<n) :
 Calls Tryz.prog 124 #[.pointer (some ⟨d,0,none⟩),.int .i64 i] w fun e w'=>e=.returned (.tuple #[.agg (cells8 (noughts 64)),.int .i64 7]) ∧
  Dm w' d H S n v m held safe P armed fails true ops∧Kept (fun b=>b<w.heap.size∧b≠d) w w':=by
 have hmf:∀ (fn:Fn) (first cap:Array Value) (w:World),(Instr.makeFunc fn first cap).run Tryz.prog w=.ok (.func fn first cap) w:=fun _ _ _ _=>rfl
 have HM:=hI h
 have HLT:=hI h.blk.lt
 clear h
 go_enter Tryz.func124,Tryz.ntmps124
 go_upto_region 1 with (refine wpList_alloc_blk rfl rfl ?_)
 have HM3:=hI (((HM.out.alloc (.cells #[.pointer (some ⟨d,0,none⟩)] 25)).alloc (.cells #[.int .i64 i] 3)).alloc (.cells (cells8 (noughts 64)) 186))
 have HD3:=hI (show Blk (((w.alloc (.cells #[.pointer (some ⟨d,0,none⟩)] 25)).alloc (.cells #[.int .i64 i] 3)).alloc (.cells (cells8 (noughts 64)) 186)) w.heap.size 25 #[.pointer (some ⟨d,0,none⟩)] from ((Blk.new w _ _).alloc _).alloc _)
 have HI3:=hI (show Blk (((w.alloc (.cells #[.pointer (some ⟨d,0,none⟩)] 25)).alloc (.cells #[.int .i64 i] 3)).alloc (.cells (cells8 (noughts 64)) 186)) (w.heap.size+1) 3 #[.int .i64 i] from (blk_new2 w _ _ _).alloc _)
 have HR3:=hI (show ArrB (((w.alloc (.cells #[.pointer (some ⟨d,0,none⟩)] 25)).alloc (.cells #[.int .i64 i] 3)).alloc (.cells (cells8 (noughts 64)) 186)) (w.heap.size+1+1) (noughts 64) from blk_new3 w _ _ _ _)
 have HB3:=hI (show Below w.heap.size w (((w.alloc (.cells #[.pointer (some ⟨d,0,none⟩)] 25)).alloc (.cells #[.int .i64 i] 3)).alloc (.cells (cells8 (noughts 64)) 186)) from (((Below.refl _ _).alloc (nR _) _).alloc (by simp) _).alloc (by simp; omega) _)
 generalize hw3:((w.alloc (.cells #[.pointer (some ⟨d,0,none⟩)] 25)).alloc (.cells #[.int .i64 i] 3)).alloc (.cells (cells8 (noughts 64)) 186)=w3 at *
 clear hw3
 go_wp2_with (refine wpList_alloc_blk rfl rfl ?_)
 have HM4:=hI (HM3.out.alloc (.cells (cells8 (noughts 64)) 186))
 have HD4:=hI (HD3.out.alloc (.cells (cells8 (noughts 64)) 186))
 have HI4:=hI (HI3.out.alloc (.cells (cells8 (noughts 64)) 186))
 have HR4:=hI (Blk.alloc HR3.out (.cells (cells8 (noughts 64)) 186))
 have HV4:=hI (show ArrB (w3.alloc (.cells (cells8 (noughts 64)) 186)) w3.heap.size (noughts 64) from Blk.new w3 _ _)
 have HB4:=hI (show Below w.heap.size w (w3.alloc (.cells (cells8 (noughts 64)) 186)) from HB3.out.alloc HB3.out.size _)
 have HZ3:=hI (show w.heap.size+1+1<w3.heap.size from HR3.out.lt)
 have HH3:=hI (show H<w3.heap.size from HM3.out.hh.lt)
 generalize hw4:w3.alloc (.cells (cells8 (noughts 64)) 186)=w4 at *
 clear hw4
 have cd:=HD4.out.cell 0
 have ci:=HI4.out.cell 0
 simp only[List.getElem?_toArray,List.getElem?_cons_zero] at cd ci
 go_region_held3 (fun W=>W.cell? ⟨w.heap.size,0,none⟩=some (.pointer (some ⟨d,0,none⟩))∧W.cell? ⟨w.heap.size+1,0,none⟩=some (.int .i64 i))
  (first | exact ⟨cd,ci⟩ | exact ⟨ed,ei⟩)
  (first
    | (go_at_call 157; refine (reach_ok HM4.out.drew i hi).mono ?_; rintro e w' ⟨rfl,rfl⟩; simp only[Bool.false_eq_true,if_false,if_true])
    | (go_at_call 156; refine (perform_refused _ d 7 (by decide) false _).mono ?_; rintro e wf ⟨rfl,hww⟩; have hk:Kept (fun b=>b≠d) w4.drew wf:=(by rw[← hww]; exact Kept.refl _ _); have HF:=hI (show RdR d H S n v m held safe P armed fails true ops w3.heap.size (noughts 64) w4.drew wf from ⟨(by rw[← hww]; exact HM4.out.drew),Arr.kept (w:=w4.drew) HV4.out hk (by show w3.heap.size≠d; have:=HLT.out; have:=HZ3.out; omega),hk.mono (fun b h=>h.2)⟩); have ed:=((Blk.drew HD4.out).kept HF.out.2.2 ⟨by have:=HZ3.out; omega,by have:=HLT.out; omega⟩).cell 0; have ei:=((Blk.drew HI4.out).kept HF.out.2.2 ⟨by have:=HZ3.out; omega,by have:=HLT.out; omega⟩).cell 0; simp only[List.getElem?_toArray,List.getElem?_cons_zero] at ed ei; clear hk; clear hww))
 all_goals
  have HRF:=hI (show ArrB wf (w.heap.size+1+1) (noughts 64) from Arr.kept (w:=w4.drew) HR4.out HF.out.2.2 ⟨by have:=HZ3.out; omega,by have:=HLT.out; omega⟩)
  clear ed ei cd ci
  go_wp2_with (first
   | (refine wpList_load_blk (.tmp 6) rfl rfl w3.heap.size 0 rfl (noughts 64) (noughts_length 64) HF.out.2.1.range ?_)
   | (refine wpList_store_blk (.tmp 4) (.tmp 14) rfl rfl (w.heap.size+1+1) (noughts 64) rfl rfl 186 (noughts 64) HRF.out (noughts_length 64) (noughts_length 64) ?_)
   | (with_reducible refine halt_end ?_))
  have hds:d≠w.heap.size+1+1:=by have:=HLT.out; omega
  refine Halt.ret (results_blk2 (p:=4) (u:=5) rfl _ _ (w.heap.size+1+1) 186 (noughts 64) rfl (HRF.out.setRow (noughts 64)) (noughts_length 64)) rfl ⟨rfl,?_,?_⟩
  ·refine HF.out.1.kept ((Kept.refl (fun b=>b≠w.heap.size+1+1) wf).setRow (fun h=>h rfl) _) hds ?_ ?_ ?_
   ·have:=HM.out.hh.lt; omega
   ·have:=HM.out.ss.lt; omega
   ·intro g hg; have:=HM.out.vlt g hg; omega
  ·refine Kept.setRow ?_ (fun h=>by have:=h.1; omega) _
   exact ((Kept.of_below HB4.out (S:=fun b=>b<w.heap.size∧b≠d) (fun b h=>h.1)).drew).trans HF.out.2.2 (fun b h=>⟨by have:=HZ3.out; omega,h.2⟩)
end
end
section
structure Dk where
 safe:List (List Int)
 pend:List (Nat × List Int)
 armed:Int
 fails:Int
 dead:Bool
 ops:Int
def Dk.held (k:Dk):List (List Int):=over k.safe k.pend
structure Dk.Ok (k:Dk) (n:Nat):Prop where
 secs:Secs k.safe
 len:k.safe.length=n
 small:n≤2048
 byt:∀ i,Bytes (k.safe.getD i [])
 fits:Fits n k.pend
 a0:-9223372036854775808≤k.armed
 a1:k.armed≤9223372036854775807
 f0:-9223372036854775808≤k.fails
 f1:k.fails≤9223372036854775807
def sec0 (n:Nat):List (List Int):=List.replicate n (noughts 64)
def Dk.fresh (n:Nat):Dk:={ safe:=sec0 n,pend:=[],armed:=-1,fails:=-1,dead:=false,ops:=0 }
def Dk.rde (k:Dk):Int:=if k.dead then 7 else if k.fails=0 then 8 else 0
def Dk.rdv (k:Dk) (i:Nat):List Int:=if k.dead then noughts 64 else if k.fails=0 then noughts 64 else k.held.getD i []
def Dk.rd (k:Dk):Dk:=if k.dead then k else if k.fails=0 then { k with fails:=-1 } else { k with fails:=struck k.fails,ops:=wrap64 (k.ops+1) }
def Dk.wre (k:Dk):Int:=if k.dead then 7 else if k.fails=0 then 8 else if k.armed=0 then 7 else 0
def Dk.wr (k:Dk) (f:Dk→Dk):Dk:=if k.dead then k else if k.fails=0 then { k with fails:=-1 } else if k.armed=0 then { k with fails:=struck k.fails,armed:=-1,dead:=true } else f { k with fails:=struck k.fails,armed:=struck k.armed,ops:=wrap64 (k.ops+1) }
def Dk.put (i:Nat) (ys:List Int) (k:Dk):Dk:={ k with pend:=k.pend++[(i,ys)] }
def Dk.sync (k:Dk):Dk:={ k with safe:=k.held,pend:=[] }
theorem struck_in {c:Int} (h0:-9223372036854775808≤c) (h1:c≤9223372036854775807):-9223372036854775808≤struck c∧struck c≤9223372036854775807:=by
 unfold struck
 split <;> omega
theorem bytes_none:Bytes []:=fun j=>by simp
theorem bytes_put {L:List (List Int)} (h:∀ i,Bytes (L.getD i [])) (k:Nat) {ys:List Int} (hy:Bytes ys) (i:Nat):Bytes ((L.set k ys).getD i []):=by
 have h1:=h i
 simp only[List.getD,List.getElem?_set] at *
 by_cases e:k=i
 ·rw[if_pos e]
  by_cases e2:k<L.length
  ·rw[if_pos e2]; exact hy
  ·rw[if_neg e2]; exact bytes_none
 ·rw[if_neg e]; exact h1
theorem over_bytes {l:List (Nat × List Int)} (hl:∀ p∈l,Bytes p.2):∀ {s:List (List Int)},(∀ i,Bytes (s.getD i []))→∀ i,Bytes ((over s l).getD i []):=by
 induction l with
 | nil=>intro s h; exact h
 | cons p r ih =>
  intro s h
  exact ih (fun q hq=>hl q (List.mem_cons_of_mem _ hq)) (bytes_put h p.1 (hl p (List.mem_cons_self ..)))
section
variable {k:Dk} {n:Nat}
theorem Dk.Ok.heldSecs (h:k.Ok n):Secs k.held:=over_secs h.secs (fun p hp=>(h.fits p hp).2.1)
theorem Dk.Ok.heldLen (h:k.Ok n):k.held.length=n:=by rw[Dk.held,over_length,h.len]
theorem Dk.Ok.heldBytes (h:k.Ok n):∀ i,Bytes (k.held.getD i []):=over_bytes (fun p hp=>(h.fits p hp).2.2) h.byt
theorem Dk.Ok.rd (h:k.Ok n):k.rd.Ok n:=by
 unfold Dk.rd
 have hs:=struck_in h.f0 h.f1
 split
 ·exact h
 split
 ·exact { h with f0:=by show (-9223372036854775808:Int)≤-1; omega,f1:=by show (-1:Int)≤9223372036854775807; omega }
 ·exact { h with f0:=hs.1,f1:=hs.2 }
theorem Dk.Ok.wr (h:k.Ok n) {f:Dk→Dk} (hf:∀ k',k'.safe=k.safe→k'.pend=k.pend→k'.Ok n→(f k').Ok n):(k.wr f).Ok n:=by
 unfold Dk.wr
 have hs:=struck_in h.f0 h.f1
 have ha:=struck_in h.a0 h.a1
 split
 ·exact h
 split
 ·exact { h with f0:=by show (-9223372036854775808:Int)≤-1; omega,f1:=by show (-1:Int)≤9223372036854775807; omega }
 split
 ·exact { h with f0:=hs.1,f1:=hs.2,a0:=by show (-9223372036854775808:Int)≤-1; omega,a1:=by show (-1:Int)≤9223372036854775807; omega }
 ·exact hf _ rfl rfl { h with f0:=hs.1,f1:=hs.2,a0:=ha.1,a1:=ha.2 }
theorem Dk.Ok.put (h:k.Ok n) {i:Nat} (hi:i<n) {ys:List Int} (hy:ys.length=64) (hb:Bytes ys):(k.put i ys).Ok n :=
 have hf:Fits n (k.pend++[(i,ys)]):=fun p hp=>by
  rcases List.mem_append.1 hp with h1 | h1
  ·exact h.fits p h1
  ·obtain rfl:p=(i,ys):=by simpa using h1
   exact ⟨hi,hy,hb⟩
 { h with fits:=hf }
theorem Dk.Ok.sync (h:k.Ok n):k.sync.Ok n :=
 { h with secs:=h.heldSecs,len:=h.heldLen,byt:=h.heldBytes,fits:=fun p hp=>(by cases hp) }
theorem fresh_bytes (n:Nat):∀ i,Bytes ((Dk.fresh n).safe.getD i []):=fun i=>by
 by_cases hi:i<n
 ·have:(Dk.fresh n).safe.getD i []=noughts 64:=by simp[Dk.fresh,sec0,List.getD,hi]
  rw[this]; exact noughts_bytes 64
 ·have:(Dk.fresh n).safe.getD i []=[]:=by simp[Dk.fresh,sec0,List.getD,hi]
  rw[this]; exact bytes_none
theorem Dk.Ok.fresh {n:Nat} (h:n≤2048):(Dk.fresh n).Ok n :=
 { small := h, secs := fun xs hx => by rw [List.eq_of_mem_replicate hx, noughts_length], len := by simp [Dk.fresh, sec0], fits := fun p hp => (by cases hp),
   byt:=fresh_bytes n,
   a0:=by show (-9223372036854775808:Int)≤-1; omega,a1:=by show (-1:Int)≤9223372036854775807; omega,f0:=by show (-9223372036854775808:Int)≤-1; omega,f1:=by show (-1:Int)≤9223372036854775807; omega }
end
def Off_s7 (X:Nat→Prop) (d H S:Nat) (v:Value):Prop:=¬ X d∧¬ X H∧¬ X S∧∀ g,v.ownBlock=some g→¬ X g
def DiskM (w:World) (X:Nat→Prop) (d n:Nat) (k:Dk):Prop :=
 k.Ok n∧∃ H S v,Dm w d H S n v k.pend.length (flat k.held) (flat k.safe) (flatP k.pend) k.armed k.fails k.dead k.ops∧Off_s7 X d H S v
section
variable {w w':World} {X Y:Nat→Prop} {d n:Nat} {k:Dk}
theorem DiskM.ok (h:DiskM w X d n k):k.Ok n:=h.1
theorem DiskM.lt (h:DiskM w X d n k):d<w.heap.size:=by
 obtain ⟨_,H,S,v,h,_⟩:=h
 exact h.blk.lt
theorem DiskM.off (h:DiskM w X d n k):¬ X d:=by
 obtain ⟨_,H,S,v,_,h⟩:=h
 exact h.1
theorem DiskM.kept (h:DiskM w X d n k) {Z:Nat→Prop} (hk:Kept Z w w') (hZ:∀ b,b<w.heap.size→¬ X b→Z b) (hY:∀ b,b<w.heap.size→Y b→X b):DiskM w' Y d n k:=by
 obtain ⟨h1,H,S,v,h,hd,hH,hS,hv⟩:=h
 have l1:=h.blk.lt
 have l2:=h.hh.lt
 have l3:=h.ss.lt
 exact ⟨h1,H,S,v,h.kept hk (hZ d l1 hd) (hZ H l2 hH) (hZ S l3 hS) (fun g hg=>hZ g (h.vlt g hg) (hv g hg)),fun y=>hd (hY d l1 y),fun y=>hH (hY H l2 y),fun y=>hS (hY S l3 y),fun g hg y=>hv g hg (hY g (h.vlt g hg) y)⟩
theorem DiskM.below (h:DiskM w X d n k) (hb:Below w.heap.size w w') (hY:∀ b,b<w.heap.size→Y b→X b):DiskM w' Y d n k :=
 h.kept (Z:=fun b=>b<w.heap.size) (Kept.of_below hb (fun b h=>h)) (fun b h _=>h) hY
theorem DiskM.mono (h:DiskM w X d n k) (hY:∀ b,b<w.heap.size→Y b→X b):DiskM w Y d n k:=h.below (Below.refl _ _) hY
theorem DiskM.drewN (h:DiskM w X d n k) (j:Nat):DiskM (w.drewN j) X d n k:=h.below (below_drewN (Below.refl _ _) j) (fun b _ h=>h)
theorem SyR.disk {H S:Nat} {v:Value} {m:Nat} {held safe:List Int} {P:List Value} {armed fails:Int} {dead:Bool} {ops:Int} (h:SyR d H S n v m held safe P armed fails dead ops w w') (ho:Off_s7 X d H S v) (hX:∀ b,X b→b<w.heap.size) :
 ∃ v',Dm w' d H S n v' m held safe P armed fails dead ops∧Off_s7 X d H S v'∧Kept X w w':=by
 obtain ⟨v',h1,h2,h3⟩:=h
 refine ⟨v',h1,⟨ho.1,ho.2.1,ho.2.2.1,fun g hg x=>?_⟩,h3.mono (fun b x=>⟨hX b x,fun e=>ho.1 (e▸x),fun e=>ho.2.1 (e▸x),fun e=>ho.2.2.1 (e▸x),fun e=>ho.2.2.2 b e x⟩)⟩
 rcases h2 g hg with e | e
 ·exact ho.2.2.2 g e x
 ·exact absurd (hX g x) (by omega)
theorem len_k (h:DiskM w X d n k):Calls Tryz.prog 155 #[.pointer (some ⟨d,0,none⟩)] w fun e w'=>e=.returned (.int .i64 n)∧w=w':=by
 obtain ⟨_,H,S,v,h,_⟩:=h
 exact len_any h
theorem read_k (h:DiskM w X d n k) (hX:∀ b,X b→b<w.heap.size) (i:Nat) (hi:i<n) :
 Calls Tryz.prog 124 #[.pointer (some ⟨d,0,none⟩),.int .i64 i] w fun e w'=>e=.returned (.tuple #[.agg (cells8 (k.rdv i)),.int .i64 k.rde])∧DiskM w' X d n k.rd∧Kept X w w':=by
 obtain ⟨hok,H,S,v,h,ho⟩:=h
 have hkx:∀ {u},Kept (fun b=>b<w.heap.size∧b≠d) w u→Kept X w u:=fun hk=>hk.mono (fun b x=>⟨hX b x,fun e=>ho.1 (e▸x)⟩)
 have hok':=hok.rd
 obtain ⟨safe,pend,armed,fails,dead,ops⟩:=k
 unfold Dk.rde Dk.rdv
 unfold Dk.rd at hok' ⊢
 simp only[] at h hok' ⊢
 cases dead
 ·simp only[Bool.false_eq_true,if_false] at hok' ⊢
  by_cases hz:fails=0
  ·simp only[hz,if_true] at hok' ⊢
   subst hz
   refine (read_io h i hi hok.f0 hok.f1 rfl).mono ?_
   rintro e u ⟨rfl,h1,h2⟩
   exact ⟨rfl,⟨hok',H,S,v,h1,ho⟩,hkx h2⟩
  ·simp only[hz,if_false] at hok' ⊢
   refine (read_done h i hi _ hok.heldSecs rfl hok.heldLen hok.small hok.f0 hok.f1 hz hok.a0 hok.a1).mono ?_
   rintro e u ⟨rfl,h1,h2⟩
   exact ⟨rfl,⟨hok',H,S,v,h1,ho⟩,hkx h2⟩
 ·simp only[if_true] at hok' ⊢
  refine (read_dead h i hi).mono ?_
  rintro e u ⟨rfl,h1,h2⟩
  exact ⟨rfl,⟨hok',H,S,v,h1,ho⟩,hkx h2⟩
theorem write_k (h:DiskM w X d n k) (hX:∀ b,X b→b<w.heap.size) (i:Nat) (hi:i<n) (ys:List Int) (hy:ys.length=64) (hby:Bytes ys) (hm:k.pend.length≤1000000) :
 Calls Tryz.prog 105 #[.pointer (some ⟨d,0,none⟩),.int .i64 i,.agg (cells8 ys)] w fun e w'=>e=.returned (.int .i64 k.wre)∧DiskM w' X d n (k.wr (Dk.put i ys))∧Kept X w w':=by
 obtain ⟨hok,H,S,v,h,ho⟩:=h
 have hok':=hok.wr (f:=Dk.put i ys) (fun k' _ _ h=>h.put hi hy hby)
 obtain ⟨safe,pend,armed,fails,dead,ops⟩:=k
 unfold Dk.wre
 unfold Dk.wr at hok' ⊢
 simp only[] at h hok' hm ⊢
 cases dead
 ·simp only[Bool.false_eq_true,if_false] at hok' ⊢
  by_cases hz:fails=0
  ·simp only[hz,if_true] at hok' ⊢
   subst hz
   refine (write_io h i hi ys hy hok.f0 hok.f1 rfl).mono ?_
   rintro e u ⟨rfl,h1⟩
   obtain ⟨v',h1,h2,h3⟩:=h1.sy.disk ho hX
   exact ⟨rfl,⟨hok',H,S,v',h1,h2⟩,h3⟩
  simp only[hz,if_false] at hok' ⊢
  by_cases ha:armed=0
  ·simp only[ha,if_true] at hok' ⊢
   subst ha
   refine (write_off h i hi ys hy hok.f0 hok.f1 hz hok.a0 hok.a1 rfl).mono ?_
   rintro e u ⟨rfl,h1⟩
   obtain ⟨v',h1,h2,h3⟩:=h1.sy.disk ho hX
   exact ⟨rfl,⟨hok',H,S,v',h1,h2⟩,h3⟩
  simp only[ha,if_false] at hok' ⊢
  refine (write_done h i hi ys hy _ hok.heldSecs rfl hok.heldLen hok.small hok.f0 hok.f1 hz hok.a0 hok.a1 ha hm).mono ?_
  rintro e u ⟨rfl,h1⟩
  obtain ⟨v',h1,h2,h3⟩:=h1.sy.disk ho hX
  refine ⟨rfl,⟨hok',H,S,v',?_,h2⟩,h3⟩
  have e1:flat (Dk.held (Dk.put i ys { safe:=safe,pend:=pend,armed:=struck armed,fails:=struck fails,dead:=false,ops:=wrap64 (ops+1) }))=flat ((over safe pend).set i ys):=by
   show flat (over safe (pend++[(i,ys)]))=_
   rw[over_snoc]
  rw[e1]
  show Dm u d H S n v' (pend++[(i,ys)]).length _ _ (flatP (pend++[(i,ys)])) _ _ _ _
  rw[List.length_append,flatP_append,flatP_one]
  exact h1
 ·simp only[if_true] at hok' ⊢
  refine (write_dead h i hi ys hy).mono ?_
  rintro e u ⟨rfl,h1⟩
  obtain ⟨v',h1,h2,h3⟩:=h1.sy.disk ho hX
  exact ⟨rfl,⟨hok',H,S,v',h1,h2⟩,h3⟩
theorem sync_k (h:DiskM w X d n k) (hX:∀ b,X b→b<w.heap.size) :
 Calls Tryz.prog 108 #[.pointer (some ⟨d,0,none⟩)] w fun e w'=>e=.returned (.int .i64 k.wre)∧DiskM w' X d n (k.wr Dk.sync)∧Kept X w w':=by
 obtain ⟨hok,H,S,v,h,ho⟩:=h
 have hok':=hok.wr (f:=Dk.sync) (fun k' _ _ h=>h.sync)
 obtain ⟨safe,pend,armed,fails,dead,ops⟩:=k
 unfold Dk.wre
 unfold Dk.wr at hok' ⊢
 simp only[] at h hok' ⊢
 cases dead
 ·simp only[Bool.false_eq_true,if_false] at hok' ⊢
  by_cases hz:fails=0
  ·simp only[hz,if_true] at hok' ⊢
   subst hz
   refine (sync_io h hok.f0 hok.f1 rfl).mono ?_
   rintro e u ⟨rfl,h1⟩
   obtain ⟨v',h1,h2,h3⟩:=h1.disk ho hX
   exact ⟨rfl,⟨hok',H,S,v',h1,h2⟩,h3⟩
  simp only[hz,if_false] at hok' ⊢
  by_cases ha:armed=0
  ·simp only[ha,if_true] at hok' ⊢
   subst ha
   refine (sync_off h hok.f0 hok.f1 hz hok.a0 hok.a1 rfl).mono ?_
   rintro e u ⟨rfl,h1⟩
   obtain ⟨v',h1,h2,h3⟩:=h1.disk ho hX
   exact ⟨rfl,⟨hok',H,S,v',h1,h2⟩,h3⟩
  simp only[ha,if_false] at hok' ⊢
  refine (sync_done h hok.secs rfl hok.len hok.small hok.fits hok.f0 hok.f1 hz hok.a0 hok.a1 ha).mono ?_
  rintro e u ⟨rfl,h1⟩
  obtain ⟨v',h1,h2,h3⟩:=h1.disk ho hX
  exact ⟨rfl,⟨hok',H,S,v',h1,h2⟩,h3⟩
 ·simp only[if_true] at hok' ⊢
  refine (sync_dead h).mono ?_
  rintro e u ⟨rfl,h1⟩
  obtain ⟨v',h1,h2,h3⟩:=h1.disk ho hX
  exact ⟨rfl,⟨hok',H,S,v',h1,h2⟩,h3⟩
end
end
section
theorem flat_sec0 (n:Nat):flat (sec0 n)=noughts (n*64):=by
 induction n with
 | zero=>rfl
 | succ n ih =>
  have e:sec0 (n+1)=[noughts 64]++sec0 n:=by simp[sec0,List.replicate_succ]
  rw[e,flat_append,flat_one,ih]
  simp only[noughts,List.replicate_append_replicate]
  congr 1
  omega
theorem run_make_secs (k:Nat) (hk:k≤2199023255552) (w:World):(Instr.makeSlice 178 (.int .i64 k) (.int .i64 k)).run Tryz.prog w=.ok (.slice (some ⟨w.heap.size,0,none⟩) k k) (w.alloc (.cells (cells8 (noughts (k*64))) 186)):=by
 obtain ⟨i0,hi,hz0,hz1,hz2⟩:=info_parts info_blk
 have hr:=run_make (P:=Tryz.prog) w 178 186 i0 (.agg (cells8 (noughts 64))) Tryz.underlying178 hi hz0 .i64 .i64 k k (by omega) (by omega) (by rw[hz2]; omega) (by omega)
 simp only[Int.toNat_natCast,hz1,Value.cells,made_secs] at hr
 exact hr
section
variable {w w':World} {X Y:Nat→Prop} {d n:Nat} {k:Dk}
theorem fresh_disk {w:World} {H S n:Nat} {w1:World} (hn2:n≤2048) (hH:ArrB w1 H (noughts (n*64))) (hS:ArrB w1 S (noughts (n*64))) (hne:H≠S) (h1:w.heap.size≤H) (h2:w.heap.size≤S) (hb:Below w.heap.size w w1) :
 DiskM (w1.alloc (.cells #[.slice (some ⟨H,0,none⟩) n n,.slice (some ⟨S,0,none⟩) n n,.slice none 0 0,.int .i64 (-1),.int .i64 (-1),.bool false,.int .i64 0] 182)) (fun b=>b<w.heap.size) w1.heap.size n (Dk.fresh n):=by
 refine ⟨Dk.Ok.fresh hn2,H,S,.slice none 0 0,⟨Blk.new w1 _ _,?_,?_,⟨rfl,.inl ⟨rfl,rfl⟩⟩,hne⟩,by have:=hb.size; omega,by omega,by omega,fun g hg=>(by simp[Value.ownBlock] at hg)⟩
 ·show ArrB _ H (flat (over (sec0 n) []))
  rw[over_nil,flat_sec0]
  exact Blk.alloc hH _
 ·show ArrB _ S (flat (sec0 n))
  rw[flat_sec0]
  exact Blk.alloc hS _
theorem fresh_drew {w:World} {H S n:Nat} (hn2:n≤2048) (h:H=w.heap.size∧S=w.heap.size+1∨H=w.heap.size+1∧S=w.heap.size) :
 DiskM (((w.alloc (.cells (cells8 (noughts (n*64))) 186)).alloc (.cells (cells8 (noughts (n*64))) 186)).alloc (.cells #[.slice (some ⟨H,0,none⟩) n n,.slice (some ⟨S,0,none⟩) n n,.slice none 0 0,.int .i64 (-1),.int .i64 (-1),.bool false,.int .i64 0] 182)).drew (fun b=>b<w.heap.size) (w.heap.size+1+1) n (Dk.fresh n) ∧
  Below w.heap.size w (((w.alloc (.cells (cells8 (noughts (n*64))) 186)).alloc (.cells (cells8 (noughts (n*64))) 186)).alloc (.cells #[.slice (some ⟨H,0,none⟩) n n,.slice (some ⟨S,0,none⟩) n n,.slice none 0 0,.int .i64 (-1),.int .i64 (-1),.bool false,.int .i64 0] 182)).drew:=by
 have g0:ArrB ((w.alloc (.cells (cells8 (noughts (n*64))) 186)).alloc (.cells (cells8 (noughts (n*64))) 186)) w.heap.size (noughts (n*64)):=(Blk.new w _ _).alloc _
 have g1:ArrB ((w.alloc (.cells (cells8 (noughts (n*64))) 186)).alloc (.cells (cells8 (noughts (n*64))) 186)) (w.heap.size+1) (noughts (n*64)):=blk_new2 w _ _ _
 have hb:Below w.heap.size w ((w.alloc (.cells (cells8 (noughts (n*64))) 186)).alloc (.cells (cells8 (noughts (n*64))) 186)):=((Below.refl _ _).alloc (nR _) _).alloc (by simp) _
 have hs:((w.alloc (.cells (cells8 (noughts (n*64))) 186)).alloc (.cells (cells8 (noughts (n*64))) 186)).heap.size=w.heap.size+1+1:=by simp
 generalize (w.alloc (.cells (cells8 (noughts (n*64))) 186)).alloc (.cells (cells8 (noughts (n*64))) 186)=w1 at *
 have hd:DiskM (w1.alloc (.cells #[.slice (some ⟨H,0,none⟩) n n,.slice (some ⟨S,0,none⟩) n n,.slice none 0 0,.int .i64 (-1),.int .i64 (-1),.bool false,.int .i64 0] 182)) (fun b=>b<w.heap.size) w1.heap.size n (Dk.fresh n):=by
  rcases h with ⟨rfl,rfl⟩ | ⟨rfl,rfl⟩
  ·exact fresh_disk hn2 g0 g1 (by omega) (by omega) (by omega) hb
  ·exact fresh_disk hn2 g1 g0 (by omega) (by omega) (by omega) hb
 rw[hs] at hd
 exact ⟨hd.below (Below.refl _ _).drew (fun b _ h=>h),(hb.alloc hb.size _).drew⟩
theorem new_k (w:World) (n:Nat) (h1:1≤n) (h2:n≤2048) :
 Calls Tryz.prog 41 #[.int .i64 n] w fun e w'=>∃ d,e=.returned (.tuple #[.pointer (some ⟨d,0,none⟩),.int .i64 0])∧DiskM w' (fun b=>b<w.heap.size) d n (Dk.fresh n)∧Below w.heap.size w w':=by
 have d1:decide ((n:Int)<1)=false:=by simp; omega
 have d2:decide ((2048:Int)<(n:Int))=false:=by simp; omega
 have hmk:=run_make_secs n (by omega)
 go_enter Tryz.func41,Tryz.ntmps41
 go_wp2
 go_region_held3 (fun W=>True) (exact trivial)
  (fail)
 all_goals
  go_wp2
  go_ret2
  exact ⟨_,rfl,fresh_drew h2 (by omega)⟩
end
end
section
theorem sector_any (a b g r v f t:Int) (w:World) (h0:0≤t) (h1:t≤18446744073709551615) :
 Calls Tryz.prog 106 #[.agg (turC a b g r v f t)] w fun e w'=>e=.returned (.int .i64 (t % 2))∧Below w.heap.size w w':=by
 have e1:IntKind.u64.wrap (t.tmod 2)=t % 2:=by rw[Int.tmod_eq_emod_of_nonneg h0,IntKind.wrap_u64]; omega
 have e2:IntKind.i64.wrap (t % 2)=t % 2:=IntWalk.i64_in _ ⟨by omega,by omega⟩
 go_enter Tryz.func106,Tryz.ntmps106
 go_wp2
 go_ret
 refine ⟨ret_int ?_,(Below.refl _ _).alloc (nR _) _⟩
 first | rfl | (rw[e1,e2]) | (rw[e1]) | omega
def nxt (t:Int):Int:=(t+1) % 18446744073709551616
theorem nxt_in (t:Int):0≤nxt t∧nxt t≤18446744073709551615:=by unfold nxt; omega
theorem next_any_s7 (a b g r v f t:Int) (w:World) :
 Calls Tryz.prog 107 #[.agg (turC a b g r v f t)] w fun e w'=>e=.returned (.agg (turC a b g r v f (nxt t)))∧Below w.heap.size w w':=by
 have e1:IntKind.u64.wrap (t+1)=nxt t:=by rw[IntKind.wrap_u64]; rfl
 go_enter Tryz.func107,Tryz.ntmps107
 go_wp2_with (with_reducible refine halt_end ?_)
 exact Halt.ret (results_row1 (p:=2) rfl _ _ (w.heap.size+1) 184 (turC a b g r v f (nxt t)) _ rfl (blk_new2 w _ _ _) Tryz.underlying184 rfl size_tur) rfl ⟨rfl,((Below.refl _ _).alloc (nR _) _).alloc (by simp) _⟩
def BackS (g r v f g' r' v' f':Int):Prop:=g'<g∨r'<r∨v'<v∨f'<f
instance aI7Sup10 (g r v f g' r' v' f':Int):Decidable (BackS g r v f g' r' v' f'):=by unfold BackS; infer_instance
theorem back_any (a b g r v f a' b' g' r' v' f':Int) (w:World) :
 Calls Tryz.prog 131 #[.agg (supC a b g r v f),.agg (supC a' b' g' r' v' f')] w fun e w'=>e=.returned (.bool (decide (BackS g r v f g' r' v' f')))∧Below w.heap.size w w':=by
 by_cases h0:g'<g
 case pos =>
  have hyes:decide (BackS g r v f g' r' v' f')=true:=decide_eq_true (Or.inl h0)
  rw[hyes]
  have e0:decide (g'<g)=true:=decide_eq_true h0
  go_enter Tryz.func131,Tryz.ntmps131
  go_wp2
  go_ret
  exact ⟨rfl,((Below.refl _ _).alloc (nR _) _).alloc (by simp) _⟩
 have e0:decide (g'<g)=false:=decide_eq_false h0
 by_cases h1:r'<r
 case pos =>
  have hyes:decide (BackS g r v f g' r' v' f')=true:=decide_eq_true (Or.inr (Or.inl h1))
  rw[hyes]
  have e1:decide (r'<r)=true:=decide_eq_true h1
  go_enter Tryz.func131,Tryz.ntmps131
  go_wp2
  go_ret
  exact ⟨rfl,((Below.refl _ _).alloc (nR _) _).alloc (by simp) _⟩
 have e1:decide (r'<r)=false:=decide_eq_false h1
 by_cases h2:v'<v
 case pos =>
  have hyes:decide (BackS g r v f g' r' v' f')=true:=decide_eq_true (Or.inr (Or.inr (Or.inl h2)))
  rw[hyes]
  have e2:decide (v'<v)=true:=decide_eq_true h2
  go_enter Tryz.func131,Tryz.ntmps131
  go_wp2
  go_ret
  exact ⟨rfl,((Below.refl _ _).alloc (nR _) _).alloc (by simp) _⟩
 have e2:decide (v'<v)=false:=decide_eq_false h2
 by_cases h3:f'<f
 case pos =>
  have hyes:decide (BackS g r v f g' r' v' f')=true:=decide_eq_true (Or.inr (Or.inr (Or.inr h3)))
  rw[hyes]
  have e3:decide (f'<f)=true:=decide_eq_true h3
  go_enter Tryz.func131,Tryz.ntmps131
  go_wp2
  go_ret
  exact ⟨rfl,((Below.refl _ _).alloc (nR _) _).alloc (by simp) _⟩
 have e3:decide (f'<f)=false:=decide_eq_false h3
 have hno:decide (BackS g r v f g' r' v' f')=false:=decide_eq_false (fun h=>by rcases h with h | h | h | h; exact h0 h; exact h1 h; exact h2 h; exact h3 h)
 rw[hno]
 go_enter Tryz.func131,Tryz.ntmps131
 go_wp2
 go_ret
 exact ⟨rfl,((Below.refl _ _).alloc (nR _) _).alloc (by simp) _⟩
theorem area_in {a b g r:Int} (h:MayS a b g r):96≤a*b∧a*b≤1024:=by
 obtain ⟨h1,h2,h3,h4,_⟩:=h
 have e1:(4:Int)*24≤a*b:=Int.mul_le_mul h1 h3 (by omega) (by omega)
 have e2:a*b≤16*64:=Int.mul_le_mul h2 h4 (by omega) (by omega)
 omega
theorem room_any {w:World} {X:Nat→Prop} {d n:Nat} {k:Dk} (hd:DiskM w X d n k) (a b g r v f:Int) (h:MayS a b g r) :
 Calls Tryz.prog 104 #[.pointer (some ⟨d,0,none⟩),.agg (supC a b g r v f)] w fun e w'=>e=.returned (.bool (decide (2+a*b≤(n:Int))))∧Below w.heap.size w w':=by
 have har:=area_in h
 have e1:IntKind.i64.wrap (a*b)=a*b:=IntWalk.i64_in _ ⟨by omega,by omega⟩
 have e2:IntKind.i64.wrap (2+a*b)=2+a*b:=IntWalk.i64_in _ ⟨by omega,by omega⟩
 have HD:=hI (hd.below (w':=w.alloc (.cells (supC a b g r v f) 115)) ((Below.refl _ _).alloc (nR _) _) (fun b _ h=>h))
 clear hd h har
 go_enter Tryz.func104,Tryz.ntmps104
 go_wp2
 go_quiet ((go_at_call 155; exact quiet_draw ((len_k (HD.out.drewN _)).mono (fun e w' ⟨h1,h2⟩=>⟨h1,0,h2⟩))))
 go_wp2
 go_ret
 exact ⟨rfl,below_drewN ((Below.refl _ _).alloc (nR _) _) _⟩
end
section
theorem one_sup (a b g r v f:Int):(supC a b g r v f).all (·.oneCell')=true:=by simp[supC,Value.oneCell']
end
section
abbrev stoC (a b g r v f t:Int) (d:Nat):Array Value:=#[.int .i64 a,.int .i64 b,.int .u64 g,.int .u64 r,.int .u64 v,.int .u64 f,.int .u64 t,.pointer (some ⟨d,0,none⟩)]
def StoreM (w:World) (X:Nat→Prop) (p d n:Nat) (a b g r v f t:Int) (k:Dk):Prop :=
 Blk w p 193 (stoC a b g r v f t d)∧DiskM w (fun c=>X c∨c=p) d n k∧¬ X p
abbrev fm0:Oper:=⟨some 35,.move (.tmp 0),25,"super.go:45",#[],none⟩
abbrev fm1:Oper:=⟨some 36,.load 184 (.tmp 8),184,"super.go:45",#[],none⟩
abbrev fm2:Oper:=⟨some 37,.call { callee:=.value (.func 106),args:=#[.tmp 36],argTypes:=#[184] },3,"super.go:45",#[⟨1,.data⟩],none⟩
abbrev fm3:Oper:=⟨some 38,.load 186 (.tmp 9),186,"super.go:45",#[],none⟩
abbrev fm4:Oper:=⟨some 39,.call { callee:=.value (.func 105),args:=#[.tmp 35,.tmp 37,.tmp 38],argTypes:=#[25,3,186] },36,"super.go:45",#[⟨0,.data⟩,⟨2,.data⟩,⟨3,.data⟩,⟨2,.chain⟩],none⟩
abbrev fm5:Oper:=⟨some 11,.assign (.tmp 39),36,"super.go:45",#[⟨4,.data⟩,⟨4,.chain⟩,⟨0,.phase⟩,⟨1,.phase⟩,⟨2,.phase⟩,⟨3,.phase⟩,⟨4,.phase⟩],none⟩
theorem format_go {w:World} {X:Nat→Prop} {d n:Nat} {k:Dk} (hd:DiskM w X d n k) (hX:∀ c,X c→c<w.heap.size) (a b:Int) (h:MayS a b 0 0) (hr:2+a*b≤(n:Int)) (hp:k.pend.length≤1000) (h0:k.wre=0)
 (h1:(k.wr (Dk.put 0 (supL a b 0 0 0 0 0))).wre=0) (h2:((k.wr (Dk.put 0 (supL a b 0 0 0 0 0))).wr (Dk.put 1 (noughts 64))).wre=0) :
 Calls Tryz.prog 42 #[.pointer (some ⟨d,0,none⟩),.int .i64 a,.int .i64 b] w fun e w'=>∃ p,e=.returned (.tuple #[.pointer (some ⟨p,0,none⟩),.int .i64 0]) ∧
  StoreM w' X p d n a b 0 0 0 0 0 (((k.wr (Dk.put 0 (supL a b 0 0 0 0 0))).wr (Dk.put 1 (noughts 64))).wr Dk.sync)∧Kept X w w':=by
 have hn2:98≤n:=by have:=(area_in h).1; omega
 have hp1:(k.wr (Dk.put 0 (supL a b 0 0 0 0 0))).pend.length≤1000000:=by
  unfold Dk.wr
  split
  ·omega
  split
  ·show k.pend.length≤_; omega
  split
  ·show k.pend.length≤_; omega
  ·show (k.pend++[_]).length≤_; simp; omega
 have HMAY:=hI h
 have HRM:=hI (show decide (2+a*b≤(n:Int))=true from decide_eq_true hr)
 have hin:InS a b 0 0 0 0:=by obtain ⟨_,_,_,_,_⟩:=h; unfold InS; omega
 have hsl:=supL_length a b 0 0 0 0 0
 have hsb:=supL_bytes a b 0 0 0 0 0
 have HBK:=hI (fun u=>block_ok a b 0 0 0 0 0 u h hin ⟨by omega,by omega⟩)
 generalize supL a b 0 0 0 0 0=sl at *
 have HSL:=hI hsl
 have HSB:=hI hsb
 have HD:=hI hd
 have HX:=hI hX
 have H0:=hI h0
 have H1:=hI h1
 have H2:=hI h2
 have HP1:=hI hp1
 clear h hr hin hsl hd hX h0 h1 h2 hsb hp1
 go_enter Tryz.func42,Tryz.ntmps42
 go_wp2_with fail
 have HT1:=hI (show Blk (w.alloc (.cells (turC a b 0 0 0 0 0) 184)) w.heap.size 184 (turC a b 0 0 0 0 0) from Blk.new w _ _)
 have HB1:=hI (show Below w.heap.size w (w.alloc (.cells (turC a b 0 0 0 0 0) 184)) from (Below.refl _ _).alloc (nR _) _)
 generalize hw1:w.alloc (.cells (turC a b 0 0 0 0 0) 184)=w1 at *
 clear hw1
 refine (HBK.out _).mono ?_
 rintro e w2 ⟨rfl,hb⟩
 have HB2:=hI (HB1.out.trans (hb.mono HB1.out.size))
 have HT2:=hI (HT1.out.below hb HT1.out.lt)
 have HZ2:=hI (show w.heap.size<w2.heap.size from HT2.out.lt)
 obtain ⟨w3,hw3⟩:∃ w3,w3=w2.alloc (.cells (cells8 sl) 186):=⟨_,rfl⟩
 have HW3:=hI hw3
 have HT3:=hI (show Blk w3 w.heap.size 184 (turC a b 0 0 0 0 0) by rw[hw3]; exact HT2.out.alloc _)
 have HV3:=hI (show ArrB w3 w2.heap.size sl by rw[hw3]; exact Blk.new w2 _ _)
 have HB3:=hI (show Below w.heap.size w w3 by rw[hw3]; exact HB2.out.alloc HB2.out.size _)
 clear hb hw3
 obtain ⟨c0,c1,c2,c3,c4,c5⟩:_∧_∧_∧_∧_∧_:=⟨HT3.out.cell 0,HT3.out.cell 1,HT3.out.cell 2,HT3.out.cell 3,HT3.out.cell 4,HT3.out.cell 5⟩
 simp only[List.getElem?_toArray,List.getElem?_cons_zero,List.getElem?_cons_succ] at c0 c1 c2 c3 c4 c5
 go_wp2_with (first
  | (refine wpList_alloc_blk rfl rfl ?_)
  | (refine wpList_store_new (.tmp 9) (.tmp 23) rfl rfl w2 sl rfl rfl (noughts 64) rfl (noughts_length 64) HSL.out ?_; rw[← HW3.out]))
 clear c0 c1 c2 c3 c4 c5
 have HD3:=hI (show DiskM w3 (fun c=>X c∨c=w.heap.size∨c=w2.heap.size) d n k from HD.out.below HB3.out (fun c hc h=>by rcases h with h | h | h; exact h; omega; have:=HZ2.out; omega))
 refine (room_any HD3.out a b 0 0 0 0 HMAY.out).mono ?_
 rintro e w4 ⟨rfl,hb⟩
 rw[HRM.out]
 have HD4:=hI (HD3.out.below (Y:=fun c=>X c∨c=w.heap.size∨c=w2.heap.size) hb (fun c _ h=>h))
 have HT4:=hI (HT3.out.below hb HT3.out.lt)
 have HV4:=hI (show ArrB w4 w2.heap.size sl from Arr.below HV3.out hb HV3.out.lt)
 have HB4:=hI (HB3.out.trans (hb.mono HB3.out.size))
 clear hb
 go_wp2_with fail
 have hr8:w4.rangeAt w.heap.size 0 (turC a b 0 0 0 0 0).toList:=Blk.rangeL (cs:=(turC a b 0 0 0 0 0).toList) HT4.out
 have hr9:=HV4.out.range
 have hu65:=Tryz.underlying184
 have hu26:=Tryz.underlying186
 have hs65:(Tryz.prog.info? 184).map (·.size)=some (turC a b 0 0 0 0 0).toList.length:=size_tur
 have hs26:(Tryz.prog.info? 186).map (·.size)=some (sl.map (Value.int .u8)).length:=by rw[size_blk,List.length_map,HSL.out]
 refine wp_region_noPanic ?_
 refine Tillst.region (fun W=>W.rangeAt w.heap.size 0 (turC a b 0 0 0 0 0).toList∧W.rangeAt w2.heap.size 0 (sl.map (Value.int .u8))) [] (by kernel_rfl) ⟨hr8,hr9⟩ (fun hė=>?_)
 refine tK 0 fm0 (v:=?_) ?_ hė ?_
 rotate_left
 ·intro W hSW; unfold fm0; go_simp; with_reducible rfl
 simp only[fm0,Act.put,sA,sZ,sS]
 refine tK 1 fm1 (v:=?_) ?_ hė ?_
 rotate_left
 ·intro W hSW; refine exec_load_row (.tmp 8) 184 ?_ w.heap.size 0 ?_ (turC a b 0 0 0 0 0).toList _ hu65 rfl hs65 hSW.1 <;> rfl
 simp only[fm1,Act.put,sA,sZ,sS]
 refine tK 3 fm3 (v:=?_) ?_ hė ?_
 rotate_left
 ·intro W hSW; refine exec_load_row (.tmp 9) 186 ?_ w2.heap.size 0 ?_ (sl.map (Value.int .u8)) _ hu26 rfl hs26 hSW.2 <;> rfl
 simp only[fm3,Act.put,sA,sZ,sS]
 refine tO 2 fm2 ?_
 intro K hK
 refine step_call 106 #[.tmp 36] #[184] rfl rfl Tryz.func106 rfl rfl [.agg (turC a b 0 0 0 0 0)] rfl ?_
 refine (sector_any a b 0 0 0 0 0 w4.drew (by omega) (by omega)).mono ?_
 rintro e w5 ⟨rfl,hb⟩
 have hb5:Below w4.heap.size w4 w5:=(Below.refl _ _).drew.trans hb
 have HD5:=hI (HD4.out.below (Y:=fun c=>X c∨c=w.heap.size∨c=w2.heap.size) hb5 (fun c _ h=>h))
 have HT5:=hI (HT4.out.below hb5 HT4.out.lt)
 have HV5:=hI (show ArrB w5 w2.heap.size sl from Arr.below HV4.out hb5 HV4.out.lt)
 have HB5:=hI (HB4.out.trans (hb5.mono HB4.out.size))
 have HZ5:=hI (show w2.heap.size<w5.heap.size from HV5.out.lt)
 have hS:=And.intro (Blk.rangeL (cs:=(turC a b 0 0 0 0 0).toList) HT5.out) HV5.out.range
 clear hb hb5
 refine ⟨_,rfl,?_⟩
 simp only[fm2,Act.put,sA,sZ,sS]
 refine hK.out _ _ (fun _=>hS) (fun hė=>?_)
 replace hė:=hė (by decide)
 clear hK K hS
 refine tO 4 fm4 ?_
 intro K hK
 refine step_call 105 #[.tmp 35,.tmp 37,.tmp 38] #[25,3,186] rfl rfl Tryz.func105 rfl rfl [.pointer (some ⟨d,0,none⟩),.int .i64 0,.agg (cells8 sl)] rfl ?_
 refine (write_k HD5.out (fun c h=>by rcases h with h | h | h; exact nL (HX.out c h) HB5.out.size; have:=HZ2.out; have:=HZ5.out; omega; have:=HZ5.out; omega) 0 (by omega) sl HSL.out HSB.out (by omega)).mono ?_
 rintro e w6 ⟨rfl,hd6,hk6⟩
 rw[H0.out]
 have HD6:=hI hd6
 have HT6:=hI (HT5.out.kept hk6 (.inr (.inl rfl)))
 have HV6:=hI (show ArrB w6 w2.heap.size sl from Arr.kept HV5.out hk6 (.inr (.inr rfl)))
 have HK6:=hI (show Kept X w w6 from (Kept.of_below HB5.out HX.out).trans hk6 (fun c h=>.inl h))
 have HZ6:=hI (show w2.heap.size<w6.heap.size from HV6.out.lt)
 have hS:=And.intro (Blk.rangeL (cs:=(turC a b 0 0 0 0 0).toList) HT6.out) HV6.out.range
 clear hd6 hk6
 refine ⟨_,rfl,?_⟩
 simp only[fm4,Act.put,sA,sZ,sS]
 refine hK.out _ _ (fun _=>hS) (fun hė=>?_)
 replace hė:=hė (by decide)
 clear hK K hS
 refine tO 5 fm5 ?_
 intro K hK
 refine step_value ?_ rfl ?_ ?_
 rotate_left
 ·unfold fm5; go_simp; with_reducible rfl
 simp only[fm5,Act.put,sA,sZ,sS]
 refine hK.out _ _ (fun _=>hė) (fun hė=>?_)
 replace hė:=hė (by decide)
 clear hK K
 refine Tillst.done (by kernel_rfl) ?_ _
 refine NoPanic.normal ?_
 clear hė hr8 hr9 hs26
 obtain ⟨c0,c1,c2,c3,c4,c5,c6⟩:_∧_∧_∧_∧_∧_∧_:=⟨HT6.out.cell 0,HT6.out.cell 1,HT6.out.cell 2,HT6.out.cell 3,HT6.out.cell 4,HT6.out.cell 5,HT6.out.cell 6⟩
 simp only[List.getElem?_toArray,List.getElem?_cons_zero,List.getElem?_cons_succ] at c0 c1 c2 c3 c4 c5 c6
 go_wp2_with fail
 clear c0 c1 c2 c3 c4 c5 c6
 refine (next_any_s7 a b 0 0 0 0 0 _).mono ?_
 rintro e w7 ⟨rfl,hb⟩
 have hb7:Below w6.heap.size w6 w7:=hb
 go_wp2_with fail
 refine (sector_any a b 0 0 0 0 (nxt 0) _ (nxt_in 0).1 (nxt_in 0).2).mono ?_
 rintro e w8 ⟨rfl,hb⟩
 have hb8:Below w6.heap.size w6 w8:=hb7.trans (hb.mono hb7.size)
 have HD8:=hI (HD6.out.below (Y:=fun c=>X c∨c=w.heap.size∨c=w2.heap.size) hb8 (fun c _ h=>h))
 have HT8:=hI (HT6.out.below hb8 HT6.out.lt)
 have HK8:=hI (show Kept X w w8 from HK6.out.below hb8 (fun c h=>nL (HX.out c h) HK6.out.size))
 have HZ8:=hI (show w2.heap.size<w8.heap.size from nL HZ6.out hb8.size)
 have e1:nxt 0 % 2=1:=by decide
 rw[e1]
 clear hb hb7 hb8 e1
 go_wp2_with (refine wpList_build_blk rfl rfl ?_)
 have hw:(1:Int)=((1:Nat):Int):=rfl
 rw[hw]
 clear hw
 refine (write_k HD8.out (fun c h=>by rcases h with h | h | h; exact nL (HX.out c h) HK8.out.size; have:=HZ2.out; have:=HZ8.out; omega; have:=HZ8.out; omega) 1 (by omega) (noughts 64) (noughts_length 64) (noughts_bytes 64) HP1.out).mono ?_
 rintro e w9 ⟨rfl,hd9,hk9⟩
 rw[H1.out]
 have HD9:=hI hd9
 have HT9:=hI (HT8.out.kept hk9 (.inr (.inl rfl)))
 have HK9:=hI (show Kept X w w9 from HK8.out.trans hk9 (fun c h=>.inl h))
 clear hd9 hk9
 go_wp2_with fail
 have hlt9:=HT9.out.lt
 refine (sync_k (HD9.out.mono (Y:=fun c=>X c∨c=w.heap.size) (fun c _ h=>by rcases h with h | h; exact .inl h; exact .inr (.inl h))) (fun c h=>by rcases h with h | h; exact nL (HX.out c h) HK9.out.size; omega)).mono ?_
 rintro e wa ⟨rfl,hda,hka⟩
 rw[H2.out]
 have HDa:=hI hda
 have HTa:=hI (HT9.out.kept hka (.inr rfl))
 have HKa:=hI (show Kept X w wa from HK9.out.trans hka (fun c h=>.inl h))
 clear hda hka
 obtain ⟨c0,c1,c2,c3,c4,c5,c6⟩:_∧_∧_∧_∧_∧_∧_:=⟨HTa.out.cell 0,HTa.out.cell 1,HTa.out.cell 2,HTa.out.cell 3,HTa.out.cell 4,HTa.out.cell 5,HTa.out.cell 6⟩
 simp only[List.getElem?_toArray,List.getElem?_cons_zero,List.getElem?_cons_succ] at c0 c1 c2 c3 c4 c5 c6
 go_wp2_with fail
 go_ret2
 refine ⟨wa.heap.size,rfl,⟨Blk.new wa _ _,HDa.out.below ((Below.refl _ _).alloc (nR _) _) (fun c hc h=>?_),?_⟩,HKa.out.alloc (fun c h=>nL (HX.out c h) HKa.out.size) _⟩
 ·rcases h with h | h
  ·exact .inl h
  ·exact absurd h (by omega)
 ·intro h
  have:=HX.out _ h
  have:=HKa.out.size
  omega
end
section
def secOf (t:Int):Nat:=(nxt t % 2).toNat
theorem secOf_eq (t:Int):nxt t % 2=((secOf t:Nat):Int):=by unfold secOf; omega
theorem secOf_lt (t:Int):secOf t<2:=by unfold secOf; omega
theorem StoreM.below {w w':World} {X:Nat→Prop} {p d n:Nat} {a b g r v f t:Int} {k:Dk} (h:StoreM w X p d n a b g r v f t k) (hb:Below w.heap.size w w'):StoreM w' X p d n a b g r v f t k :=
 ⟨h.1.below hb h.1.lt,h.2.1.below hb (fun c _ h=>h),h.2.2⟩
abbrev sazg0:Oper:=⟨some 50,.move (.tmp 0),45,"super.go:102",#[],none⟩
abbrev sazg1:Oper:=⟨some 51,.nilCheck (.tmp 50),0,"super.go:102",#[⟨0,.data⟩],none⟩
abbrev sazg2:Oper:=⟨some 52,.fieldAddr 193 (.tmp 51) 0,0,"super.go:102",#[⟨1,.data⟩],none⟩
abbrev sazg3:Oper:=⟨some 53,.fieldAddr 184 (.tmp 52) 0,0,"super.go:102",#[⟨2,.data⟩],none⟩
abbrev sazg4:Oper:=⟨some 54,.load 115 (.tmp 53),115,"super.go:102",#[⟨3,.data⟩],none⟩
abbrev sazg5:Oper:=⟨some 55,.load 115 (.tmp 3),115,"super.go:102",#[],none⟩
abbrev sazg6:Oper:=⟨some 56,.call { callee:=.value (.func 131),args:=#[.tmp 54,.tmp 55],argTypes:=#[115,115] },4,"super.go:102",#[⟨4,.data⟩,⟨5,.data⟩],none⟩
abbrev sazg7:Oper:=⟨some 49,.assign (.tmp 56),4,"super.go:102",#[⟨6,.data⟩,⟨6,.chain⟩],none⟩
abbrev sbzg0:Oper:=⟨some 57,.move (.tmp 0),45,"super.go:105",#[],none⟩
abbrev sbzg1:Oper:=⟨some 58,.nilCheck (.tmp 57),0,"super.go:105",#[⟨0,.data⟩],none⟩
abbrev sbzg2:Oper:=⟨some 59,.fieldAddr 193 (.tmp 58) 1,0,"super.go:105",#[⟨1,.data⟩],none⟩
abbrev sbzg3:Oper:=⟨some 60,.load 25 (.tmp 59),25,"super.go:105",#[⟨2,.data⟩],none⟩
abbrev sbzg4:Oper:=⟨some 61,.load 184 (.tmp 5),184,"super.go:105",#[],none⟩
abbrev sbzg5:Oper:=⟨some 62,.call { callee:=.value (.func 106),args:=#[.tmp 61],argTypes:=#[184] },3,"super.go:105",#[⟨4,.data⟩],none⟩
abbrev sbzg6:Oper:=⟨some 63,.load 186 (.tmp 6),186,"super.go:105",#[],none⟩
abbrev sbzg7:Oper:=⟨some 64,.call { callee:=.value (.func 105),args:=#[.tmp 60,.tmp 62,.tmp 63],argTypes:=#[25,3,186] },36,"super.go:105",#[⟨3,.data⟩,⟨5,.data⟩,⟨6,.data⟩,⟨5,.chain⟩],none⟩
abbrev sbzg8:Oper:=⟨some 8,.assign (.tmp 64),36,"super.go:105",#[⟨7,.data⟩,⟨7,.chain⟩,⟨0,.phase⟩,⟨1,.phase⟩,⟨2,.phase⟩,⟨3,.phase⟩,⟨4,.phase⟩,⟨5,.phase⟩,⟨6,.phase⟩,⟨7,.phase⟩],none⟩
theorem set_go {w:World} {X:Nat→Prop} {p d n:Nat} {a b g r v f t:Int} {k:Dk} (hs:StoreM w X p d n a b g r v f t k) (hX:∀ c,X c→c<w.heap.size) (g' r' v' f':Int) (h:MayS a b g' r') (hin:InS a b g' r' v' f') (hbk:¬ BackS g r v f g' r' v' f') (hn:2≤n) (hp:k.pend.length≤1000000) (h0:k.wre=0) (h1:(k.wr (Dk.put (secOf t) (supL a b g' r' v' f' (nxt t)))).wre=0) :
 Calls Tryz.prog 61 #[.pointer (some ⟨p,0,none⟩),.agg (supC a b g' r' v' f')] w fun e w'=>e=.returned (.int .i64 0)∧StoreM w' X p d n a b g' r' v' f' (nxt t) ((k.wr (Dk.put (secOf t) (supL a b g' r' v' f' (nxt t)))).wr Dk.sync)∧Kept X w w':=by
 obtain ⟨hblk,hd,hxp⟩:=hs
 have hpl:=hblk.lt
 have HBKS:=hI (show decide (BackS g r v f g' r' v' f')=false from decide_eq_false hbk)
 clear hbk
 have HSEC:=hI (secOf_eq t)
 have HN:=hI hn
 have HP:=hI hp
 clear hn hp
 have HST:=hI (show StoreM w X p d n a b g r v f t k from ⟨hblk,hd,hxp⟩)
 have hsl:=supL_length a b g' r' v' f' (nxt t)
 have hsb:=supL_bytes a b g' r' v' f' (nxt t)
 have HBK:=hI (fun u=>block_ok a b g' r' v' f' (nxt t) u h hin (nxt_in t))
 generalize supL a b g' r' v' f' (nxt t)=sl at *
 have HSL:=hI hsl
 have HSB:=hI hsb
 clear h hin hsl hsb
 have H0:=hI h0
 have H1:=hI h1
 clear h0 h1
 have HX:=hI hX
 have HXP:=hI hxp
 have HPL:=hI hpl
 have HS1:=hI (hblk.alloc (.cells (supC a b g' r' v' f') 115))
 have HG1:=hI (show Blk (w.alloc (.cells (supC a b g' r' v' f') 115)) w.heap.size 115 (supC a b g' r' v' f') from Blk.new w _ _)
 have HB1:=hI (show Below w.heap.size w (w.alloc (.cells (supC a b g' r' v' f') 115)) from (Below.refl _ _).alloc (nR _) _)
 have HD:=hI hd
 obtain ⟨s0,s1,s2,s3,s4,s5,s6⟩:_∧_∧_∧_∧_∧_∧_:=⟨HS1.out.cell 0,HS1.out.cell 1,HS1.out.cell 2,HS1.out.cell 3,HS1.out.cell 4,HS1.out.cell 5,HS1.out.cell 6⟩
 simp only[List.getElem?_toArray,List.getElem?_cons_zero,List.getElem?_cons_succ] at s0 s1 s2 s3 s4 s5 s6
 clear hblk hd hxp hX hpl
 go_enter Tryz.func61,Tryz.ntmps61
 go_wp2_with fail
 clear s0 s1 s2 s3 s4 s5 s6
 generalize hw1:w.alloc (.cells (supC a b g' r' v' f') 115)=w1 at *
 clear hw1
 refine (next_any_s7 a b g r v f t _).mono ?_
 rintro e w2 ⟨rfl,hb⟩
 have HS2:=hI (HS1.out.below hb HS1.out.lt)
 have HG2:=hI (HG1.out.below hb HG1.out.lt)
 have HB2:=hI (HB1.out.trans (hb.mono HB1.out.size))
 have HZ2:=hI (show w.heap.size<w2.heap.size from HG2.out.lt)
 clear hb
 go_upto_region 4 with fail
 have HS3:=hI (HS2.out.alloc (.cells (turC a b g r v f (nxt t)) 184))
 have HG3:=hI (HG2.out.alloc (.cells (turC a b g r v f (nxt t)) 184))
 have HT3:=hI (show Blk (w2.alloc (.cells (turC a b g r v f (nxt t)) 184)) w2.heap.size 184 (turC a b g r v f (nxt t)) from Blk.new w2 _ _)
 have HB3:=hI (HB2.out.alloc HB2.out.size (.cells (turC a b g r v f (nxt t)) 184))
 generalize hw3:w2.alloc (.cells (turC a b g r v f (nxt t)) 184)=w3 at *
 clear hw3
 obtain ⟨q0,q1,q2,q3,q4,q5⟩:_∧_∧_∧_∧_∧_:=⟨HG3.out.cell 0,HG3.out.cell 1,HG3.out.cell 2,HG3.out.cell 3,HG3.out.cell 4,HG3.out.cell 5⟩
 simp only[List.getElem?_toArray,List.getElem?_cons_zero,List.getElem?_cons_succ] at q0 q1 q2 q3 q4 q5
 have hzs:∀ w,(sizeOf 115).run Tryz.prog w=.ok 6 w:=Tryz.sizeOf115
 have HZS:=hI hzs
 have he:(List.take 0 (turC a b g r v f (nxt t)).toList++(supC a b g' r' v' f').toList++List.drop (0+6) (turC a b g r v f (nxt t)).toList).toArray=turC a b g' r' v' f' (nxt t):=by simp[supC,turC]
 have HE:=hI he
 clear hzs he
 go_upto_region 5 with (refine wpList_store_part (.tmp 18) (.tmp 17) 115 rfl rfl HZS.out w2.heap.size 0 (supC a b g' r' v' f').toList rfl rfl 184 (turC a b g r v f (nxt t)).toList HT3.out rfl (by intro u hu; simp[supC] at hu; rcases hu with rfl | rfl | rfl | rfl | rfl | rfl <;> rfl) (by simp[turC]) ?_; rw[HE.out])
 clear q0 q1 q2 q3 q4 q5
 have hk4:Kept (fun c=>c≠w2.heap.size) w3 (w3.setRow w2.heap.size (turC a b g' r' v' f' (nxt t))):=(Kept.refl _ w3).setRow (fun h=>h rfl) _
 have HS4:=hI (HS3.out.kept hk4 (by have:=HZ2.out; have:=HPL.out; omega))
 have HG4:=hI (HG3.out.kept hk4 (by have:=HZ2.out; omega))
 have HT4:=hI (show Blk (w3.setRow w2.heap.size (turC a b g' r' v' f' (nxt t))) w2.heap.size 184 (turC a b g' r' v' f' (nxt t)) from setRow_heap _ _ _ _ _ _ HT3.out)
 have HB4:=hI (show Below w.heap.size w (w3.setRow w2.heap.size (turC a b g' r' v' f' (nxt t))) from below_setRow HB3.out (by have:=HZ2.out; omega) _)
 generalize hw4:w3.setRow w2.heap.size (turC a b g' r' v' f' (nxt t))=w4 at *
 clear hw4 hk4
 obtain ⟨c0,c1,c2,c3,c4,c5,c6⟩:_∧_∧_∧_∧_∧_∧_:=⟨HT4.out.cell 0,HT4.out.cell 1,HT4.out.cell 2,HT4.out.cell 3,HT4.out.cell 4,HT4.out.cell 5,HT4.out.cell 6⟩
 simp only[List.getElem?_toArray,List.getElem?_cons_zero,List.getElem?_cons_succ] at c0 c1 c2 c3 c4 c5 c6
 go_wp2_with fail
 clear c0 c1 c2 c3 c4 c5 c6
 refine (HBK.out _).mono ?_
 rintro e w5 ⟨rfl,hb⟩
 obtain ⟨w6,hw6⟩:∃ w6,w6=w5.alloc (.cells (cells8 sl) 186):=⟨_,rfl⟩
 have HW6:=hI hw6
 have HS6:=hI (show Blk w6 p 193 (stoC a b g r v f t d) by rw[hw6]; exact (HS4.out.below hb HS4.out.lt).alloc _)
 have HG6:=hI (show Blk w6 w.heap.size 115 (supC a b g' r' v' f') by rw[hw6]; exact (HG4.out.below hb HG4.out.lt).alloc _)
 have HT6:=hI (show Blk w6 w2.heap.size 184 (turC a b g' r' v' f' (nxt t)) by rw[hw6]; exact (HT4.out.below hb HT4.out.lt).alloc _)
 have HV6:=hI (show ArrB w6 w5.heap.size sl by rw[hw6]; exact Blk.new w5 _ _)
 have HB6:=hI (show Below w.heap.size w w6 by rw[hw6]; exact (HB4.out.trans (hb.mono HB4.out.size)).alloc (nT HB4.out.size hb.size) _)
 have HZ5:=hI (show w2.heap.size<w5.heap.size from nL HT4.out.lt hb.size)
 clear hb hw6
 have s0:=HS6.out.cell 0
 have s1:=HS6.out.cell 1
 have q0:=HG6.out.cell 0
 have q1:=HG6.out.cell 1
 simp only[List.getElem?_toArray,List.getElem?_cons_zero,List.getElem?_cons_succ] at s0 s1 q0 q1
 go_wp2_with (first
  | (refine wpList_alloc_blk rfl rfl ?_)
  | (refine wpList_store_new (.tmp 6) (.tmp 22) rfl rfl w5 sl rfl rfl (noughts 64) rfl (noughts_length 64) HSL.out ?_; rw[← HW6.out]))
 have n0:(a != a)=false:=by simp[bne]
 have n1:(b != b)=false:=by simp[bne]
 go_quiet (fail)
 clear s0 s1 q0 q1 n0 n1
 go_wp2
 have HS7:=hI (show Blk (w6.drewN nq) p 193 (stoC a b g r v f t d) from HS6.out)
 have HG7:=hI (show Blk (w6.drewN nq) w.heap.size 115 (supC a b g' r' v' f') from HG6.out)
 have HT7:=hI (show Blk (w6.drewN nq) w2.heap.size 184 (turC a b g' r' v' f' (nxt t)) from HT6.out)
 have HV7:=hI (show ArrB (w6.drewN nq) w5.heap.size sl from HV6.out)
 have HB7:=hI (show Below w.heap.size w (w6.drewN nq) from below_drewN HB6.out _)
 generalize hw7:w6.drewN nq=w7 at *
 clear hw7
 have hr1:w7.rangeAt p 0 (supC a b g r v f).toList:=fun j u hu=>by
  rw[Nat.zero_add,HS7.out.cell j]
  match j,hu with
  | 0,hu | 1,hu | 2,hu | 3,hu | 4,hu | 5,hu=>simpa [supC,stoC] using hu
  | (m+6),hu=>simp[supC] at hu
 have hr2:w7.rangeAt w.heap.size 0 (supC a b g' r' v' f').toList:=Blk.rangeL (cs:=(supC a b g' r' v' f').toList) HG7.out
 have hu24:=Tryz.underlying115
 have hs24:∀ a b g r v f,(Tryz.prog.info? 115).map (·.size)=some (supC a b g r v f).toList.length:=fun a b g r v f=>size_sup
 refine wp_region_noPanic ?_
 refine Tillst.region (fun W=>W.rangeAt p 0 (supC a b g r v f).toList∧W.rangeAt w.heap.size 0 (supC a b g' r' v' f').toList) [] (by kernel_rfl) ⟨hr1,hr2⟩ (fun hė=>?_)
 refine tK 0 sazg0 (v:=?_) ?_ hė ?_
 rotate_left
 ·intro W hSW; unfold sazg0; go_simp; with_reducible rfl
 simp only[sazg0,Act.put,sA,sZ,sS]
 refine tK 1 sazg1 (v:=?_) ?_ hė ?_
 rotate_left
 ·intro W hSW; unfold sazg1; go_simp; with_reducible rfl
 simp only[sazg1,Act.put,sA,sZ,sS]
 refine tK 2 sazg2 (v:=?_) ?_ hė ?_
 rotate_left
 ·intro W hSW; unfold sazg2; go_simp; with_reducible rfl
 simp only[sazg2,Act.put,sA,sZ,sS]
 refine tK 3 sazg3 (v:=?_) ?_ hė ?_
 rotate_left
 ·intro W hSW; unfold sazg3; go_simp; with_reducible rfl
 simp only[sazg3,Act.put,sA,sZ,sS]
 refine tK 4 sazg4 (v:=?_) ?_ hė ?_
 rotate_left
 ·intro W hSW; refine exec_load_row (.tmp 53) 115 ?_ p 0 ?_ (supC a b g r v f).toList _ hu24 rfl (hs24 _ _ _ _ _ _) hSW.1 <;> rfl
 simp only[sazg4,Act.put,sA,sZ,sS]
 refine tK 5 sazg5 (v:=?_) ?_ hė ?_
 rotate_left
 ·intro W hSW; refine exec_load_row (.tmp 3) 115 ?_ w.heap.size 0 ?_ (supC a b g' r' v' f').toList _ hu24 rfl (hs24 _ _ _ _ _ _) hSW.2 <;> rfl
 simp only[sazg5,Act.put,sA,sZ,sS]
 refine tO 6 sazg6 ?_
 intro K hK
 refine step_call 131 #[.tmp 54,.tmp 55] #[115,115] rfl rfl Tryz.func131 rfl rfl [.agg (supC a b g r v f),.agg (supC a b g' r' v' f')] rfl ?_
 refine (back_any a b g r v f a b g' r' v' f' w7.drew).mono ?_
 rintro e w8 ⟨rfl,hb⟩
 rw[HBKS.out]
 have hb8:Below w7.heap.size w7 w8:=(Below.refl _ _).drew.trans hb
 have HS8:=hI (HS7.out.below hb8 HS7.out.lt)
 have HG8:=hI (HG7.out.below hb8 HG7.out.lt)
 have HT8:=hI (HT7.out.below hb8 HT7.out.lt)
 have HV8:=hI (show ArrB w8 w5.heap.size sl from Arr.below HV7.out hb8 HV7.out.lt)
 have HB8:=hI (HB7.out.trans (hb8.mono HB7.out.size))
 have hS:=And.intro (range_below hr1 hb8 HS7.out.lt) (range_below hr2 hb8 HG7.out.lt)
 clear hb hb8 hr1 hr2
 refine ⟨_,rfl,?_⟩
 simp only[sazg6,Act.put,sA,sZ,sS]
 refine hK.out _ _ (fun _=>hS) (fun hė=>?_)
 replace hė:=hė (by decide)
 clear hK K hS
 refine tO 7 sazg7 ?_
 intro K hK
 refine step_value ?_ rfl ?_ ?_
 rotate_left
 ·unfold sazg7; go_simp; with_reducible rfl
 simp only[sazg7,Act.put,sA,sZ,sS]
 refine hK.out _ _ (fun _=>hė) (fun hė=>?_)
 replace hė:=hė (by decide)
 clear hK K
 refine Tillst.done (by kernel_rfl) ?_ _
 refine NoPanic.normal ?_
 clear hė hu24 hs24
 go_wp2
 have hr1:w8.rangeAt w2.heap.size 0 (turC a b g' r' v' f' (nxt t)).toList:=Blk.rangeL (cs:=(turC a b g' r' v' f' (nxt t)).toList) HT8.out
 have hr2:=HV8.out.range
 have hc7:w8.cell? ⟨p,7,none⟩=some (.pointer (some ⟨d,0,none⟩)):=HS8.out.cell 7
 have hu65:=Tryz.underlying184
 have hu26:=Tryz.underlying186
 have hs65:(Tryz.prog.info? 184).map (·.size)=some (turC a b g' r' v' f' (nxt t)).toList.length:=size_tur
 have hs26:(Tryz.prog.info? 186).map (·.size)=some (sl.map (Value.int .u8)).length:=by rw[size_blk,List.length_map,HSL.out]
 refine wp_region_noPanic ?_
 refine Tillst.region (fun W=>W.cell? ⟨p,7,none⟩=some (.pointer (some ⟨d,0,none⟩))∧W.rangeAt w2.heap.size 0 (turC a b g' r' v' f' (nxt t)).toList∧W.rangeAt w5.heap.size 0 (sl.map (Value.int .u8))) [] (by kernel_rfl) ⟨hc7,hr1,hr2⟩ (fun hė=>?_)
 refine tK 0 sbzg0 (v:=?_) ?_ hė ?_
 rotate_left
 ·intro W hSW; unfold sbzg0; go_simp; with_reducible rfl
 simp only[sbzg0,Act.put,sA,sZ,sS]
 refine tK 1 sbzg1 (v:=?_) ?_ hė ?_
 rotate_left
 ·intro W hSW; unfold sbzg1; go_simp; with_reducible rfl
 simp only[sbzg1,Act.put,sA,sZ,sS]
 refine tK 2 sbzg2 (v:=?_) ?_ hė ?_
 rotate_left
 ·intro W hSW; unfold sbzg2; go_simp; with_reducible rfl
 simp only[sbzg2,Act.put,sA,sZ,sS]
 refine tK 3 sbzg3 (v:=?_) ?_ hė ?_
 rotate_left
 ·intro W hSW; have hc:=hSW.1; unfold sbzg3; go_simp; with_reducible rfl
 simp only[sbzg3,Act.put,sA,sZ,sS]
 refine tK 4 sbzg4 (v:=?_) ?_ hė ?_
 rotate_left
 ·intro W hSW; refine exec_load_row (.tmp 5) 184 ?_ w2.heap.size 0 ?_ (turC a b g' r' v' f' (nxt t)).toList _ hu65 rfl hs65 hSW.2.1 <;> rfl
 simp only[sbzg4,Act.put,sA,sZ,sS]
 refine tK 6 sbzg6 (v:=?_) ?_ hė ?_
 rotate_left
 ·intro W hSW; refine exec_load_row (.tmp 6) 186 ?_ w5.heap.size 0 ?_ (sl.map (Value.int .u8)) _ hu26 rfl hs26 hSW.2.2 <;> rfl
 simp only[sbzg6,Act.put,sA,sZ,sS]
 refine tO 5 sbzg5 ?_
 intro K hK
 refine step_call 106 #[.tmp 61] #[184] rfl rfl Tryz.func106 rfl rfl [.agg (turC a b g' r' v' f' (nxt t))] rfl ?_
 refine (sector_any a b g' r' v' f' (nxt t) w8.drew (nxt_in t).1 (nxt_in t).2).mono ?_
 rintro e w9 ⟨rfl,hb⟩
 rw[HSEC.out]
 have hb9:Below w8.heap.size w8 w9:=(Below.refl _ _).drew.trans hb
 have HS9:=hI (HS8.out.below hb9 HS8.out.lt)
 have HT9:=hI (HT8.out.below hb9 HT8.out.lt)
 have HV9:=hI (show ArrB w9 w5.heap.size sl from Arr.below HV8.out hb9 HV8.out.lt)
 have HB9:=hI (HB8.out.trans (hb9.mono HB8.out.size))
 have HZ9:=hI (show w5.heap.size<w9.heap.size from HV9.out.lt)
 have HD9:=hI (show DiskM w9 (fun c=>X c∨c=p∨c=w2.heap.size∨c=w5.heap.size) d n k from HD.out.below HB9.out (fun c hc h=>by rcases h with h | h | h | h; exact .inl h; exact .inr h; have:=HZ2.out; omega; have:=HZ2.out; have:=HZ5.out; omega))
 have hS:=And.intro (show w9.cell? ⟨p,7,none⟩=some (.pointer (some ⟨d,0,none⟩)) from HS9.out.cell 7) (And.intro (Blk.rangeL (cs:=(turC a b g' r' v' f' (nxt t)).toList) HT9.out) HV9.out.range)
 clear hb hb9 hr1 hr2 hc7
 refine ⟨_,rfl,?_⟩
 simp only[sbzg5,Act.put,sA,sZ,sS]
 refine hK.out _ _ (fun _=>hS) (fun hė=>?_)
 replace hė:=hė (by decide)
 clear hK K hS
 refine tO 7 sbzg7 ?_
 intro K hK
 refine step_call 105 #[.tmp 60,.tmp 62,.tmp 63] #[25,3,186] rfl rfl Tryz.func105 rfl rfl [.pointer (some ⟨d,0,none⟩),.int .i64 (secOf t:Nat),.agg (cells8 sl)] rfl ?_
 refine (write_k HD9.out (fun c h=>by rcases h with h | h | h | h; exact nL (HX.out c h) HB9.out.size; rw[h]; exact HS9.out.lt; rw[h]; exact HT9.out.lt; rw[h]; exact HV9.out.lt) (secOf t) (nL (secOf_lt t) HN.out) sl HSL.out HSB.out HP.out).mono ?_
 rintro e wa ⟨rfl,hda,hka⟩
 rw[H0.out]
 have HDa:=hI hda
 have HSa:=hI (HS9.out.kept hka (.inr (.inl rfl)))
 have HTa:=hI (HT9.out.kept hka (.inr (.inr (.inl rfl))))
 have HVa:=hI (show ArrB wa w5.heap.size sl from Arr.kept HV9.out hka (.inr (.inr (.inr rfl))))
 have HKa:=hI (show Kept X w wa from (Kept.of_below HB9.out HX.out).trans hka (fun c h=>.inl h))
 have hS:=And.intro (show wa.cell? ⟨p,7,none⟩=some (.pointer (some ⟨d,0,none⟩)) from HSa.out.cell 7) (And.intro (Blk.rangeL (cs:=(turC a b g' r' v' f' (nxt t)).toList) HTa.out) HVa.out.range)
 clear hda hka
 refine ⟨_,rfl,?_⟩
 simp only[sbzg7,Act.put,sA,sZ,sS]
 refine hK.out _ _ (fun _=>hS) (fun hė=>?_)
 replace hė:=hė (by decide)
 clear hK K hS
 refine tO 8 sbzg8 ?_
 intro K hK
 refine step_value ?_ rfl ?_ ?_
 rotate_left
 ·unfold sbzg8; go_simp; with_reducible rfl
 simp only[sbzg8,Act.put,sA,sZ,sS]
 refine hK.out _ _ (fun _=>hė) (fun hė=>?_)
 replace hė:=hė (by decide)
 clear hK K
 refine Tillst.done (by kernel_rfl) ?_ _
 refine NoPanic.normal ?_
 clear hė hu65 hu26 hs65 hs26
 have hc7:wa.cell? ⟨p,7,none⟩=some (.pointer (some ⟨d,0,none⟩)):=HSa.out.cell 7
 go_wp2_with fail
 clear hc7
 refine (sync_k (HDa.out.mono (Y:=fun c=>X c∨c=p∨c=w2.heap.size) (fun c _ h=>by rcases h with h | h | h; exact .inl h; exact .inr (.inl h); exact .inr (.inr (.inl h)))) (fun c h=>by rcases h with h | h | h; exact nL (HX.out c h) HKa.out.size; rw[h]; exact HSa.out.lt; rw[h]; exact HTa.out.lt)).mono ?_
 rintro e wb ⟨rfl,hdb,hkb⟩
 rw[H1.out]
 have HDb:=hI hdb
 have HSb:=hI (HSa.out.kept hkb (.inr (.inl rfl)))
 have HTb:=hI (HTa.out.kept hkb (.inr (.inr rfl)))
 have HKb:=hI (show Kept X w wb from HKa.out.trans hkb (fun c h=>.inl h))
 clear hdb hkb
 obtain ⟨c0,c1,c2,c3,c4,c5,c6⟩:_∧_∧_∧_∧_∧_∧_:=⟨HTb.out.cell 0,HTb.out.cell 1,HTb.out.cell 2,HTb.out.cell 3,HTb.out.cell 4,HTb.out.cell 5,HTb.out.cell 6⟩
 simp only[List.getElem?_toArray,List.getElem?_cons_zero,List.getElem?_cons_succ] at c0 c1 c2 c3 c4 c5 c6
 have hz7:∀ w,(sizeOf 184).run Tryz.prog w=.ok 7 w:=Tryz.sizeOf184
 have HZ7:=hI hz7
 have he7:(List.take 0 (stoC a b g r v f t d).toList++(turC a b g' r' v' f' (nxt t)).toList++List.drop (0+7) (stoC a b g r v f t d).toList).toArray=stoC a b g' r' v' f' (nxt t) d:=by simp[stoC,turC]
 have HE7:=hI he7
 clear hz7 he7
 go_wp2_with (refine wpList_store_part (.tmp 79) (.tmp 77) 184 rfl rfl HZ7.out p 0 (turC a b g' r' v' f' (nxt t)).toList rfl rfl 193 (stoC a b g r v f t d).toList HSb.out rfl (by intro u hu; simp[turC] at hu; rcases hu with rfl | rfl | rfl | rfl | rfl | rfl | rfl <;> rfl) (by simp[stoC]) ?_; rw[HE7.out])
 go_ret
 have hkf:Kept (fun c=>c≠p) wb (wb.setRow p (stoC a b g' r' v' f' (nxt t) d)):=(Kept.refl _ wb).setRow (fun h=>h rfl) _
 exact ⟨rfl,⟨setRow_heap _ _ _ _ _ _ HSb.out,HDb.out.kept hkf (fun c _ h e=>h (.inr (.inl e))) (fun c _ h=>by rcases h with h | h; exact .inl h; exact .inr (.inl h)),HXP.out⟩,HKb.out.setRow HXP.out _⟩
end
section
theorem new_i (w:World) (x:Int) (n:Nat) (hx:x=n) (h1:1≤n) (h2:n≤2048) :
 Calls Tryz.prog 41 #[.int .i64 x] w fun e w'=>∃ d,e=.returned (.tuple #[.pointer (some ⟨d,0,none⟩),.int .i64 0])∧DiskM w' (fun b=>b<w.heap.size) d n (Dk.fresh n)∧Below w.heap.size w w':=by
 subst hx
 exact new_k w n h1 h2
def Good (k:Dk):Prop:=k.dead=false∧k.fails=-1∧k.armed=-1
theorem Good.fresh (n:Nat):Good (Dk.fresh n):=⟨rfl,rfl,rfl⟩
theorem Good.wre {k:Dk} (h:Good k):k.wre=0:=by
 obtain ⟨h1,h2,h3⟩:=h
 unfold Dk.wre
 rw[h1,h2,h3]
 rfl
theorem Good.rde {k:Dk} (h:Good k):k.rde=0:=by
 obtain ⟨h1,h2,h3⟩:=h
 unfold Dk.rde
 rw[h1,h2]
 rfl
theorem Good.wr {k:Dk} (h:Good k) (f:Dk→Dk):k.wr f=f { k with ops:=wrap64 (k.ops+1) }:=by
 obtain ⟨h1,h2,h3⟩:=h
 obtain ⟨safe,pend,armed,fails,dead,ops⟩:=k
 simp only[] at h1 h2 h3
 subst h1 h2 h3
 rfl
theorem Good.rd {k:Dk} (h:Good k):k.rd={ k with ops:=wrap64 (k.ops+1) }:=by
 obtain ⟨h1,h2,h3⟩:=h
 obtain ⟨safe,pend,armed,fails,dead,ops⟩:=k
 simp only[] at h1 h2 h3
 subst h1 h2 h3
 rfl
theorem Good.rdv {k:Dk} (h:Good k) (i:Nat):k.rdv i=k.held.getD i []:=by
 obtain ⟨h1,h2,h3⟩:=h
 unfold Dk.rdv
 rw[h1,h2]
 rfl
theorem Good.put {k:Dk} (h:Good k) (i:Nat) (ys:List Int):Good (k.wr (Dk.put i ys)):=by
 rw[h.wr]
 exact h
theorem Good.sync {k:Dk} (h:Good k):Good (k.wr Dk.sync):=by
 rw[h.wr]
 exact h
theorem Good.read {k:Dk} (h:Good k):Good k.rd:=by
 rw[h.rd]
 exact h
theorem Good.pend_sync {k:Dk} (h:Good k):(k.wr Dk.sync).pend=[]:=by
 rw[h.wr]
 rfl
theorem Good.held_put {k:Dk} (h:Good k) (i:Nat) (ys:List Int):(k.wr (Dk.put i ys)).held=k.held.set i ys:=by
 rw[h.wr]
 exact over_snoc _ _ _
theorem Good.held_sync {k:Dk} (h:Good k):(k.wr Dk.sync).held=k.held:=by
 rw[h.wr]
 rfl
theorem get_any {w:World} {X:Nat→Prop} {p d n:Nat} {a b g r v f t:Int} {k:Dk} (hs:StoreM w X p d n a b g r v f t k) :
 Calls Tryz.prog 53 #[.pointer (some ⟨p,0,none⟩)] w fun e w'=>e=.returned (.agg (supC a b g r v f))∧Below w.heap.size w w':=by
 have HS:=hI (hs.1.alloc (.cells (supC 0 0 0 0 0 0) 115))
 obtain ⟨s0,s1,s2,s3,s4,s5⟩:_∧_∧_∧_∧_∧_:=⟨HS.out.cell 0,HS.out.cell 1,HS.out.cell 2,HS.out.cell 3,HS.out.cell 4,HS.out.cell 5⟩
 simp only[List.getElem?_toArray,List.getElem?_cons_zero,List.getElem?_cons_succ] at s0 s1 s2 s3 s4 s5
 clear hs
 go_enter Tryz.func53,Tryz.ntmps53
 go_wp2_with (first
  | (refine wpList_store_fresh_s7 (.tmp 2) (.tmp 10) 115 rfl rfl w (supC 0 0 0 0 0 0) (supC a b g r v f) rfl rfl 115 rfl size_sup rfl (one_sup _ _ _ _ _ _) ?_)
  | (with_reducible refine halt_end ?_))
 exact Halt.ret (results_row1 (p:=2) rfl _ _ w.heap.size 115 (supC a b g r v f) _ rfl (Blk.new w _ _) Tryz.underlying115 rfl size_sup) rfl ⟨rfl,(Below.refl _ _).alloc (nR _) _⟩
def Tidy (k:Dk):Prop:=Good k∧k.pend=[]
theorem tidy_set {k:Dk} (h:Tidy k) (i:Nat) (B:List Int):Tidy ((k.wr (Dk.put i B)).wr Dk.sync):=⟨(h.1.put i B).sync,(h.1.put i B).pend_sync⟩
theorem format_fresh {w:World} {X:Nat→Prop} {d n:Nat} (hd:DiskM w X d n (Dk.fresh n)) (hX:∀ c,X c→c<w.heap.size) (a b:Int) (h:MayS a b 0 0) (hr:2+a*b≤(n:Int)) :
 Calls Tryz.prog 42 #[.pointer (some ⟨d,0,none⟩),.int .i64 a,.int .i64 b] w fun e w'=>∃ p,e=.returned (.tuple #[.pointer (some ⟨p,0,none⟩),.int .i64 0]) ∧
  StoreM w' X p d n a b 0 0 0 0 0 ((((Dk.fresh n).wr (Dk.put 0 (supL a b 0 0 0 0 0))).wr (Dk.put 1 (noughts 64))).wr Dk.sync)∧Kept X w w' :=
 format_go hd hX a b h hr (by simp[Dk.fresh]) (Good.fresh n).wre ((Good.fresh n).put 0 _).wre (((Good.fresh n).put 0 _).put 1 _).wre
end
section
open Go.RowKit Go.ChangeShapes Go.WideShapes Go.Deep Go.Joins
structure Sup where
 a:Int
 b:Int
 g:Int
 r:Int
 v:Int
 f:Int
def Sup.zero:Sup:=⟨0,0,0,0,0,0⟩
def Sup.c (s:Sup):Array Value:=supC s.a s.b s.g s.r s.v s.f
def Sup.In (s:Sup):Prop:=InS s.a s.b s.g s.r s.v s.f
theorem Sup.size (s:Sup):s.c.toList.length=6:=rfl
def RowS (w:World) (S:Nat→Prop) (A:Option Addr) (n:Nat) (zs:List Sup):Prop :=
 zs.length=n∧(0<n→∃ b off,A=some ⟨b,off,none⟩∧S b∧∀ i,i<n→w.rangeAt b (off+i*6) (zs.getD i Sup.zero).c.toList)
theorem RowS.keep {w w':World} {S:Nat→Prop} {A:Option Addr} {n:Nat} {zs:List Sup} (h:RowS w S A n zs) (hk:∀ p:Addr,S p.block→w'.cell? p=w.cell? p):RowS w' S A n zs :=
 ⟨h.1,fun hn=>by
  obtain ⟨b,off,e,hb,hc⟩:=h.2 hn
  exact ⟨b,off,e,hb,fun i hi j v hv=>by rw[hk _ hb]; exact hc i hi j v hv⟩⟩
end
section
def Sup.May (s:Sup):Prop:=MayS s.a s.b s.g s.r
def Sup.Back (o s:Sup):Prop:=BackS o.g o.r o.v o.f s.g s.r s.v s.f
def Sup.L (s:Sup) (t:Int):List Int:=supL s.a s.b s.g s.r s.v s.f t
instance aI7SetAll0 (s:Sup):Decidable s.May:=by unfold Sup.May; infer_instance
instance aI7SetAll1 (o s:Sup):Decidable (o.Back s):=by unfold Sup.Back; infer_instance
def Holds (s:Sup) (t:Int) (n:Nat) (k:Dk):Prop :=
 Tidy k∧k.held.length=n∧k.held.getD (t % 2).toNat []=s.L t
theorem Holds.read {s:Sup} {t:Int} {n:Nat} {k:Dk} (h:Holds s t n k):Holds s t n k.rd:=by
 have e:=h.1.1.rd
 refine ⟨⟨h.1.1.read,?_⟩,?_,?_⟩
 ·rw[e]; exact h.1.2
 ·rw[e]; exact h.2.1
 ·rw[e]; exact h.2.2
theorem Holds.rdv {s:Sup} {t:Int} {n:Nat} {k:Dk} (h:Holds s t n k):k.rdv (t % 2).toNat=s.L t:=by
 rw[h.1.1.rdv,h.2.2]
theorem Holds.set {s x:Sup} {t:Int} {n:Nat} {k:Dk} (h:Holds s t n k) (hn:2≤n):Holds x (nxt t) n ((k.wr (Dk.put (secOf t) (x.L (nxt t)))).wr Dk.sync):=by
 have hg:=h.1.1.put (secOf t) (x.L (nxt t))
 have hl:=secOf_lt t
 refine ⟨tidy_set h.1 _ _,?_,?_⟩
 ·rw[hg.held_sync,h.1.1.held_put,List.length_set,h.2.1]
 ·rw[hg.held_sync,h.1.1.held_put]
  show (k.held.set (secOf t) (x.L (nxt t))).getD (secOf t) []=_
  simp[List.getD,List.getElem?_set,h.2.1,show secOf t<n by omega]
theorem StoreM.kept {w w':World} {X Y Z:Nat→Prop} {p d n:Nat} {a b g r v f t:Int} {k:Dk} (h:StoreM w X p d n a b g r v f t k) (hk:Kept Z w w') (hZ:∀ b,b<w.heap.size→¬ X b→Z b) (hY:∀ b,b<w.heap.size→Y b→X b):StoreM w' Y p d n a b g r v f t k :=
 ⟨h.1.kept hk (hZ p h.1.lt h.2.2),h.2.1.kept hk (fun b hb hx=>hZ b hb (fun c=>hx (.inl c))) (fun b hb hy=>hy.elim (fun c=>.inl (hY b hb c)) .inr),fun c=>h.2.2 (hY p h.1.lt c)⟩
end
section
def lenOf:Value→Nat
 | .slice _ n _=>n
 | _=>0
end
section
section
variable {P:Program} {w:World} {o:Oper} {a:Act} {Q:Exit→Act→World→Prop} {K:Act→World→Prop} {E:Prop} {ops:Array Oper}
theorem step_alloc_row (ty:TypeId) (ho:o.op=.alloc ty) (hgd:Region.wanted o (yielded ops a.tmps)=true) (zs:Array Value) (hz:∀ w,(zeroValue ty).run P w=.ok (.agg zs) w)
 (h:K (a.put o.dst (.pointer (some ⟨w.heap.size,0,none⟩))) (w.alloc (.cells zs ty))):if Region.wanted o (yielded ops a.tmps)=true then Oper.wp P o a w K Q else E:=by
 rw[if_pos hgd]
 unfold Oper.wp execOp
 simp only[ho,Instr.alloc,Sem.run_bind,hz,Result.andThen_ok]
 exact h
variable {md:Region.Mode} {S:World→Prop} {st:List Nat}
theorem Tillst.skip {i:Nat} {oi:Oper} {k:Nat} {l:Array Bool} {a:Act} {w:World} (hi:ops[i]? = some oi) (hs:Region.noSelect ops=true) (hf:Region.free md ops l i=true) (hr:(Region.ready md ops l).contains i=true)
 (hw:waitsFor md ops st i=true) (hQ:∀ c a w,Q (.panic c) (a.put oi.dst undef) w→Q (.panic c) a w) (hg:Region.wanted oi (yielded ops a.tmps)=false) (hS:S w)
 (h:Tillst P md ops Q S st k (l.setIfInBounds i true) (a.put oi.dst undef) w):Tillst P md ops Q S st (k+1) l a w :=
 Tillst.first hi (Region.noSelect_spec hs) hQ hw k l a w (Region.free_spec hi hf) (by simpa using hr) (.inr ⟨hg,rfl⟩) hS h
end
abbrev rs3:Oper:=⟨some 27,.move (.tmp 26),4,"ref.go:39",#[⟨2,.data⟩,⟨1,.chain⟩],none⟩
end
section
abbrev Seg:=Int × Int × Int
abbrev Num:=Nat × Seg
abbrev seg0:Seg:=(0,0,0)
abbrev num0:Num:=(0,seg0)
abbrev segC (s:Seg):List Value:=[.int .i64 s.1,.int .u64 s.2.1,.int .i64 s.2.2]
abbrev numC (x:Num):List Value:=[.int .i64 x.1,.int .i64 x.2.1,.int .u64 x.2.2.1,.int .i64 x.2.2.2]
theorem size_seg:(Tryz.prog.info? 126).map (·.size)=some 3:=by kernel_rfl
theorem zero_seg (w:World):(zeroValue 126).run Tryz.prog w=.ok (.agg (segC seg0).toArray) w:=(Tryz.zeroValue126 w).trans rfl
theorem one_seg (s:Seg):(segC s).toArray.all (·.oneCell')=true:=by simp[segC,Value.oneCell']
theorem ones_seg (s:Seg):∀ v∈segC s,v.oneCell'=true:=by
 intro v hv
 simp[segC] at hv
 rcases hv with rfl | rfl | rfl <;> rfl
theorem ones_num (x:Num):∀ v∈numC x,v.oneCell'=true:=by
 intro v hv
 simp[numC] at hv
 rcases hv with rfl | rfl | rfl | rfl <;> rfl
def RowQ {α:Type} (enc:α→List Value) (k:Nat) (d:α) (w:World) (S:Nat→Prop) (A:Option Addr) (n:Nat) (xs:List α):Prop :=
 xs.length=n∧(0<n→∃ b off,A=some ⟨b,off,none⟩∧S b∧∀ i,i<n→w.rangeAt b (off+i*k) (enc (xs.getD i d)))
abbrev RowZ:=RowQ segC 3 seg0
abbrev RowN:=RowQ numC 4 num0
section
variable {α:Type} {enc:α→List Value} {k:Nat} {d:α} {w w':World} {S T:Nat→Prop} {A:Option Addr} {n:Nat} {xs:List α}
theorem RowQ.keep (h:RowQ enc k d w S A n xs) (hk:∀ p:Addr,S p.block→w'.cell? p=w.cell? p):RowQ enc k d w' S A n xs :=
 ⟨h.1,fun hn=>by
  obtain ⟨b,off,e,hb,hc⟩:=h.2 hn
  exact ⟨b,off,e,hb,fun i hi j v hv=>by rw[hk _ hb]; exact hc i hi j v hv⟩⟩
theorem RowQ.more (h:RowQ enc k d w S A n xs) (hs:∀ b,S b→T b):RowQ enc k d w T A n xs :=
 ⟨h.1,fun hn=>by
  obtain ⟨b,off,e,hb,hc⟩:=h.2 hn
  exact ⟨b,off,e,hs b hb,hc⟩⟩
theorem RowQ.below {B:Nat} (h:RowQ enc k d w S A n xs) (hb:Below B w w') (hs:∀ b,S b→b<B):RowQ enc k d w' S A n xs:=h.keep fun _ hp=>hb.cell (hs _ hp)
theorem RowQ.kept (h:RowQ enc k d w S A n xs) (hb:Kept T w w') (hs:∀ b,S b→T b):RowQ enc k d w' S A n xs:=h.keep fun _ hp=>hb.cell (hs _ hp)
theorem RowQ.nil (enc:α→List Value) (k:Nat) (d:α) (w:World) (S:Nat→Prop) (A:Option Addr):RowQ enc k d w S A 0 []:=⟨rfl,fun h=>absurd h (by omega)⟩
end
def liveTo (xs:List Seg):Nat→List Num
 | 0=>[]
 | j+1=>liveTo xs j++(if (xs.getD j seg0).1=0 then [] else [(j,xs.getD j seg0)])
def live (xs:List Seg):List Num:=liveTo xs xs.length
theorem liveTo_length (xs:List Seg):∀ j,(liveTo xs j).length≤j
 | 0=>nR _
 | j+1=>by
  have:=liveTo_length xs j
  unfold liveTo
  split <;> simp <;> omega
theorem mem_liveTo (xs:List Seg) (x:Num):∀ j,x∈liveTo xs j↔x.1<j∧x.2=xs.getD x.1 seg0∧x.2.1≠0
 | 0=>by simp[liveTo]
 | j + 1 => by
  unfold liveTo
  rw[List.mem_append,mem_liveTo xs x j]
  obtain ⟨i,s⟩:=x
  by_cases h:(xs.getD j seg0).1=0
  ·rw[if_pos h]
   constructor
   ·rintro (⟨h1,h2,h3⟩ | h1)
    ·exact ⟨by simp only[] at *; omega,h2,h3⟩
    ·cases h1
   ·rintro ⟨h1,h2,h3⟩
    refine .inl ⟨?_,h2,h3⟩
    simp only[] at *
    rcases Nat.lt_or_ge i j with hlt | hge
    ·exact hlt
    ·obtain rfl:i=j:=by omega
     rw[h2] at h3
     exact absurd h h3
  ·rw[if_neg h]
   simp only[List.mem_singleton,Prod.mk.injEq]
   constructor
   ·rintro (⟨h1,h2,h3⟩ | ⟨rfl,rfl⟩)
    ·exact ⟨by omega,h2,h3⟩
    ·exact ⟨by omega,rfl,h⟩
   ·rintro ⟨h1,h2,h3⟩
    rcases Nat.lt_or_ge i j with hlt | hge
    ·exact .inl ⟨hlt,h2,h3⟩
    ·obtain rfl:i=j:=by omega
     exact .inr ⟨rfl,h2⟩
theorem mem_live {xs:List Seg} {x:Num}:x∈live xs↔x.1<xs.length∧x.2=xs.getD x.1 seg0∧x.2.1≠0:=mem_liveTo xs x _
section
variable {P:Program} {w:World} {ops:Array Oper} {rest:List Oper} {o:Oper} {a:Act} {Q:Exit→Act→World→Prop}
theorem wpList_alloc_row_s8 (ty:TypeId) (ho:o.op=.alloc ty) (hgd:o.guard=none) (zs:Array Value) (hz:∀ w,(zeroValue ty).run P w=.ok (.agg zs) w)
 (h:wpList P ops Q rest (a.put o.dst (.pointer (some ⟨w.heap.size,0,none⟩))) (w.alloc (.cells zs ty))):wpList P ops Q (o::rest) a w:=by
 refine wpList_plain hgd fun K hK=>?_
 unfold Oper.wp execOp
 simp only[ho,Instr.alloc,Sem.run_bind,hz,Result.andThen_ok]
 exact hK _ _ h
theorem wpList_store_fresh_s8 (x y:Operand) (ty:TypeId) (ho:o.op=.store ty x y) (hgd:o.guard=none) (w0:World) (zs cs:Array Value)
 (hx:a.eval x=.pointer (some ⟨w0.heap.size,0,none⟩)) (hy:a.eval y=.agg cs) (t:TypeId) (hw:w=w0.alloc (.cells zs t)) (hi:(P.info? ty).map (·.size)=some cs.size) (hl:zs.size=cs.size) (hone:cs.all (·.oneCell')=true)
 (h:wpList P ops Q rest (a.put o.dst undef) (w0.alloc (.cells cs t))):wpList P ops Q (o::rest) a w:=by
 subst hw
 refine wpList_store_row hgd ty x y ho w0.heap.size cs hx hy t zs (heap_alloc_last w0 _) hi hl hone ?_
 rw[World.setRow_alloc_new]
 exact h
theorem wpList_load_part_s8 (x:Operand) (ty:TypeId) (ho:o.op=.load ty x) (hgd:Region.wanted o (yielded ops a.tmps)=true) (b off:Nat) (hx:a.eval x=.pointer (some ⟨b,off,none⟩))
 (cs:List Value) (d:TypeDesc) (hu:P.underlying ty=some d) (hd:d.isRow=true) (hi:(P.info? ty).map (·.size)=some cs.length) (hc:w.rangeAt b off cs)
 (h:wpList P ops Q rest (a.put o.dst (.agg cs.toArray)) w):wpList P ops Q (o::rest) a w:=by
 refine wpList_step fun K hK=>?_
 rw[if_pos hgd]
 exact wp_load_mid ty x ho b off hx cs d hc hu hd hi (hK _ _ h)
end
end
section
open Go.Shelf
def sortNum_ren:Go.Shelf.Ren:=⟨fun | 6=>181 | 15=>209 | 14=>208 | 28=>227 | 29=>228 | 20=>219 | 21=>220 | 22=>221 | 23=>222 | 24=>223 | 25=>224 | 26=>225 | 27=>226 | 46=>229 | 47=>230 | 48=>231 | 49=>232 | 50=>233 | 57=>234 | n=>n,fun | 22=>268 | 24=>270 | 25=>273 | 3=>3 | 39=>75 | 0=>0 | 53=>29 | 55=>30 | 4=>4 | 46=>299 | 45=>298 | 50=>303 | 5=>5 | 9=>9 | 66=>308 | 70=>307 | 76=>312 | 77=>313 | n=>n,fun | n=>n⟩
theorem sortNum:Go.Proofs.SlLaysF0.n6 Tryz.prog sortNum_ren:={
 mixed:=by kernel_rfl
 f6:=⟨Tryz.f181.name,by decide,Tryz.func181.trans (congrArg some (by kernel_rfl))⟩
 f14:=⟨Tryz.f208.name,by decide,Tryz.func208.trans (congrArg some (by kernel_rfl))⟩
 f15:=Tryz.func209.trans (congrArg some (by kernel_rfl))
 f20:=⟨Tryz.f219.name,by decide,Tryz.func219.trans (congrArg some (by kernel_rfl))⟩
 f21:=⟨Tryz.f220.name,by decide,Tryz.func220.trans (congrArg some (by kernel_rfl))⟩
 f22:=⟨Tryz.f221.name,by decide,Tryz.func221.trans (congrArg some (by kernel_rfl))⟩
 f23:=⟨Tryz.f222.name,by decide,Tryz.func222.trans (congrArg some (by kernel_rfl))⟩
 f24:=⟨Tryz.f223.name,by decide,Tryz.func223.trans (congrArg some (by kernel_rfl))⟩
 f25:=⟨Tryz.f224.name,by decide,Tryz.func224.trans (congrArg some (by kernel_rfl))⟩
 f26:=⟨Tryz.f225.name,by decide,Tryz.func225.trans (congrArg some (by kernel_rfl))⟩
 f27:=⟨Tryz.f226.name,by decide,Tryz.func226.trans (congrArg some (by kernel_rfl))⟩
 f28:=Tryz.func227.trans (congrArg some (by kernel_rfl))
 f29:=Tryz.func228.trans (congrArg some (by kernel_rfl))
 f46:=⟨Tryz.f229.name,by decide,Tryz.func229.trans (congrArg some (by kernel_rfl))⟩
 f47:=Tryz.func230.trans (congrArg some (by kernel_rfl))
 f48:=Tryz.func231.trans (congrArg some (by kernel_rfl))
 f49:=⟨Tryz.f232.name,by decide,Tryz.func232.trans (congrArg some (by kernel_rfl))⟩
 f50:=⟨Tryz.f233.name,by decide,Tryz.func233.trans (congrArg some (by kernel_rfl))⟩
 f57:=⟨Tryz.f234.name,by decide,Tryz.func234.trans (congrArg some (by kernel_rfl))⟩
 t0:=Tryz.underlying0
 a0:=Tryz.isAgg0
 z0:=Tryz.sizeOf0
 v0:=Tryz.zeroValue0
 t3:=Tryz.underlying3
 a3:=Tryz.isAgg3
 z3:=Tryz.sizeOf3
 v3:=Tryz.zeroValue3
 t4:=Tryz.underlying4
 a4:=Tryz.isAgg4
 z4:=Tryz.sizeOf4
 v4:=Tryz.zeroValue4
 t5:=Tryz.underlying5
 a5:=Tryz.isAgg5
 z5:=Tryz.sizeOf5
 v5:=Tryz.zeroValue5
 t9:=Tryz.underlying9
 a9:=Tryz.isAgg9
 z9:=Tryz.sizeOf9
 v9:=Tryz.zeroValue9
 t22:=Tryz.underlying268
 a22:=Tryz.isAgg268
 z22:=Tryz.sizeOf268
 v22:=Tryz.zeroValue268
 t25:=Tryz.underlying273
 a25:=Tryz.isAgg273
 z25:=Tryz.sizeOf273
 v25:=Tryz.zeroValue273
 t39:=Tryz.underlying75
 a39:=Tryz.isAgg75
 z39:=Tryz.sizeOf75
 v39:=Tryz.zeroValue75
 t45:=Tryz.underlying298
 a45:=Tryz.isAgg298
 z45:=Tryz.sizeOf298
 v45:=Tryz.zeroValue298
 t46:=Tryz.underlying299
 a46:=Tryz.isAgg299
 z46:=Tryz.sizeOf299
 v46:=Tryz.zeroValue299
 t50:=Tryz.underlying303
 a50:=Tryz.isAgg303
 z50:=Tryz.sizeOf303
 v50:=Tryz.zeroValue303
 t53:=Tryz.underlying29
 a53:=Tryz.isAgg29
 z53:=Tryz.sizeOf29
 v53:=Tryz.zeroValue29
 t55:=Tryz.underlying30
 a55:=Tryz.isAgg30
 z55:=Tryz.sizeOf30
 v55:=Tryz.zeroValue30
 t66:=Tryz.underlying308
 a66:=Tryz.isAgg308
 z66:=Tryz.sizeOf308
 v66:=Tryz.zeroValue308
 t70:=Tryz.underlying307
 a70:=Tryz.isAgg307
 z70:=Tryz.sizeOf307
 v70:=Tryz.zeroValue307
 t76:=Tryz.underlying312
 a76:=Tryz.isAgg312
 z76:=Tryz.sizeOf312
 v76:=Tryz.zeroValue312
 t77:=Tryz.underlying313
 a77:=Tryz.isAgg313
 z77:=Tryz.sizeOf313
 v77:=Tryz.zeroValue313 }
end
section
open Go.RowKit Go.Shelf Go.Lib Go.Sort
theorem nan_any (x:Int) (w:World):Calls Tryz.prog 210 #[.int .u64 x] w fun e w'=>e=.returned (.bool false)∧w'=w:=by
 go_enter Tryz.func210,Tryz.ntmps210
 go_wp2
 go_ret
 exact ⟨rfl,rfl⟩
def cmpG (x y:Int):Int:=if x<y then -1 else if y<x then 1 else 0
theorem cmp_any (x y:Int) (w:World):Calls Tryz.prog 183 #[.int .u64 x,.int .u64 y] w fun e w'=>e=.returned (.int .i64 (cmpG x y))∧w'=w:=by
 unfold cmpG
 by_cases h1:x<y
 ·rw[if_pos h1]
  have hd:decide (x<y)=true:=decide_eq_true h1
  go_enter Tryz.func183,Tryz.ntmps183
  go_wp2_with (go_at_call 210; refine (nan_any _ _).mono ?_; rintro e w' ⟨rfl,rfl⟩)
  go_ret
  exact ⟨rfl,rfl⟩
 ·rw[if_neg h1]
  have hd:decide (x<y)=false:=decide_eq_false h1
  by_cases h2:y<x
  ·rw[if_pos h2]
   have hd2:decide (y<x)=true:=decide_eq_true h2
   go_enter Tryz.func183,Tryz.ntmps183
   go_wp2_with (go_at_call 210; refine (nan_any _ _).mono ?_; rintro e w' ⟨rfl,rfl⟩)
   go_ret
   exact ⟨rfl,rfl⟩
  ·rw[if_neg h2]
   have hd2:decide (y<x)=false:=decide_eq_false h2
   go_enter Tryz.func183,Tryz.ntmps183
   go_wp2_with (go_at_call 210; refine (nan_any _ _).mono ?_; rintro e w' ⟨rfl,rfl⟩)
   go_ret
   exact ⟨rfl,rfl⟩
abbrev cmpN (x y:Num):Int:=cmpG x.2.2.1 y.2.2.1
theorem ltN (x y:Num):ltOf cmpN x y=decide (x.2.2.1<y.2.2.1):=by
 unfold ltOf cmpN cmpG
 by_cases h1:x.2.2.1<y.2.2.1
 ·simp[h1]
 ·by_cases h2:y.2.2.1<x.2.2.1 <;> simp[h1,h2]
theorem swoN:SWO (ltOf cmpN) where
 irrefl x:=by rw[ltN]; simp
 trans x y z h1 h2:=by rw[ltN] at *; simp at *; omega
 ntrans x y z h1 h2:=by rw[ltN] at *; simp at *; omega
theorem closure_cmp (x y:Num) (W:World):Calls Tryz.prog 182 #[.agg (numC x).toArray,.agg (numC y).toArray] W fun e w'=>e=.returned (.int .i64 (cmpN x y))∧∃ q os',w'=grow (W.drewN q) os':=by
 obtain ⟨i,st,g,u⟩:=x
 obtain ⟨i',st',g',u'⟩:=y
 have hcon:=fun W'=>cmp_any g g' W'
 simp only[cmpN]
 generalize cmpG g g'=r at hcon ⊢
 go_enter Tryz.func182,Tryz.ntmps182
 go_wp2_with (go_at_call 183; refine (hcon _).mono ?_; rintro e w' ⟨rfl,rfl⟩)
 go_ret
 exact ⟨rfl,0,_,by rw[alloc_eq_grow,alloc_eq_grow,grow_grow]; rfl⟩
theorem grownBy_sortK {α:Type} [Inhabited α] {enc:α→List Value} {k:Nat} {w:World} {g off n:Nat} {os:Array Obj} (d:Array α):w.grownBy (sortWorldK enc k w g off n d os) (some g):=by
 unfold sortWorldK putRowK
 refine ⟨rfl,rfl,rfl,by simp,fun j hj hne=>?_⟩
 rw[heap_grow_old _ _ (by simpa using hj)]
 have:g≠j:=fun e=>hne (by rw[e])
 simp[putRow,mapBlock,Sort.ahead,Array.getElem?_modify,this]
theorem sort_num (blk off cap:Nat) (d:Array Num) (w:World) (hH:HoldsK numC 4 w blk off d) (hblk:blk<w.heap.size) (hsz:d.size<4611686018427387904) :
 Calls Tryz.prog 181 #[.slice (some ⟨blk,off,none⟩) d.size cap,.func (.func 182) #[] #[]] w fun e w' =>
  e=.returned (.tuple #[])∧∃ d',d'.size=d.size∧d'.toList.Perm d.toList∧(∀ i j,i<j→j<d.size→(d'[i]!).2.2.1≤(d'[j]!).2.2.1)∧HoldsK numC 4 w' blk off d'∧w.grownBy w' (some blk):=by
 have eg:∀ args w,(callFunc 182 args).run Tryz.prog w=.ok (.enter 182 args) w:=enters_of Tryz.func182 (by kernel_rfl) rfl
 have hcon:=AnyQ.slices_SortFunc (α:=Num) sortNum 4 Tryz.isAgg270 Tryz.sizeOf270 numC (fun _=>rfl) ones_num cmpN swoN 182 #[] blk off cap d w eg (fun m os dk _ x y=>closure_cmp x y _) hH hblk hsz
 refine Calls.mono (hcon:Calls Tryz.prog 181 _ _ _) ?_
 rintro e w' ⟨rfl,d',n,os,hp,hs,rfl⟩
 refine ⟨rfl,d',hp.1,?_,?_,holdsK_sortWorldK _ _ _ _ _ _ d d' os hblk hH hp.1,grownBy_sortK d'⟩
 ·have h:=hp.2.2
  have e1:d'.extract 0 d.size=d':=by rw[← hp.1]; simp
  have e2:d.extract 0 d.size=d:=by simp
  rwa [e1,e2] at h
 ·intro i j hij hj
  have h:=hs i j (Nat.zero_le _) hij hj
  rw[ltN] at h
  simp at h
  simpa using h
end
section
open Go.RowKit Go.Shelf Go.Lib Go.Sort
theorem sort_none (p:Option Addr) (cap:Nat) (fv:Value) (w:World) :
 Calls Tryz.prog 181 #[.slice p 0 cap,fv] w fun e w'=>e=.returned (.tuple #[])∧w'=w :=
 AnyF.slices_SortFunc_none sortNum p cap fv w
end
end Go.Proofs.YtdkbpchmnhbhcaaGreat
