/- Texts of StoreKeeps, packed. -/
import Derived.Test.YtdkbpchmnhbhcaaGreatRows
import Derived.WalkKit
import Derived.ProofKit
import Derived.OpenShut
import Derived.WalkSpells
import Derived.WalkLawsBesides
import Derived.Handy
import Derived.Lib.Hide
import Derived.Deep.AppendLies
import Derived.Laws.IdiomStrings
import Derived.Laws.BytesArg
import Derived.Maps.AppendAt
import Derived.Laws.AppendOwnNone
import Derived.Deep.OwnRows
import Derived.Deep.Draws
import Derived.Laws.Rows
import Derived.Laws.CopyOwn
import Derived.OwnWalk
import Derived.Deep.MidRow
import Derived.Deep.WholeRow
import Derived.Deep.QuietTactic
import Derived.BigQuiet
import Derived.Laws.StructEq
import Derived.Great.BuildSlice
import Derived.Laws.CopyRow
import Derived.Deep.RegionHeld3
set_option linter.unusedVariables false
set_option linter.unusedSimpArgs false
set_option maxRecDepth 100000
set_option maxHeartbeats 16000000
namespace Go.Proofs.YtdkbpchmnhbhcaaGreat
open Go.RowKit
theorem sA {α : Type} (l : List α) (i : Nat) (a : α) : l.toArray.setIfInBounds i a = (l.set i a).toArray := List.setIfInBounds_toArray l i a
theorem sZ {α : Type} {x : α} {xs : List α} {a : α} : List.set (x :: xs) 0 a = a :: xs := rfl
theorem sS {α : Type} {x : α} {xs : List α} {n : Nat} {a : α} : List.set (x :: xs) (n + 1) a = x :: List.set xs n a := rfl
theorem hI {p : Prop} (h : p) : Go.RowKit.Hid p := h
theorem uT (P : Program) (fn : Fn) (first cap : Array Value) (w : World) : (Instr.makeFunc fn first cap).run P w = .ok (.func fn first cap) w := rfl
theorem nL {n m k : Nat} (a : n < m) (b : m ≤ k) : n < k := Nat.lt_of_lt_of_le a b
theorem nR (n : Nat) : n ≤ n := Nat.le_refl n
theorem nT {n m k : Nat} (a : n ≤ m) (b : m ≤ k) : n ≤ k := Nat.le_trans a b
section
theorem pV {k:IntKind} {a b:Int} (h:a=b):Ending.returned (.int k a)=.returned (.int k b):=by rw[h]
def Row (k:IntKind) (w:World) (B:Nat) (A:Option Addr) (n:Nat) (xs:List Int):Prop :=
 xs.length=n∧(0<n→∃ b off,A=some ⟨b,off,none⟩∧b<B∧∀ j,j<n→w.cell? ⟨b,off+j,none⟩=some (.int k (xs.getD j 0)))
def Bytes (xs:List Int):Prop:=∀ j,0≤xs.getD j 0∧xs.getD j 0≤255
theorem Row.len {k:IntKind} {w:World} {B:Nat} {A:Option Addr} {n:Nat} {xs:List Int} (h:Row k w B A n xs):xs.length=n:=h.1
theorem Row.nil (k:IntKind) (w:World) (B:Nat) (A:Option Addr):Row k w B A 0 []:=⟨rfl,fun h=>absurd h (by omega)⟩
theorem Row.keep {k:IntKind} {w w':World} {B:Nat} {A:Option Addr} {n:Nat} {xs:List Int} (h:Row k w B A n xs)
 (hk:∀ p:Addr,p.block<B→w'.cell? p=w.cell? p):Row k w' B A n xs :=
 ⟨h.1,fun hn=>by
  obtain ⟨b,off,e,hb,hc⟩:=h.2 hn
  exact ⟨b,off,e,hb,fun j hj=>(hk _ hb).trans (hc j hj)⟩⟩
theorem Row.more {k:IntKind} {w:World} {B B':Nat} {A:Option Addr} {n:Nat} {xs:List Int} (h:Row k w B A n xs) (hB:B≤B'):Row k w B' A n xs :=
 ⟨h.1,fun hn=>by
  obtain ⟨b,off,e,hb,hc⟩:=h.2 hn
  exact ⟨b,off,e,by omega,hc⟩⟩
theorem Row.below {k:IntKind} {w w':World} {B:Nat} {A:Option Addr} {n:Nat} {xs:List Int} (h:Row k w B A n xs) (hb:Below B w w'):Row k w' B A n xs :=
 h.keep fun _ hp=>hb.cell hp
theorem Bytes.take {xs:List Int} (h:Bytes xs) (n:Nat):Bytes (xs.take n):=by
 intro j
 by_cases hj:j<n
 ·have:=h j
  simpa [List.getD,List.getElem?_take,hj] using this
 ·simp[List.getD,List.getElem?_take,hj]
theorem bR (xs:List Int) (k:Nat) (h:k<xs.length):xs.take (k+1)=xs.take k++[xs.getD k 0]:=by
 rw[List.take_succ_eq_append_getElem h]
 simp[List.getD,List.getElem?_eq_getElem h]
def nums (s:ByteArray):List Int:=s.data.toList.map fun c=>(c.toNat:Int)
theorem nums_length (s:ByteArray):(nums s).length=s.size:=by simp[nums]
theorem YR (s:ByteArray) (k:Nat) (h:k<s.size):(nums s).getD k 0=(s[k].toNat:Int):=by
 have h':k<s.data.toList.length:=by simpa using h
 simp only[nums,List.getD,List.getElem?_map,List.getElem?_eq_getElem h']
 simp[ByteArray.getElem_eq_getElem_data]
theorem add_plain (b off j:Nat):(Addr.add ⟨b,off,none⟩ j)=⟨b,off+j,none⟩:=by
 unfold Addr.add
 by_cases hj0:j=0 <;> simp[hj0]
theorem pX {P:Program} (w:World) (src dst e:TypeId) (hs:P.underlying src=some (.slice e)) (he:P.underlying e=some (.int .u8)) (hd:P.underlying dst=some .string)
 {B:Nat} {A:Option Addr} {n:Nat} (c:Nat) {xs:List Int} (hr:Row .u8 w B A n xs) (hb:Bytes xs) :
 ∃ s:ByteArray,(convert src dst (.slice A n c)).run P w=.ok (.string s) w∧nums s=xs:=by
 have hl:=hr.1
 have zMg:∀ l:List Int,(∀ x∈l,0≤x∧x≤255)→(l.map fun x=>UInt8.ofNat x.toNat).map (fun c=>(c.toNat:Int))=l:=by
  intro l h
  induction l with
  | nil=>rfl
  | cons x l ih =>
   have hx:=h x (List.mem_cons_self ..)
   simp only[List.map_cons,ih (fun y hy=>h y (List.mem_cons_of_mem _ hy))]
   congr 1
   simp only[UInt8.toNat_ofNat']
   omega
 have hmem:∀ x∈xs,0≤x∧x≤255:=by
  intro x hx
  obtain ⟨j,hj,rfl⟩:=List.getElem_of_mem hx
  have:=hb j
  simpa [List.getD,List.getElem?_eq_getElem hj] using this
 rcases A with _ | ad
 ·have hn:n=0:=by
   rcases Nat.eq_zero_or_pos n with h0 | h0
   ·exact h0
   ·obtain ⟨_,_,h1,_⟩:=hr.2 h0
    cases h1
  subst hn
  have hx:xs=[]:=List.eq_nil_of_length_eq_zero hl
  subst hx
  exact ⟨ByteArray.empty,run_convert_bytes_nil w src e hs he 0 c dst hd,rfl⟩
 ·refine ⟨strOfNums xs,?_,by show ((strOfNums xs).data.toList.map _:List Int)=xs; rw[strOfNums_data]; exact zMg xs hmem⟩
  have h:=run_convert_bytes_back (P:=P) w src dst e ad c (xs.map fun x=>UInt8.ofNat x.toNat) hs he hd (fun j hj=>by
   have hj':j<n:=by simpa [hl] using hj
   obtain ⟨b,off,h1,_,h3⟩:=hr.2 (by omega)
   injection h1 with h1
   subst h1
   rw[add_plain,h3 j hj']
   have H7:j<xs.length:=by omega
   have hv:=hmem _ (List.getElem_mem H7)
   simp only[List.getElem_map,UInt8.toNat_ofNat',List.getD,List.getElem?_eq_getElem H7,Option.getD_some]
   congr 2
   omega)
  rw[List.length_map,hl] at h
  exact h
end
section
theorem bV {a b:Bool} (h:a=b):Ending.returned (.bool a)=.returned (.bool b):=by rw[h]
theorem below_drewN {B:Nat} {a w:World} (h:Below B a w) (n:Nat):Below B a (w.drewN n):=⟨h.os,h.tape,h.output,h.size,h.block⟩
structure Kept (S:Nat→Prop) (w w':World):Prop where
 os:w'.os=w.os
 tape:w'.tape=w.tape
 output:w'.output=w.output
 size:w.heap.size≤w'.heap.size
 block:∀ k,S k→w'.heap[k]? = w.heap[k]?
section
variable {S T:Nat→Prop} {a w w' w'':World}
theorem Kept.refl (S:Nat→Prop) (w:World):Kept S w w:=⟨rfl,rfl,rfl,nR _,fun _ _=>rfl⟩
theorem Kept.trans (h:Kept S w w') (k:Kept T w' w'') (hs:∀ b,S b→T b):Kept S w w'' :=
 ⟨k.os.trans h.os,k.tape.trans h.tape,k.output.trans h.output,nT h.size k.size,fun i hi=>(k.block i (hs i hi)).trans (h.block i hi)⟩
theorem Kept.mono (h:Kept T w w') (hs:∀ b,S b→T b):Kept S w w':=⟨h.os,h.tape,h.output,h.size,fun i hi=>h.block i (hs i hi)⟩
theorem Kept.drew (h:Kept S a w):Kept S a w.drew:=⟨h.os,h.tape,h.output,h.size,h.block⟩
theorem Kept.drewN (h:Kept S a w) (n:Nat):Kept S a (w.drewN n):=⟨h.os,h.tape,h.output,h.size,h.block⟩
theorem Kept.alloc (h:Kept S a w) (hs:∀ b,S b→b<w.heap.size) (o:Obj):Kept S a (w.alloc o) :=
 h.trans (T:=S) ⟨rfl,rfl,rfl,by simp,fun k hk=>Below.heap_alloc _ _ _ (hs k hk)⟩ fun _ h=>h
theorem Kept.setCell (h:Kept S a w) {p:Addr} (hp:¬ S p.block) (u:Value):Kept S a (w.setCell p u) :=
 h.trans (T:=S) ⟨rfl,rfl,rfl,by simp[World.setCell],fun k hk=>Below.heap_setCell _ _ _ _ (fun e=>hp (e▸hk))⟩ fun _ h=>h
theorem Kept.setRow (h:Kept S a w) {g:Nat} (hp:¬ S g) (cs:Array Value):Kept S a (w.setRow g cs) :=
 h.trans (T:=S) ⟨rfl,rfl,rfl,by simp[World.setRow],fun k hk=>setRow_other w g k cs (fun e=>hp (e▸hk))⟩ fun _ h=>h
theorem Kept.grown {row:Option Nat} (h:Kept S a w) (hg:w.grownBy w' row) (hs:∀ b,S b→b<w.heap.size) (hr:∀ g,row=some g→¬ S g):Kept S a w' :=
 h.trans (T:=S) ⟨hg.os,hg.tape,hg.output,hg.size,fun k hk=>hg.block k (hs k hk) (fun e=>hr k e.symm hk)⟩ fun _ h=>h
theorem Kept.below {B:Nat} (h:Kept S a w) (hb:Below B w w') (hs:∀ b,S b→b<B):Kept S a w' :=
 h.trans (T:=S) ⟨hb.os,hb.tape,hb.output,hb.size,fun k hk=>hb.block k (hs k hk)⟩ fun _ h=>h
theorem Kept.of_below {B:Nat} (hb:Below B w w') (hs:∀ b,S b→b<B):Kept S w w':=(Kept.refl S w).below hb hs
theorem Kept.to_below {B:Nat} (h:Kept S w w') (hs:∀ b,b<B→S b):Below B w w':=⟨h.os,h.tape,h.output,h.size,fun k hk=>h.block k (hs k hk)⟩
theorem Kept.cell (h:Kept S w w') {p:Addr} (hp:S p.block):w'.cell? p=w.cell? p:=World.cell?_of_block (w:=w) (h.block p.block hp)
theorem Kept.frozen (h:Kept S w w') {p:Addr} (hp:S p.block):w'.frozen? p=w.frozen? p:=World.frozen?_of_block (w:=w) (h.block p.block hp)
end
def z8 (w:World) (g:Nat) (t:TypeId) (cs:Array Value):Prop:=w.heap[g]? = some (.cells cs t (0,0))
section
variable {w w':World} {g:Nat} {t:TypeId} {cs:Array Value}
theorem z8.lt (h:z8 w g t cs):g<w.heap.size:=by
 rcases Nat.lt_or_ge g w.heap.size with hlt | hge
 ·exact hlt
 ·unfold z8 at h; rw[Array.getElem?_eq_none hge] at h; cases h
theorem z8.cell (h:z8 w g t cs) (i:Nat):w.cell? ⟨g,i,none⟩=cs[i]? := cell_of_row w g i cs t (0,0) h
theorem z8.frozen (h:z8 w g t cs) (i:Nat):w.frozen? ⟨g,i,none⟩=false:=by
 unfold z8 at h
 simp[World.frozen?,h]
theorem z8.new (w:World) (t:TypeId) (cs:Array Value):z8 (w.alloc (.cells cs t)) w.heap.size t cs:=heap_alloc_new w _
theorem z8.drewN (h:z8 w g t cs) (n:Nat):z8 (w.drewN n) g t cs:=h
theorem z8.drew (h:z8 w g t cs):z8 w.drew g t cs:=h
theorem z8.alloc (h:z8 w g t cs) (o:Obj):z8 (w.alloc o) g t cs:=(Below.heap_alloc w o g h.lt).trans h
theorem z8.set_ (h:z8 w g t cs) (i:Nat) (u:Value):z8 (w.setCell ⟨g,i,none⟩ u) g t (cs.setIfInBounds i u):=by
 unfold z8 at h ⊢
 simp[World.setCell,Array.getElem?_modify,h]
theorem z8.far (h:z8 w g t cs) {p:Addr} (hp:g≠p.block) (u:Value):z8 (w.setCell p u) g t cs:=(Below.heap_setCell w p u g hp).trans h
theorem z8.below {B:Nat} (h:z8 w g t cs) (hb:Below B w w') (hg:g<B):z8 w' g t cs:=(hb.block g hg).trans h
theorem z8.kept {S:Nat→Prop} (h:z8 w g t cs) (hb:Kept S w w') (hg:S g):z8 w' g t cs:=(hb.block g hg).trans h
theorem z8.grown {row:Option Nat} (h:z8 w g t cs) (hb:w.grownBy w' row) (hg:some g≠row):z8 w' g t cs:=(hb.block g h.lt hg).trans h
theorem z8.ne_ {g':Nat} {t':TypeId} {cs':Array Value} (h:z8 w g t cs) (h':z8 w g' t' cs') (hne:t≠t'):g≠g':=by
 rintro rfl
 unfold z8 at h h'
 rw[h] at h'
 injection h' with h'
 injection h' with _ ht
 exact hne ht
theorem yT {base:Nat} {e:TypeId} {size n:Nat} {v:Value} {xs:List Value} (h:w.ownsRow base e size v n xs) (hg:z8 w g t cs) (hne:e≠t):v.ownBlock≠some g:=by
 rcases h.2 with ⟨rfl,_⟩ | ⟨g',cap,cur,rfl,_,hh,_⟩
 ·simp[Value.ownBlock]
 ·intro he
  have:g'=g:=by simpa [Value.ownBlock] using he
  subst this
  exact z8.ne_ (t:=e) hh hg hne rfl
end
def xD {α:Type} (mk:α→Value) (d:α) (w:World) (S:Nat→Prop) (A:Option Addr) (n:Nat) (xs:List α):Prop :=
 xs.length=n∧(0<n→∃ b off,A=some ⟨b,off,none⟩∧S b∧∀ j,j<n→w.cell? ⟨b,off+j,none⟩=some (mk (xs.getD j d)))
abbrev zW (k:IntKind):=xD (Value.int k) 0
section
variable {α:Type} {mk:α→Value} {d:α} {w w':World} {S T:Nat→Prop} {A:Option Addr} {n:Nat} {xs:List α}
theorem xD.nil (mk:α→Value) (d:α) (w:World) (S:Nat→Prop) (A:Option Addr):xD mk d w S A 0 []:=⟨rfl,fun h=>absurd h (by omega)⟩
theorem xD.keep (h:xD mk d w S A n xs) (hk:∀ p:Addr,S p.block→w'.cell? p=w.cell? p):xD mk d w' S A n xs :=
 ⟨h.1,fun hn=>by
  obtain ⟨b,off,e,hb,hc⟩:=h.2 hn
  exact ⟨b,off,e,hb,fun j hj=>(hk _ hb).trans (hc j hj)⟩⟩
theorem xD.more (h:xD mk d w S A n xs) (hs:∀ b,S b→T b):xD mk d w T A n xs :=
 ⟨h.1,fun hn=>by
  obtain ⟨b,off,e,hb,hc⟩:=h.2 hn
  exact ⟨b,off,e,hs b hb,hc⟩⟩
theorem xD.kept (h:xD mk d w S A n xs) (hb:Kept T w w') (hs:∀ b,S b→T b):xD mk d w' S A n xs:=h.keep fun _ hp=>hb.cell (hs _ hp)
theorem xD.below {B:Nat} (h:xD mk d w S A n xs) (hb:Below B w w') (hs:∀ b,S b→b<B):xD mk d w' S A n xs:=h.keep fun _ hp=>hb.cell (hs _ hp)
theorem xD.take (h:xD mk d w S A n xs) (k:Nat) (hk:k≤n):xD mk d w S A k (xs.take k):=by
 have hl:=h.1
 refine ⟨by simp; omega,fun h0=>?_⟩
 obtain ⟨b,off,e,hb,hc⟩:=h.2 (by omega)
 refine ⟨b,off,e,hb,fun j hj=>?_⟩
 rw[hc j (by omega)]
 simp[List.getD,List.getElem?_take,hj]
theorem xD.congr {ys:List α} (h:xD mk d w S A n xs) (hl:ys.length=n) (he:∀ j,j<n→ys.getD j d=xs.getD j d):xD mk d w S A n ys :=
 ⟨hl,fun hn=>by
  obtain ⟨b,off,e,hb,hc⟩:=h.2 hn
  exact ⟨b,off,e,hb,fun j hj=>by rw[hc j hj,he j hj]⟩⟩
end
theorem xD.toRow {k:IntKind} {w:World} {B:Nat} {A:Option Addr} {n:Nat} {xs:List Int} (h:zW k w (·<B) A n xs):Row k w B A n xs:=h
def qF {α:Type} (mk:α→Value) (w:World) (g:Nat) (t:TypeId) (xs:List α):Prop:=z8 w g t (xs.map mk).toArray
section
variable {α:Type} {mk:α→Value} {w w':World} {g:Nat} {t:TypeId} {xs:List α}
theorem qF.lt (h:qF mk w g t xs):g<w.heap.size:=z8.lt h
theorem qF.cell (h:qF mk w g t xs) {i:Nat} (hi:i<xs.length) (d:α):w.cell? ⟨g,i,none⟩=some (mk (xs.getD i d)):=by
 rw[z8.cell h]
 simp[List.getD,List.getElem?_eq_getElem hi]
theorem qF.frozen (h:qF mk w g t xs) (i:Nat):w.frozen? ⟨g,i,none⟩=false:=z8.frozen h i
theorem qF.set (h:qF mk w g t xs) (i:Nat) (u:α):qF mk (w.setCell ⟨g,i,none⟩ (mk u)) g t (xs.set i u):=by
 have:=z8.set_ h i (mk u)
 unfold qF
 rw[show ((xs.set i u).map mk).toArray=((xs.map mk).toArray).setIfInBounds i (mk u) by simp[List.map_set]]
 exact this
theorem qF.row (h:qF mk w g t xs) (d:α) {S:Nat→Prop} (hs:S g):xD mk d w S (some ⟨g,0,none⟩) xs.length xs :=
 ⟨rfl,fun _=>⟨g,0,rfl,hs,fun j hj=>by rw[Nat.zero_add,h.cell hj d]⟩⟩
theorem qF.made (w:World) (z:α) (n:Nat) (t:TypeId):qF mk (w.alloc (.cells (madeCells #[mk z] n) t)) w.heap.size t (List.replicate n z):=by
 unfold qF
 rw[show ((List.replicate n z).map mk).toArray=madeCells #[mk z] n from ?_]
 ·exact z8.new w t _
 ·apply Array.ext
  ·simp[size_madeCells]
  ·intro i h1 h2
   simp[madeCells,Nat.mod_one]
theorem qF.kept {S:Nat→Prop} (h:qF mk w g t xs) (hb:Kept S w w') (hg:S g):qF mk w' g t xs:=z8.kept h hb hg
theorem qF.below {B:Nat} (h:qF mk w g t xs) (hb:Below B w w') (hg:g<B):qF mk w' g t xs:=z8.below h hb hg
end
theorem GK {α:Type} {mk:α→Value} (d:α) {w:World} {base:Nat} {e:TypeId} {v:Value} {n:Nat} {xs:List α} (ho:w.ownsRow base e 1 v n (xs.map mk)) :
 ∃ A cap,v=.slice A n cap∧n≤cap∧(A=none→cap=0)∧xD mk d w (fun b=>base≤b∧b<w.heap.size∧v.ownBlock=some b) A n xs:=by
 have hl:xs.length=n:=by simpa using ho.1
 have hlt:=ho.lt
 rcases ho.2 with ⟨rfl,rfl⟩ | ⟨g,cap,cur,rfl,hg,hh,hnc,hc⟩
 ·exact ⟨none,0,rfl,by omega,fun _=>rfl,hl,fun h=>absurd h (by omega)⟩
 ·refine ⟨_,cap,rfl,hnc,(fun h=>by cases h),hl,fun _=>⟨g,0,rfl,⟨hg,(hlt g rfl).2,by simp[Value.ownBlock]⟩,fun j hj=>?_⟩⟩
  rw[Nat.zero_add,ho.cellAt j (by omega)]
  simp[List.getD,List.getElem?_eq_getElem (show j<xs.length by omega)]
theorem qF.setRow {α:Type} {mk:α→Value} {w:World} {g:Nat} {t:TypeId} {xs:List α} (h:qF mk w g t xs) (ys:List α):qF mk (w.setRow g (ys.map mk).toArray) g t ys :=
 setRow_heap w g _ _ t _ h
end
section
theorem qF.owns {α:Type} {mk:α→Value} {w:World} {g base n c:Nat} {t:TypeId} {xs:List α} (h:qF mk w g t xs) (hb:base≤g) (hn:xs.length=n) (hc:c=n) (hm:n≤maxLen) :
 w.ownsRow base t 1 (.slice (some ⟨g,0,none⟩) n c) n (xs.map mk):=by
 subst hc
 exact ⟨by simp[hn],.inr ⟨g,c,_,rfl,hb,h,nR _,hm,by simp[hn],by simp; rw[List.take_of_length_le (by simp[hn])]⟩⟩
theorem K9 {α:Type} {mk:α→Value} {d:α} {P:Program} (w:World) (ty t:TypeId)
 (base:Nat) (e:TypeId) (i:TypeInfo) (z:Value) (bytes:Nat) (ht:P.underlying t=some (.slice e)) (hi:P.info? e=some i) (hz:i.zero=some z)
 (hsize:i.size=1) (hby:i.bytes=bytes) (hzs:z.cells.size=1) (hone:∀ x,(mk x).oneCell'=true)
 (v:Value) (n:Nat) (xs:List Value) (hown:w.ownsRow base e 1 v n xs)
 (S:Nat→Prop) (A:Option Addr) (m c:Nat) (news:List α) (hr:xD mk d w S A m news) (hnil:A=none→c=0)
 (h63:n+m≤maxLen) (hbytes:(n+m)*bytes≤140737488355328) (hbase:base≤w.heap.size) :
 ∃ v' w',(Builtin.append_ #[t,t] ty #[v,.slice A m c]).run P w=.ok v' w'∧w'.ownsRow base e 1 v' (n+m) (xs++news.map mk)∧w.grownBy w' v.ownBlock ∧
  (v'.ownBlock=v.ownBlock∨v'.ownBlock=some w.heap.size):=by
 have hl:=hr.1
 rcases A with _ | ad
 ·have hm:m=0:=by
   rcases Nat.eq_zero_or_pos m with h0 | h0
   ·exact h0
   ·obtain ⟨_,_,h1,_⟩:=hr.2 h0
    cases h1
  subst hm
  have hn:news=[]:=List.eq_nil_of_length_eq_zero hl
  subst hn
  rw[hnil rfl]
  exact ⟨v,w,run_append_owned_none (P:=P) (w:=w) base t ty e i 1 ht hi v n xs hown,by simpa using hown,World.grownBy.refl w _,.inl rfl⟩
 ·obtain ⟨v',w',h1,h2,h3,_,h4⟩:=run_append_own_at (P:=P) w base t ty e i z 1 bytes ht hi hz hsize hby hzs (by omega) v n xs hown ad m c (news.map mk) (by simp; omega)
   (fun j u hu=>by
     have hj:j<m:=by
      rcases Nat.lt_or_ge j m with h0 | h0
      ·exact h0
      ·rw[List.getElem?_eq_none (by simp; omega)] at hu
       cases hu
     obtain ⟨b,off,h1,_,h3⟩:=hr.2 (by omega)
     injection h1 with h1
     subst h1
     rw[add_plain,h3 j hj]
     simp only[List.getElem?_map,List.getElem?_eq_getElem (show j<news.length by omega),Option.map_some] at hu
     simpa [List.getD,List.getElem?_eq_getElem (show j<news.length by omega)] using hu)
   (fun u hu=>by
     obtain ⟨q,_,rfl⟩:=List.mem_map.1 hu
     exact hone q) h63 hbytes hbase
  exact ⟨v',w',h1,h2,h3,h4⟩
section
variable {α:Type} {mk:α→Value} {d:α} {P:Program} {w:World} {ops:Array Oper} {rest:List Oper} {o:Oper} {a:Act} {Q:Exit→Act→World→Prop}
theorem kC (hgd:Region.wanted o (yielded ops a.tmps)=true) (s x:Operand) (t:TypeId)
 (ho:o.op=.call { callee:=.builtin .append,args:=#[s,x],argTypes:=#[t,t] })
 (base:Nat) (e:TypeId) (i:TypeInfo) (z:Value) (bytes:Nat) (ht:P.underlying t=some (.slice e)) (hi:P.info? e=some i) (hz:i.zero=some z)
 (hsize:i.size=1) (hby:i.bytes=bytes) (hzs:z.cells.size=1) (hone:∀ x,(mk x).oneCell'=true)
 (v:Value) (n:Nat) (xs:List Value) (hs:a.eval s=v) (hown:w.ownsRow base e 1 v n xs)
 (S:Nat→Prop) (A:Option Addr) (m c:Nat) (news:List α) (hx:a.eval x=.slice A m c) (hr:xD mk d w S A m news) (hnil:A=none→c=0)
 (h63:n+m≤maxLen) (hbytes:(n+m)*bytes≤140737488355328) (hbase:base≤w.heap.size)
 (h:∀ v' w',w'.ownsRow base e 1 v' (n+m) (xs++news.map mk)→w.grownBy w' v.ownBlock→(v'.ownBlock=v.ownBlock∨v'.ownBlock=some w.heap.size)→wpList P ops Q rest (a.put o.dst v') w') :
 wpList P ops Q (o::rest) a w:=by
 obtain ⟨v',w',hrun,h2,h3,h4⟩:=K9 (P:=P) w o.type t base e i z bytes ht hi hz hsize hby hzs hone v n xs hown S A m c news hr hnil h63 hbytes hbase
 refine wpList_step fun K hK=>?_
 rw[if_pos hgd]
 unfold Oper.wp execOp
 simp only[ho,resolve,invoke,builtin,Sem.run_bind,Sem.run_pure,Result.andThen_ok,List.map_toArray,List.map_cons,List.map_nil,hs,hx,hrun]
 exact hK _ _ (h v' w' h2 h3 h4)
end
theorem AY {α:Type} (mk:α→Value) (d:α) (w:World) (t:TypeId) (v:α):xD mk d (w.alloc (.cells #[mk v] t)) (·=w.heap.size) (some ⟨w.heap.size,0,none⟩) 1 [v] :=
 ⟨rfl,fun _=>⟨_,0,rfl,rfl,fun j hj=>by
  obtain rfl:j=0:=by omega
  exact (z8.new w t #[mk v]).cell 0⟩⟩
end
section
theorem qF.rowN {α:Type} {mk:α→Value} {w:World} {g:Nat} {t:TypeId} {xs:List α} (h:qF mk w g t xs) (d:α) {n:Nat} (hn:xs.length=n) {S:Nat→Prop} (hs:S g):xD mk d w S (some ⟨g,0,none⟩) n xs:=by
 subst hn
 exact h.row d hs
def Halt (p:Prop):Prop:=p
theorem zJ {P:Program} {fn:Func} {R:Ending→World→Prop} {e:Exit} {a:Act} {w:World} (h:Halt (bodyPost P fn R e a w)):bodyPost P fn R e a w:=h
theorem Halt.on {p:Prop} (h:p):Halt p:=h
theorem Halt.ret {P:Program} {fn:Func} {R:Ending→World→Prop} {a:Act} {w:World} {v:Value} (hr:(results fn a.tmps).run P w=.ok v w) (hd:a.defers=[]) (hR:R (.returned v) w):Halt (bodyPost P fn R .ret a w) :=
 bodyPost_ret hr hd hR
theorem zy {P:Program} {fn:Func} {p u:Tmp} {ty:TypeId} (h:fn.results=#[.cell p ty,.tmp u]) (tmps:Array Value) (w:World) (g:Nat) (t:TypeId) (cs:Array Value) (d:TypeDesc) (hp:tmps.getD p undef=.pointer (some ⟨g,0,none⟩))
 (hg:z8 w g t cs) (hu:P.underlying ty=some d) (hd:(match d with | .struct _ | .array _ _=>true | _=>false)=true) (hi:(P.info? ty).map (·.size)=some cs.size) :
 (results fn tmps).run P w=.ok (.tuple #[.agg cs,tmps.getD u undef]) w:=by
 have hp':tmps[p]?.getD undef=.pointer (some ⟨g,0,none⟩):=by simpa using hp
 have:=run_loadVar_row (P:=P) w g t ty cs (0,0) d hg hu hd hi
 simp[results,h,hp',asAddr,this]
theorem zw {P:Program} {fn:Func} {p u v:Tmp} {ty:TypeId} (h:fn.results=#[.cell p ty,.tmp u,.tmp v]) (tmps:Array Value) (w:World) (g:Nat) (t:TypeId) (cs:Array Value) (d:TypeDesc) (hp:tmps.getD p undef=.pointer (some ⟨g,0,none⟩))
 (hg:z8 w g t cs) (hu:P.underlying ty=some d) (hd:(match d with | .struct _ | .array _ _=>true | _=>false)=true) (hi:(P.info? ty).map (·.size)=some cs.size) :
 (results fn tmps).run P w=.ok (.tuple #[.agg cs,tmps.getD u undef,tmps.getD v undef]) w:=by
 have hp':tmps[p]?.getD undef=.pointer (some ⟨g,0,none⟩):=by simpa using hp
 have:=run_loadVar_row (P:=P) w g t ty cs (0,0) d hg hu hd hi
 simp[results,h,hp',asAddr,this]
theorem jF {P:Program} {fn:Func} {p:Tmp} {ty:TypeId} (h:fn.results=#[.cell p ty]) (tmps:Array Value) (w:World) (g:Nat) (t:TypeId) (cs:Array Value) (d:TypeDesc) (hp:tmps.getD p undef=.pointer (some ⟨g,0,none⟩))
 (hg:z8 w g t cs) (hu:P.underlying ty=some d) (hd:(match d with | .struct _ | .array _ _=>true | _=>false)=true) (hi:(P.info? ty).map (·.size)=some cs.size) :
 (results fn tmps).run P w=.ok (.agg cs) w:=by
 have hp':tmps[p]?.getD undef=.pointer (some ⟨g,0,none⟩):=by simpa using hp
 have:=run_loadVar_row (P:=P) w g t ty cs (0,0) d hg hu hd hi
 simp[results,h,hp',asAddr,this]
theorem qF.range {w:World} {g:Nat} {t:TypeId} {xs:List Int} (h:qF (Value.int .u8) w g t xs):w.rangeAt g 0 (xs.map (Value.int .u8)):=by
 intro j v hv
 have hj:j<xs.length:=by
  rcases Nat.lt_or_ge j xs.length with h | h
  ·exact h
  ·rw[List.getElem?_eq_none (by simpa using h)] at hv; cases hv
 rw[Nat.zero_add,h.cell hj 0,← hv]
 simp[List.getD,List.getElem?_eq_getElem hj]
theorem own_below {w w':World} {base size n:Nat} {e:TypeId} {v:Value} {xs:List Value} (h:w.ownsRow base e size v n xs) (hb:Below w.heap.size w w'):w'.ownsRow base e size v n xs :=
 h.kept (row:=none) ⟨hb.os,hb.tape,hb.output,hb.size,fun j hj _=>hb.block j hj⟩ (by cases v.ownBlock <;> simp)
theorem Gg {w:World} {base base' size n:Nat} {e:TypeId} {v:Value} {xs:List Value} (h:w.ownsRow base e size v n xs) (hb:base'≤base):w.ownsRow base' e size v n xs:=by
 refine ⟨h.1,?_⟩
 rcases h.2 with h0 | ⟨g,cap,cur,h1,h2,h3⟩
 ·exact .inl h0
 ·exact .inr ⟨g,cap,cur,h1,nT hb h2,h3⟩
section
variable {P:Program} {w:World} {ops:Array Oper} {rest:List Oper} {o:Oper} {a:Act} {Q:Exit→Act→World→Prop}
theorem z8.rangeL {w:World} {g:Nat} {t:TypeId} {cs:List Value} (h:z8 w g t cs.toArray):w.rangeAt g 0 cs:=by
 intro j v hv
 rw[Nat.zero_add,h.cell j]
 simpa using hv
theorem zV (x:Operand) (ty:TypeId) (ho:o.op=.load ty x) (hgd:Region.wanted o (yielded ops a.tmps)=true) (b:Nat) (hx:a.eval x=.pointer (some ⟨b,0,none⟩))
 (t:TypeId) (cs:List Value) (d:TypeDesc) (hu:P.underlying ty=some d) (hd:d.isRow=true) (hi:(P.info? ty).map (·.size)=some cs.length) (hc:z8 w b t cs.toArray)
 (h:wpList P ops Q rest (a.put o.dst (.agg cs.toArray)) w):wpList P ops Q (o::rest) a w:=by
 refine wpList_step fun K hK=>?_
 rw[if_pos hgd]
 exact wp_load_mid ty x ho b 0 hx cs d hc.rangeL hu hd hi (hK _ _ h)
theorem zF (x y:Operand) (ty:TypeId) (ho:o.op=.store ty x y) (hgd:o.guard=none) (g:Nat) (cs:Array Value) (hx:a.eval x=.pointer (some ⟨g,0,none⟩)) (hy:a.eval y=.agg cs)
 (t:TypeId) (cs0:Array Value) (hg:z8 w g t cs0) (hi:(P.info? ty).map (·.size)=some cs.size) (hl:cs0.size=cs.size) (hone:cs.all (·.oneCell')=true)
 (h:wpList P ops Q rest (a.put o.dst undef) (w.setRow g cs)):wpList P ops Q (o::rest) a w :=
 wpList_store_row hgd ty x y ho g cs hx hy t cs0 hg hi hl hone h
end
theorem zY (w:World) (o:Obj) (t:TypeId) (cs:Array Value):z8 ((w.alloc o).alloc (.cells cs t)) (w.heap.size+1) t cs:=by
 have h:=z8.new (w.alloc o) t cs
 rw[show (w.alloc o).heap.size=w.heap.size+1 by simp] at h
 exact h
theorem jw (w:World) (o o':Obj) (t:TypeId) (cs:Array Value):z8 (((w.alloc o).alloc o').alloc (.cells cs t)) (w.heap.size+1+1) t cs:=by
 have h:=zY (w.alloc o) o' t cs
 rw[show (w.alloc o).heap.size=w.heap.size+1 by simp] at h
 exact h
end
section
theorem rC:(Tryz.prog.info? 5).map (fun i=>(i.zero,i.size,i.bytes))=some (some (.int .u8 0),1,1):=by kernel_rfl
theorem fM:(Tryz.prog.info? 5).map (·.size)=some 1:=by kernel_rfl
abbrev zn (w:World) (g:Nat) (xs:List Int):Prop:=qF (Value.int .u8) w g 5 xs
theorem uj (xs:List Int):∀ v∈xs.map (Value.int .u8),v.oneCell'=true:=by
 intro v hv
 obtain ⟨x,_,rfl⟩:=List.mem_map.1 hv
 rfl
theorem K4 {α:Type} (L cs:List α) (h:L.length=cs.length):splice L 0 cs=cs:=by
 unfold splice
 rw[List.drop_eq_nil_of_le (by omega)]
 simp
theorem R6 {P:Program} {f:FuncId} {args:Array Value} {w:World} {n:Nat} {v:Value}
 (h:Calls P f args (w.drewN n) fun e w'=>e=.returned v∧∃ k,(w.drewN n).drewN k=w'):Calls P f args (w.drewN n) fun e w''=>e=.returned v∧∃ m,w''=w.drewN m :=
 h.mono fun _ _ ⟨he,k,hm⟩=>⟨he,n+k,by rw[← hm,World.drewN_drewN]⟩
theorem ng {w:World} {S:Nat→Prop} {A:Option Addr} {n:Nat} {xs:List Int} (h:zW .u8 w S A n xs) (hn:0<n) :
 ∃ ad,A=some ad∧∀ j v,(xs.map (Value.int .u8))[j]? = some v→w.cell? (ad.add j)=some v:=by
 obtain ⟨b,off,e,_,hc⟩:=h.2 hn
 refine ⟨_,e,fun j v hv=>?_⟩
 have hl:=h.1
 have hj:j<xs.length:=by
  rcases Nat.lt_or_ge j xs.length with h | h
  ·exact h
  ·rw[List.getElem?_eq_none (by simpa using h)] at hv; cases hv
 rw[add_plain,hc j (by omega)]
 simpa [List.getD,List.getElem?_eq_getElem hj] using hv
theorem aR (A:Option Addr) (n c:Nat) (xs:List Int) (S:Nat→Prop) (w:World) (hx:zW .u8 w S A n xs) (hS:∀ b,S b→b<w.heap.size) (hn:n≤140737488351232) :
 Calls Tryz.prog 205 #[.slice A n c] w fun e w'=>e=.returned (.slice (some ⟨w.heap.size,0,none⟩) n n)∧zn w' w.heap.size xs∧Below w.heap.size w w':=by
 have hmk:=fun u:World=>run_make_row' (P:=Tryz.prog) 31 5 (.int .u8 0) 1 Tryz.underlying31 rC rfl .i64 .i64 n (by omega) (by omega) u
 have hlen:=hx.1
 have HX:=hx.keep (w':=w.alloc (.cells (madeCells #[.int .u8 0] n) 5)) fun p hp=>World.cell?_alloc_lt w _ p (hS _ hp)
 have HM:=hI (qF.made (mk:=Value.int .u8) w 0 n 5)
 have HB:=hI ((Below.refl w.heap.size w).alloc (nR _) (.cells (madeCells #[.int .u8 0] n) 5))
 have h1:=hI (show (xs.map (Value.int .u8)).length=Nat.min n n by simp[hlen])
 have h2:=hI (show 0<(xs.map (Value.int .u8)).length→some (⟨w.heap.size,0,none⟩:Addr)=some ⟨w.heap.size,0,none⟩∧_ from fun hp=>⟨rfl,ng HX (by simpa [hlen] using hp)⟩)
 have h3:=hI (show 0+(xs.map (Value.int .u8)).length≤((List.replicate n (0:Int)).map (Value.int .u8)).length by simp[hlen])
 have h4:=hI (show ((List.replicate n (0:Int)).map (Value.int .u8)).length=(xs.map (Value.int .u8)).length by simp[hlen])
 clear hx hlen HX
 go_enter Tryz.func205,Tryz.ntmps205
 go_wp2_with (refine wpList_copy_splice rfl (.tmp 7) (.tmp 8) 31 31 rfl 5 Tryz.underlying31 fM _ _ _ _ _ _ rfl rfl w.heap.size 0 ((List.replicate n (0:Int)).map (Value.int .u8)) 5 HM.out (xs.map (Value.int .u8)) h1.out h2.out h3.out (uj xs) w.heap.size w HB.out (nR _) ?_; intro w2 hg hb; have hb2:=hI hb; clear hb)
 go_ret
 refine ⟨rfl,?_,hb2.out⟩
 have:=hg.out
 rw[K4 _ _ h4.out] at this
 exact this
end
section
def oG (x:Int) (c j:Nat):Int:=x / ((256 ^ (c-1-j):Nat):Int) % 256
def beBytes (x:Int) (c:Nat):List Int:=(List.range c).map (oG x c)
def laid (x:Int) (c k:Nat):List Int:=(List.range c).map fun j=>if c≤j+k then oG x c j else 0
theorem FW (x:Int) (c k:Nat):(laid x c k).length=c:=by simp[laid]
theorem beBytes_length (x:Int) (c:Nat):(beBytes x c).length=c:=by simp[beBytes]
theorem Ed (x:Int) (c:Nat):laid x c c=beBytes x c:=by
 unfold laid beBytes
 apply List.map_congr_left
 intro j hj
 rw[if_pos (by omega)]
theorem Lm (x:Int) (c:Nat):laid x c 0=List.replicate c 0:=by
 apply List.ext_getElem
 ·simp[laid]
 ·intro j h1 h2
  have:j<c:=by simpa [laid] using h1
  simp[laid]; omega
theorem Ec (x:Int) (c k:Nat) (h:k<c):(laid x c k).set (c-1-k) (x / ((256 ^ k:Nat):Int) % 256)=laid x c (k+1):=by
 apply List.ext_getElem
 ·simp[laid]
 ·intro j h1 h2
  have hj:j<c:=by simpa [laid] using h2
  rw[List.getElem_set]
  simp only[laid,List.getElem_map,List.getElem_range]
  by_cases e:c-1-k=j
  ·rw[if_pos e,if_pos (by omega)]
   unfold oG
   rw[show c-1-j=k by omega]
  ·rw[if_neg e]
   by_cases e2:c≤j+k
   ·rw[if_pos e2,if_pos (by omega)]
   ·rw[if_neg e2,if_neg (by omega)]
theorem qc (x:Int) (c:Nat):Bytes (beBytes x c):=by
 intro j
 unfold beBytes
 by_cases hj:j<c
 ·simp only[List.getD,List.getElem?_map,List.getElem?_range hj,Option.map_some,Option.getD_some]
  unfold oG; omega
 ·simp[List.getD,List.getElem?_eq_none (show ((List.range c).map (oG x c)).length≤j by simpa using hj)]
theorem set_right (xs ys:List Int) (i:Nat) (v:Int):(xs++ys).set (xs.length+i) v=xs++ys.set i v:=by
 rw[List.set_append_right _ _ (by omega)]
 simp
theorem GY (x:Int) (k:Nat):x / ((256 ^ k:Nat):Int) / 256=x / ((256 ^ (k+1):Nat):Int):=by
 rw[Nat.pow_succ]
 have h0:(0:Int)≤((256 ^ k:Nat):Int):=Int.natCast_nonneg _
 generalize (256 ^ k:Nat)=m at *
 rw[Int.ediv_ediv_of_nonneg h0,Int.natCast_mul]
 rfl
theorem eT {α:Type} (cs zs:List α) (c:Nat) (z:α) (h:zs=List.replicate (cs.length+c) z):splice zs 0 cs=cs++List.replicate c z:=by
 subst h
 simp[splice]
theorem Vd (A:Option Addr) (n cap:Nat) (xs:List Int) (S:Nat→Prop) (x:Int) (c:Nat) (w:World) (hx:zW .u8 w S A n xs) (hS:∀ b,S b→b<w.heap.size)
 (hn:n+c≤140737488351232) (hc:c≤8) (x0:0≤x) (x1:x≤18446744073709551615) :
 Calls Tryz.prog 198 #[.slice A n cap,.int .u64 x,.int .i64 c] w fun e w'=>e=.returned (.slice (some ⟨w.heap.size,0,none⟩) (n+c) (n+c))∧zn w' w.heap.size (xs++beBytes x c)∧Below w.heap.size w w':=by
 have hmk:=fun u:World=>run_make_row' (P:=Tryz.prog) 31 5 (.int .u8 0) 1 Tryz.underlying31 rC rfl .i64 .i64 (n+c) (by omega) (by omega) u
 simp only[Int.natCast_add] at hmk
 have hlen:=hx.1
 have HX:=hx.keep (w':=w.alloc (.cells (madeCells #[.int .u8 0] (n+c)) 5)) fun p hp=>World.cell?_alloc_lt w _ p (hS _ hp)
 have HM:=hI (qF.made (mk:=Value.int .u8) w 0 (n+c) 5)
 have HB:=hI ((Below.refl w.heap.size w).alloc (nR _) (.cells (madeCells #[.int .u8 0] (n+c)) 5))
 have h1:=hI (show (xs.map (Value.int .u8)).length=Nat.min n (n+c) by rw[List.length_map,hlen]; exact (Nat.min_eq_left (by omega)).symm)
 have h2:=hI (show 0<(xs.map (Value.int .u8)).length→some (⟨w.heap.size,0,none⟩:Addr)=some ⟨w.heap.size,0,none⟩∧_ from fun hp=>⟨rfl,ng HX (by simpa [hlen] using hp)⟩)
 have h3:=hI (show 0+(xs.map (Value.int .u8)).length≤((List.replicate (n+c) (0:Int)).map (Value.int .u8)).length by simp[hlen])
 have h4:=hI (show splice ((List.replicate (n+c) (0:Int)).map (Value.int .u8)) 0 (xs.map (Value.int .u8))=(xs++laid x c 0).map (Value.int .u8) by
  rw[Lm,eT _ _ c (Value.int .u8 0) (by simp[hlen])]; simp)
 have HL:=hI hlen
 clear hx hlen HX
 go_enter Tryz.func198,Tryz.ntmps198
 go_wp2_with (refine wpList_copy_splice rfl (.tmp 14) (.tmp 15) 31 31 rfl 5 Tryz.underlying31 fM _ _ _ _ _ _ rfl rfl w.heap.size 0 ((List.replicate (n+c) (0:Int)).map (Value.int .u8)) 5 HM.out (xs.map (Value.int .u8)) h1.out h2.out h3.out (uj xs) w.heap.size w HB.out (nR _) ?_; intro w2 hg hb; have hb2:=hI hb; clear hb)
 go_loopw [1,8] (fun v i wr=>∃ (k:Nat) (p y:Int),k≤c∧p=(n:Int)+c-1-k∧i=.int .i64 p∧y=x / ((256 ^ k:Nat):Int)∧v=.int .u64 y∧zn wr w.heap.size (xs++laid x c k)∧Below w.heap.size w wr) (fun _ i _=>(intOf i+1).toNat)
 case atStart =>
  refine ⟨0,_,x,by omega,by simp,rfl,by simp,rfl,?_,hb2.out⟩
  ·have:=hg.out
   rw[h4.out] at this
   exact this
 case round =>
  obtain ⟨k,p,y,hk,hp,rfl,hy,rfl,harr,hbel⟩:=hrel
  by_cases hlt:k<c
  ·obtain ⟨q,rfl⟩:∃ q:Nat,p=(q:Int):=⟨p.toNat,by omega⟩
   have hq:q=n+(c-1-k):=by omega
   have hcell0:=harr.cell (i:=q) (by rw[List.length_append,FW,HL.out]; omega) 0
   have hzero:(xs++laid x c k).getD q 0=0:=by
    have e:q=xs.length+(c-1-k):=by rw[HL.out]; omega
    rw[e]
    simp[List.getD,List.getElem?_append,laid,show c-1-k<c by omega]
    omega
   rw[hzero] at hcell0
   have hcell:=hcell0
   clear hcell0 hzero
   have hfr:=harr.frozen q
   have hy0:0≤y:=by rw[hy]; exact Int.ediv_nonneg x0 (Int.natCast_nonneg _)
   have hy1:y≤18446744073709551615:=by rw[hy]; exact Int.le_trans (Int.ediv_le_self _ x0) x1
   have HA:=hI harr
   have HB2:=hI hbel
   have HY:=hI hy
   have HP:=hI hp
   have HQ:=hI hq
   have hqn:n≤q:=by omega
   have hqc:(q:Int)<n+c:=by omega
   clear harr hbel hy hp hq
   go_wp2
   go_roundw
   case rel =>
    refine ⟨k+1,(q:Int)-1,y / 256,by omega,by have:=HP.out; omega,rfl,by rw[HY.out]; exact GY x k,rfl,?_,HB2.out.setCell (nR _) _⟩
    have hs:=HA.out.set q (y % 256)
    have e:q=xs.length+(c-1-k):=by rw[HL.out]; exact HQ.out
    rw[show (xs++laid x c k).set q (y % 256)=xs++laid x c (k+1) by rw[e,set_right,HY.out,Ec x c k hlt]] at hs
    have ev:bits .or .u8 0 (y % 256)=y % 256:=by
     rw[u8_or _ _ (by omega) (by omega) (by omega) (by omega)]
     simp
     omega
    rw[ev]
    exact hs
   case measure=>(simp[intOf] <;> omega)
  ·obtain rfl:k=c:=by omega
   have hpn:decide ((n:Int)≤p)=false:=by simp; omega
   have zQG:p<n:=by omega
   have HA:=hI harr
   have HB2:=hI hbel
   clear harr hbel hy hp
   go_wp2
   go_ret
   rw[Ed] at HA
   exact ⟨rfl,HA.out,HB2.out⟩
theorem Qx (A:Option Addr) (n cap:Nat) (xs:List Int) (S:Nat→Prop) (x:Int) (w:World) (hx:zW .u8 w S A n xs) (hS:∀ b,S b→b<w.heap.size)
 (hn:n+4≤140737488351232) (x0:0≤x) (x1:x≤4294967295) :
 Calls Tryz.prog 166 #[.slice A n cap,.int .u32 x] w fun e w'=>e=.returned (.slice (some ⟨w.heap.size,0,none⟩) (n+4) (n+4))∧zn w' w.heap.size (xs++beBytes x 4)∧Below w.heap.size w w':=by
 have HX:=hI hx
 clear hx
 go_enter Tryz.func166,Tryz.ntmps166
 go_wp2_with (go_at_call 198; refine (Vd A n cap xs S x 4 _ HX.out hS (by omega) (by omega) x0 (by omega)).mono ?_; rintro e w' ⟨rfl,ha,hb⟩; have HA:=hI ha; have HB:=hI hb; clear ha hb)
 go_ret
 exact ⟨rfl,HA.out,HB.out⟩
end
section
def Rd (w:World) (r g:Nat) (xs:List Int) (pos:Nat) (err:Int):Prop :=
 z8 w r 291 #[.slice (some ⟨g,0,none⟩) xs.length xs.length,.int .i64 pos,.int .i64 err]∧zn w g xs∧pos≤xs.length∧r≠g∧xs.length≤140737488351232
section
variable {w w':World} {r g:Nat} {xs:List Int} {pos:Nat} {err:Int}
theorem Rd.blk (h:Rd w r g xs pos err):z8 w r 291 #[.slice (some ⟨g,0,none⟩) xs.length xs.length,.int .i64 pos,.int .i64 err]:=h.1
theorem Rd.arr (h:Rd w r g xs pos err):zn w g xs:=h.2.1
theorem Rd.cell0 (h:Rd w r g xs pos err):w.cell? ⟨r,0,none⟩=some (.slice (some ⟨g,0,none⟩) xs.length xs.length):=h.1.cell 0
theorem Rd.cell1 (h:Rd w r g xs pos err):w.cell? ⟨r,1,none⟩=some (.int .i64 pos):=h.1.cell 1
theorem Rd.cell2 (h:Rd w r g xs pos err):w.cell? ⟨r,2,none⟩=some (.int .i64 err):=h.1.cell 2
theorem Rd.kept {S:Nat→Prop} (h:Rd w r g xs pos err) (hk:Kept S w w') (hr:S r) (hg:S g):Rd w' r g xs pos err:=⟨h.1.kept hk hr,h.2.1.kept hk hg,h.2.2⟩
theorem Rd.drewN (h:Rd w r g xs pos err) (k:Nat):Rd (w.drewN k) r g xs pos err:=h
theorem Rd.setPos (h:Rd w r g xs pos err) (q:Nat) (hq:q≤xs.length):Rd (w.setCell ⟨r,1,none⟩ (.int .i64 q)) r g xs q err :=
 ⟨h.1.set_ 1 _,z8.far h.2.1 (p:=⟨r,1,none⟩) (fun e=>h.2.2.2.1 e.symm) _,hq,h.2.2.2⟩
theorem Rd.setErr (h:Rd w r g xs pos err) (x:Int):Rd (w.setCell ⟨r,2,none⟩ (.int .i64 x)) r g xs pos x :=
 ⟨h.1.set_ 2 _,z8.far h.2.1 (p:=⟨r,2,none⟩) (fun e=>h.2.2.2.1 e.symm) _,h.2.2⟩
end
theorem ZV (A:Option Addr) (n c:Nat) (xs:List Int) (S:Nat→Prop) (w:World) (hx:zW .u8 w S A n xs) (hS:∀ b,S b→b<w.heap.size) (hn:n≤140737488351232) :
 Calls Tryz.prog 178 #[.slice A n c] w fun e w'=>∃ r,e=.returned (.pointer (some ⟨r,0,none⟩))∧w.heap.size<r∧Rd w' r w.heap.size xs 0 0∧Below w.heap.size w w':=by
 have HX:=hI hx
 have hlen:=hI hx.1
 clear hx
 go_enter Tryz.func178,Tryz.ntmps178
 go_wp2_with (go_at_call 205; refine (aR A n c xs S _ HX.out hS hn).mono ?_; rintro e w1 ⟨rfl,ha,hb⟩; have HA:=hI ha; have HB:=hI hb; clear ha hb)
 go_ret
 have hl:=hlen.out
 subst hl
 have hlt:=HA.out.lt
 exact ⟨_,rfl,hlt,⟨z8.new _ _ _,z8.alloc HA.out _,by omega,by omega,hn⟩,HB.out.alloc HB.out.size _⟩
theorem Vx (w:World) (r g:Nat) (xs:List Int) (pos:Nat) (err:Int) (h:Rd w r g xs pos err) :
 Calls Tryz.prog 217 #[.pointer (some ⟨r,0,none⟩)] w fun e w'=>e=.returned (.int .i64 err)∧w=w':=by
 have c2:=h.cell2
 clear h
 go_enter Tryz.func217,Tryz.ntmps217
 go_wp2
 go_ret
 exact ⟨rfl,rfl⟩
theorem YV (w:World) (r g:Nat) (xs:List Int) (pos:Nat) (err:Int) (h:Rd w r g xs pos err) :
 Calls Tryz.prog 218 #[.pointer (some ⟨r,0,none⟩)] w fun e w'=>e=.returned (.int .i64 ((xs.length-pos:Nat):Int))∧∃ k,w.drewN k=w':=by
 have c0:=h.cell0
 have c1:=h.cell1
 have h1:=h.2.2.1
 have h2:=h.2.2.2.2
 clear h
 go_enter Tryz.func218,Tryz.ntmps218
 go_wp2
 go_quiet (fail)
 go_wp2
 go_ret
 exact ⟨pV (by omega),_,rfl⟩
theorem Na (w:World) (r g:Nat) (xs:List Int) (pos:Nat) (n:Nat) (h:Rd w r g xs pos 0) (hn:xs.length-pos<n) :
 Calls Tryz.prog 207 #[.pointer (some ⟨r,0,none⟩),.int .i64 n] w fun e w'=>e=.returned (.slice none 0 0)∧Rd w' r g xs pos 9∧Kept (fun b=>b<w.heap.size∧b≠r) w w':=by
 have H:=hI h
 have hcell:=h.cell2
 have hfr:=h.1.frozen 2
 clear h
 have d0:decide ((n:Int)<0)=false:=by simp
 have d1:decide (((xs.length-pos:Nat):Int)<(n:Int))=true:=by simp; omega
 go_enter Tryz.func207,Tryz.ntmps207
 go_wp2_with (first | (go_at_call 217; refine (Vx _ r g xs pos 0 H.out).mono ?_; rintro e w' ⟨rfl,rfl⟩) | (go_at_call 218; refine (YV _ r g xs pos 0 H.out).mono ?_; rintro e w' ⟨rfl,k,rfl⟩))
 go_ret
 exact ⟨rfl,(H.out.drewN k).setErr 9,((Kept.refl _ w).drewN k).setCell (fun h=>h.2 rfl) _⟩
def zIA (r g:Nat) (xs:List Int) (pos n:Nat) (w:World) (e:Ending) (w':World):Prop :=
 ∃ A c,e=.returned (.slice A n c)∧zW .u8 w' (·=g) A n ((xs.drop pos).take n)∧Rd w' r g xs (pos+n) 0∧Kept (fun b=>b<w.heap.size∧b≠r) w w'
theorem M8 {r g:Nat} {xs:List Int} {pos n:Nat} {w:World} (h:Rd w r g xs pos 0) (hn:n≤xs.length-pos) (k m:Nat) (A:Option Addr) (c:Nat) (q:Int) (hq:q=((pos+n:Nat):Int))
 (l:Nat) (hl:l=n)
 (hA:xs.length=pos∨A=some ⟨g,pos,none⟩):zIA r g xs pos n w (.returned (.slice A l c)) (((w.drewN k).setCell ⟨r,1,none⟩ (.int .i64 q)).drewN m):=by
 have hl:=hl.symm
 subst hq hl
 have hp:=h.2.2.1
 have h1:=(((h.drewN k).setPos (pos+n) (by omega)).drewN m)
 refine ⟨_,_,rfl,⟨by simp; omega,fun hpos=>?_⟩,h1,((((Kept.refl _ w).drewN k).setCell (fun h=>h.2 rfl) _).drewN m)⟩
 refine ⟨g,pos,by rcases hA with h | h; omega; exact h,rfl,fun j hj=>?_⟩
 rw[h1.arr.cell (i:=pos+j) (by omega) 0]
 simp[List.getD,List.getElem?_take,List.getElem?_drop,hj]
theorem VT (w:World) (r g:Nat) (xs:List Int) (pos:Nat) (n:Nat) (h:Rd w r g xs pos 0) (hn:n≤xs.length-pos) :
 Calls Tryz.prog 207 #[.pointer (some ⟨r,0,none⟩),.int .i64 n] w (zIA r g xs pos n w):=by
 have H:=hI h
 have hcell:=h.cell1
 have hcell0:=h.cell0
 have hfr:=h.1.frozen 1
 have hp:=h.2.2.1
 have hx:=h.2.2.2.2
 clear h
 have d0:decide ((n:Int)<0)=false:=by simp
 have d1:decide (((xs.length-pos:Nat):Int)<(n:Int))=false:=by simp; omega
 by_cases hq:xs.length=pos
 ·have HQ:=hI hq
  obtain rfl:n=0:=by omega
  clear hq
  go_enter Tryz.func207,Tryz.ntmps207
  go_wp2_with (first | (go_at_call 217; refine (Vx _ r g xs pos 0 H.out).mono ?_; rintro e w' ⟨rfl,rfl⟩) | (go_at_call 218; refine (YV _ r g xs pos 0 H.out).mono ?_; rintro e w' ⟨rfl,k,rfl⟩))
  go_quiet (fail)
  go_wp2
  all_goals
   go_ret
   exact M8 H.out (by omega) _ _ _ _ _ (by simp) _ (by omega) (.inl HQ.out)
 ·go_enter Tryz.func207,Tryz.ntmps207
  go_wp2_with (first | (go_at_call 217; refine (Vx _ r g xs pos 0 H.out).mono ?_; rintro e w' ⟨rfl,rfl⟩) | (go_at_call 218; refine (YV _ r g xs pos 0 H.out).mono ?_; rintro e w' ⟨rfl,k,rfl⟩))
  go_quiet (fail)
  go_wp2
  all_goals
   go_ret
   exact M8 H.out (by omega) _ _ _ _ _ rfl _ (by omega) (.inr rfl)
end
section
def numOf (l:List Int):Int:=l.foldl (fun x b=>x*256+b) 0
theorem lu (l:List Int) (b:Int):numOf (l++[b])=numOf l*256+b:=by simp[numOf]
theorem jT (l:List Int) (h:Bytes l):0≤numOf l∧numOf l<((256 ^ l.length:Nat):Int):=by
 have key:∀ k,k≤l.length→0≤numOf (l.take k)∧numOf (l.take k)<((256 ^ k:Nat):Int):=by
  intro k
  induction k with
  | zero=>intro _; simp[numOf]
  | succ k ih =>
   intro hk
   have ih:=ih (by omega)
   rw[bR l k (by omega),lu,Nat.pow_succ,Int.natCast_mul]
   have hb:=h k
   generalize (256 ^ k:Nat)=m at ih ⊢
   omega
 have:=key l.length (nR _)
 rwa [List.take_length] at this
theorem RQ (l:List Int) (h:Bytes l) (k:Nat) (hk:k≤l.length) (bg:k≤7):0≤numOf (l.take k)∧numOf (l.take k)<72057594037927936:=by
 have:=jT (l.take k) (h.take k)
 rw[List.length_take,Nat.min_eq_left hk] at this
 have h2:(256 ^ k:Nat)≤256 ^ 7:=Nat.pow_le_pow_right (by omega) bg
 have h3:(256 ^ 7:Nat)=72057594037927936:=by decide
 generalize (256 ^ k:Nat)=m at *
 omega
theorem zEa (x b:Int) (h0:0≤x) (h1:x<72057594037927936) (b0:0≤b) (b1:b≤255):bits .or .u64 (x*256) b=x*256+b:=by
 rw[u64_or _ _ (by omega) (by omega) (by omega) (by omega)]
 have e:(x*256).toNat=x.toNat*2 ^ 8:=by omega
 rw[e,Nat.mul_comm,← Nat.two_pow_add_eq_or_of_lt (by omega)]
 omega
theorem aH (w:World) (r g:Nat) (xs:List Int) (pos n:Nat) (h:Rd w r g xs pos 0) (hn:n≤xs.length-pos) (h8:n≤8) (hb:Bytes xs) :
 Calls Tryz.prog 216 #[.pointer (some ⟨r,0,none⟩),.int .i64 n] w fun e w' =>
  e=.returned (.int .u64 (numOf ((xs.drop pos).take n)))∧Rd w' r g xs (pos+n) 0∧Kept (fun b=>b<w.heap.size∧b≠r) w w':=by
 have H:=hI h
 have hl:((xs.drop pos).take n).length=n:=by simp; omega
 have hbt:Bytes ((xs.drop pos).take n):=by
  have:Bytes (xs.drop pos):=fun j=>by have:=hb (pos+j); simpa [List.getD,List.getElem?_drop] using this
  exact this.take n
 clear h hb
 go_enter Tryz.func216,Tryz.ntmps216
 go_wp2_with (go_at_call 207; refine (VT _ r g xs pos n H.out hn).mono ?_; rintro e w1 ⟨A,c,rfl,hr,hrd,hk⟩; have HR:=hI hr; have HD:=hI hrd; have HK:=hI hk; clear hr hrd hk)
 generalize hys:(xs.drop pos).take n=ys at *
 have CV:=hI hys
 clear hys
 have BK:=hI hbt
 have HL:=hI hl
 clear hbt hl
 go_loop [5,12] (fun x i=>∃ k:Nat,k≤n∧i=.int .i64 k∧x=.int .u64 (numOf (ys.take k))) (fun _ i=>n-(intOf i).toNat)
 case atStart=>exact ⟨0,by omega,rfl,rfl⟩
 case round =>
  obtain ⟨k,hk,rfl,rfl⟩:=hrel
  by_cases hlt:k<n
  ·obtain ⟨_,off,rfl,rfl,hc⟩:=HR.out.2 (by omega)
   have hcell:=hc k hlt
   have hr:0≤ys.getD k 0∧ys.getD k 0≤255:=BK.out k
   have hv:=RQ ys BK.out k (by have:=HL.out; omega) (by omega)
   have hs:numOf (ys.take (k+1))=numOf (ys.take k)*256+ys.getD k 0:=by rw[bR ys k (by have:=HL.out; omega),lu]
   have ho:=zEa (numOf (ys.take k)) (ys.getD k 0) hv.1 hv.2 hr.1 hr.2
   generalize numOf (ys.take k)=x at *
   generalize ys.getD k 0=y at *
   have HS:=hI hs
   have HO:=hI ho
   clear hs ho hc
   go_wp2
   go_round
   case rel =>
    exact ⟨k+1,by omega,by go_num,by rw[HO.out,HS.out]⟩
   case measure=>(simp[intOf] <;> omega)
  ·obtain rfl:k=n:=by omega
   have ht:=hI (List.take_of_length_le (l:=ys) (i:=k) (by have:=HL.out; omega))
   go_wp2
   go_ret
   exact ⟨pV (by rw[ht.out,CV.out]),HD.out,HK.out⟩
theorem Br (w:World) (r g:Nat) (xs:List Int) (pos:Nat) (h:Rd w r g xs pos 0) (hn:4≤xs.length-pos) (hb:Bytes xs) :
 Calls Tryz.prog 203 #[.pointer (some ⟨r,0,none⟩)] w fun e w' =>
  e=.returned (.int .u32 (numOf ((xs.drop pos).take 4)))∧Rd w' r g xs (pos+4) 0∧Kept (fun b=>b<w.heap.size∧b≠r) w w':=by
 have H:=hI h
 have HB:=hI hb
 have hl:((xs.drop pos).take 4).length=4:=by simp; omega
 have hbt:Bytes ((xs.drop pos).take 4):=by
  have:Bytes (xs.drop pos):=fun j=>by have:=hb (pos+j); simpa [List.getD,List.getElem?_drop] using this
  exact this.take 4
 have hv:=jT _ hbt
 rw[hl] at hv
 have hv1:numOf ((xs.drop pos).take 4)<4294967296:=hv.2
 have hv0:=hv.1
 clear h hb hbt hv hl
 go_enter Tryz.func203,Tryz.ntmps203
 go_wp2_with (go_at_call 216; refine (aH _ r g xs pos 4 H.out hn (by omega) HB.out).mono ?_; rintro e w1 ⟨rfl,hrd,hk⟩; have HD:=hI hrd; have HK:=hI hk; clear hrd hk)
 go_ret
 exact ⟨pV (by omega),HD.out,HK.out⟩
theorem zED (w:World) (r g:Nat) (xs:List Int) (pos n:Nat) (h:Rd w r g xs pos 0) (hn:n≤xs.length-pos) :
 Calls Tryz.prog 180 #[.pointer (some ⟨r,0,none⟩),.int .i64 n] w fun e w'=>∃ b,e=.returned (.slice (some ⟨b,0,none⟩) n n)∧w.heap.size≤b ∧
  zn w' b ((xs.drop pos).take n)∧Kept (fun b=>b<w.heap.size∧b≠r) w w':=by
 have H:=hI h
 have hx:=h.2.2.2.2
 clear h
 go_enter Tryz.func180,Tryz.ntmps180
 go_wp2_with (first
  | (go_at_call 207; refine (VT _ r g xs pos n H.out hn).mono ?_; rintro e w1 ⟨A,c,rfl,hr,hrd,hk⟩; have HR:=hI hr; have HD:=hI hrd; have HK:=hI hk; clear hr hrd hk)
  | (go_at_call 205; refine (aR A n c _ (·=g) _ HR.out (fun b e=>by rw[e]; exact HD.out.arr.lt) (by omega)).mono ?_; rintro e w2 ⟨rfl,ha,hb⟩; have HA:=hI ha; have HB:=hI hb; clear ha hb))
 go_ret
 exact ⟨_,rfl,HK.out.size,HA.out,HK.out.below HB.out (fun b h=>nL h.1 HK.out.size)⟩
end
section
theorem Hy (x:Int) (n:Nat) (h:0≤x):beBytes x (n+1)=beBytes (x / 256) n++[x % 256]:=by
 unfold beBytes
 rw[List.range_succ,List.map_append,List.map_singleton]
 congr 1
 ·apply List.map_congr_left
  intro j hj
  have hj:j<n:=by simpa using hj
  unfold oG
  rw[show n+1-1-j=(n-1-j)+1 by omega,← GY]
  rw[Int.ediv_ediv_of_nonneg (by exact Int.natCast_nonneg _),Int.mul_comm,← Int.ediv_ediv_of_nonneg (by omega)]
 ·simp[oG]
theorem zHg (n:Nat):∀ l:List Int,Bytes l→l.length=n→beBytes (numOf l) n=l:=by
 induction n with
 | zero=>intro l _ h; rw[List.eq_nil_of_length_eq_zero h]; rfl
 | succ n ih =>
  intro l hb hl
  have hs:=bR l n (by omega)
  rw[List.take_of_length_le (by omega)] at hs
  have hn:=lu (l.take n) (l.getD n 0)
  rw[← hs] at hn
  have hx:=hb n
  have hnn:=(jT (l.take n) (hb.take n)).1
  rw[Hy _ _ (jT l hb).1,hn,show (numOf (l.take n)*256+l.getD n 0) / 256=numOf (l.take n) by omega,show (numOf (l.take n)*256+l.getD n 0) % 256=l.getD n 0 by omega,
   ih (l.take n) (hb.take n) (by simp; omega)]
  exact hs.symm
theorem sI (n:Nat):∀ x:Int,0≤x→x<((256 ^ n:Nat):Int)→numOf (beBytes x n)=x:=by
 induction n with
 | zero => intro x h0 h1; simp at h1; obtain rfl : x = 0 := by omega
           rfl
 | succ n ih =>
  intro x h0 h1
  rw[Nat.pow_succ,Int.natCast_mul] at h1
  rw[Hy _ _ h0,lu,ih (x / 256) (by omega) (by generalize ((256 ^ n:Nat):Int)=m at *; omega)]
  omega
theorem jW {xs:List Int} (hb:Bytes xs) (k n:Nat):Bytes ((xs.drop k).take n):=by
 have:Bytes (xs.drop k):=fun j=>by have:=hb (k+j); simpa [List.getD,List.getElem?_drop] using this
 exact this.take n
theorem bytes_append {a b:List Int} (ha:Bytes a) (hb:Bytes b):Bytes (a++b):=by
 intro j
 by_cases h:j<a.length
 ·have:=ha j; simpa [List.getD,List.getElem?_append_left h] using this
 ·have:=hb (j-a.length); simpa [List.getD,List.getElem?_append_right (Nat.le_of_not_lt h)] using this
end
section
theorem wN (A:Option Addr) (n cap:Nat) (xs:List Int) (S:Nat→Prop) (x:Int) (w:World) (hx:zW .u8 w S A n xs) (hS:∀ b,S b→b<w.heap.size)
 (hn:n+8≤140737488351232) (x0:0≤x) (x1:x≤18446744073709551615) :
 Calls Tryz.prog 153 #[.slice A n cap,.int .u64 x] w fun e w'=>e=.returned (.slice (some ⟨w.heap.size,0,none⟩) (n+8) (n+8))∧zn w' w.heap.size (xs++beBytes x 8)∧Below w.heap.size w w':=by
 have HX:=hI hx
 clear hx
 go_enter Tryz.func153,Tryz.ntmps153
 go_wp2_with (go_at_call 198; refine (Vd A n cap xs S x 8 _ HX.out hS (by omega) (by omega) x0 (by omega)).mono ?_; rintro e w' ⟨rfl,ha,hb⟩; have HA:=hI ha; have HB:=hI hb; clear ha hb)
 go_ret
 exact ⟨rfl,HA.out,HB.out⟩
theorem fP (A:Option Addr) (n cap:Nat) (xs:List Int) (S:Nat→Prop) (x:Int) (w:World) (hx:zW .u8 w S A n xs) (hS:∀ b,S b→b<w.heap.size)
 (hn:n+2≤140737488351232) (x0:0≤x) (x1:x≤65535) :
 Calls Tryz.prog 154 #[.slice A n cap,.int .u16 x] w fun e w'=>e=.returned (.slice (some ⟨w.heap.size,0,none⟩) (n+2) (n+2))∧zn w' w.heap.size (xs++beBytes x 2)∧Below w.heap.size w w':=by
 have HX:=hI hx
 clear hx
 go_enter Tryz.func154,Tryz.ntmps154
 go_wp2_with (go_at_call 198; refine (Vd A n cap xs S x 2 _ HX.out hS (by omega) (by omega) x0 (by omega)).mono ?_; rintro e w' ⟨rfl,ha,hb⟩; have HA:=hI ha; have HB:=hI hb; clear ha hb)
 go_ret
 exact ⟨rfl,HA.out,HB.out⟩
theorem TU (w:World) (r g:Nat) (xs:List Int) (pos:Nat) (h:Rd w r g xs pos 0) (hn:8≤xs.length-pos) (hb:Bytes xs) :
 Calls Tryz.prog 202 #[.pointer (some ⟨r,0,none⟩)] w fun e w' =>
  e=.returned (.int .u64 (numOf ((xs.drop pos).take 8)))∧Rd w' r g xs (pos+8) 0∧Kept (fun b=>b<w.heap.size∧b≠r) w w':=by
 have H:=hI h
 have HB:=hI hb
 clear h hb
 go_enter Tryz.func202,Tryz.ntmps202
 go_wp2_with (go_at_call 216; refine (aH _ r g xs pos 8 H.out hn (by omega) HB.out).mono ?_; rintro e w1 ⟨rfl,hrd,hk⟩; have HD:=hI hrd; have HK:=hI hk; clear hrd hk)
 go_ret
 exact ⟨rfl,HD.out,HK.out⟩
theorem Yw (w:World) (r g:Nat) (xs:List Int) (pos:Nat) (h:Rd w r g xs pos 0) (hn:2≤xs.length-pos) (hb:Bytes xs) :
 Calls Tryz.prog 204 #[.pointer (some ⟨r,0,none⟩)] w fun e w' =>
  e=.returned (.int .u16 (numOf ((xs.drop pos).take 2)))∧Rd w' r g xs (pos+2) 0∧Kept (fun b=>b<w.heap.size∧b≠r) w w':=by
 have H:=hI h
 have HB:=hI hb
 have hl:((xs.drop pos).take 2).length=2:=by simp; omega
 have hbt:Bytes ((xs.drop pos).take 2):=by
  have:Bytes (xs.drop pos):=fun j=>by have:=hb (pos+j); simpa [List.getD,List.getElem?_drop] using this
  exact this.take 2
 have hv:=jT _ hbt
 rw[hl] at hv
 have hv1:numOf ((xs.drop pos).take 2)<65536:=hv.2
 have hv0:=hv.1
 clear h hb hbt hv hl
 go_enter Tryz.func204,Tryz.ntmps204
 go_wp2_with (go_at_call 216; refine (aH _ r g xs pos 2 H.out hn (by omega) HB.out).mono ?_; rintro e w1 ⟨rfl,hrd,hk⟩; have HD:=hI hrd; have HK:=hI hk; clear hrd hk)
 go_ret
 exact ⟨rfl,HD.out,HK.out⟩
end
section
def zA (xs:List Int):Array Value:=(xs.map (Value.int .u8)).toArray
theorem jI (xs:List Int):(zA xs).size=xs.length:=by simp[zA]
theorem Fj (xs:List Int):(zA xs).toList=xs.map (Value.int .u8):=by simp[zA]
theorem uK (xs:List Int) (i:Nat) (h:i<xs.length):(zA xs)[i]? = some (.int .u8 (xs.getD i 0)):=by
 simp[zA,List.getD,List.getElem?_eq_getElem h]
theorem Kt (xs:List Int):(zA xs).all (·.oneCell')=true:=by
 refine Array.all_eq_true_iff_forall_mem.2 fun v hv=>?_
 simp only[zA,List.mem_toArray,List.mem_map] at hv
 obtain ⟨x,_,rfl⟩:=hv
 rfl
def noughts (n:Nat):List Int:=List.replicate n 0
theorem zC (n:Nat):(noughts n).length=n:=by simp[noughts]
theorem XV (n i:Nat):(noughts n).getD i 0=0:=by
 unfold noughts
 by_cases h:i<n <;> simp[List.getD,h]
theorem dn (n:Nat):Bytes (noughts n):=fun j=>by rw[XV]; omega
theorem Oe (w:World):(zeroValue 186).run Tryz.prog w=.ok (.agg (zA (noughts 64))) w:=(Tryz.zeroValue186 w).trans rfl
theorem vF:(Tryz.prog.info? 186).map (·.size)=some 64:=by kernel_rfl
theorem uy:(Tryz.prog.info? 186).map (fun i=>(i.zero,i.size,i.bytes))=some (some (.agg (zA (noughts 64))),64,64):=by kernel_rfl
theorem Um:Tryz.prog.built 186 []=some (zA (noughts 64)):=by kernel_rfl
abbrev qB (w:World) (g:Nat) (xs:List Int):Prop:=qF (Value.int .u8) w g 186 xs
section
variable {w:World} {ops:Array Oper} {rest:List Oper} {o:Oper} {a:Act} {Q:Exit→Act→World→Prop}
theorem zG (ho:o.op=.alloc 186) (hgd:o.guard=none)
 (h:wpList Tryz.prog ops Q rest (a.put o.dst (.pointer (some ⟨w.heap.size,0,none⟩))) (w.alloc (.cells (zA (noughts 64)) 186))):wpList Tryz.prog ops Q (o::rest) a w:=by
 refine wpList_plain hgd fun K hK=>?_
 unfold Oper.wp execOp
 simp only[ho,Instr.alloc,Sem.run_bind,Oe,Result.andThen_ok]
 exact hK _ _ h
theorem wS (ho:o.op=.build 186 #[]) (hgd:Region.wanted o (yielded ops a.tmps)=true)
 (h:wpList Tryz.prog ops Q rest (a.put o.dst (.agg (zA (noughts 64)))) w):wpList Tryz.prog ops Q (o::rest) a w:=by
 refine wpList_step fun K hK=>?_
 rw[if_pos hgd]
 unfold Oper.wp execOp
 have:=run_build (P:=Tryz.prog) w 186 #[] (zA (noughts 64)) (by simpa using Um)
 simp only[ho,List.map_toArray,List.map_nil,Sem.run_bind,Result.andThen_ok,this]
 exact hK _ _ h
theorem zQ (x:Operand) (ho:o.op=.load 186 x) (hgd:Region.wanted o (yielded ops a.tmps)=true) (b off:Nat) (hx:a.eval x=.pointer (some ⟨b,off,none⟩))
 (xs:List Int) (hl:xs.length=64) (hc:w.rangeAt b off (xs.map (Value.int .u8)))
 (h:wpList Tryz.prog ops Q rest (a.put o.dst (.agg (zA xs))) w):wpList Tryz.prog ops Q (o::rest) a w:=by
 refine wpList_step fun K hK=>?_
 rw[if_pos hgd]
 exact wp_load_mid 186 x ho b off hx _ _ hc Tryz.underlying186 rfl (by rw[vF]; simp[hl]) (hK _ _ h)
theorem jM (x y:Operand) (ho:o.op=.store 186 x y) (hgd:o.guard=none) (g:Nat) (ys:List Int)
 (hx:a.eval x=.pointer (some ⟨g,0,none⟩)) (hy:a.eval y=.agg (zA ys)) (t:TypeId) (xs:List Int) (hg:qF (Value.int .u8) w g t xs) (hl:xs.length=64) (hl':ys.length=64)
 (h:wpList Tryz.prog ops Q rest (a.put o.dst undef) (w.setRow g (zA ys))):wpList Tryz.prog ops Q (o::rest) a w :=
 wpList_store_row hgd 186 x y ho g (zA ys) hx hy t (xs.map (Value.int .u8)).toArray hg (by rw[vF,jI,hl']) (by simp[hl,jI,hl']) (Kt ys) h
theorem zU (x y:Operand) (ho:o.op=.store 186 x y) (hgd:o.guard=none) (w0:World) (ys:List Int)
 (hx:a.eval x=.pointer (some ⟨w0.heap.size,0,none⟩)) (hy:a.eval y=.agg (zA ys)) (xs:List Int) (hw:w=w0.alloc (.cells (zA xs) 186)) (hl:xs.length=64) (hl':ys.length=64)
 (h:wpList Tryz.prog ops Q rest (a.put o.dst undef) (w0.alloc (.cells (zA ys) 186))):wpList Tryz.prog ops Q (o::rest) a w:=by
 subst hw
 refine wpList_store_row hgd 186 x y ho w0.heap.size (zA ys) hx hy 186 (zA xs) (heap_alloc_last w0 _) (by rw[vF,jI,hl']) (by simp[jI,hl,hl']) (Kt ys) ?_
 rw[World.setRow_alloc_new]
 exact h
end
theorem x9 {fn:Func} {p u:Tmp} (h:fn.results=#[.cell p 186,.tmp u]) (tmps:Array Value) (w:World) (g:Nat) (t:TypeId) (xs:List Int) (hp:tmps.getD p undef=.pointer (some ⟨g,0,none⟩))
 (hg:qF (Value.int .u8) w g t xs) (hl:xs.length=64):(results fn tmps).run Tryz.prog w=.ok (.tuple #[.agg (zA xs),tmps.getD u undef]) w:=by
 have hp':tmps[p]?.getD undef=.pointer (some ⟨g,0,none⟩):=by simpa using hp
 have:=run_loadVar_row (P:=Tryz.prog) w g t 186 (zA xs) (0,0) _ hg Tryz.underlying186 rfl (by rw[vF,jI,hl])
 simp[results,h,hp',asAddr,this]
theorem sP (w:World) (g:Nat) (u0 u1 u2:Value) {p:Addr} (h:p.block≠g):(((w.setCell ⟨g,0,none⟩ u0).setCell ⟨g,1,none⟩ u1).setCell ⟨g,2,none⟩ u2).cell? p=w.cell? p:=by
 rw[World.cell?_setCell_other _ _ _ _ (by rintro rfl; exact h rfl),World.cell?_setCell_other _ _ _ _ (by rintro rfl; exact h rfl),World.cell?_setCell_other _ _ _ _ (by rintro rfl; exact h rfl)]
theorem z8.set3 {w:World} {g:Nat} {t:TypeId} {a0 a1 a2:Value} (h:z8 w g t #[a0,a1,a2]) (u0 u1 u2:Value):z8 (((w.setCell ⟨g,0,none⟩ u0).setCell ⟨g,1,none⟩ u1).setCell ⟨g,2,none⟩ u2) g t #[u0,u1,u2]:=((h.set_ 0 u0).set_ 1 u1).set_ 2 u2
theorem Kept.set3 {S:Nat→Prop} {a w:World} (h:Kept S a w) {g:Nat} (hg:¬ S g) (u0 u1 u2:Value):Kept S a (((w.setCell ⟨g,0,none⟩ u0).setCell ⟨g,1,none⟩ u1).setCell ⟨g,2,none⟩ u2):=((h.setCell hg u0).setCell hg u1).setCell hg u2
theorem nD {B:Nat} {a w:World} (h:Below B a w) {g:Nat} (hg:B≤g) (u0 u1 u2:Value):Below B a (((w.setCell ⟨g,0,none⟩ u0).setCell ⟨g,1,none⟩ u1).setCell ⟨g,2,none⟩ u2):=((h.setCell hg u0).setCell hg u1).setCell hg u2
theorem iY:∀ (xs ys:List Int),xs.length=ys.length→((List.range xs.length).all fun i=>xs.getD i 0==ys.getD i 0)=(xs==ys)
 | [],[],_=>rfl
 | x::xs,y::ys,h=>by
  have ih:=iY xs ys (by simpa using h)
  rw[List.length_cons,List.range_succ_eq_map,List.all_cons,List.all_map]
  simp only[List.getD_cons_zero,Function.comp_def,List.getD_cons_succ,ih]
  simp[List.cons_beq_cons]
 | [],_::_,h=>by simp at h
 | _::_,[],h=>by simp at h
theorem YI {P:Program} (w:World) (d:Nat) (t e:TypeId) (n:Nat) (ht:P.underlying t=some (.array n e)) (he:P.underlying e=some (.int .u8)) (hsz:∀ w,(sizeOf e).run P w=.ok 1 w)
 (xs ys:List Int) (hx:xs.length=n) (hy:ys.length=n) :
 (Op.equalIn (d+2) t (.agg (zA xs)) (.agg (zA ys))).run P w=.ok (xs==ys) w:=by
 rw[← iY xs ys (hx.trans hy.symm),hx,List.range_eq_range',Op.equalIn]
 simp only[Sem.run_bind,run_underlying ht,Result.andThen_ok,hsz,Std.Legacy.Range.forIn_eq_forIn_range',Std.Legacy.Range.size,Nat.sub_zero,Nat.add_sub_cancel,Nat.div_one]
 have hl:∀ i∈List.range' 0 n 1,i<n:=fun i hi=>by simpa using (List.mem_range'_1.1 hi).2
 generalize List.range' 0 n 1=l at hl ⊢
 induction l with
 | nil=>simp
 | cons i l ih =>
  have hi:i<n:=hl i (by simp)
  have px:(part e (zA xs) (i*1)).run P w=.ok (.int .u8 (xs.getD i 0)) w:=by
   simp[part,isAgg,run_underlying he,uK xs i (by omega)]
  have py:(part e (zA ys) (i*1)).run P w=.ok (.int .u8 (ys.getD i 0)) w:=by
   simp[part,isAgg,run_underlying he,uK ys i (by omega)]
  have pe:=run_equalIn_int (P:=P) w d e .u8 .u8 (xs.getD i 0) (ys.getD i 0) he
  simp only[List.forIn_cons,Sem.run_bind,px,py,pe,Result.andThen_ok,List.all_cons]
  cases hb:(xs.getD i 0==ys.getD i 0)
  ·simp
  ·simp only[Bool.not_true,Bool.false_eq_true,if_false,Sem.run_pure,Result.andThen_ok,Bool.true_and]
   exact ih fun j hj=>hl j (by simp[hj])
section
variable {w:World} {ops:Array Oper} {rest:List Oper} {o:Oper} {a:Act} {Q:Exit→Act→World→Prop}
theorem K7 (op:BinOp) (x y:Operand) (u v:Array Value) (w:World):(eqGuard op 186 x y (.agg u) (.agg v)).run Tryz.prog w=.ok () w:=by
 have h:Tryz.prog.eqGuardType Tryz.prog.depth 186=false:=Tryz.eqGuardType186
 unfold eqGuard
 have hp:(program:Sem Program).run Tryz.prog w=.ok Tryz.prog w:=rfl
 cases op <;> simp[h,hp,Sem.run_bind]
theorem gV (x y:Operand) (z:TypeId) (ho:o.op=.binOp .neq 186 x y z) (hgd:Region.wanted o (yielded ops a.tmps)=true) (xs ys:List Int)
 (hx:a.eval x=.agg (zA xs)) (hy:a.eval y=.agg (zA ys)) (hl:xs.length=64) (hl':ys.length=64)
 (h:wpList Tryz.prog ops Q rest (a.put o.dst (.bool (!(xs==ys)))) w):wpList Tryz.prog ops Q (o::rest) a w:=by
 refine wpList_step fun K hK=>?_
 rw[if_pos hgd]
 unfold Oper.wp execOp
 simp only[ho,hx,hy,Sem.run_bind,K7,Result.andThen_ok,run_neq_struct,
  YI w 9998 186 5 64 Tryz.underlying186 Tryz.underlying5 Tryz.sizeOf5 xs ys hl hl']
 exact hK _ _ h
end
end
section
def qY (xss:List (List Int)):Prop:=∀ xs∈xss,xs.length=64
theorem qY.get {xss:List (List Int)} (h:qY xss) (i:Nat) (hi:i<xss.length):(xss.getD i []).length=64:=by
 simp only[List.getD,List.getElem?_eq_getElem hi,Option.getD_some]
 exact h _ (List.getElem_mem hi)
theorem qY.take {xss:List (List Int)} (h:qY xss) (k:Nat):qY (xss.take k):=fun xs hx=>h xs (List.mem_of_mem_take hx)
theorem qY.drop {xss:List (List Int)} (h:qY xss) (k:Nat):qY (xss.drop k):=fun xs hx=>h xs (List.mem_of_mem_drop hx)
theorem qY.append {xss rY:List (List Int)} (h:qY xss) (k:qY rY):qY (xss++rY):=fun xs hx=>by
 rcases List.mem_append.1 hx with h1 | h1
 ·exact h xs h1
 ·exact k xs h1
theorem Vk {xs:List Int} {j:Nat} {v:Value} (hv:(xs.map (Value.int .u8))[j]? = some v):j<xs.length∧v=.int .u8 (xs.getD j 0):=by
 have hj:j<xs.length:=by
  rcases Nat.lt_or_ge j xs.length with h | h
  ·exact h
  ·rw[List.getElem?_eq_none (by simpa using h)] at hv; cases hv
 refine ⟨hj,?_⟩
 rw[List.getElem?_map,List.getElem?_eq_getElem hj] at hv
 simp only[Option.map_some,Option.some.injEq] at hv
 rw[← hv]
 simp[List.getD,List.getElem?_eq_getElem hj]
theorem get_map (xs:List Int) (j:Nat) (h:j<xs.length):(xs.map (Value.int .u8))[j]? = some (.int .u8 (xs.getD j 0)):=by
 rw[List.getElem?_map,List.getElem?_eq_getElem h]
 simp[List.getD,List.getElem?_eq_getElem h]
def flat (xss:List (List Int)):List Int:=xss.flatten
theorem jm (xss rY:List (List Int)):flat (xss++rY)=flat xss++flat rY:=by simp[flat]
theorem yJ (xs:List Int):flat [xs]=xs:=by simp[flat]
theorem jl {xss:List (List Int)} (h:qY xss):(flat xss).length=xss.length*64:=by
 induction xss with
 | nil=>rfl
 | cons x r ih =>
  have h1:=h x (List.mem_cons_self ..)
  have h2:=ih (fun y hy=>h y (List.mem_cons_of_mem _ hy))
  simp only[flat,List.flatten_cons,List.length_append,List.length_cons] at *
  omega
theorem YU {xss:List (List Int)} (i:Nat) (hi:i<xss.length):xss=xss.take i++[xss.getD i []]++xss.drop (i+1):=by
 simp only[List.getD,List.getElem?_eq_getElem hi,Option.getD_some]
 rw[List.append_assoc,List.singleton_append,← List.drop_eq_getElem_cons hi,List.take_append_drop]
theorem JK {xss:List (List Int)} (h:qY xss) (i:Nat) (hi:i<xss.length) (j:Nat) (hj:j<64):(flat xss).getD (i*64+j) 0=(xss.getD i []).getD j 0:=by
 have hc:=YU i hi
 have hl:=jl (h.take i)
 have hg:=h.get i hi
 rw[List.length_take,Nat.min_eq_left (by omega)] at hl
 conv=>lhs; rw[hc]
 rw[jm,jm,yJ,List.append_assoc]
 generalize xss.getD i []=ys at *
 generalize flat (xss.take i)=zs at *
 simp only[List.getD]
 rw[List.getElem?_append_right (by omega),List.getElem?_append_left (by omega),hl,show i*64+j-i*64=j by omega]
def RowK (w:World) (S:Nat→Prop) (A:Option Addr) (n:Nat) (xss:List (List Int)):Prop :=
 xss.length=n∧(0<n→∃ b off,A=some ⟨b,off,none⟩∧S b∧∀ i,i<n→w.rangeAt b (off+i*64) ((xss.getD i []).map (Value.int .u8)))
section
variable {w w':World} {S T:Nat→Prop} {A:Option Addr} {n:Nat} {xss:List (List Int)}
theorem RowK.nil (w:World) (S:Nat→Prop) (A:Option Addr):RowK w S A 0 []:=⟨rfl,fun h=>absurd h (by omega)⟩
theorem RowK.keep (h:RowK w S A n xss) (hk:∀ p:Addr,S p.block→w'.cell? p=w.cell? p):RowK w' S A n xss :=
 ⟨h.1,fun hn=>by
  obtain ⟨b,off,e,hb,hc⟩:=h.2 hn
  exact ⟨b,off,e,hb,fun i hi j v hv=>(hk _ hb).trans (hc i hi j v hv)⟩⟩
theorem RowK.more (h:RowK w S A n xss) (hs:∀ b,S b→T b):RowK w T A n xss :=
 ⟨h.1,fun hn=>by
  obtain ⟨b,off,e,hb,hc⟩:=h.2 hn
  exact ⟨b,off,e,hs b hb,hc⟩⟩
theorem RowK.below {B:Nat} (h:RowK w S A n xss) (hb:Below B w w') (hs:∀ b,S b→b<B):RowK w' S A n xss:=h.keep fun _ hp=>hb.cell (hs _ hp)
theorem RowK.kept (h:RowK w S A n xss) (hb:Kept T w w') (hs:∀ b,S b→T b):RowK w' S A n xss:=h.keep fun _ hp=>hb.cell (hs _ hp)
end
theorem qF.rowK {w:World} {g:Nat} {t:TypeId} {xss:List (List Int)} (h:qF (Value.int .u8) w g t (flat xss)) (hs:qY xss) {n:Nat} (hn:xss.length=n) {S:Nat→Prop} (hS:S g):RowK w S (some ⟨g,0,none⟩) n xss :=
 ⟨hn,fun _=>⟨g,0,rfl,hS,fun i hi j v hv=>by
  obtain ⟨hj,rfl⟩:=Vk hv
  rw[hs.get i (by omega)] at hj
  rw[Nat.zero_add,h.cell (i:=i*64+j) (by rw[jl hs]; omega) 0,JK hs i (by omega) j hj]⟩⟩
theorem GJ {w:World} {base:Nat} {v:Value} {n:Nat} {xss:List (List Int)} (ho:w.ownsRow base 186 64 v n ((flat xss).map (Value.int .u8))) (hs:qY xss) :
 ∃ A cap,v=.slice A n cap∧n≤cap∧(A=none→cap=0)∧RowK w (fun b=>base≤b∧b<w.heap.size∧v.ownBlock=some b) A n xss:=by
 have hl:xss.length=n:=by
  have h:=ho.1
  rw[List.length_map,jl hs] at h
  omega
 have hlt:=ho.lt
 rcases ho.2 with ⟨rfl,rfl⟩ | ⟨g,cap,cur,rfl,hg,hh,hnc,hc⟩
 ·exact ⟨none,0,rfl,by omega,fun _=>rfl,hl,fun h=>absurd h (by omega)⟩
 ·refine ⟨_,cap,rfl,hnc,(fun h=>by cases h),hl,fun _=>⟨g,0,rfl,⟨hg,(hlt g rfl).2,by simp[Value.ownBlock]⟩,fun i hi j v hv=>?_⟩⟩
  obtain ⟨hj,rfl⟩:=Vk hv
  rw[hs.get i (by omega)] at hj
  have hf:=jl hs
  have h1:=ho.cells (g:=g) rfl (i*64+j) _ (get_map (flat xss) (i*64+j) (by omega))
  rw[add_plain,JK hs i (by omega) j hj] at h1
  rw[Nat.add_assoc]
  exact h1
theorem RowK.src {w:World} {S:Nat→Prop} {A:Option Addr} {n:Nat} {xss:List (List Int)} (h:RowK w S A n xss) (hs:qY xss) (hn:0<n) :
 ∃ ad,A=some ad∧∀ j v,((flat xss).map (Value.int .u8))[j]? = some v→w.cell? (ad.add j)=some v:=by
 obtain ⟨b,off,e,_,hc⟩:=h.2 hn
 have hl:=h.1
 have hf:=jl hs
 refine ⟨_,e,fun j v hv=>?_⟩
 obtain ⟨hj,rfl⟩:=Vk hv
 have hi:j / 64<n:=by omega
 have hg:=hs.get (j / 64) (by omega)
 have h1:=hc (j / 64) hi (j % 64) _ (get_map (xss.getD (j / 64) []) (j % 64) (by omega))
 have h2:=JK hs (j / 64) (by omega) (j % 64) (by omega)
 rw[show j / 64*64+j % 64=j by omega] at h2
 rw[add_plain,show off+j=off+j / 64*64+j % 64 by omega,h1,h2]
theorem Ai {w:World} {base size n:Nat} {e:TypeId} {v:Value} {xs:List Value} (h:w.ownsRow base e size v n xs) {g:Nat} (hg:v.ownBlock≠some g) (u0 u1 u2:Value) :
 (((w.setCell ⟨g,0,none⟩ u0).setCell ⟨g,1,none⟩ u1).setCell ⟨g,2,none⟩ u2).ownsRow base e size v n xs:=by
 have key:∀ (w:World) (i:Nat) (u:Value),w.ownsRow base e size v n xs→(w.setCell ⟨g,i,none⟩ u).ownsRow base e size v n xs:=fun w i u h =>
  h.kept (row:=some g) ⟨rfl,rfl,rfl,by simp[World.setCell],fun k _ hne=>Below.heap_setCell _ _ _ _ (fun e=>hne (by rw[e]))⟩ (.inr hg)
 exact key _ 2 u2 (key _ 1 u1 (key _ 0 u0 h))
section
variable {w:World} {ops:Array Oper} {rest:List Oper} {o:Oper} {a:Act} {Q:Exit→Act→World→Prop}
theorem cO (x y:Operand) (ho:o.op=.store 186 x y) (hgd:o.guard=none) (g off:Nat) (ys:List Int)
 (hx:a.eval x=.pointer (some ⟨g,off,none⟩)) (hy:a.eval y=.agg (zA ys)) (t:TypeId) (F:List Int) (hg:qF (Value.int .u8) w g t F) (hl':ys.length=64) (hfit:off+64≤F.length)
 (h:wpList Tryz.prog ops Q rest (a.put o.dst undef) (w.setRow g ((F.take off++ys++F.drop (off+64)).map (Value.int .u8)).toArray)):wpList Tryz.prog ops Q (o::rest) a w:=by
 refine wpList_plain hgd fun K hK=>?_
 have hs:=run_storeCells_at Tryz.prog g off t (ys.map (Value.int .u8)) 0 (F.map (Value.int .u8)).toArray w hg (by simp[hl']; omega) (by intro v hv; obtain ⟨z,_,rfl⟩:=List.mem_map.1 hv; rfl)
 have he:(List.take (off+0) (F.map (Value.int .u8)).toArray.toList++ys.map (Value.int .u8)++List.drop (off+0+(ys.map (Value.int .u8)).length) (F.map (Value.int .u8)).toArray.toList).toArray=((F.take off++ys++F.drop (off+64)).map (Value.int .u8)).toArray:=by
  simp[hl',List.map_take,List.map_drop]
 rw[he] at hs
 have hsz:∀ w,(sizeOf 186).run Tryz.prog w=.ok 64 w:=Tryz.sizeOf186
 have hrun:(Instr.storeAt 186 (.pointer (some ⟨g,off,none⟩)) (.agg (zA ys))).run Tryz.prog w=.ok () (w.setRow g ((F.take off++ys++F.drop (off+64)).map (Value.int .u8)).toArray):=by
  simp only[Instr.storeAt,Instr.sureAddr,Sem.run_bind,Sem.run_pure,Result.andThen_ok,storeVar,hsz,Value.cells]
  simp only[jI,hl',Fj]
  simpa using hs
 unfold Oper.wp execOp
 simp only[ho,hx,hy,hrun,Sem.run_bind,Result.andThen_ok]
 exact hK _ _ h
theorem vD (x:Operand) (ho:o.op=.buildSlice 178 1 #[(0,x)]) (hgd:o.guard=none) (ys:List Int) (hx:a.eval x=.agg (zA ys)) (hl:ys.length=64)
 (h:wpList Tryz.prog ops Q rest (a.put o.dst (.slice (some ⟨w.heap.size,0,none⟩) 1 1)) (w.alloc (.cells (zA ys) 186))):wpList Tryz.prog ops Q (o::rest) a w:=by
 obtain ⟨i0,hi,hz0,hz1,hz2⟩:=info_parts uy
 refine wpList_buildSlice hgd 178 186 1 #[(0,x)] ho (zA ys) i0 (.agg (zA (noughts 64))) Tryz.underlying178 hi hz0 (by rw[hz1]; decide) (by rw[hz1]; decide) ?_ h
 rw[hz1]
 have:=Great.fill_whole (s:=64) (by omega) [.agg (zA ys)] ((Array.range (1*64)).map ((Value.agg (zA (noughts 64))).cells[· % (Value.agg (zA (noughts 64))).cells.size]!)) (by intro v hv; simp at hv; subst hv; simp[Value.cells,jI,hl]) (by simp)
 have e:(([Value.agg (zA ys)]:List Value).zipIdx 0).map (fun x=>(x.2,x.1))=(Array.map (fun (p:Nat × Operand)=>(p.1,a.eval p.2)) #[(0,x)]).toList:=by simp[hx]
 rw[e] at this
 refine this.trans ?_
 simp[Value.cells]
theorem P5 (k:Nat):madeCells (zA (noughts 64)) (k*64)=zA (noughts (k*64)):=by
 apply Array.ext
 ·simp[size_madeCells,jI,zC]
 ·intro i h1 h2
  have hi:i<k*64:=by simpa [size_madeCells] using h1
  have e1:=uK (noughts 64) (i % 64) (by rw[zC]; omega)
  have e2:=uK (noughts (k*64)) i (by rw[zC]; exact hi)
  rw[XV] at e1 e2
  rw[Array.getElem?_eq_getElem h2] at e2
  injection e2 with e2
  rw[e2]
  simp only[madeCells,Array.getElem_map,Array.getElem_range,jI,zC,getElem!_def,e1]
theorem uU (l c:Operand) (ho:o.op=.makeSlice 178 l c) (hgd:o.guard=none) (L C:Int) (k:Nat) (hl:a.eval l=.int .i64 L) (hc:a.eval c=.int .i64 C) (hL:L=k) (hC:C=k) (hk:k≤2199023255552)
 (h:wpList Tryz.prog ops Q rest (a.put o.dst (.slice (some ⟨w.heap.size,0,none⟩) k k)) (w.alloc (.cells (zA (noughts (k*64))) 186))):wpList Tryz.prog ops Q (o::rest) a w:=by
 obtain ⟨i0,hi,hz0,hz1,hz2⟩:=info_parts uy
 refine wpList_plain hgd fun K hK=>?_
 subst hL hC
 have hr:=run_make (P:=Tryz.prog) w 178 186 i0 (.agg (zA (noughts 64))) Tryz.underlying178 hi hz0 .i64 .i64 k k (by omega) (by omega) (by rw[hz2]; omega) (by omega)
 simp only[Int.toNat_natCast,hz1,Value.cells,P5] at hr
 unfold Oper.wp
 simp[execOp,ho,hl,hc,hr,Result.andThen]
 exact hK _ _ h
theorem K8 (w:World) (ty:TypeId) (base:Nat) (v:Value) (n:Nat) (xs:List Value) (hown:w.ownsRow base 186 64 v n xs)
 (S:Nat→Prop) (A:Option Addr) (m c:Nat) (rY:List (List Int)) (hr:RowK w S A m rY) (rD:qY rY) (hnil:A=none→c=0)
 (h63:n+m≤maxLen) (hbytes:(n+m)*64≤140737488355328) (hbase:base≤w.heap.size) :
 ∃ v' w',(Builtin.append_ #[178,178] ty #[v,.slice A m c]).run Tryz.prog w=.ok v' w'∧w'.ownsRow base 186 64 v' (n+m) (xs++(flat rY).map (Value.int .u8))∧w.grownBy w' v.ownBlock ∧
  (v'.ownBlock=v.ownBlock∨v'.ownBlock=some w.heap.size):=by
 obtain ⟨i0,hi,hz0,hz1,hz2⟩:=info_parts uy
 have hl:=hr.1
 rcases A with _ | ad
 ·have hm:m=0:=by
   rcases Nat.eq_zero_or_pos m with h0 | h0
   ·exact h0
   ·obtain ⟨_,_,h1,_⟩:=hr.2 h0
    cases h1
  subst hm
  have hn:rY=[]:=List.eq_nil_of_length_eq_zero hl
  subst hn
  rw[hnil rfl]
  exact ⟨v,w,run_append_owned_none (P:=Tryz.prog) (w:=w) base 178 ty 186 i0 64 Tryz.underlying178 hi v n xs hown,by simpa [flat] using hown,World.grownBy.refl w _,.inl rfl⟩
 ·obtain ⟨v',w',h1,h2,h3,_,h4⟩:=run_append_own_at (P:=Tryz.prog) w base 178 ty 186 i0 (.agg (zA (noughts 64))) 64 64 Tryz.underlying178 hi hz0 hz1 hz2 (by simp[Value.cells,jI,zC]) (by omega) v n xs hown ad m c ((flat rY).map (Value.int .u8)) (by rw[List.length_map,jl rD,hl])
   (fun j u hu=>by
     have hm:0<m:=by
      rcases Nat.eq_zero_or_pos m with h0 | h0
      ·have:rY=[]:=List.eq_nil_of_length_eq_zero (by omega)
       subst this
       simp[flat] at hu
      ·exact h0
     obtain ⟨ad',e,hc⟩:=hr.src rD hm
     injection e with e
     subst e
     exact hc j u hu)
   (fun u hu=>by
     obtain ⟨q,_,rfl⟩:=List.mem_map.1 hu
     rfl) h63 hbytes hbase
  exact ⟨v',w',h1,h2,h3,h4⟩
theorem rZ (s x:Operand) (ho:o.op=.call { callee:=.builtin .append,args:=#[s,x],argTypes:=#[178,178] }) (hgd:o.guard=none)
 (base:Nat) (v:Value) (n:Nat) (xs:List Value) (hs:a.eval s=v) (hown:w.ownsRow base 186 64 v n xs)
 (S:Nat→Prop) (A:Option Addr) (m c:Nat) (rY:List (List Int)) (hx:a.eval x=.slice A m c) (hr:RowK w S A m rY) (rD:qY rY) (hnil:A=none→c=0)
 (h63:n+m≤maxLen) (hbytes:(n+m)*64≤140737488355328) (hbase:base≤w.heap.size)
 (h:∀ v' w',w'.ownsRow base 186 64 v' (n+m) (xs++(flat rY).map (Value.int .u8))→w.grownBy w' v.ownBlock→(v'.ownBlock=v.ownBlock∨v'.ownBlock=some w.heap.size)→wpList Tryz.prog ops Q rest (a.put o.dst v') w') :
 wpList Tryz.prog ops Q (o::rest) a w:=by
 obtain ⟨v',w',hrun,h2,h3,h4⟩:=K8 w o.type base v n xs hown S A m c rY hr rD hnil h63 hbytes hbase
 refine wpList_plain hgd fun K hK=>?_
 unfold Oper.wp execOp
 simp only[ho,resolve,invoke,builtin,Sem.run_bind,Sem.run_pure,Result.andThen_ok,List.map_toArray,List.map_cons,List.map_nil,hs,hx,hrun]
 exact hK _ _ (h v' w' h2 h3 h4)
end
end
section
theorem qY.set_ {L:List (List Int)} (h:qY L) (k:Nat) {ys:List Int} (hy:ys.length=64):qY (L.set k ys):=fun xs hx=>by
 rcases List.mem_or_eq_of_mem_set hx with h1 | h1
 ·exact h xs h1
 ·rw[h1]; exact hy
theorem Rd.far {w:World} {r g:Nat} {xs:List Int} {pos:Nat} {err:Int} (h:Rd w r g xs pos err) {p:Addr} (h1:p.block≠r) (h2:p.block≠g) (u:Value):Rd (w.setCell p u) r g xs pos err :=
 ⟨h.1.far (fun e=>h1 e.symm) u,z8.far h.2.1 (fun e=>h2 e.symm) u,h.2.2⟩
end
section
theorem lX:(Tryz.prog.info? 203).map (·.size)=some 3:=by kernel_rfl
end
section
def uF (gen pos n:Int):List Int:=beBytes gen 8++beBytes pos 4++beBytes n 2++beBytes 0 2
def qU (gen pos:Int) (pay:List Int):List Int:=uF gen pos pay.length++pay++noughts (48-pay.length)
theorem o8 (gen pos n:Int):(uF gen pos n).length=16:=by simp[uF,beBytes_length]
theorem wD (gen pos:Int) (pay:List Int) (h:pay.length≤48):(qU gen pos pay).length=64:=by simp[qU,o8,zC]; omega
theorem Wo (pos:Int) (A:Option Addr) (n cap:Nat) (w:World) :
 Calls Tryz.prog 171 #[.int .u64 0,.int .u32 pos,.slice A n cap] w fun e w'=>e=.returned (.tuple #[.agg (zA (noughts 64)),.int .i64 2])∧Below w.heap.size w w':=by
 go_enter Tryz.func171,Tryz.ntmps171
 go_wp2_with (first | (with_reducible refine zJ ?_) | (refine zG rfl rfl ?_) | (refine wS rfl rfl ?_) | (refine zU _ _ rfl rfl w (noughts 64) rfl rfl (noughts 64) rfl (zC 64) (zC 64) ?_))
 exact Halt.ret (x9 rfl _ _ w.heap.size 186 (noughts 64) rfl (z8.new w _ _) (zC 64)) rfl ⟨rfl,(Below.refl _ _).alloc (nR _) _⟩
theorem Bz {α:Type} (H zs cs:List α) (k:Nat) (z:α) (h:zs=H++List.replicate k z) (hk:cs.length≤k):splice zs H.length cs=H++cs++List.replicate (k-cs.length) z:=by
 subst h
 unfold splice
 rw[List.take_left,List.drop_append,List.drop_eq_nil_of_le (by omega),List.nil_append,List.drop_replicate,show k-(H.length+cs.length-H.length)=k-cs.length by omega,List.append_assoc]
theorem iN (gen pos:Int) (A:Option Addr) (n cap:Nat) (xs:List Int) (S:Nat→Prop) (w:World) (hx:zW .u8 w S A n xs) (hS:∀ b,S b→b<w.heap.size)
 (hg:1≤gen) (hg2:gen≤18446744073709551615) (hp:0≤pos) (hp2:pos≤4294967295) (hn:n≤48) :
 Calls Tryz.prog 171 #[.int .u64 gen,.int .u32 pos,.slice A n cap] w fun e w'=>e=.returned (.tuple #[.agg (zA (qU gen pos xs)),.int .i64 0])∧Below w.heap.size w w':=by
 have h0:(gen==0)=false:=by simp; omega
 have h1:decide ((48:Int)<(n:Int))=false:=by simp; omega
 have HX:=hI hx
 have HL:=hI hx.1
 clear hx
 go_enter Tryz.func171,Tryz.ntmps171
 go_wp2_with (first | (with_reducible refine zJ ?_) | (refine zG rfl rfl ?_))
 generalize hw1:w.alloc (.cells (zA (noughts 64)) 186)=w1
 have HB1:=hI (show Below w.heap.size w w1 by rw[← hw1]; exact (Below.refl _ _).alloc (nR _) _)
 have HR1:=hI (show qB w1 w.heap.size (noughts 64) by rw[← hw1]; exact z8.new w _ _)
 clear hw1
 refine (wN none 0 0 [] (fun _=>False) gen _ (xD.nil _ _ _ _ _) (fun _ h=>h.elim) (by omega) (by omega) hg2).mono ?_
 rintro e w2 ⟨rfl,ha,hb⟩
 have HA2:=hI ha
 have HB2:=hI hb
 clear ha hb
 go_wp2_with fail
 refine (Qx (some ⟨w1.heap.size,0,none⟩) 8 8 ([]++beBytes gen 8) (·=w1.heap.size) pos _ (HA2.out.rowN 0 (by simp[beBytes_length]) rfl) (fun b h=>by subst h; exact HA2.out.lt) (by omega) hp hp2).mono ?_
 rintro e w3 ⟨rfl,ha,hb⟩
 have yt:=hI ha
 have HB3:=hI (HB2.out.trans (hb.mono HB2.out.size))
 clear ha hb HA2 HB2
 go_wp2_with fail
 refine (fP (some ⟨w2.heap.size,0,none⟩) 12 12 ([]++beBytes gen 8++beBytes pos 4) (·=w2.heap.size) n _ (yt.out.rowN 0 (by simp[beBytes_length]) rfl) (fun b h=>by subst h; exact yt.out.lt) (by omega) (by omega) (by omega)).mono ?_
 rintro e w4 ⟨rfl,ha,hb⟩
 have lS:=hI ha
 have zq:=hI (HB3.out.trans (hb.mono HB3.out.size))
 clear ha hb yt HB3
 go_wp2_with fail
 refine (fP (some ⟨w3.heap.size,0,none⟩) 14 14 ([]++beBytes gen 8++beBytes pos 4++beBytes n 2) (·=w3.heap.size) 0 _ (lS.out.rowN 0 (by simp[beBytes_length]) rfl) (fun b h=>by subst h; exact lS.out.lt) (by omega) (by omega) (by omega)).mono ?_
 rintro e w5 ⟨rfl,ha,hb⟩
 have mI:=hI (show zn w5 w4.heap.size (uF gen pos xs.length) by rw[show (xs.length:Int)=n by rw[HL.out]]; simpa [uF] using ha)
 have qM:=hI (zq.out.trans (hb.mono zq.out.size))
 clear ha hb lS zq
 generalize hh:uF gen pos xs.length=hd at *
 have HH:=hI hh
 have JE:hd.length=16:=by rw[← hh]; exact o8 _ _ _
 obtain ⟨w6,xB⟩:∃ w6,w6=w5.alloc (.cells (zA (noughts 64)) 186):=⟨_,rfl⟩
 have qK:=hI (show Below w1.heap.size w1 w6 by rw[xB]; exact qM.out.alloc qM.out.size _)
 have Y6:=hI (show w6.heap[w5.heap.size]? = some (.cells ((noughts 64).map (Value.int .u8)).toArray 186 (0,0)) by rw[xB]; exact z8.new w5 _ _)
 have gU:=hI (show zn w6 w4.heap.size hd by rw[xB]; exact z8.alloc mI.out _)
 have nS:=hI xB
 have Qi:=hI qM.out.size
 have pO:=hI (show qB w6 w.heap.size (noughts 64) from HR1.out.below qK.out HR1.out.lt)
 have Qa:=hI ((HX.out.below HB1.out hS).below qK.out (fun b h=>nL (hS b h) HB1.out.size))
 have c1:=hI (show (hd.map (Value.int .u8)).length=Nat.min 16 64 by simp[JE])
 have c2:=hI (ng (gU.out.rowN 0 JE (S:=fun _=>True) trivial) (by omega))
 have c3:=hI (show 0+(hd.map (Value.int .u8)).length≤((noughts 64).map (Value.int .u8)).length by simp[JE,zC])
 have d1:=hI (show splice ((noughts 64).map (Value.int .u8)) 0 (hd.map (Value.int .u8))=(hd++noughts 48).map (Value.int .u8) by
  rw[eT _ _ 48 (Value.int .u8 0) (by simp[noughts,JE])]
  simp[noughts])
 have c4:=hI (show (xs.map (Value.int .u8)).length=Nat.min n 48 by rw[List.length_map,HL.out]; exact (Nat.min_eq_left hn).symm)
 have c6:=hI (show 16+(xs.map (Value.int .u8)).length≤((hd++noughts 48).map (Value.int .u8)).length by simp[JE,zC]; have:=HL.out; omega)
 have d2:=hI (show splice ((hd++noughts 48).map (Value.int .u8)) 16 (xs.map (Value.int .u8))=(hd++xs++noughts (48-xs.length)).map (Value.int .u8) by
  have:=Bz (hd.map (Value.int .u8)) ((hd++noughts 48).map (Value.int .u8)) (xs.map (Value.int .u8)) 48 (.int .u8 0) (by simp[noughts]) (by simp; have:=HL.out; omega)
  rw[List.length_map,JE] at this
  rw[this]
  simp[noughts])
 have Z5:=hI (wD gen pos xs (by have:=HL.out; omega))
 clear hh xB JE mI
 go_wp2_with (first | (refine zG rfl rfl ?_; rw[← nS.out]) | (refine wpList_copy_splice rfl (.tmp 31) (.tmp 32) 31 31 rfl 5 Tryz.underlying31 fM _ _ _ _ _ _ rfl rfl w5.heap.size 0 ((noughts 64).map (Value.int .u8)) 186 Y6.out (hd.map (Value.int .u8)) c1.out (fun _=>⟨rfl,c2.out⟩) c3.out (uj hd) w1.heap.size w1 qK.out Qi.out ?_; intro w7 aQ jy; rw[d1.out] at aQ; have Y5:=hI aQ; have kN:=hI jy; have HX7:=hI ((HX.out.below HB1.out hS).below kN.out (fun b h=>nL (hS b h) HB1.out.size)); clear aQ jy) | (refine wpList_copy_splice rfl (.tmp 36) (.tmp 37) 31 31 rfl 5 Tryz.underlying31 fM _ _ _ _ _ _ rfl rfl w5.heap.size 16 ((hd++noughts 48).map (Value.int .u8)) 186 Y5.out (xs.map (Value.int .u8)) c4.out (fun h=>⟨rfl,ng HX7.out (by simpa [HL.out] using h)⟩) c6.out (uj xs) w1.heap.size w1 kN.out Qi.out ?_; intro w8 lC jK; rw[d2.out] at lC; have VO:=hI (show qB w8 w5.heap.size (qU gen pos xs) by rw[qU,HH.out]; exact lC); have yj:=hI jK; clear lC jK) |
  (refine zQ (.tmp 9) rfl rfl w5.heap.size 0 rfl (qU gen pos xs) Z5.out VO.out.range ?_) |
  (refine jM (.tmp 6) (.tmp 39) rfl rfl w.heap.size (qU gen pos xs) rfl rfl 186 (noughts 64) (HR1.out.below yj.out HR1.out.lt) (zC 64) Z5.out ?_) |
  (with_reducible refine zJ ?_))
 exact Halt.ret (x9 rfl _ _ w.heap.size 186 (qU gen pos xs) rfl ((HR1.out.below yj.out HR1.out.lt).setRow (qU gen pos xs)) Z5.out) rfl
  ⟨rfl,below_setRow (HB1.out.trans (yj.out.mono HB1.out.size)) (nR _) _⟩
end
-- x
section
theorem L8 (w:World) (r g:Nat) (xs:List Int) (pos n:Nat) (h:Rd w r g xs pos 0) (hn:xs.length-pos<n) :
 Calls Tryz.prog 180 #[.pointer (some ⟨r,0,none⟩),.int .i64 n] w fun e w'=>∃ b,e=.returned (.slice (some ⟨b,0,none⟩) 0 0)∧w.heap.size≤b ∧
  b<w'.heap.size∧Kept (fun b=>b<w.heap.size∧b≠r) w w':=by
 have H:=hI h
 clear h
 go_enter Tryz.func180,Tryz.ntmps180
 go_wp2_with (first
  | (go_at_call 207; refine (Na _ r g xs pos n H.out hn).mono ?_; rintro e w1 ⟨rfl,hrd,hk⟩; have HD:=hI hrd; have HK:=hI hk; clear hrd hk)
  | (go_at_call 205; refine (aR none 0 0 [] (fun _=>False) _ (xD.nil _ _ _ _ _) (fun _ h=>h.elim) (by omega)).mono ?_; rintro e w2 ⟨rfl,ha,hb⟩; have HA:=hI ha; have HB:=hI hb; clear ha hb))
 go_ret
 exact ⟨_,rfl,HK.out.size,HA.out.lt,HK.out.below HB.out (fun b h=>nL h.1 HK.out.size)⟩
def qD (xs:List Int):Int:=numOf (xs.take 8)
def posOf (xs:List Int):Int:=numOf ((xs.drop 8).take 4)
def qJ (xs:List Int):Nat:=(numOf ((xs.drop 12).take 2)).toNat
def zS (xs:List Int):List Int:=if qJ xs≤48 then (xs.drop 16).take (qJ xs) else []
theorem fill_eq {xs:List Int} (hb:Bytes xs):numOf ((xs.drop 12).take 2)=(qJ xs:Int):=by
 have:=(jT _ (jW hb 12 2)).1
 unfold qJ
 omega
theorem Ho {xs:List Int} (hb:Bytes xs):qJ xs≤65535:=by
 have h:=(jT _ (jW hb 12 2)).2
 have h2:((xs.drop 12).take 2).length≤2:=by simp; omega
 have h3:(256 ^ ((xs.drop 12).take 2).length:Nat)≤256 ^ 2:=Nat.pow_le_pow_right (by omega) h2
 unfold qJ
 omega
theorem Zq {xs:List Int} (hb:Bytes xs) (hl:xs.length=64):0≤qD xs∧qD xs≤18446744073709551615:=by
 have h:=jT _ (hb.take 8)
 rw[List.length_take,hl] at h
 exact ⟨h.1,Int.le_of_lt_add_one h.2⟩
theorem ZW {xs:List Int} (hb:Bytes xs) (hl:xs.length=64):0≤posOf xs∧posOf xs≤4294967295:=by
 have h:=jT _ (jW hb 8 4)
 rw[List.length_take,List.length_drop,hl] at h
 exact ⟨h.1,Int.le_of_lt_add_one h.2⟩
theorem nu (xs:List Int):(zS xs).length≤48:=by
 unfold zS
 split
 ·simp; omega
 ·simp
theorem LA (w:World) (r g:Nat) (xs:List Int) (h:Rd w r g xs 16 0) (hl:xs.length=64) :
 Calls Tryz.prog 180 #[.pointer (some ⟨r,0,none⟩),.int .i64 (qJ xs)] w fun e w'=>∃ b,e=.returned (.slice (some ⟨b,0,none⟩) (zS xs).length (zS xs).length) ∧
  zW .u8 w' (fun b=>w.heap.size≤b∧b<w'.heap.size) (some ⟨b,0,none⟩) (zS xs).length (zS xs)∧Kept (fun b=>b<w.heap.size∧b≠r) w w':=by
 by_cases hf:qJ xs≤48
 ·have hm:zS xs=(xs.drop 16).take (qJ xs):=if_pos hf
  have hml:(zS xs).length=qJ xs:=by rw[hm]; simp; omega
  refine (zED w r g xs 16 (qJ xs) h (by omega)).mono ?_
  rintro e w' ⟨b,rfl,hb,ha,hk⟩
  rw[← hm] at ha
  refine ⟨b,by rw[hml],ha.row 0 ⟨hb,ha.lt⟩,hk⟩
 ·have hm:zS xs=[]:=if_neg hf
  refine (L8 w r g xs 16 (qJ xs) h (by omega)).mono ?_
  rintro e w' ⟨b,rfl,hb,hlt,hk⟩
  rw[hm]
  exact ⟨b,rfl,xD.nil _ _ _ _ _,hk⟩
def zAL (xs:List Int) (w:World) (e:Ending) (w':World):Prop :=
 ∃ A c,e=.returned (.tuple #[.agg #[.int .u64 (qD xs),.int .u32 (posOf xs),.int .i64 (qJ xs)],.slice A (zS xs).length c]) ∧
  zW .u8 w' (fun b=>w.heap.size≤b∧b<w'.heap.size) A (zS xs).length (zS xs)∧Below w.heap.size w w'∧(A=none→c=0)
def O1 (xs:List Int) (w:World) (e:Ending) (w':World):Prop :=
 ∃ A c,e=.returned (.tuple #[.agg #[.int .u64 (qD xs),.int .u32 (posOf xs),.int .i64 (qJ xs)],.slice A (zS xs).length c]) ∧
  zW .u8 w' (fun b=>w.heap.size≤b∧b<w'.heap.size) A (zS xs).length (zS xs)∧Below w.heap.size w w'∧(A=none→c=0)∧(zS xs).length≤c
structure Saying (w wi:World) (r:Nat) (xs:List Int) (pos:Nat) (A B C:Value):Prop where
 rd:Rd wi r (w.heap.size+3) xs pos 0
 lo:w.heap.size+3<r
 zero:z8 wi (w.heap.size+1) 203 #[.int .u64 0,.int .u32 0,.int .i64 0]
 st:z8 wi (w.heap.size+1+1) 203 #[A,B,C]
 bel:Below w.heap.size w wi
theorem Saying.cells {w wi w':World} {r:Nat} {xs:List Int} {pos:Nat} {A B C:Value} (h:Saying w wi r xs pos A B C) (hk:Kept (fun b=>b<wi.heap.size∧b≠r) wi w') :
 (w'.cell? ⟨w.heap.size+1+1,0,none⟩=some A∧w'.cell? ⟨w.heap.size+1+1,1,none⟩=some B∧w'.cell? ⟨w.heap.size+1+1,2,none⟩=some C)∧z8 w' (w.heap.size+1) 203 #[.int .u64 0,.int .u32 0,.int .i64 0]:=by
 have hs:=h.st.kept hk ⟨h.st.lt,by have:=h.lo; omega⟩
 exact ⟨⟨hs.cell 0,hs.cell 1,hs.cell 2⟩,h.zero.kept hk ⟨h.zero.lt,by have:=h.lo; omega⟩⟩
theorem Saying.drew {w wi:World} {r:Nat} {xs:List Int} {pos:Nat} {A B C:Value} (h:Saying w wi r xs pos A B C):Saying w wi.drew r xs pos A B C:=⟨h.rd,h.lo,h.zero,h.st,h.bel.drew⟩
theorem Saying.read {w wi w':World} {r:Nat} {xs:List Int} {pos pos':Nat} {A B C:Value} (h:Saying w wi r xs pos A B C) (hr:Rd w' r (w.heap.size+3) xs pos' 0) (hk:Kept (fun b=>b<wi.heap.size∧b≠r) wi w'):Saying w w' r xs pos' A B C :=
 ⟨hr,h.lo,h.zero.kept hk ⟨h.zero.lt,by have:=h.lo; omega⟩,h.st.kept hk ⟨h.st.lt,by have:=h.lo; omega⟩,h.bel.trans (hk.to_below fun b hb=>⟨nL hb h.bel.size,by have:=h.lo; omega⟩)⟩
theorem Saying.set {w wi:World} {r:Nat} {xs:List Int} {pos:Nat} {A B C A' B' C':Value} (h:Saying w wi r xs pos A B C) (i:Nat) (u:Value) (hu:(#[A,B,C]:Array Value).setIfInBounds i u=#[A',B',C']) :
 Saying w (wi.setCell ⟨w.heap.size+1+1,i,none⟩ u) r xs pos A' B' C' :=
 ⟨h.rd.far (by have:=h.lo; show w.heap.size+1+1≠r; omega) (by show w.heap.size+1+1≠w.heap.size+3; omega) u,h.lo,h.zero.far (by show w.heap.size+1≠w.heap.size+1+1; omega) u,hu▸h.st.set_ i u,h.bel.setCell (by show w.heap.size≤w.heap.size+1+1; omega) u⟩
theorem WY (xs:List Int) (w:World) (hl:xs.length=64) (hb:Bytes xs) :
 Calls Tryz.prog 175 #[.agg (zA xs)] w (O1 xs w):=by
 have qm:=hI hb
 have HL:=hI hl
 clear hb hl
 go_enter Tryz.func175,Tryz.ntmps175
 go_wp2_with fail
 generalize hw1:((w.alloc _).alloc _).alloc _=w1
 have zJJ:=hI (show Below w.heap.size w w1 by rw[← hw1]; exact (((Below.refl _ _).alloc (nR _) _).alloc (by simp) _).alloc (by simp; omega) _)
 have ql:=hI (show w1.heap.size=w.heap.size+3 by rw[← hw1]; simp)
 have pJ:=hI (show qB w1 w.heap.size xs by rw[← hw1]; exact ((z8.new w _ _).alloc _).alloc _)
 have HZ1:=hI (show z8 w1 (w.heap.size+1) 203 #[.int .u64 0,.int .u32 0,.int .i64 0] by rw[← hw1]; have:=(z8.new (w.alloc (.cells (zA xs) 186)) 203 #[.int .u64 0,.int .u32 0,.int .i64 0]).alloc (.cells #[.int .u64 0,.int .u32 0,.int .i64 0] 203); simpa using this)
 have HT1:=hI (show z8 w1 (w.heap.size+1+1) 203 #[.int .u64 0,.int .u32 0,.int .i64 0] by rw[← hw1]; have:=z8.new ((w.alloc (.cells (zA xs) 186)).alloc (.cells #[.int .u64 0,.int .u32 0,.int .i64 0] 203)) 203 #[.int .u64 0,.int .u32 0,.int .i64 0]; simpa using this)
 clear hw1
 refine (ZV _ 64 64 xs (·=w.heap.size) w1 (pJ.out.rowN 0 HL.out rfl) (fun b h=>by have:=ql.out; omega) (by omega)).mono ?_
 rintro e w2 ⟨r,rfl,hr,hrd,hb⟩
 have V7:=hI (show Saying w w2 r xs 0 (.int .u64 0) (.int .u32 0) (.int .i64 0) from
  ⟨by rw[← ql.out]; exact hrd,by have:=ql.out; omega,HZ1.out.below hb (by have:=ql.out; omega),HT1.out.below hb (by have:=ql.out; omega),zJJ.out.trans (hb.mono zJJ.out.size)⟩)
 clear hr hrd hb
 go_wp2_with fail
 refine (TU w2 r _ xs 0 V7.out.rd (by have:=HL.out; omega) qm.out).mono ?_
 rintro e w3 ⟨rfl,hrd,hk⟩
 rw[List.drop_zero]
 have iy:=hI ((V7.out.read hrd hk).set 0 (.int .u64 (qD xs)) rfl)
 have hc:=(V7.out.read hrd hk).st.cell 0
 have hf:=(V7.out.read hrd hk).st.frozen 0
 clear hrd hk
 go_wp2_with fail
 refine (Br _ r _ xs 8 iy.out.rd (by have:=HL.out; omega) qm.out).mono ?_
 rintro e w4 ⟨rfl,hrd,hk⟩
 have V6:=hI ((iy.out.read hrd hk).set 1 (.int .u32 (posOf xs)) rfl)
 have hc:=(iy.out.read hrd hk).st.cell 1
 have hf:=(iy.out.read hrd hk).st.frozen 1
 clear hrd hk
 go_wp2_with fail
 refine (Yw _ r _ xs 12 V6.out.rd (by have:=HL.out; omega) qm.out).mono ?_
 rintro e w5 ⟨rfl,hrd,hk⟩
 rw[fill_eq qm.out]
 have CW:=hI ((V6.out.read hrd hk).set 2 (.int .i64 (qJ xs)) rfl)
 have hc:=(V6.out.read hrd hk).st.cell 2
 have hf:=(V6.out.read hrd hk).st.frozen 2
 have hfl:=Ho qm.out
 clear hrd hk
 go_wp2_with fail
 refine (Yw _ r _ xs 14 CW.out.rd (by have:=HL.out; omega) qm.out).mono ?_
 rintro e w6 ⟨rfl,hrd,hk⟩
 have pI:=hI (CW.out.read hrd hk)
 clear hrd hk
 go_wp2_with fail
 have c0:=pI.out.st.cell 0
 have c1:=pI.out.st.cell 1
 have c2:=pI.out.st.cell 2
 simp only[List.getElem?_toArray,List.getElem?_cons_zero,List.getElem?_cons_succ] at c0 c1 c2
 go_region_held3 (fun W=>W.cell? ⟨w.heap.size+1+1,0,none⟩=some (.int .u64 (qD xs))∧W.cell? ⟨w.heap.size+1+1,1,none⟩=some (.int .u32 (posOf xs))∧W.cell? ⟨w.heap.size+1+1,2,none⟩=some (.int .i64 (qJ xs)))
  (first | exact ⟨c0,c1,c2⟩ | exact ⟨d0,d1,d2⟩ | exact ⟨e0,e1,e2⟩)
  (first
    | (go_at_call 180; refine (LA _ r (w.heap.size+3) xs ?_ ?_).mono ?_; exact pI.out.rd; exact HL.out; rintro e w7 ⟨b7,rfl,hrow,hk⟩; have xR:=hI hrow; have lN:=hI hk; clear hrow hk; have hcz:=pI.out.drew.cells lN.out; obtain ⟨⟨d0,d1,d2⟩,hz⟩:=hcz; have ig:=hI hz; have z0:=hz.cell 0; have z1:=hz.cell 1; have z2:=hz.cell 2; have y0:=hz.frozen 0; have y1:=hz.frozen 1; have y2:=hz.frozen 2; have e0:=(sP w7 (w.heap.size+1) (.int .u64 (qD xs)) (.int .u32 (posOf xs)) (.int .i64 (qJ xs)) (show w.heap.size+1+1≠w.heap.size+1 by omega)).trans d0; have e1:=(sP w7 (w.heap.size+1) (.int .u64 (qD xs)) (.int .u32 (posOf xs)) (.int .i64 (qJ xs)) (show w.heap.size+1+1≠w.heap.size+1 by omega)).trans d1; have e2:=(sP w7 (w.heap.size+1) (.int .u64 (qD xs)) (.int .u32 (posOf xs)) (.int .i64 (qJ xs)) (show w.heap.size+1+1≠w.heap.size+1 by omega)).trans d2; clear hz; simp only[List.getElem?_toArray,List.getElem?_cons_zero,List.getElem?_cons_succ] at z0 z1 z2))
 clear c0 c1 c2 d0 d1 d2 z0 z1 z2 y0 y1 y2 e0 e1 e2
 go_wp2_with (with_reducible refine zJ ?_)
 have hz:=ig.out.set3 (.int .u64 (qD xs)) (.int .u32 (posOf xs)) (.int .i64 (qJ xs))
 refine Halt.ret (zy rfl _ _ (w.heap.size+1) 203 _ _ rfl hz Tryz.underlying203 rfl lX) rfl ⟨_,_,rfl,?_,?_,(fun h=>by cases h),nR _⟩
 ·have jy:=pI.out.bel.size
  have hs1:=pI.out.st.lt
  refine (xR.out.keep (fun p hp=>sP w7 (w.heap.size+1) _ _ _ ?_)).more (fun b hb=>⟨?_,?_⟩)
  ·have:=hp.1
   have h6:w6.drew.heap.size=w6.heap.size:=rfl
   omega
  ·have h6:w6.drew.heap.size=w6.heap.size:=rfl
   omega
  ·simpa using hb.2
 ·exact nD (pI.out.drew.bel.trans (lN.out.to_below fun b hb=>⟨nL hb pI.out.drew.bel.size,by have:=pI.out.lo; omega⟩)) (by omega) _ _ _
theorem AV (xs:List Int) (w:World) (hl:xs.length=64) (hb:Bytes xs):Calls Tryz.prog 175 #[.agg (zA xs)] w (zAL xs w) :=
 (WY xs w hl hb).mono fun _ _ ⟨A,c,h1,h2,h3,h4,_⟩=>⟨A,c,h1,h2,h3,h4⟩
end
section
def stamped (xs:List Int):Bool:=decide (1≤qD xs)&&(qU (qD xs) (posOf xs) (zS xs)==xs)
def zAO (xs:List Int) (w:World) (e:Ending) (w':World):Prop :=
 ∃ A c,e=.returned (.tuple #[.agg #[.int .u64 (qD xs),.int .u32 (posOf xs),.int .i64 (qJ xs)],.slice A (zS xs).length c,.int .i64 0]) ∧
  zW .u8 w' (fun b=>w.heap.size≤b∧b<w'.heap.size) A (zS xs).length (zS xs)∧Below w.heap.size w w'∧(A=none→c=0)
def Pk (xs:List Int) (w:World) (e:Ending) (w':World):Prop :=
 ∃ A c,e=.returned (.tuple #[.agg #[.int .u64 (qD xs),.int .u32 (posOf xs),.int .i64 (qJ xs)],.slice A (zS xs).length c,.int .i64 0]) ∧
  zW .u8 w' (fun b=>w.heap.size≤b∧b<w'.heap.size) A (zS xs).length (zS xs)∧Below w.heap.size w w'∧(A=none→c=0)∧(zS xs).length≤c
theorem YK (xs:List Int) (w:World) (hl:xs.length=64) (hb:Bytes xs) (hst:stamped xs=true) :
 Calls Tryz.prog 125 #[.agg (zA xs)] w (Pk xs w):=by
 have hgb:=Zq hb hl
 have hpb:=ZW hb hl
 have hml:=nu xs
 have hpk:=wD (qD xs) (posOf xs) (zS xs) hml
 have hg1:1≤qD xs:=by simp[stamped] at hst; exact hst.1
 have hsame:(qU (qD xs) (posOf xs) (zS xs)==xs)=true:=by simp[stamped] at hst; simpa using hst.2
 have qm:=hI hb
 have HL:=hI hl
 have BH:=hI hgb
 have OH:=hI hpb
 have Jd:=hI hpk
 have zJo:=hI hsame
 have HX0:=hI (show qB ((w.alloc (.cells (zA xs) 186)).alloc (.cells #[.int .u64 0,.int .u32 0,.int .i64 0] 203)) w.heap.size xs from (z8.new w _ _).alloc _)
 clear hb hl hst hgb hpb hpk hsame
 go_enter Tryz.func125,Tryz.ntmps125
 go_wp2_with (refine zQ (.tmp 1) rfl rfl w.heap.size 0 rfl xs HL.out HX0.out.range ?_)
 generalize hw1:(w.alloc _).alloc _=w1 at *
 have HZ1:=hI (show z8 w1 (w.heap.size+1) 203 #[.int .u64 0,.int .u32 0,.int .i64 0] by rw[← hw1]; have:=z8.new (w.alloc (.cells (zA xs) 186)) 203 #[.int .u64 0,.int .u32 0,.int .i64 0]; simpa using this)
 have HB1:=hI (show Below w.heap.size w w1 by rw[← hw1]; exact ((Below.refl _ _).alloc (nR _) _).alloc (by simp) _)
 clear hw1
 refine (WY xs w1 HL.out qm.out).mono ?_
 rintro e w2 ⟨A,c,rfl,hrow,hb,hnil,hcap⟩
 have iG:=hI (And.intro hnil hcap)
 clear hnil hcap
 have HR2:=hI hrow
 have HB2:=hI hb
 have HZ2:=hI (HZ1.out.below hb HZ1.out.lt)
 have dV:=hI (HX0.out.below hb HX0.out.lt)
 clear hrow hb
 go_wp2_with fail
 generalize hw3:w2.alloc _=w3 at *
 have hb3:Below w2.heap.size w2 w3:=by rw[← hw3]; exact (Below.refl _ _).alloc (nR _) _
 have yG:=hI (show z8 w3 w2.heap.size 203 #[.int .u64 (qD xs),.int .u32 (posOf xs),.int .i64 (qJ xs)] by rw[← hw3]; exact z8.new w2 _ _)
 have HB3:=hI hb3
 have HR3:=hI (HR2.out.below hb3 (fun b h=>h.2))
 clear hw3 hb3
 refine (iN (qD xs) (posOf xs) A (zS xs).length c (zS xs) _ w3 HR3.out (fun b h=>nL h.2 HB3.out.size) hg1 BH.out.2 OH.out.1 OH.out.2 hml).mono ?_
 rintro e w4 ⟨rfl,hb⟩
 have zq:=hI hb
 have nQ:=hI ((dV.out.below HB3.out dV.out.lt).below hb (nL dV.out.lt HB3.out.size))
 have JY:=hI ((HZ2.out.below HB3.out HZ2.out.lt).below hb (nL HZ2.out.lt HB3.out.size))
 have yg:=hI (yG.out.below hb yG.out.lt)
 have HR4:=hI (HR3.out.below hb (fun b h=>nL h.2 HB3.out.size))
 obtain ⟨w5,jH⟩:∃ w5,w5=w4.alloc (.cells (zA (qU (qD xs) (posOf xs) (zS xs))) 186):=⟨_,rfl⟩
 have sU:=hI (show qB w5 w.heap.size xs by rw[jH]; exact nQ.out.alloc _)
 have VA:=hI (show qB w5 w4.heap.size (qU (qD xs) (posOf xs) (zS xs)) by rw[jH]; exact z8.new w4 _ _)
 have aj:=hI (show z8 w5 w2.heap.size 203 #[.int .u64 (qD xs),.int .u32 (posOf xs),.int .i64 (qJ xs)] by rw[jH]; exact yg.out.alloc _)
 have xK:=hI (show z8 w5 (w.heap.size+1) 203 #[.int .u64 0,.int .u32 0,.int .i64 0] by rw[jH]; exact JY.out.alloc _)
 have oP:=hI (HR4.out.below (w':=w5) (B:=w4.heap.size) (by rw[jH]; exact (Below.refl _ _).alloc (nR _) _) (fun b h=>nL h.2 (nT HB3.out.size zq.out.size)))
 have qM:=hI (show Below w4.heap.size w4 w5 by rw[jH]; exact (Below.refl _ _).alloc (nR _) _)
 have pK:=hI jH
 clear jH
 have c0:=aj.out.cell 0
 have c1:=aj.out.cell 1
 have c2:=aj.out.cell 2
 have z0:=xK.out.cell 0
 have z1:=xK.out.cell 1
 have z2:=xK.out.cell 2
 have y0:=xK.out.frozen 0
 have y1:=xK.out.frozen 1
 have y2:=xK.out.frozen 2
 simp only[List.getElem?_toArray,List.getElem?_cons_zero,List.getElem?_cons_succ] at c0 c1 c2 z0 z1 z2
 clear hb
 go_wp2_with (first
  | (with_reducible refine zJ ?_)
  | (refine zG rfl rfl ?_)
  | (refine zU _ _ rfl rfl w4 (qU (qD xs) (posOf xs) (zS xs)) rfl rfl (noughts 64) rfl (zC 64) Jd.out ?_; rw[← pK.out])
  | (refine zQ (.tmp 7) rfl rfl w4.heap.size 0 rfl _ Jd.out VA.out.range ?_)
  | (refine zQ (.tmp 1) rfl rfl w.heap.size 0 rfl _ HL.out sU.out.range ?_)
  | (refine gV (.tmp 26) (.tmp 27) _ rfl rfl _ _ rfl rfl Jd.out HL.out ?_; rw[zJo.out]))
 have hz:=xK.out.set3 (.int .u64 (qD xs)) (.int .u32 (posOf xs)) (.int .i64 (qJ xs))
 have hs1:=HB1.out.size
 have hs2:=HB2.out.size
 have hs3:=HB3.out.size
 have hs4:=zq.out.size
 have hs5:=qM.out.size
 have hz1:=HZ1.out.lt
 refine Halt.ret (zw rfl _ _ (w.heap.size+1) 203 _ _ rfl hz Tryz.underlying203 rfl lX) rfl ⟨_,_,rfl,?_,?_,iG.out.1,iG.out.2⟩
 ·refine (oP.out.keep (fun p hp=>sP w5 (w.heap.size+1) _ _ _ ?_)).more (fun b hb=>⟨?_,?_⟩)
  ·have:=hp.1
   omega
  ·omega
  ·have:=hb.2
   simp
   omega
 ·exact nD ((((HB1.out.trans (HB2.out.mono (by omega))).trans (HB3.out.mono (by omega))).trans (zq.out.mono (by omega))).trans (qM.out.mono (by omega))) (by omega) _ _ _
theorem R4 (xs:List Int) (w:World) (hl:xs.length=64) (hb:Bytes xs) (hst:stamped xs=true):Calls Tryz.prog 125 #[.agg (zA xs)] w (zAO xs w) :=
 (YK xs w hl hb hst).mono fun _ _ ⟨A,c,h1,h2,h3,h4,_⟩=>⟨A,c,h1,h2,h3,h4⟩
theorem YL (xs:List Int) (w:World) (hl:xs.length=64) (hb:Bytes xs) (hst:stamped xs=false) :
 Calls Tryz.prog 125 #[.agg (zA xs)] w fun e w'=>e=.returned (.tuple #[.agg #[.int .u64 0,.int .u32 0,.int .i64 0],.slice none 0 0,.int .i64 150])∧Below w.heap.size w w':=by
 have hgb:=Zq hb hl
 have hpb:=ZW hb hl
 have hml:=nu xs
 have hpk:=wD (qD xs) (posOf xs) (zS xs) hml
 have qm:=hI hb
 have HL:=hI hl
 have BH:=hI hgb
 have OH:=hI hpb
 have Jd:=hI hpk
 have HST:=hI hst
 have HX0:=hI (show qB ((w.alloc (.cells (zA xs) 186)).alloc (.cells #[.int .u64 0,.int .u32 0,.int .i64 0] 203)) w.heap.size xs from (z8.new w _ _).alloc _)
 clear hb hl hst hgb hpb hpk
 go_enter Tryz.func125,Tryz.ntmps125
 go_wp2_with (refine zQ (.tmp 1) rfl rfl w.heap.size 0 rfl xs HL.out HX0.out.range ?_)
 generalize hw1:(w.alloc _).alloc _=w1 at *
 have HZ1:=hI (show z8 w1 (w.heap.size+1) 203 #[.int .u64 0,.int .u32 0,.int .i64 0] by rw[← hw1]; have:=z8.new (w.alloc (.cells (zA xs) 186)) 203 #[.int .u64 0,.int .u32 0,.int .i64 0]; simpa using this)
 have HB1:=hI (show Below w.heap.size w w1 by rw[← hw1]; exact ((Below.refl _ _).alloc (nR _) _).alloc (by simp) _)
 clear hw1
 refine (AV xs w1 HL.out qm.out).mono ?_
 rintro e w2 ⟨A,c,rfl,hrow,hb,hnil⟩
 have iG:=hI hnil
 clear hnil
 have HR2:=hI hrow
 have HB2:=hI hb
 have HZ2:=hI (HZ1.out.below hb HZ1.out.lt)
 have dV:=hI (HX0.out.below hb HX0.out.lt)
 clear hrow hb
 by_cases hg1:1≤qD xs
 ·have VE:=hI (show (qU (qD xs) (posOf xs) (zS xs)==xs)=false by
   have h:=HST.out
   unfold stamped at h
   rw[decide_eq_true hg1,Bool.true_and] at h
   exact h)
  go_wp2_with fail
  generalize hw3:w2.alloc _=w3 at *
  have hb3:Below w2.heap.size w2 w3:=by rw[← hw3]; exact (Below.refl _ _).alloc (nR _) _
  have HB3:=hI hb3
  have HR3:=hI (HR2.out.below hb3 (fun b h=>h.2))
  clear hw3 hb3
  refine (iN (qD xs) (posOf xs) A (zS xs).length c (zS xs) _ w3 HR3.out (fun b h=>nL h.2 HB3.out.size) hg1 BH.out.2 OH.out.1 OH.out.2 hml).mono ?_
  rintro e w4 ⟨rfl,hb⟩
  have zq:=hI hb
  have nQ:=hI ((dV.out.below HB3.out dV.out.lt).below hb (nL dV.out.lt HB3.out.size))
  have JY:=hI ((HZ2.out.below HB3.out HZ2.out.lt).below hb (nL HZ2.out.lt HB3.out.size))
  obtain ⟨w5,jH⟩:∃ w5,w5=w4.alloc (.cells (zA (qU (qD xs) (posOf xs) (zS xs))) 186):=⟨_,rfl⟩
  have sU:=hI (show qB w5 w.heap.size xs by rw[jH]; exact nQ.out.alloc _)
  have VA:=hI (show qB w5 w4.heap.size (qU (qD xs) (posOf xs) (zS xs)) by rw[jH]; exact z8.new w4 _ _)
  have xK:=hI (show z8 w5 (w.heap.size+1) 203 #[.int .u64 0,.int .u32 0,.int .i64 0] by rw[jH]; exact JY.out.alloc _)
  have qM:=hI (show Below w4.heap.size w4 w5 by rw[jH]; exact (Below.refl _ _).alloc (nR _) _)
  have pK:=hI jH
  clear jH
  have z0:=xK.out.cell 0
  have z1:=xK.out.cell 1
  have z2:=xK.out.cell 2
  have y0:=xK.out.frozen 0
  have y1:=xK.out.frozen 1
  have y2:=xK.out.frozen 2
  simp only[List.getElem?_toArray,List.getElem?_cons_zero,List.getElem?_cons_succ] at z0 z1 z2
  clear hb
  go_wp2_with (first
   | (with_reducible refine zJ ?_)
   | (refine zG rfl rfl ?_)
   | (refine zU _ _ rfl rfl w4 (qU (qD xs) (posOf xs) (zS xs)) rfl rfl (noughts 64) rfl (zC 64) Jd.out ?_; rw[← pK.out])
   | (refine zQ (.tmp 7) rfl rfl w4.heap.size 0 rfl _ Jd.out VA.out.range ?_)
   | (refine zQ (.tmp 1) rfl rfl w.heap.size 0 rfl _ HL.out sU.out.range ?_)
   | (refine gV (.tmp 26) (.tmp 27) _ rfl rfl _ _ rfl rfl Jd.out HL.out ?_; rw[VE.out]))
  have hz:=xK.out.set3 (.int .u64 0) (.int .u32 0) (.int .i64 0)
  have hs1:=HB1.out.size
  have hs2:=HB2.out.size
  have hs3:=HB3.out.size
  have hs4:=zq.out.size
  have hs5:=qM.out.size
  refine Halt.ret (zw rfl _ _ (w.heap.size+1) 203 _ _ rfl hz Tryz.underlying203 rfl lX) rfl ⟨rfl,?_⟩
  exact nD ((((HB1.out.trans (HB2.out.mono (by omega))).trans (HB3.out.mono (by omega))).trans (zq.out.mono (by omega))).trans (qM.out.mono (by omega))) (by omega) _ _ _
 ·have HG:=hI (show qD xs=0 by have:=BH.out; omega)
  go_wp2_with fail
  generalize hw3:w2.alloc _=w3 at *
  have hb3:Below w2.heap.size w2 w3:=by rw[← hw3]; exact (Below.refl _ _).alloc (nR _) _
  have HB3:=hI hb3
  rw[HG.out]
  clear hw3 hb3
  refine (Wo (posOf xs) A (zS xs).length c w3).mono ?_
  rintro e w4 ⟨rfl,hb⟩
  have zq:=hI hb
  have JY:=hI ((HZ2.out.below HB3.out HZ2.out.lt).below hb (nL HZ2.out.lt HB3.out.size))
  obtain ⟨w5,jH⟩:∃ w5,w5=w4.alloc (.cells (zA (noughts 64)) 186):=⟨_,rfl⟩
  have xK:=hI (show z8 w5 (w.heap.size+1) 203 #[.int .u64 0,.int .u32 0,.int .i64 0] by rw[jH]; exact JY.out.alloc _)
  have qM:=hI (show Below w4.heap.size w4 w5 by rw[jH]; exact (Below.refl _ _).alloc (nR _) _)
  have pK:=hI jH
  clear jH
  have z0:=xK.out.cell 0
  have z1:=xK.out.cell 1
  have z2:=xK.out.cell 2
  have y0:=xK.out.frozen 0
  have y1:=xK.out.frozen 1
  have y2:=xK.out.frozen 2
  simp only[List.getElem?_toArray,List.getElem?_cons_zero,List.getElem?_cons_succ] at z0 z1 z2
  clear hb
  go_wp2_with (first
   | (with_reducible refine zJ ?_)
   | (refine zG rfl rfl ?_)
   | (refine zU _ _ rfl rfl w4 (noughts 64) rfl rfl (noughts 64) rfl (zC 64) (zC 64) ?_; rw[← pK.out]))
  have hz:=xK.out.set3 (.int .u64 0) (.int .u32 0) (.int .i64 0)
  have hs1:=HB1.out.size
  have hs2:=HB2.out.size
  have hs3:=HB3.out.size
  have hs4:=zq.out.size
  have hs5:=qM.out.size
  refine Halt.ret (zw rfl _ _ (w.heap.size+1) 203 _ _ rfl hz Tryz.underlying203 rfl lX) rfl ⟨rfl,?_⟩
  exact nD ((((HB1.out.trans (HB2.out.mono (by omega))).trans (HB3.out.mono (by omega))).trans (zq.out.mono (by omega))).trans (qM.out.mono (by omega))) (by omega) _ _ _
end
end Go.Proofs.YtdkbpchmnhbhcaaGreat
