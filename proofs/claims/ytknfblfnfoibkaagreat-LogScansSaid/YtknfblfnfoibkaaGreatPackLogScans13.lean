/- Texts of LogScans, packed. -/
import Derived.Test.YtknfblfnfoibkaaGreatPackLogScans12
import Derived.OrdersIn
import Derived.TacticsIn
import Derived.RangeFuncKeeps
import Derived.RangeFuncOwn
import Derived.Deep.Slices
import Derived.Deep.Fields
import Derived.ChangeSame
import Derived.Lib.SmallJoins
set_option linter.unusedVariables false
set_option linter.unusedSimpArgs false
set_option maxRecDepth 100000
set_option maxHeartbeats 16000000
namespace Go.Proofs.YtknfblfnfoibkaaGreat
section
open Go.RowKit
section
variable {P : Program} {n l : Nat} {Q : Exit → Act → World → Prop}
theorem callsIn_round {f : FuncId} {args : Array Value} {w : World} {R : Ending → World → Prop} (h : Calls P f args w R) : CallsIn (Fence.wide.inRound l) n P f args w R :=
 ⟨trivial, fun cs _ => let ⟨e, w', fr, r, s, x⟩ := h cs; ⟨e, w', fr, r, comesIn_wide.2 s, x⟩⟩
theorem rowsIn_round {row : String} {args : Array Value} {w : World} {R : Value → World → Prop} (h : Rows P row args w R) : RowsIn (Fence.wide.inRound l) n P row args w R :=
 fun c cs _ => let ⟨v, w', r, s⟩ := h c cs; ⟨v, w', r, stepsIn_wide.2 s⟩
theorem operIn_round {o : Oper} {a : Act} {w : World} {K : Act → World → Prop} (hnd : ∀ c, o.op ≠ .defer c) (h : o.wp P a w K Q) : o.wpIn (Fence.wide.inRound l) n P a w K Q := by
 refine ⟨fun _ _ => trivial, ?_⟩
 rw [Oper.semAt_eq _ _ _ hnd]
 unfold Oper.wp at h
 generalize (execOp a.eval o).run P w = r at *
 have hd : (Fence.wide.inRound l).depth.isSome = true → 1 ≤ n := fun h => by simp [Fence.wide] at h
 cases r with
 | ok x w' =>
  cases x <;> simp only [Oper.upon] at h <;> simp only [Oper.uponIn]
  all_goals first
   | exact h
   | exact ⟨hd, callsIn_round h⟩
   | exact ⟨hd, rowsIn_round h⟩
   | exact ⟨hd, h⟩
 | halt x w' => cases x <;> simp only [Oper.upon] at h <;> simp only [Oper.uponIn] <;> exact h
theorem anyIn_round {md : Region.Mode} {ops : Array Oper} (hnd : ∀ (i : Nat) (o : Oper), ops[i]? = some o → ∀ c, o.op ≠ .defer c) (hno : LetsOut Q → False) :
 ∀ (k : Nat) (L : Array Bool) (a : Act) (w : World), wpAny P md ops Q k L a w → wpAnyIn (Fence.wide.inRound l) n P md ops Q k L a w
 | 0, _, _, _, h => h
 | k + 1, L, a, w, h => by
  refine ⟨h.1, fun i hi => ?_⟩
  have h2 := h.2 i hi
  unfold wpOp at h2
  unfold wpOpIn
  split
  ·rename_i ho
   simp only [ho] at h2
   exact anyIn_round hnd hno k _ _ _ h2
  ·rename_i o ho
   simp only [ho] at h2
   split
   ·rename_i hw
    simp only [hw, if_true] at h2
    exact Oper.wpIn_mono (fun a w h => anyIn_round hnd hno k _ _ _ h) (operIn_round (hnd i o ho) (h2.resolve_right fun h => hno h.2))
   ·rename_i hw
    simp only [hw] at h2
    exact ⟨fun _ _ => trivial, anyIn_round hnd hno k _ _ _ h2⟩
theorem region_anyR {id : Nat} {ops : List Oper} {a : Act} {w : World} (hnd : ops.all noDefer = true) (hm : P.follows .mixedOrders = true) (hno : LetsOut Q → False)
 (h : wpAny P .any ops.toArray Q ops.toArray.size (Array.replicate ops.toArray.size false) a w.drew) : (Code.region id ops.toArray true).wpIn (Fence.wide.inRound l) n P Q a w :=
 wpIn_region_any hm (anyIn_round (noDefer_all hnd) hno _ _ _ _ h)
theorem Tillst.round {id : Nat} {ops : List Oper} {a : Act} {w : World} (S : World → Prop) (st : List Nat) (hnd : ops.all noDefer = true) (hm : P.follows .mixedOrders = true) (hno : LetsOut Q → False) (hS : S w.drew)
 (h : S w.drew → Tillst P .any ops.toArray Q S st ops.toArray.size (Array.replicate ops.toArray.size false) a w.drew) : (Code.region id ops.toArray true).wpIn (Fence.wide.inRound l) n P Q a w :=
 region_anyR hnd hm hno (Tillst.any _ _ _ _ (h hS))
def NoPO (Q : Exit → Act → World → Prop) : Exit → Act → World → Prop
 | .panic _, _, _ => False
 | .outgrown, _, _ => False
 | e, a, w => Q e a w
theorem NoPO.imp : ∀ (e : Exit) (a : Act) (w : World), NoPO Q e a w → Q e a w := fun e a w h => by cases e <;> first | exact h | exact h.elim
end
end
section
open Go.RowKit
theorem ownsRow_block {w : World} {base size n g : Nat} {e : TypeId} {v : Value} {xs : List Value} (h : w.ownsRow base e size v n xs) (hv : v.ownBlock = some g) : ∃ cur, w.heap[g]? = some (.cells cur e (0, 0)) ∧ base ≤ g := by
 rcases h.2 with ⟨rfl, _⟩ | ⟨g', cap, cur, rfl, hb, hh, rest⟩
 ·simp [Value.ownBlock] at hv
 ·have : g' = g := by simpa [Value.ownBlock] using hv
  subst this
  exact ⟨cur, hh, hb⟩
theorem ownsRow_slice {w : World} {base size n : Nat} {e : TypeId} {v : Value} {xs : List Value} (h : w.ownsRow base e size v n xs) : ∃ A cap, v = .slice A n cap := by
 rcases h.2 with ⟨rfl, rfl⟩ | ⟨g', cap, cur, rfl, _⟩
 ·exact ⟨_, _, rfl⟩
 ·exact ⟨_, _, rfl⟩
theorem blk_past {w w' : World} {base size n g : Nat} {e t : TypeId} {v : Value} {xs : List Value} {cs : Array Value} (hb : Blk w g t cs) (ho : w.ownsRow base e size v n xs) (hne : t ≠ e) (hg : w.grownBy w' v.ownBlock) : Blk w' g t cs :=
 hb.grown hg (fun h => by
  obtain ⟨cur, hc, _⟩ := ownsRow_block ho h.symm
  rw [show w.heap[g]? = _ from hb] at hc
  cases hc
  exact hne rfl)
theorem own_past {w : World} {base size n g : Nat} {e t : TypeId} {v : Value} {xs : List Value} {cs : Array Value} (ho : w.ownsRow base e size v n xs) (hb : Blk w g t cs) (hne : t ≠ e) (i : Nat) (u : Value) : (w.setCell ⟨g, i, none⟩ u).ownsRow base e size v n xs := by
 rcases ho.2 with h0 | ⟨g', cap, cur, rfl, hbs, hh, rest⟩
 ·exact ⟨ho.1, .inl h0⟩
 ·refine ⟨ho.1, .inr ⟨g', cap, cur, rfl, hbs, ?_, rest⟩⟩
  have : g' ≠ g := by
   rintro rfl
   rw [show w.heap[g']? = _ from hb] at hh
   cases hh
   exact hne rfl
  rw [Below.heap_setCell _ _ _ g' this]
  exact hh
theorem below_append {a w w' : World} {B base size n : Nat} {e : TypeId} {v : Value} {xs : List Value} (hb : Below B a w) (ho : w.ownsRow base e size v n xs) (hB : B ≤ base) (hBw : B ≤ w.heap.size) (hg : w.grownBy w' v.ownBlock) : Below B a w' :=
 hb.grown hg hBw (fun k hk => by obtain ⟨_, _, h⟩ := ownsRow_block ho hk; omega)
def MarksR_x (m : Nat) (Ds : List Nat) (W : World) : Prop := Ds.Nodup ∧ ∀ D, D ∈ Ds → m ≤ D ∧ D < W.heap.size ∧ W.heap[D]? = some (.deferred (some []))
theorem MarksR_x.nil (m : Nat) (W : World) : MarksR_x m [] W := ⟨List.nodup_nil, fun D h => by cases h⟩
theorem MarksR_x.below {m : Nat} {Ds : List Nat} {W W' : World} (h : MarksR_x m Ds W) (hb : Below W.heap.size W W') : MarksR_x m Ds W' :=
 ⟨h.1, fun D hD => by obtain ⟨h1, h2, h3⟩ := h.2 D hD; exact ⟨h1, nL h2 hb.size, by rw [hb.block D h2]; exact h3⟩⟩
end
section
open Go.RowKit
attribute [local go_sem] Oper.semAt_some
structure Tl where
 at_ : Nat
 bs : List Int
 b1 : Nat
 b2 : Nat
def Tl.two (t : Tl) : Nat × List Int := (t.at_, t.bs)
def plV (seg : Nat) (gen : Int) (t : Tl) : PlM.Pl := ⟨(seg : Int), gen, (t.at_ : Int), kindOf t.bs, flagsOf t.bs, expOf t.bs, seqOf t.bs, some ⟨t.b1, 0, none⟩, klenOf t.bs, klenOf t.bs, some ⟨t.b2, 0, none⟩, vlenOf t.bs, vlenOf t.bs⟩
abbrev scanC (g u : Int) (v : Value) : Array Value := #[.int .u64 g, .int .i64 u, v]
theorem size_adr9 : (Tryz.prog.info? 67).map (·.size) = some 3 := by kernel_rfl
section
variable {ops : Array Oper} {rest : List Oper} {o : Oper} {a : Act} {Q : Exit → Act → World → Prop} {w : World}
end
def sect9 (w : World) (g : Nat) : Nat := match w.cell? ⟨g, 1, none⟩ with
 | some (.int _ i) => i.toNat
 | _ => 0
theorem sect9_eq {w : World} {g : Nat} {x v : Value} {a : Nat} (h : Blk w g 60 #[x, .int .i64 a, v]) : sect9 w g = a := by
 unfold sect9
 rw [show w.cell? ⟨g, 1, none⟩ = some (.int .i64 a) from h.cell 1]
 rfl
structure ToldS (w : World) (m : Nat) (seg : Nat) (gen : Int) (A : Option Addr) (c : Nat) (ts : List Tl) : Prop where
 row : PlM.RowE w (fun b => m ≤ b ∧ b < w.heap.size) A ts.length (ts.map (plV seg gen))
 cap : ts.length ≤ c
 nil : A = none → c = 0
 ent : ∀ t, t ∈ ts → m ≤ t.b1 ∧ m ≤ t.b2 ∧ ArrU w t.b1 (keyOf t.bs) ∧ ArrU w t.b2 (valOf t.bs)
def ScanX (w : World) (X : Nat → Prop) (p d n : Nat) (s : Sup) (t : Int) (k : Dk) (seg : Nat) (xss : List (List Int)) (e : Ending) (w' : World) : Prop :=
 ∃ k' A c ts gen used m, e = .returned (.tuple #[.agg (scanC gen used (.slice A ts.length c)), .int .i64 0]) ∧ w.heap.size ≤ m ∧ StoS w' (fun b => X b ∨ (m ≤ b ∧ b < w'.heap.size)) p d n s t k' ∧ Good k' ∧ k'.held = k.held ∧ Kept X w w' ∧
  gen = begunG (ldV xss 0) seg ∧ (gen = 0 → used = 0 ∧ ts = []) ∧
  (gen ≠ 0 → used = (scanU xss gen xss.length 1 : Nat) ∧ ts.map Tl.two = scanL xss gen xss.length 1) ∧ ToldS w' m seg gen A c ts
def ScanT (w : World) (X : Nat → Prop) (p d n : Nat) (s : Sup) (t : Int) (k : Dk) (seg : Nat) : Ending → World → Prop := ScanX w X p d n s t k seg (secsAt (strV k s seg) 0 s.b.toNat)
section
variable {w : World} {X : Nat → Prop} {p d n : Nat} {s : Sup} {t : Int} {k : Dk}
theorem scan_good (h : StoS w X p d n s t k) (hX : ∀ b, X b → b < w.heap.size) (hma : s.May) (hg : Good k) (hok : k.Ok n) (seg : Nat) (hseg : (seg : Int) < s.a) (hroom : 2 + s.a * s.b ≤ (n : Int)) (hn : n ≤ 2048) :
 Calls Tryz.prog 29 #[.pointer (some ⟨p, 0, none⟩), .int .i64 seg] w (ScanT w X p d n s t k seg) := by
 have hs16 : s.a ≤ 16 ∧ 24 ≤ s.b ∧ s.b ≤ 64 := by have := hma; unfold Sup.May MayS at this; omega
 obtain ⟨cn, hcn⟩ : ∃ cn : Nat, s.b = cn := ⟨s.b.toNat, by omega⟩
 have HCN := hI hcn
 have hcn2 : 24 ≤ cn ∧ cn ≤ 64 := by omega
 clear hcn
 obtain ⟨w1, hw1⟩ : ∃ w1, w1 = w.alloc (.cells zeroS9 60) := ⟨_, rfl⟩
 have hb1 : Below w.heap.size w w1 := by rw [hw1]; exact (Below.refl _ _).alloc (nR _) _
 have HR1 := hI (show Blk w1 w.heap.size 60 zeroS9 by rw [hw1]; exact Blk.new w _ _)
 have HS1 := hI (show StoS w1 (fun b => X b ∨ (w.heap.size ≤ b ∧ b < w1.heap.size)) p d n s t k from StoreM.grow h hb1)
 have HB1 := hI hb1
 have HW1 := hI hw1
 have HX := hI hX
 have HMA := hI hma
 have HG := hI hg
 have HOK := hI hok
 clear hw1 hb1 h hX hma hg hok
 go_enter Tryz.func29, Tryz.ntmps29
 go_wp2_with fail
 go_step3
 rw [← HW1.out]
 go_wp2_with fail
 refine (sto_base HS1.out seg hseg hs16.1 (by omega)).mono ?_
 rintro e w2 ⟨rfl, rfl⟩
 go_wp2_with fail
 refine (stored_any HS1.out (fun b hb => hb.elim (fun h => nL (HX.out b h) HB1.out.size) (fun h => h.2)) seg).mono ?_
 rintro e w3 ⟨⟨gx, gi, rfl, hsm⟩, hb3⟩
 have HSM := hI hsm
 have HB3 := hI hb3
 clear hsm hb3
 go_wp2_with fail
 refine (get_any HSM.out.sto).mono ?_
 rintro e w4 ⟨rfl, hb4⟩
 have HSM := hI (HSM.out.grow hb4)
 have HB4 := hI hb4
 clear hb4
 have hfld := run_field1 s.a s.b s.g s.r s.v s.f w4
 go_wp2_with fail
 clear hfld
 rw [HCN.out]
 have HHC := hI (stored_held (p := p) (d := d) (t := t) (X0 := fun b => ((X b ∨ (w.heap.size ≤ b ∧ b < w2.heap.size)) ∨ (w2.heap.size ≤ b ∧ b < w3.heap.size)) ∨ (w3.heap.size ≤ b ∧ b < w4.heap.size)) HMA.out hseg hroom hn HOK.out w4.heap.size HSM.out.xx HSM.out.xi ⟨HSM.out.bx.lt, HSM.out.bi.lt⟩)
 refine (loaded_stored _ _ HHC.out ⟨HSM.out, HG.out, rfl⟩ cn (by omega)).mono ?_
 rintro e w5 (⟨gl, gr, rfl, hE, hld, hr, hk, hgl, hgr⟩ | ⟨j, hj, _, hne, _⟩)
 rotate_left
 ·exfalso
  unfold strE at hne
  rw [if_pos (by have := HCN.out; omega)] at hne
  exact hne rfl
 have hbw4 : Below w.heap.size w w4 := HB1.out.trans ((HB3.out.mono HB1.out.size).trans (HB4.out.mono (nT HB1.out.size HB3.out.size)))
 have HBW4 := hI hbw4
 have HK5 := hI (show Kept X w w5 from (Kept.of_below hbw4 HX.out).trans hk (fun b hb => .inl (.inl (.inl hb))))
 have HR5 := hI (show Blk w5 w.heap.size 60 zeroS9 from ((HR1.out.below HB3.out HR1.out.lt).below HB4.out (nL HR1.out.lt HB3.out.size)).kept hk (.inl (.inl (.inr ⟨nR _, HR1.out.lt⟩))))
 have HS5 := hI (show StoS w5 (fun b => X b ∨ b = w.heap.size) p d n s t _ from StoreM.kept (Z := fun _ => True) hr.1.sto (Kept.refl _ _) (fun _ _ _ => trivial) (fun b _ hb => hb.elim (fun h => .inl (.inl (.inl h))) (fun h => .inl (.inl (.inr (by rw [h]; exact ⟨nR _, HR1.out.lt⟩))))))
 have HG5 := hI hr.2
 have HLA5 := hI (show LdAll w5 gl gr cn (secsAt (strV k s seg) 0 cn) from by
  obtain ⟨b, off, e1, h2, h3⟩ := hld.row.2 (by omega)
  injection e1 with e1
  injection e1 with e2 e3
  subst e2 e3
  exact ⟨hld.v, ⟨hld.row.1, fun _ => ⟨gr, 0, rfl, rfl, h3⟩⟩, h2.1, secsAt_length _ _ _, secsAt_secs HHC.out.len _ _, secsAt_bytes HHC.out.byt _ _, by omega⟩)
 have HSZ5 := hI (show w.heap.size ≤ w5.heap.size ∧ w.heap.size < w5.heap.size from ⟨HK5.out.size, HR5.out.lt⟩)
 clear hE hld hr hk hgl hgr hbw4 HR1 HSM HHC HB1 HB3 HB4 HW1
 obtain ⟨xss, hxss⟩ : ∃ xss, secsAt (strV k s seg) 0 cn = xss := ⟨_, rfl⟩
 have HT := hI (show ∀ e w', ScanX w X p d n s t k seg xss e w' → ScanT w X p d n s t k seg e w' from fun e w' h => by
  unfold ScanT
  rw [show s.b.toNat = cn from by rw [HCN.out]; rfl, hxss]
  exact h)
 rw [hxss] at HLA5
 clear hxss
 generalize stR (fun k i => strK k s i) k 0 cn = k5 at *
 obtain ⟨w6, hw6⟩ : ∃ w6, w6 = w5.alloc (.cells zeroS9 60) := ⟨_, rfl⟩
 have hb6 : Below w5.heap.size w5 w6 := by rw [hw6]; exact (Below.refl _ _).alloc (nR _) _
 have HO6 := hI (show Blk w6 w5.heap.size 60 zeroS9 by rw [hw6]; exact Blk.new w5 _ _)
 have HB6 := hI hb6
 have HLA6 := hI (HLA5.out.below hb6)
 have HW6 := hI hw6
 clear hw6 hb6
 go_upto_region 8 with fail
 rw [← HW6.out]
 go_wp2_with fail
 refine (begun_all HLA6.out seg (by omega)).mono ?_
 rintro e w7 ⟨rfl, hb7⟩
 have HO7 := hI (HO6.out.below hb7 HO6.out.lt)
 have HLA7 := hI (HLA6.out.below hb7)
 have HB7 := hI (HB6.out.trans (hb7.mono HB6.out.size))
 clear hb7 HO6 HLA6 HB6
 obtain ⟨gen, hgen⟩ : ∃ gen, begunG (ldV xss 0) seg = gen := ⟨_, rfl⟩
 rw [hgen]
 have HGEN := hI hgen.symm
 clear hgen
 obtain ⟨ob, hob⟩ : ∃ ob, w5.heap.size = ob := ⟨_, rfl⟩
 rw [hob] at HO7
 rw [hob]
 have HOB := hI hob
 clear hob
 have o0 : w7.cell? ⟨ob, 0, none⟩ = some (.int .u64 0) := HO7.out.cell 0
 have f0 := HO7.out.frozen 0
 obtain ⟨w8, hw8⟩ : ∃ w8, w8 = w7.setCell ⟨ob, 0, none⟩ (.int .u64 gen) := ⟨_, rfl⟩
 have HO8 := hI (show Blk w8 ob 60 (scanC gen 0 (.slice none 0 0)) by rw [hw8]; exact HO7.out.set_ 0 (.int .u64 gen))
 have HB8 := hI (show Below w5.heap.size w5 w8 by rw [hw8]; exact HB7.out.setCell (p := ⟨ob, 0, none⟩) (by have := HOB.out; show w5.heap.size ≤ ob; omega) (.int .u64 gen))
 have HLA8 := hI (HLA5.out.below HB8.out)
 have HW8 := hI hw8.symm
 clear hw8 HLA7 HB7
 go_upto_region 9 with fail
 rw [HW8.out]
 clear o0 f0 HO7 HW8
 have HR8 := hI (HR5.out.below HB8.out HR5.out.lt)
 have HFIN := hI (show ∀ (W : World) (c6 : Array Value), Below w5.heap.size w5 W → ∃ k', StoS (W.setRow w.heap.size c6) (fun b => X b ∨ (w5.heap.size ≤ b ∧ b < (W.setRow w.heap.size c6).heap.size)) p d n s t k' ∧ Good k' ∧ k'.held = k.held ∧ Kept X w (W.setRow w.heap.size c6) from fun W c6 hW => by
  have hkr : Kept (fun b => b ≠ w.heap.size) W (W.setRow w.heap.size c6) := (Kept.refl _ W).setRow (fun h => h rfl) c6
  refine ⟨k5, ?_, HG5.out.1, HG5.out.2, (HK5.out.trans (Kept.of_below (S := X) hW (fun b h => by have := HX.out b h; have := HSZ5.out; omega)) (fun b h => h)).trans hkr (fun b h => by have := HX.out b h; omega)⟩
  have h1 := StoreM.grow HS5.out hW
  refine StoreM.kept (Z := fun b => b ≠ w.heap.size) h1 hkr (fun b hb hx e => hx (.inl (.inr e))) (fun b hb hx => ?_)
  rcases hx with hx | hx
  ·exact .inl (.inl hx)
  ·exact .inr ⟨hx.1, hb⟩)
 by_cases hg0 : gen = 0
 ·subst hg0
  have o0 : w8.cell? ⟨ob, 0, none⟩ = some (.int .u64 0) := HO8.out.cell 0
  go_wp2_with (first | (with_reducible refine halt_end ?_) | (refine wpList_load_rowB (.tmp 10) 60 rfl rfl ob rfl 60 (scanC 0 0 (.slice none 0 0)).toList _ Tryz.underlying60 rfl size_scan HO8.out ?_) | (refine wpList_store_rowB (.tmp 4) (.tmp 46) 60 rfl rfl w.heap.size zeroS9 rfl rfl 60 _ HR8.out size_scan rfl one_zeroS9 ?_))
  rw [Exit.noGoto_ret]
  obtain ⟨k', g1, g2, g3, g4⟩ := HFIN.out w8 zeroS9 HB8.out
  exact bodyPost_ret (results_row2 rfl _ _ w.heap.size 60 zeroS9 _ rfl (setRow_heap _ _ _ zeroS9 _ _ HR8.out) Tryz.underlying60 rfl size_scan) rfl (HT.out _ _ ⟨k', none, 0, [], 0, 0, _, rfl, HSZ5.out.1, g1, g2, g3, g4, HGEN.out, fun _ => ⟨rfl, rfl⟩, fun h => absurd rfl h, ⟨⟨rfl, fun h => absurd h (by simp)⟩, nR _, fun _ => rfl, fun t ht => by simp at ht⟩⟩)
 ·have hg0b : (gen == 0) = false := by simpa using hg0
  have o0 : w8.cell? ⟨ob, 0, none⟩ = some (.int .u64 gen) := HO8.out.cell 0
  have o1 : w8.cell? ⟨ob, 1, none⟩ = some (.int .i64 0) := HO8.out.cell 1
  have f1 := HO8.out.frozen 1
  obtain ⟨w9, hw9⟩ : ∃ w9, w9 = w8.setCell ⟨ob, 1, none⟩ (.int .i64 1) := ⟨_, rfl⟩
  have HO9 := hI (show Blk w9 ob 60 (scanC gen 1 (.slice none 0 0)) by rw [hw9]; exact HO8.out.set_ 1 (.int .i64 1))
  have HB9 := hI (show Below w5.heap.size w5 w9 by rw [hw9]; exact HB8.out.setCell (p := ⟨ob, 1, none⟩) (by have := HOB.out; show w5.heap.size ≤ ob; omega) (.int .i64 1))
  have HW9 := hI hw9.symm
  clear hw9
  go_wp2_with fail
  rw [HW9.out]
  clear o0 o1 f1 HO8 HB8 HLA8 HR8 HW9 hg0b
  have HLN := hI HLA5.out.len
  go_step3
  go_wp2_with fail
  go_loopw [48] (fun _ W => ∃ (at_ f : Nat) (v : Value) (ts : List Tl), Blk W ob 60 (scanC gen at_ v) ∧ W.ownsRow w5.heap.size 71 9 v ts.length (PlM.flatG (ts.map (plV seg gen))) ∧ Below w5.heap.size w5 W ∧
   (ts.map Tl.two ++ scanL xss gen f at_ = scanL xss gen xss.length 1 ∧ scanU xss gen f at_ = scanU xss gen xss.length 1) ∧ (1 ≤ at_ ∧ at_ ≤ xss.length ∧ xss.length ≤ at_ + f ∧ ts.length ≤ at_) ∧
   ∀ t, t ∈ ts → w5.heap.size ≤ t.b1 ∧ w5.heap.size ≤ t.b2 ∧ ArrU W t.b1 (keyOf t.bs) ∧ ArrU W t.b2 (valOf t.bs)) (fun _ W => cn - sect9 W ob)
  case atStart => exact ⟨1, xss.length, _, [], HO9.out, ⟨rfl, .inl ⟨rfl, rfl⟩⟩, HB9.out, ⟨rfl, rfl⟩, by have := HLN.out; simp only [List.length_nil]; omega, fun t ht => by simp at ht⟩
  case round =>
  clear HO9 HB9
  obtain ⟨at_, f, v, ts, ho, hown, hb, hsc, hin, hent⟩ := hrel
  have HO := hI ho
  have HOW := hI hown
  have HB := hI hb
  have HSC := hI hsc
  have HIN := hI hin
  have HEN := hI hent
  have HAT := hI (sect9_eq HO.out)
  have hat := HIN.out
  have hln := HLN.out
  have HST := hI (stand_all9 (HLA5.out.below HB.out) gen at_ (by omega))
  have o0 : wr.cell? ⟨ob, 0, none⟩ = some (.int .u64 gen) := HO.out.cell 0
  have o1 : wr.cell? ⟨ob, 1, none⟩ = some (.int .i64 at_) := HO.out.cell 1
  clear ho hown hb hsc hin hent hat hln
  go_wp2_with fail
  refine HST.out.mono ?_
  rintro e w10 ⟨hb10, hst⟩
  clear o0 o1 HST
  rcases hst with ⟨hne, rfl⟩ | ⟨he0, xs, b1, b2, hxs, rfl, hb1, hb2, hbb, ha1, ha2⟩
  ·-- none stands there: what was found is told
   obtain ⟨se, hse⟩ : ∃ se, standE (ldV xss) (ldE xss) gen at_ = se := ⟨_, rfl⟩
   have HSE := hI hse
   rw [hse] at hne ⊢
   have hneb : (se == 0) = false := by simpa using hne
   have HNE := hI hne
   clear hse hne
   obtain ⟨w11, hw11⟩ : ∃ w11, w11 = (w10.alloc (.cells zeroC 69)).setRow w10.heap.size zeroC := ⟨_, rfl⟩
   have hb11 : Below w10.heap.size w10 w11 := by rw [hw11]; exact below_setRow ((Below.refl _ _).alloc (nR _) _) (nR _) _
   have hb11w : Below wr.heap.size wr w11 := hb10.trans (hb11.mono hb10.size)
   have HO11 := hI (HO.out.below hb11w HO.out.lt)
   have HB11 := hI (HB.out.trans (hb11w.mono HB.out.size))
   have HR11 := hI (HR5.out.below HB11.out HR5.out.lt)
   have HOW11 := hI (own_below HOW.out hb11w)
   have HEN11 := hI (fun t (ht : t ∈ ts) => by
    obtain ⟨g1, g2, g3, g4⟩ := HEN.out t ht
    exact (show w5.heap.size ≤ t.b1 ∧ w5.heap.size ≤ t.b2 ∧ ArrU w11 t.b1 (keyOf t.bs) ∧ ArrU w11 t.b2 (valOf t.bs) from ⟨g1, g2, Blk.below g3 hb11w (Blk.lt g3), Blk.below g4 hb11w (Blk.lt g4)⟩))
   have HW11 := hI hw11.symm
   clear hb10 hb11 hb11w hw11
   obtain ⟨A, cap, rfl, hcap, hnil, hrow⟩ := PlM.rowZ_own HOW11.out rfl (by simp)
   have HROW := hI (And.intro hcap (And.intro hnil hrow))
   clear hcap hnil hrow
   go_wp2_with (first
    | (with_reducible refine halt_end ?_)
    | (refine wpList_store_rowB (.tmp 11) (.tmp 55) 69 rfl rfl w10.heap.size zeroC rfl rfl 69 _ (Blk.new w10 _ _) size_rec rfl one_zero ?_; rw [HW11.out])
    | (refine wpList_load_rowB (.tmp 10) 60 rfl rfl ob rfl 60 (scanC gen at_ (.slice A ts.length cap)).toList _ Tryz.underlying60 rfl size_scan HO11.out ?_)
    | (refine wpList_store_rowB (.tmp 4) (.tmp 80) 60 rfl rfl w.heap.size (scanC gen at_ (.slice A ts.length cap)) rfl rfl 60 _ HR11.out size_scan rfl (by simp [Value.oneCell']) ?_))
   rw [Exit.noGoto_ret]
   obtain ⟨k', g1, g2, g3, g4⟩ := HFIN.out w11 (scanC gen at_ (.slice A ts.length cap)) HB11.out
   have hkr : Kept (fun b => b ≠ w.heap.size) w11 (w11.setRow w.heap.size (scanC gen at_ (.slice A ts.length cap))) := (Kept.refl _ _).setRow (fun h => h rfl) _
   have hszs : w11.heap.size ≤ (w11.setRow w.heap.size (scanC gen at_ (.slice A ts.length cap))).heap.size := hkr.size
   have hw5 := HSZ5.out.2
   have hst : standE (ldV xss) (ldE xss) gen at_ ≠ 0 := by rw [HSE.out]; exact HNE.out
   refine bodyPost_ret (results_row2 rfl _ _ w.heap.size 60 (scanC gen at_ (.slice A ts.length cap)) _ rfl (setRow_heap _ _ _ _ _ _ HR11.out) Tryz.underlying60 rfl size_scan) rfl (HT.out _ _ ⟨k', A, cap, ts, gen, at_, _, rfl, HSZ5.out.1, g1, g2, g3, g4, HGEN.out, fun h => absurd h hg0, fun _ => ⟨?_, ?_⟩, ⟨?_, HROW.out.1, HROW.out.2.1, fun t ht => ?_⟩⟩)
   ·rw [← HSC.out.2, scanU_end hst]
   ·rw [← HSC.out.1, scanL_end hst, List.append_nil]
   ·exact (HROW.out.2.2.kept hkr (fun b hb => by omega)).more (fun b hb => ⟨hb.1, nL hb.2 hszs⟩)
   ·obtain ⟨g5, g6, g7, g8⟩ := HEN11.out t ht
    exact ⟨g5, g6, Blk.kept g7 hkr (by omega), Blk.kept g8 hkr (by omega)⟩
  ·-- one stands there
   have hin2 := stand_in he0
   obtain ⟨cc, hcc⟩ : ∃ cc, beginsN (ldV xss at_) gen at_ = cc := ⟨_, rfl⟩
   have HE0 := hI he0
   have HCC := hI hcc
   have HXS := hI hxs
   rw [hcc] at hin2 ⊢
   have HIN2 := hI hin2
   have HBB := hI (And.intro hb1 hb2)
   clear hxs hcc he0 hbb
   obtain ⟨w11, hw11⟩ : ∃ w11, w11 = (w10.alloc (.cells zeroC 69)).setRow w10.heap.size (recT9 xs b1 b2) := ⟨_, rfl⟩
   have hb11 : Below w10.heap.size w10 w11 := by rw [hw11]; exact below_setRow ((Below.refl _ _).alloc (nR _) _) (nR _) _
   have HRC11 := hI (show Blk w11 w10.heap.size 69 (recT9 xs b1 b2) by rw [hw11]; exact setRow_heap _ _ _ _ _ _ (Blk.new w10 _ _))
   have HW11 := hI hw11.symm
   obtain ⟨w12, hw12⟩ : ∃ w12, w12 = w11.alloc (.cells #[.int .i64 (seg : Nat), .int .u64 gen, .int .i64 at_] 67) := ⟨_, rfl⟩
   have hb12 : Below w11.heap.size w11 w12 := by rw [hw12]; exact (Below.refl _ _).alloc (nR _) _
   have HAD12 := hI (show Blk w12 w11.heap.size 67 #[.int .i64 (seg : Nat), .int .u64 gen, .int .i64 at_] by rw [hw12]; exact Blk.new w11 _ _)
   have HRC12 := hI (HRC11.out.below hb12 HRC11.out.lt)
   have HW12 := hI hw12.symm
   obtain ⟨w13, hw13⟩ : ∃ w13, w13 = w12.alloc (.cells #[.int .i64 (seg : Nat), .int .u64 gen, .int .i64 at_, .int .i64 (kindOf xs), .int .u32 (flagsOf xs), .int .u32 (expOf xs), .int .u64 (seqOf xs), .slice (some ⟨b1, 0, none⟩) (klenOf xs) (klenOf xs), .slice (some ⟨b2, 0, none⟩) (vlenOf xs) (vlenOf xs)] 71) := ⟨_, rfl⟩
   have hb13 : Below w12.heap.size w12 w13 := by rw [hw13]; exact (Below.refl _ _).alloc (nR _) _
   have HL13 := hI (show PlM.RowE w13 (fun _ => True) (some ⟨w12.heap.size, 0, none⟩) 1 [plV seg gen ⟨at_, xs, b1, b2⟩] from PlM.row_of_flat (X := []) (g := w12.heap.size) (t := 71) (by rw [hw13, List.append_nil, PlM.flatG_one]; exact Blk.new w12 _ _) trivial rfl)
   have HW13 := hI hw13.symm
   have hbr11 : Below wr.heap.size wr w11 := hb10.trans (hb11.mono hb10.size)
   have hbr12 : Below wr.heap.size wr w12 := hbr11.trans (hb12.mono hbr11.size)
   have hbr13 : Below wr.heap.size wr w13 := hbr12.trans (hb13.mono hbr12.size)
   have hb10_13 : Below w10.heap.size w10 w13 := hb11.trans ((hb12.mono hb11.size).trans (hb13.mono (nT hb11.size hb12.size)))
   have HO11 := hI (HO.out.below hbr11 HO.out.lt)
   have HO12 := hI (HO.out.below hbr12 HO.out.lt)
   have HO13 := hI (HO.out.below hbr13 HO.out.lt)
   have HB13 := hI (HB.out.trans (hbr13.mono HB.out.size))
   have HOW13 := hI (own_below HOW.out hbr13)
   have HEN13 := hI (show ∀ t, t ∈ ts ++ [⟨at_, xs, b1, b2⟩] → w5.heap.size ≤ t.b1 ∧ w5.heap.size ≤ t.b2 ∧ ArrU w13 t.b1 (keyOf t.bs) ∧ ArrU w13 t.b2 (valOf t.bs) from fun t ht => by
    rcases List.mem_append.1 ht with ht | ht
    ·obtain ⟨g1, g2, g3, g4⟩ := HEN.out t ht
     exact ⟨g1, g2, Blk.below g3 hbr13 (Blk.lt g3), Blk.below g4 hbr13 (Blk.lt g4)⟩
    ·rw [List.mem_singleton.1 ht]
     exact ⟨nT HB.out.size hb1, nT HB.out.size hb2, Blk.below ha1 hb10_13 (Blk.lt ha1), Blk.below ha2 hb10_13 (Blk.lt ha2)⟩)
   have o0 : w11.cell? ⟨ob, 0, none⟩ = some (.int .u64 gen) := HO11.out.cell 0
   have o1 : w11.cell? ⟨ob, 1, none⟩ = some (.int .i64 at_) := HO11.out.cell 1
   have o2 : w12.cell? ⟨ob, 2, none⟩ = some v := HO12.out.cell 2
   clear hb1 hb2 ha1 ha2 hb10 hb11 hw11 hb12 hw12 hb13 hw13 hbr11 hbr12 hbr13 hb10_13 HOW HEN HO
   go_upto_region 16 with (refine wpList_store_rowB (.tmp 11) (.tmp 55) 69 rfl rfl w10.heap.size (recT9 xs b1 b2) rfl rfl 69 _ (Blk.new w10 _ _) size_rec rfl (one_rec _ _ _ _ _ _ _ _ _ _) ?_; rw [HW11.out])
   rw [HW12.out]
   clear o0 o1
   have HTL := hI (show ts.length + 1 ≤ 1000000 by have h1 := HIN.out; have h2 := HLN.out; omega)
   go_upto_region 17 with (first
    | (refine wpList_load_rowB (.tmp 14) 67 rfl rfl w11.heap.size rfl 67 [.int .i64 (seg : Nat), .int .u64 gen, .int .i64 at_] _ Tryz.underlying67 rfl size_adr9 HAD12.out ?_)
    | (refine wpList_load_rowB (.tmp 11) 69 rfl rfl w10.heap.size rfl 69 (recT9 xs b1 b2).toList _ Tryz.underlying69 rfl size_rec HRC12.out ?_)
    | (rw [HW13.out]; refine PlM.wpList_append_rowZ (.tmp 68) (.tmp 72) rfl rfl w5.heap.size v ts.length _ rfl HOW13.out _ _ 1 1 [plV seg gen ⟨at_, xs, b1, b2⟩] rfl HL13.out (fun h => by cases h) HTL.out HB13.out.size ?_; intro v14 w14 hown hgrow hv14; obtain ⟨A14, c14, rfl⟩ := ownsRow_slice hown; have HO14 := hI (blk_past HO13.out HOW13.out (by decide) hgrow); have q14 : w14.cell? ⟨ob, 2, none⟩ = some v := HO14.out.cell 2; have f14 := HO14.out.frozen 2))
   clear o2 q14 f14
   have HB14 := hI (below_append HB13.out HOW13.out (nR _) HB13.out.size hgrow)
   have HEN14 := hI (show ∀ t, t ∈ ts ++ [⟨at_, xs, b1, b2⟩] → w5.heap.size ≤ t.b1 ∧ w5.heap.size ≤ t.b2 ∧ ArrU w14 t.b1 (keyOf t.bs) ∧ ArrU w14 t.b2 (valOf t.bs) from fun t ht => by
    obtain ⟨g1, g2, g3, g4⟩ := HEN13.out t ht
    exact ⟨g1, g2, blk_past g3 HOW13.out (by decide) hgrow, blk_past g4 HOW13.out (by decide) hgrow⟩)
   obtain ⟨w15, hw15⟩ : ∃ w15, w15 = w14.setCell ⟨ob, 2, none⟩ (.slice A14 (ts.length + 1) c14) := ⟨_, rfl⟩
   have hk15 : Kept (fun b => b ≠ ob) w14 w15 := by rw [hw15]; exact (Kept.refl _ _).setCell (p := ⟨ob, 2, none⟩) (fun h => h rfl) _
   have HO15 := hI (show Blk w15 ob 60 (scanC gen at_ (.slice A14 (ts.length + 1) c14)) by rw [hw15]; exact HO14.out.set_ 2 (.slice A14 (ts.length + 1) c14))
   have HOW15 := hI (show w15.ownsRow w5.heap.size 71 9 (.slice A14 (ts.length + 1) c14) (ts.length + 1) _ by rw [hw15]; exact own_past hown HO14.out (by decide) 2 (.slice A14 (ts.length + 1) c14))
   have HEN15 := hI (show ∀ t, t ∈ ts ++ [⟨at_, xs, b1, b2⟩] → w5.heap.size ≤ t.b1 ∧ w5.heap.size ≤ t.b2 ∧ ArrU w15 t.b1 (keyOf t.bs) ∧ ArrU w15 t.b2 (valOf t.bs) from fun t ht => by
    obtain ⟨g1, g2, g3, g4⟩ := HEN14.out t ht
    have e1 : ArrU w14 t.b1 (keyOf t.bs) := g3
    have e2 : ArrU w14 t.b2 (valOf t.bs) := g4
    exact ⟨g1, g2, Blk.kept e1 hk15 (Blk.ne_ e1 HO14.out (by decide)), Blk.kept e2 hk15 (Blk.ne_ e2 HO14.out (by decide))⟩)
   have HB15 := hI (show Below w5.heap.size w5 w15 by rw [hw15]; exact HB14.out.setCell (p := ⟨ob, 2, none⟩) (by have := HOB.out; show w5.heap.size ≤ ob; omega) (.slice A14 (ts.length + 1) c14))
   have HW15 := hI hw15.symm
   rw [HW15.out]
   clear hw15 hk15 hown hgrow hv14
   have o1 : w15.cell? ⟨ob, 1, none⟩ = some (.int .i64 at_) := HO15.out.cell 1
   have f1 := HO15.out.frozen 1
   have HO16 := hI (show Blk (w15.setCell ⟨ob, 1, none⟩ (.int .i64 ((at_ : Int) + cc))) ob 60 (scanC gen ((at_ + cc : Nat) : Int) (.slice A14 (ts.length + 1) c14)) from HO15.out.set_ 1 (.int .i64 ((at_ + cc : Nat) : Int)))
   have HOW16 := hI (own_past HOW15.out HO15.out (by decide) 1 (.int .i64 ((at_ : Int) + cc)))
   have hk16 : Kept (fun b => b ≠ ob) w15 (w15.setCell ⟨ob, 1, none⟩ (.int .i64 ((at_ : Int) + cc))) := (Kept.refl _ _).setCell (p := ⟨ob, 1, none⟩) (fun h => h rfl) _
   have HEN16 := hI (show ∀ t, t ∈ ts ++ [⟨at_, xs, b1, b2⟩] → w5.heap.size ≤ t.b1 ∧ w5.heap.size ≤ t.b2 ∧ ArrU (w15.setCell ⟨ob, 1, none⟩ (.int .i64 ((at_ : Int) + cc))) t.b1 (keyOf t.bs) ∧ ArrU (w15.setCell ⟨ob, 1, none⟩ (.int .i64 ((at_ : Int) + cc))) t.b2 (valOf t.bs) from fun t ht => by
    obtain ⟨g1, g2, g3, g4⟩ := HEN15.out t ht
    have e1 : ArrU w15 t.b1 (keyOf t.bs) := g3
    have e2 : ArrU w15 t.b2 (valOf t.bs) := g4
    exact ⟨g1, g2, Blk.kept e1 hk16 (Blk.ne_ e1 HO15.out (by decide)), Blk.kept e2 hk16 (Blk.ne_ e2 HO15.out (by decide))⟩)
   have HB16 := hI (HB15.out.setCell (p := ⟨ob, 1, none⟩) (by have := HOB.out; show w5.heap.size ≤ ob; omega) (.int .i64 ((at_ : Int) + cc)))
   clear hk16
   have hin := HIN.out
   have hin2 := HIN2.out
   have hln := HLN.out
   have hf1 : 1 ≤ f := by omega
   obtain ⟨f', rfl⟩ := Nat.exists_eq_add_of_le' hf1
   clear hf1
   have HNX := hI (show 1 ≤ at_ + cc ∧ at_ + cc ≤ xss.length ∧ xss.length ≤ at_ + cc + f' ∧ (ts ++ [(⟨at_, xs, b1, b2⟩ : Tl)]).length ≤ at_ + cc by simp only [List.length_append, List.length_cons, List.length_nil]; omega)
   have HME := hI (show cn - (at_ + cc) < cn - at_ by omega)
   have hwr : wrap64 ((at_ : Int) + cc) = (at_ : Int) + cc := IntWalk.wrap64_in _ (by omega)
   go_wp2_with fail
   have hL : scanL xss gen (f' + 1) at_ = (at_, xs) :: scanL xss gen f' (at_ + cc) := by rw [scanL, if_pos HE0.out, HXS.out, HCC.out]
   have hU : scanU xss gen (f' + 1) at_ = scanU xss gen f' (at_ + cc) := by rw [scanU, if_pos HE0.out, HCC.out]
   have h1 := HSC.out.1
   have h2 := HSC.out.2
   rw [hL] at h1
   rw [hU] at h2
   go_roundw
   case rel =>
    refine ⟨at_ + cc, f', _, ts ++ [⟨at_, xs, b1, b2⟩], HO16.out, ?_, HB16.out, ⟨?_, h2⟩, ?_, HEN16.out⟩
    ·have h9 := HOW16.out
     rw [show (ts ++ [(⟨at_, xs, b1, b2⟩ : Tl)]).length = ts.length + 1 by simp, List.map_append, PlM.flatG_append]
     exact h9
    ·rw [List.map_append, List.append_assoc]
     exact h1
    ·exact HNX.out
   case measure =>
    rw [HAT.out, sect9_eq HO16.out]
    exact HME.out
end
end
section
section
variable {P : Program} {ops : Array Oper} {Q : Exit → Act → World → Prop} {md : Region.Mode} {S : World → Prop} {st : List Nat}
def GoodL (md : Region.Mode) (ops : Array Oper) (l : Array Bool) : Prop := ∀ s o, ops[s]? = some o → l.getD s false = true → ∀ e ∈ o.after, Region.binds md e = true → l.getD e.on false = true
def goodB (md : Region.Mode) (ops : Array Oper) (l : Array Bool) : Bool := (List.range ops.size).all fun s => match ops[s]? with
 | none => true
 | some o => !(l.getD s false) || o.after.all fun e => !(Region.binds md e) || l.getD e.on false
theorem goodB_spec {l : Array Bool} (h : goodB md ops l = true) : GoodL md ops l := by
 intro s o ho hs e he hb
 have hlt : s < ops.size := (Array.getElem?_eq_some_iff.1 ho).1
 have h1 := List.all_eq_true.1 h s (List.mem_range.2 hlt)
 simp only [ho, hs, Bool.not_true, Bool.false_or] at h1
 have h2 := Array.all_eq_true'.1 h1 e he
 simpa [hb] using h2
theorem GoodL.set {l : Array Bool} {i : Nat} (h : GoodL md ops l) (hi : i ∈ Region.ready md ops l) : GoodL md ops (l.setIfInBounds i true) := by
 intro s o ho hs e he hb
 have key : l.getD e.on false = true := by
  obtain ⟨hun, oi, hoi, hall⟩ := mem_ready.1 hi
  by_cases hsi : i = s
  ·subst hsi
   rw [hoi] at ho
   injection ho with ho
   subst ho
   exact hall e he hb
  ·rw [getD_set_ne false hsi] at hs
   exact h s o ho hs e he hb
 by_cases hie : i = e.on
 ·rw [hie]
  have h1 := un_of_ready hi
  have hlt : e.on < l.size := by
   rcases Nat.lt_or_ge e.on l.size with h' | h'
   ·exact h'
   ·simp [Array.getElem?_eq_none h'] at key
  simp [hlt]
 ·rw [getD_set_ne false hie]
  exact key
def reaches (md : Region.Mode) (ops : Array Oper) : Nat → Nat → Nat → Bool
 | 0, _, _ => false
 | n + 1, s, i => match ops[s]? with
  | none => false
  | some o => o.after.any fun e => Region.binds md e && (e.on == i || reaches md ops n e.on i)
theorem reaches_listed {l : Array Bool} (hg : GoodL md ops l) {i : Nat} : ∀ (n s : Nat), (∀ o, ops[s]? = some o → ∀ e ∈ o.after, Region.binds md e = true → l.getD e.on false = true) → reaches md ops n s i = true → l.getD i false = true
 | 0, _, _, h => by cases h
 | n + 1, s, hs, h => by
  unfold reaches at h
  cases ho : ops[s]? with
  | none => simp only [ho] at h; cases h
  | some o =>
   simp only [ho] at h
   obtain ⟨e, he, hb⟩ := Array.any_eq_true'.1 h
   rw [Bool.and_eq_true] at hb
   have h1 := hs o ho e he hb.1
   rcases Bool.or_eq_true_iff.1 hb.2 with h2 | h2
   ·rw [beq_iff_eq] at h2
    rwa [h2] at h1
   ·exact reaches_listed hg n e.on (fun o' ho' e' he' hb' => hg e.on o' ho' h1 e' he' hb') h2
def waitsBy (md : Region.Mode) (ops : Array Oper) (st : List Nat) (l : Array Bool) (i : Nat) : Bool := st.all fun s => l.getD s false || reaches md ops ops.size s i
theorem waits_set {l : Array Bool} {i j : Nat} (hw : waitsBy md ops st l i = true) (hj : j < l.size) : waitsBy md ops st (l.setIfInBounds j true) i = true := by
 unfold waitsBy at *
 refine List.all_eq_true.2 fun s hs => ?_
 rcases Bool.or_eq_true_iff.1 (List.all_eq_true.1 hw s hs) with h | h
 ·refine Bool.or_eq_true_iff.2 (.inl ?_)
  by_cases e : j = s
  ·rw [e] at hj ⊢
   simp [hj]
  ·rw [getD_set_ne false e]
   exact h
 ·exact Bool.or_eq_true_iff.2 (.inr h)
theorem ready_lt {l : Array Bool} {j : Nat} (h : j ∈ Region.ready md ops l) : j < l.size := by
 have h0 := (mem_ready.1 h).1
 rcases Nat.lt_or_ge j l.size with h' | h'
 ·exact h'
 ·simp [Array.getElem?_eq_none h'] at h0
theorem not_lastG {l : Array Bool} {i s : Nat} (hg : GoodL md ops l) (hw : waitsBy md ops st l i = true) (hun : l.getD i false = false) (hs : s ∈ st) : s ∉ Region.ready md ops l := by
 intro h
 have hsun := un_of_ready h
 obtain ⟨_, o, ho, hall⟩ := mem_ready.1 h
 have h1 := List.all_eq_true.1 hw s hs
 rw [hsun, Bool.false_or] at h1
 have h2 := reaches_listed hg ops.size s (fun o' ho' e he hb => by rw [ho] at ho'; injection ho' with ho'; subst ho'; exact hall e he hb) h1
 rw [hun] at h2
 cases h2
theorem Tillst.firstG {i : Nat} {oi : Oper} {v : Value} (hi : ops[i]? = some oi) (hsel : ∀ (j : Nat) (o : Oper) cs b, ops[j]? = some o → o.op ≠ .select cs b) (hQ : ∀ c a w, Q (.panic c) (a.put oi.dst v) w → Q (.panic c) a w)
 : ∀ (k : Nat) (l : Array Bool) (a : Act) (w : World), GoodL md ops l → waitsBy md ops st l i = true →
  (∀ j oj, ops[j]? = some oj → j ≠ i → l.getD j true = false → (∀ e ∈ oj.after, Region.binds md e = true → e.on ≠ i) → oi.apart ops oj = true) →
  i ∈ Region.ready md ops l → YieldsIf P ops S oi v a → S w → Tillst P md ops Q S st k (l.setIfInBounds i true) (a.put oi.dst v) w → Tillst P md ops Q S st (k + 1) l a w := by
 intro k
 induction k with
 | zero =>
  intro l a w _ _ _ hr hy hS H
  refine ⟨fun h => (by rw [h] at hr; cases hr), fun j hj => ?_⟩
  by_cases e : j = i
  ·rw [e]
   exact hy.wpOp hi hS ⟨fun _ => hS, H⟩
  ·have := ready_mono hj e
   rw [H.1] at this
   cases this
 | succ k ih =>
  intro l a w hgd hw hfree hr hy hS H
  have hun := un_of_ready hr
  refine ⟨fun h => (by rw [h] at hr; cases hr), fun j hj => ?_⟩
  by_cases e : j = i
  ·rw [e]
   exact hy.wpOp hi hS ⟨fun _ => hS, H⟩
  have hjst : st.contains j = false := by
   rcases h : st.contains j with _ | _
   ·rfl
   ·exact absurd hj (not_lastG hgd hw hun (by simpa using h))
  obtain ⟨hjun, oj, hoj, hall⟩ := mem_ready.1 hj
  have hno : ∀ e ∈ oj.after, Region.binds md e = true → e.on ≠ i := fun e he hb heq => by
   have := hall e he hb
   rw [heq, hun] at this
   cases this
  have hput := wpOp_putIf hoj (hfree j oj hoj e hjun hno) (fun cs b => hsel i oi cs b hi) (fun cs b => hsel j oj cs b hoj) hQ hy (H.2 j (ready_mono hj e))
  refine wpOp_mono (fun b u g => ?_) hput
  have hSu := g.2.1 hjst
  refine ⟨fun _ => hSu, ih (l.setIfInBounds j true) b u (hgd.set hj) (waits_set hw (ready_lt hj)) (fun m om hm hmi hmun hmno => ?_) (ready_mono hr (Ne.symm e)) g.1 hSu ?_⟩
  ·refine hfree m om hm hmi ?_ hmno
   by_cases hjm : j = m
   ·rw [← hjm]; exact hjun
   ·rw [getD_set_ne true hjm] at hmun; exact hmun
  ·rw [Array.setIfInBounds_comm _ _ e]
   exact g.2.2
theorem Tillst.firstF {i : Nat} {oi : Oper} {v : Value} (hi : ops[i]? = some oi) (hsel : ∀ (j : Nat) (o : Oper) cs b, ops[j]? = some o → o.op ≠ .select cs b) (hQ : ∀ c a w, Q (.panic c) (a.put oi.dst v) w → Q (.panic c) a w)
 (hst : st.contains i = true) : ∀ (k : Nat) (l : Array Bool) (a : Act) (w : World),
  (∀ j oj, ops[j]? = some oj → j ≠ i → l.getD j true = false → (∀ e ∈ oj.after, Region.binds md e = true → e.on ≠ i) → oi.apart ops oj = true) →
  i ∈ Region.ready md ops l → YieldsIf P ops (fun _ => True) oi v a → Tillst P md ops Q S st k (l.setIfInBounds i true) (a.put oi.dst v) w → Tillst P md ops Q S st (k + 1) l a w := by
 intro k
 induction k with
 | zero =>
  intro l a w _ hr hy H
  refine ⟨fun h => (by rw [h] at hr; cases hr), fun j hj => ?_⟩
  by_cases e : j = i
  ·rw [e]
   exact hy.wpOp hi trivial ⟨fun h => (by rw [hst] at h; cases h), H⟩
  ·have := ready_mono hj e
   rw [H.1] at this
   cases this
 | succ k ih =>
  intro l a w hfree hr hy H
  have hun := un_of_ready hr
  refine ⟨fun h => (by rw [h] at hr; cases hr), fun j hj => ?_⟩
  by_cases e : j = i
  ·rw [e]
   exact hy.wpOp hi trivial ⟨fun h => (by rw [hst] at h; cases h), H⟩
  obtain ⟨hjun, oj, hoj, hall⟩ := mem_ready.1 hj
  have hno : ∀ e ∈ oj.after, Region.binds md e = true → e.on ≠ i := fun e he hb heq => by
   have := hall e he hb
   rw [heq, hun] at this
   cases this
  have hput := wpOp_putIf hoj (hfree j oj hoj e hjun hno) (fun cs b => hsel i oi cs b hi) (fun cs b => hsel j oj cs b hoj) hQ hy (H.2 j (ready_mono hj e))
  refine wpOp_mono (fun b u g => ?_) hput
  refine ⟨g.2.1, ih (l.setIfInBounds j true) b u (fun m om hm hmi hmun hmno => ?_) (ready_mono hr (Ne.symm e)) g.1 ?_⟩
  ·refine hfree m om hm hmi ?_ hmno
   by_cases hjm : j = m
   ·rw [← hjm]; exact hjun
   ·rw [getD_set_ne true hjm] at hmun; exact hmun
  ·rw [Array.setIfInBounds_comm _ _ e]
   exact g.2.2
theorem Tillst.takeF {i : Nat} {oi : Oper} {v : Value} {k : Nat} {l : Array Bool} {a : Act} {w : World} (hi : ops[i]? = some oi) (hs : Region.noSelect ops = true) (hf : Region.free md ops l i = true) (hr : (Region.ready md ops l).contains i = true)
 (hst : st.contains i = true) (hQ : ∀ c a w, Q (.panic c) (a.put oi.dst v) w → Q (.panic c) a w) (hgd : Region.wanted oi (yielded ops a.tmps) = true) (hy : ∀ w, (execOp a.eval oi).run P w = .ok (.value v) w)
 (h : Tillst P md ops Q S st k (l.setIfInBounds i true) (a.put oi.dst v) w) : Tillst P md ops Q S st (k + 1) l a w :=
 Tillst.firstF hi (Region.noSelect_spec hs) hQ hst k l a w (Region.free_spec hi hf) (by simpa using hr) (.inl ⟨hgd, fun w _ => hy w⟩) h
theorem Tillst.takeG {i : Nat} {oi : Oper} {v : Value} {k : Nat} {l : Array Bool} {a : Act} {w : World} (hi : ops[i]? = some oi) (hs : Region.noSelect ops = true) (hf : Region.free md ops l i = true) (hr : (Region.ready md ops l).contains i = true)
 (hg : goodB md ops l = true) (hw : waitsBy md ops st l i = true) (hQ : ∀ c a w, Q (.panic c) (a.put oi.dst v) w → Q (.panic c) a w) (hgd : Region.wanted oi (yielded ops a.tmps) = true) (hy : ∀ w, S w → (execOp a.eval oi).run P w = .ok (.value v) w) (hS : S w)
 (h : Tillst P md ops Q S st k (l.setIfInBounds i true) (a.put oi.dst v) w) : Tillst P md ops Q S st (k + 1) l a w :=
 Tillst.firstG hi (Region.noSelect_spec hs) hQ k l a w (goodB_spec hg) hw (Region.free_spec hi hf) (by simpa using hr) (.inl ⟨hgd, hy⟩) hS h
end
end
section
open Go.RowKit
attribute [local go_sem] Oper.semAt_some
abbrev rsc0 : Oper := ⟨some 19, .move (.tmp 7), 4, "ref.go:118", #[], none⟩
abbrev rsc1 : Oper := ⟨some 20, .unOp Go.UnOp.not 4 (.tmp 19), 4, "ref.go:118", #[⟨0, .data⟩], none⟩
abbrev rsc2 : Oper := ⟨some 21, .move (.tmp 20), 4, "ref.go:118", #[⟨1, .data⟩], none⟩
abbrev rsc3 : Oper := ⟨some 22, .move (.tmp 0), 82, "ref.go:118", #[⟨2, .guard⟩], some (2, false)⟩
abbrev rsc4 : Oper := ⟨some 23, .indexAddr 82 (.tmp 22) (.const (.int .i64 0)), 0, "ref.go:118", #[⟨3, .data⟩, ⟨2, .guard⟩], some (2, false)⟩
abbrev rsc5 : Oper := ⟨some 24, .load 92 (.tmp 23), 92, "ref.go:118", #[⟨4, .data⟩, ⟨2, .guard⟩], some (2, false)⟩
abbrev rsc6 : Oper := ⟨some 25, .fieldAddr 189 (.tmp 5) 0, 0, "ref.go:118", #[⟨2, .guard⟩], some (2, false)⟩
abbrev rsc7 : Oper := ⟨some 26, .load 34 (.tmp 25), 34, "ref.go:118", #[⟨6, .data⟩, ⟨2, .guard⟩], some (2, false)⟩
abbrev rsc8 : Oper := ⟨some 27, .move (.tmp 1), 3, "ref.go:118", #[⟨2, .guard⟩], some (2, false)⟩
abbrev rsc9 : Oper := ⟨some 28, .call { callee := .value (.func 112), args := #[.tmp 26, .tmp 27], argTypes := #[34, 3] }, 92, "ref.go:118", #[⟨7, .data⟩, ⟨8, .data⟩, ⟨2, .chain⟩, ⟨2, .guard⟩], some (2, false)⟩
abbrev rsc10 : Oper := ⟨some 29, .binOp Go.BinOp.neq 92 (.tmp 24) (.tmp 28) 92, 4, "ref.go:118", #[⟨5, .data⟩, ⟨9, .data⟩, ⟨2, .guard⟩], some (2, false)⟩
abbrev rsc11 : Oper := ⟨some 30, .pick (.tmp 21) (.const (.bool true)) (.tmp 29), 4, "ref.go:118", #[⟨2, .data⟩, ⟨10, .data⟩], none⟩
structure Tr where
 at_ : Nat
 bs : List Int
 A1 : Option Addr
 c1 : Nat
 A2 : Option Addr
 c2 : Nat
def Tr.two (t : Tr) : Nat × List Int := (t.at_, t.bs)
def prV (seg : Nat) (gen : Int) (t : Tr) : PlM.Pl := ⟨(seg : Int), gen, (t.at_ : Int), kindOf t.bs, flagsOf t.bs, expOf t.bs, seqOf t.bs, t.A1, klenOf t.bs, t.c1, t.A2, vlenOf t.bs, t.c2⟩
structure ToldR (w : World) (m : Nat) (seg : Nat) (gen : Int) (A : Option Addr) (c : Nat) (ts : List Tr) : Prop where
 row : PlM.RowE w (fun b => m ≤ b ∧ b < w.heap.size) A ts.length (ts.map (prV seg gen))
 cap : ts.length ≤ c
 nil : A = none → c = 0
 ent : ∀ t, t ∈ ts → RowI .u8 w (fun b => m ≤ b ∧ b < w.heap.size) t.A1 (klenOf t.bs) (keyOf t.bs) ∧ RowI .u8 w (fun b => m ≤ b ∧ b < w.heap.size) t.A2 (vlenOf t.bs) (valOf t.bs)
def RScanT (w : World) (seg : Nat) (xss : List (List Int)) (e : Ending) (w' : World) : Prop :=
 Below w.heap.size w w' ∧ ∃ A c ts gen used, e = .returned (.agg (scanC gen used (.slice A ts.length c))) ∧ gen = begunG (ldV xss 0) seg ∧ (gen = 0 → used = 0 ∧ ts = []) ∧
  (gen ≠ 0 → used = (scanU xss gen xss.length 1 : Nat) ∧ ts.map Tr.two = scanL xss gen xss.length 1) ∧ ToldR w' w.heap.size seg gen A c ts
theorem rscan_any (A : Option Addr) (n c : Nat) (xss : List (List Int)) (S : Nat → Prop) (w : World) (hx : RowK w S A n xss) (hS : ∀ b, S b → b < w.heap.size) (hs : Secs xss) (hby : ∀ i, Bytes (xss.getD i [])) (hn1 : 1 ≤ n) (hn : n ≤ 80000) (hnc : n ≤ c) (seg : Nat) (hseg : seg ≤ 15) :
 Calls Tryz.prog 46 #[.slice A n c, .int .i64 seg] w (RScanT w seg xss) := by
 have HX := hI hx
 have HS := hI hS
 have hln := hx.1
 have HSC := hI hs
 have HBY := hI hby
 obtain ⟨w1, hw1⟩ : ∃ w1, w1 = w.alloc (.cells zeroS9 60) := ⟨_, rfl⟩
 have hb1 : Below w.heap.size w w1 := by rw [hw1]; exact (Below.refl _ _).alloc (nR _) _
 have HR1 := hI (show Blk w1 w.heap.size 60 zeroS9 by rw [hw1]; exact Blk.new w _ _)
 have HB1 := hI hb1
 have HW1 := hI hw1
 clear hx hS hs hby hw1 hb1
 obtain ⟨b, off, rfl, hbS, hc⟩ := (HX.out.below HB1.out HS.out).2 (by omega)
 have hr := hc 0 (by omega)
 rw [Nat.zero_mul, Nat.add_zero] at hr
 obtain ⟨ys, hys⟩ : ∃ ys, xss.getD 0 [] = ys := ⟨_, rfl⟩
 have hyl : ys.length = 64 := by rw [← hys]; exact HSC.out.get 0 (by omega)
 have hyb : Bytes ys := by rw [← hys]; exact HBY.out 0
 have hV : ldV xss 0 = ys := by unfold ldV; rw [if_pos (by omega)]; exact hys
 rw [hys] at hr
 have HYR := hI hr
 have HYL := hI hyl
 have HYB := hI hyb
 have HV := hI hV
 have HRR := hI (rread_any9 ys w1 hyl hyb)
 have HGB := hI (gen_bounds hyb hyl)
 clear hr hyl hyb hV hys hc
 have hn0 : (0 : Int) < n := by omega
 go_enter Tryz.func46, Tryz.ntmps46
 go_upto_region 1 with fail
 rw [← HW1.out]
 go_wp2_with (refine wpList_load_blk (.tmp 13) rfl rfl b off rfl ys HYL.out HYR.out ?_)
 refine HRR.out.mono ?_
 rintro e w2 ⟨hyes, hno⟩
 cases hst : stamped ys with
 | false =>
  obtain ⟨rfl, hb2⟩ := hno hst
  have HGZ := hI (show begunG (ldV xss 0) seg = 0 by
   rw [HV.out]
   unfold begunG
   rw [if_neg (fun h => by rw [hst] at h; cases h.1)])
  obtain ⟨w3, hw3⟩ : ∃ w3, w3 = (w2.alloc (.cells #[.int .u64 0, .int .u32 0, .int .i64 0] 189)).setRow w2.heap.size #[.int .u64 0, .int .u32 0, .int .i64 0] := ⟨_, rfl⟩
  have hb3 : Below w2.heap.size w2 w3 := by rw [hw3]; exact below_setRow ((Below.refl _ _).alloc (nR _) _) (nR _) _
  have hb13 : Below w1.heap.size w1 w3 := hb2.trans (hb3.mono hb2.size)
  have HR3 := hI (HR1.out.below hb13 HR1.out.lt)
  have HB3 := hI (HB1.out.trans (hb13.mono HB1.out.size))
  have HWS := hI hw3.symm
  clear hyes hno hst hb2 hb3 hb13 hw3
  go_upto_region 2 with (refine wpList_store_rowB (.tmp 5) (.tmp 16) 189 rfl rfl w2.heap.size #[.int .u64 0, .int .u32 0, .int .i64 0] rfl rfl 189 _ (Blk.new w2 _ _) size_stamp9 rfl (by simp [Value.oneCell']) ?_; rw [HWS.out])
  refine Tillst.region (fun W => True) [] (by kernel_rfl) trivial (fun hė => ?_)
  have HBD := hI ((Below.refl w3.heap.size w3).drew)
  generalize w3.drew = vd at *
  refine Tillst.tk 0 rsc0 (v := ?_) rfl (by kernel_rfl) (by rfl) ?_ hė ?_
  rotate_left
  ·intro W hSW; (try dsimp only at hSW); unfold rsc0; go_simp; with_reducible rfl
  simp only [rsc0, Act.put, sA, sZ, sS]
  refine Tillst.tk 1 rsc1 (v := ?_) rfl (by kernel_rfl) (by rfl) ?_ hė ?_
  rotate_left
  ·intro W hSW; (try dsimp only at hSW); unfold rsc1; go_simp; with_reducible rfl
  simp only [rsc1, Act.put, sA, sZ, sS]
  refine Tillst.tk 2 rsc2 (v := ?_) rfl (by kernel_rfl) (by rfl) ?_ hė ?_
  rotate_left
  ·intro W hSW; (try dsimp only at hSW); unfold rsc2; go_simp; with_reducible rfl
  simp only [rsc2, Act.put, sA, sZ, sS]
  refine Tillst.skip (i := 3) (oi := rsc3) rfl (by kernel_rfl) (by kernel_rfl) (by kernel_rfl) (by kernel_rfl) (fun _ _ _ h => h) (by rfl) hė ?_
  simp only [rsc3, Act.put, sA, sZ, sS]
  refine Tillst.skip (i := 4) (oi := rsc4) rfl (by kernel_rfl) (by kernel_rfl) (by kernel_rfl) (by kernel_rfl) (fun _ _ _ h => h) (by rfl) hė ?_
  simp only [rsc4, Act.put, sA, sZ, sS]
  refine Tillst.skip (i := 5) (oi := rsc5) rfl (by kernel_rfl) (by kernel_rfl) (by kernel_rfl) (by kernel_rfl) (fun _ _ _ h => h) (by rfl) hė ?_
  simp only [rsc5, Act.put, sA, sZ, sS]
  refine Tillst.skip (i := 6) (oi := rsc6) rfl (by kernel_rfl) (by kernel_rfl) (by kernel_rfl) (by kernel_rfl) (fun _ _ _ h => h) (by rfl) hė ?_
  simp only [rsc6, Act.put, sA, sZ, sS]
  refine Tillst.skip (i := 7) (oi := rsc7) rfl (by kernel_rfl) (by kernel_rfl) (by kernel_rfl) (by kernel_rfl) (fun _ _ _ h => h) (by rfl) hė ?_
  simp only [rsc7, Act.put, sA, sZ, sS]
  refine Tillst.skip (i := 8) (oi := rsc8) rfl (by kernel_rfl) (by kernel_rfl) (by kernel_rfl) (by kernel_rfl) (fun _ _ _ h => h) (by rfl) hė ?_
  simp only [rsc8, Act.put, sA, sZ, sS]
  refine Tillst.skip (i := 9) (oi := rsc9) rfl (by kernel_rfl) (by kernel_rfl) (by kernel_rfl) (by kernel_rfl) (fun _ _ _ h => h) (by rfl) hė ?_
  simp only [rsc9, Act.put, sA, sZ, sS]
  refine Tillst.skip (i := 10) (oi := rsc10) rfl (by kernel_rfl) (by kernel_rfl) (by kernel_rfl) (by kernel_rfl) (fun _ _ _ h => h) (by rfl) hė ?_
  simp only [rsc10, Act.put, sA, sZ, sS]
  refine Tillst.tk 11 rsc11 (v := ?_) rfl (by kernel_rfl) (by rfl) ?_ hė ?_
  rotate_left
  ·intro W hSW; (try dsimp only at hSW); unfold rsc11; go_simp; with_reducible rfl
  simp only [rsc11, Act.put, sA, sZ, sS]
  refine Tillst.done (by kernel_rfl) ?_ _
  have HRX := hI (HR3.out.below HBD.out HR3.out.lt)
  have HBX := hI (HB3.out.trans (HBD.out.mono HB3.out.size))
  go_wp2_with (first
   | (with_reducible refine halt_end ?_)
   | (refine wpList_store_rowB (.tmp 4) (.tmp 31) 60 rfl rfl w.heap.size zeroS9 rfl rfl 60 _ HRX.out size_scan rfl one_zeroS9 ?_))
  exact Halt.ret (results_row1 rfl _ _ w.heap.size 60 zeroS9 _ rfl (setRow_heap _ _ _ zeroS9 _ _ HRX.out) Tryz.underlying60 rfl size_scan) rfl ⟨below_setRow HBX.out (nR _) _, none, 0, [], 0, 0, rfl, HGZ.out.symm, fun _ => ⟨rfl, rfl⟩, fun h => absurd rfl h, ⟨⟨rfl, fun h => absurd h (by simp)⟩, nR _, fun _ => rfl, fun t ht => by simp at ht⟩⟩
 | true =>
  obtain ⟨A2, c2, rfl, _, hb2, _⟩ := hyes hst
  obtain ⟨w3, hw3⟩ : ∃ w3, w3 = (w2.alloc (.cells #[.int .u64 0, .int .u32 0, .int .i64 0] 189)).setRow w2.heap.size #[.int .u64 (genOf ys), .int .u32 (posOf ys), .int .i64 (fillOf ys)] := ⟨_, rfl⟩
  have hb3 : Below w2.heap.size w2 w3 := by rw [hw3]; exact below_setRow ((Below.refl _ _).alloc (nR _) _) (nR _) _
  have HST3 := hI (show Blk w3 w2.heap.size 189 #[.int .u64 (genOf ys), .int .u32 (posOf ys), .int .i64 (fillOf ys)] by rw [hw3]; exact setRow_heap _ _ _ _ _ _ (Blk.new w2 _ _))
  have hb13 : Below w1.heap.size w1 w3 := hb2.trans (hb3.mono hb2.size)
  have HR3 := hI (HR1.out.below hb13 HR1.out.lt)
  have HB3 := hI (HB1.out.trans (hb13.mono HB1.out.size))
  have HRG3 := hI (show ∀ W, Below w3.heap.size w3 W → W.rangeAt b off (ys.map (Value.int .u8)) ∧ W.cell? ⟨w2.heap.size, 0, none⟩ = some (.int .u64 (genOf ys)) from fun W hW => by
   have hbb : b < w1.heap.size := nL (HS.out b hbS) HB1.out.size
   have hb1W : Below w1.heap.size w1 W := hb13.trans (hW.mono hb13.size)
   exact ⟨fun j v hv => (hb1W.cell (p := ⟨b, _, none⟩) hbb).trans (HYR.out j v hv), (HST3.out.below hW HST3.out.lt).cell 0⟩)
  have HWS := hI hw3.symm
  have HST := hI hst
  clear hyes hno hst hb2 hb3 hb13 hw3
  go_upto_region 2 with (refine wpList_store_rowB (.tmp 5) (.tmp 16) 189 rfl rfl w2.heap.size #[.int .u64 (genOf ys), .int .u32 (posOf ys), .int .i64 (fillOf ys)] rfl rfl 189 _ (Blk.new w2 _ _) size_stamp9 rfl (by simp [Value.oneCell']) ?_; rw [HWS.out])
  obtain ⟨bq, hbq⟩ : ∃ bq, (!(ys == hdrL seg (genOf ys))) = bq := ⟨_, rfl⟩
  have HBQ := hI hbq
  clear hbq
  refine Tillst.region (fun W => W.rangeAt b off (ys.map (Value.int .u8)) ∧ W.cell? ⟨w2.heap.size, 0, none⟩ = some (.int .u64 (genOf ys))) [] (by kernel_rfl) (HRG3.out _ (Below.refl _ _).drew) (fun hė => ?_)
  have HBD := hI ((Below.refl w3.heap.size w3).drew)
  generalize w3.drew = vd at *
  refine Tillst.tk 0 rsc0 (v := ?_) rfl (by kernel_rfl) (by rfl) ?_ hė ?_
  rotate_left
  ·intro W hSW; (try dsimp only at hSW); unfold rsc0; go_simp; with_reducible rfl
  simp only [rsc0, Act.put, sA, sZ, sS]
  refine Tillst.tk 1 rsc1 (v := ?_) rfl (by kernel_rfl) (by rfl) ?_ hė ?_
  rotate_left
  ·intro W hSW; (try dsimp only at hSW); unfold rsc1; go_simp; with_reducible rfl
  simp only [rsc1, Act.put, sA, sZ, sS]
  refine Tillst.tk 2 rsc2 (v := ?_) rfl (by kernel_rfl) (by rfl) ?_ hė ?_
  rotate_left
  ·intro W hSW; (try dsimp only at hSW); unfold rsc2; go_simp; with_reducible rfl
  simp only [rsc2, Act.put, sA, sZ, sS]
  refine Tillst.tk 3 rsc3 (v := ?_) rfl (by kernel_rfl) (by rfl) ?_ hė ?_
  rotate_left
  ·intro W hSW; (try dsimp only at hSW); unfold rsc3; go_simp; with_reducible rfl
  simp only [rsc3, Act.put, sA, sZ, sS]
  refine Tillst.tk 4 rsc4 (v := .pointer (some ⟨b, off, none⟩)) rfl (by kernel_rfl) (by rfl) ?_ hė ?_
  ·intro W hSW; clear hSW; unfold rsc4; go_simp; intro h9; omega
  simp only [rsc4, Act.put, sA, sZ, sS]
  refine Tillst.tk 5 rsc5 (v := .agg (cells8 ys)) rfl (by kernel_rfl) (by rfl) ?_ hė ?_
  ·intro W hSW; refine exec_load_row (.tmp 23) 92 ?_ b off ?_ (ys.map (Value.int .u8)) _ Tryz.underlying92 rfl ?_ hSW.1 <;> first | rfl | (rw [size_blk]; simp [HYL.out])
  simp only [rsc5, Act.put, sA, sZ, sS]
  refine Tillst.tk 6 rsc6 (v := ?_) rfl (by kernel_rfl) (by rfl) ?_ hė ?_
  rotate_left
  ·intro W hSW; (try dsimp only at hSW); unfold rsc6; go_simp; with_reducible rfl
  simp only [rsc6, Act.put, sA, sZ, sS]
  refine Tillst.tk 7 rsc7 (v := ?_) rfl (by kernel_rfl) (by rfl) ?_ hė ?_
  rotate_left
  ·intro W hSW; have h9 := hSW.2; clear hSW; unfold rsc7; go_simp; with_reducible rfl
  simp only [rsc7, Act.put, sA, sZ, sS]
  refine Tillst.tk 8 rsc8 (v := ?_) rfl (by kernel_rfl) (by rfl) ?_ hė ?_
  rotate_left
  ·intro W hSW; (try dsimp only at hSW); unfold rsc8; go_simp; with_reducible rfl
  simp only [rsc8, Act.put, sA, sZ, sS]
  refine Tillst.one (i := 9) (o := rsc9) (by kernel_rfl) rfl ?_
  intro K hK
  refine step_call 112 #[.tmp 26, .tmp 27] #[34, 3] rfl rfl Tryz.func112 rfl rfl [.int .u64 (genOf ys), .int .i64 seg] rfl ((rheader_any seg (genOf ys) vd hseg ⟨by have := HGB.out; omega, by have := HGB.out; omega⟩).mono ?_)
  rintro e w4 ⟨rfl, hb4⟩
  refine ⟨_, rfl, ?_⟩
  simp only [rsc9, Act.put, sA, sZ, sS]
  have hb34 : Below w3.heap.size w3 w4 := HBD.out.trans (hb4.mono HBD.out.size)
  have hH4 := HRG3.out w4 hb34
  have HB34 := hI hb34
  refine hK.out _ _ (fun _ => hH4) (fun hė => ?_)
  replace hė := hė (by decide)
  clear hK K hH4 hb4 hb34
  refine Tillst.tk 10 rsc10 (v := .bool bq) rfl (by kernel_rfl) (by rfl) ?_ hė ?_
  ·intro W hSW; refine (exec_neq_blk (.tmp 24) (.tmp 28) _ rfl ys (hdrL seg (genOf ys)) rfl rfl HYL.out (hdrL_length _ _)).trans ?_; rw [HBQ.out]
  simp only [rsc10, Act.put, sA, sZ, sS]
  refine Tillst.tk 11 rsc11 (v := ?_) rfl (by kernel_rfl) (by rfl) ?_ hė ?_
  rotate_left
  ·intro W hSW; (try dsimp only at hSW); unfold rsc11; go_simp; with_reducible rfl
  simp only [rsc11, Act.put, sA, sZ, sS]
  refine Tillst.done (by kernel_rfl) ?_ _
  clear hė
  have HR4 := hI (HR3.out.below HB34.out HR3.out.lt)
  have HB4 := hI (HB3.out.trans (HB34.out.mono HB3.out.size))
  cases bq with
  | true =>
   have HGZ := hI (show begunG (ldV xss 0) seg = 0 by
    rw [HV.out]
    unfold begunG
    rw [if_neg (fun h => by have h9 := HBQ.out; rw [h.2] at h9; simp at h9)])
   have HRX := HR4
   have HBX := HB4
   go_wp2_with (first
    | (with_reducible refine halt_end ?_)
    | (refine wpList_store_rowB (.tmp 4) (.tmp 31) 60 rfl rfl w.heap.size zeroS9 rfl rfl 60 _ HRX.out size_scan rfl one_zeroS9 ?_))
   exact Halt.ret (results_row1 rfl _ _ w.heap.size 60 zeroS9 _ rfl (setRow_heap _ _ _ zeroS9 _ _ HRX.out) Tryz.underlying60 rfl size_scan) rfl ⟨below_setRow HBX.out (nR _) _, none, 0, [], 0, 0, rfl, HGZ.out.symm, fun _ => ⟨rfl, rfl⟩, fun h => absurd rfl h, ⟨⟨rfl, fun h => absurd h (by simp)⟩, nR _, fun _ => rfl, fun t ht => by simp at ht⟩⟩
  | false =>
   have hhd : hdrL seg (genOf ys) = ys := by have h9 := HBQ.out; simp at h9; exact h9.symm
   have HGE := hI (show genOf ys = begunG (ldV xss 0) seg by
    rw [HV.out]
    unfold begunG
    rw [if_pos ⟨HST.out, hhd⟩])
   have HG1 := hI (show genOf ys ≠ 0 from fun h => by
    have h9 := HST.out
    unfold stamped at h9
    simp [h] at h9)
   have HSTB := hI (HST3.out.below HB34.out HST3.out.lt)
   clear hhd
   generalize genOf ys = gen at *
   have q0 : w4.cell? ⟨w2.heap.size, 0, none⟩ = some (.int .u64 gen) := HSTB.out.cell 0
   obtain ⟨w5, hw5⟩ : ∃ w5, w5 = w4.alloc (.cells (scanC gen 1 (.slice none 0 0)) 60) := ⟨_, rfl⟩
   have HO5 := hI (show Blk w5 w4.heap.size 60 (scanC gen 1 (.slice none 0 0)) by rw [hw5]; exact Blk.new w4 _ _)
   have HB5 := hI (show Below w4.heap.size w4 w5 by rw [hw5]; exact (Below.refl _ _).alloc (nR _) _)
   have HW5 := hI hw5.symm
   clear hw5
   go_wp2_with fail
   rw [HW5.out]
   clear q0 HW5
   have HLN := hI hln
   obtain ⟨ob, hob⟩ : ∃ ob, w4.heap.size = ob := ⟨_, rfl⟩
   rw [hob] at HO5
   rw [hob]
   have HOB := hI hob
   have HSB := hI (show w2.heap.size < ob by rw [← hob]; exact HSTB.out.lt)
   have HWO := hI (show w.heap.size < ob by rw [← hob]; exact HR4.out.lt)
   clear hob
   go_loopw [35] (fun _ W => ∃ (at_ f : Nat) (v : Value) (ts : List Tr), Blk W ob 60 (scanC gen at_ v) ∧ W.ownsRow ob 71 9 v ts.length (PlM.flatG (ts.map (prV seg gen))) ∧ Below w4.heap.size w4 W ∧
    (ts.map Tr.two ++ scanL xss gen f at_ = scanL xss gen xss.length 1 ∧ scanU xss gen f at_ = scanU xss gen xss.length 1) ∧ (1 ≤ at_ ∧ at_ ≤ xss.length ∧ xss.length ≤ at_ + f ∧ ts.length ≤ at_) ∧
    ∀ t, t ∈ ts → RowI .u8 W (fun b => (ob < b ∧ b < W.heap.size) ∧ v.ownBlock ≠ some b) t.A1 (klenOf t.bs) (keyOf t.bs) ∧ RowI .u8 W (fun b => (ob < b ∧ b < W.heap.size) ∧ v.ownBlock ≠ some b) t.A2 (vlenOf t.bs) (valOf t.bs)) (fun _ W => n - sect9 W ob)
   case atStart => exact ⟨1, xss.length, _, [], HO5.out, ⟨rfl, .inl ⟨rfl, rfl⟩⟩, HB5.out, ⟨rfl, rfl⟩, by have := HLN.out; simp only [List.length_nil]; omega, fun t ht => by simp at ht⟩
   case round =>
   clear HO5 HB5
   obtain ⟨at_, f, v, ts, ho, hown, hb, hsc, hin, hent⟩ := hrel
   have HO := hI ho
   have HOW := hI hown
   have HB := hI hb
   have HSCL := hI hsc
   have HIN := hI hin
   have HEN := hI hent
   have HAT := hI (sect9_eq HO.out)
   have hat := HIN.out
   have hXR : RowK wr S (some ⟨b, off, none⟩) n xss := HX.out.below (HB4.out.trans (HB.out.mono HB4.out.size)) HS.out
   have HST := hI (rrecord_any (some ⟨b, off, none⟩) n c xss S wr hXR (fun b h => nL (HS.out b h) (HB4.out.trans (HB.out.mono HB4.out.size)).size) HSC.out HBY.out hn hnc gen at_ (by omega))
   have HSTR := hI (HSTB.out.below HB.out HSTB.out.lt)
   have q0 : wr.cell? ⟨w2.heap.size, 0, none⟩ = some (.int .u64 gen) := HSTR.out.cell 0
   have o1 : wr.cell? ⟨ob, 1, none⟩ = some (.int .i64 at_) := HO.out.cell 1
   clear ho hown hb hsc hin hent hat hXR
   go_wp2_with fail
   refine HST.out.mono ?_
   rintro e w10 ⟨hb10, hst⟩
   clear q0 o1 HST
   rcases hst with ⟨hne, rfl⟩ | ⟨he0, xs, A1, c1, A2', c2', hxs, rfl, hr1, hr2⟩
   ·-- none stands there: what was found is told
    have HNE := hI hne
    obtain ⟨w11, hw11⟩ : ∃ w11, w11 = (w10.alloc (.cells zeroC 69)).setRow w10.heap.size zeroC := ⟨_, rfl⟩
    have hb11 : Below w10.heap.size w10 w11 := by rw [hw11]; exact below_setRow ((Below.refl _ _).alloc (nR _) _) (nR _) _
    have hb11w : Below wr.heap.size wr w11 := hb10.trans (hb11.mono hb10.size)
    have HO11 := hI (HO.out.below hb11w HO.out.lt)
    have HB11 := hI (HB.out.trans (hb11w.mono HB.out.size))
    have HR11 := hI (HR4.out.below HB11.out HR4.out.lt)
    have HOW11 := hI (own_below HOW.out hb11w)
    have HEN11 := hI (fun t (ht : t ∈ ts) => by
     obtain ⟨g1, g2⟩ := HEN.out t ht
     have hsz := hb11w.size
     exact (show RowI .u8 w11 (fun b => ob < b ∧ b < w11.heap.size) t.A1 (klenOf t.bs) (keyOf t.bs) ∧ RowI .u8 w11 (fun b => ob < b ∧ b < w11.heap.size) t.A2 (vlenOf t.bs) (valOf t.bs) from
      ⟨(g1.below hb11w (fun b h => h.1.2)).more (fun b h => ⟨h.1.1, nL h.1.2 hsz⟩), (g2.below hb11w (fun b h => h.1.2)).more (fun b h => ⟨h.1.1, nL h.1.2 hsz⟩)⟩))
    have HW11 := hI hw11.symm
    clear hne hb10 hb11 hb11w hw11
    obtain ⟨A, cap, rfl, hcap, hnil, hrow⟩ := PlM.rowZ_own HOW11.out rfl (by simp)
    have HROW := hI (And.intro hcap (And.intro hnil hrow))
    clear hcap hnil hrow
    go_wp2_with (first
     | (with_reducible refine halt_end ?_)
     | (refine wpList_store_rowB (.tmp 9) (.tmp 42) 69 rfl rfl w10.heap.size zeroC rfl rfl 69 _ (Blk.new w10 _ _) size_rec rfl one_zero ?_; rw [HW11.out])
     | (refine wpList_load_rowB (.tmp 8) 60 rfl rfl ob rfl 60 (scanC gen at_ (.slice A ts.length cap)).toList _ Tryz.underlying60 rfl size_scan HO11.out ?_)
     | (refine wpList_store_rowB (.tmp 4) (.tmp 46) 60 rfl rfl w.heap.size (scanC gen at_ (.slice A ts.length cap)) rfl rfl 60 _ HR11.out size_scan rfl (by simp [Value.oneCell']) ?_))
    have hkr : Kept (fun b => b ≠ w.heap.size) w11 (w11.setRow w.heap.size (scanC gen at_ (.slice A ts.length cap))) := (Kept.refl _ _).setRow (fun h => h rfl) _
    have hszs : w11.heap.size ≤ (w11.setRow w.heap.size (scanC gen at_ (.slice A ts.length cap))).heap.size := hkr.size
    have hwo := HWO.out
    refine Halt.ret (results_row1 rfl _ _ w.heap.size 60 (scanC gen at_ (.slice A ts.length cap)) _ rfl (setRow_heap _ _ _ _ _ _ HR11.out) Tryz.underlying60 rfl size_scan) rfl ⟨below_setRow (HB4.out.trans (HB11.out.mono HB4.out.size)) (nR _) _, A, cap, ts, gen, at_, rfl, HGE.out, fun h => absurd h HG1.out, fun _ => ⟨?_, ?_⟩, ⟨?_, HROW.out.1, HROW.out.2.1, fun t ht => ?_⟩⟩
    ·rw [← HSCL.out.2, scanU_end HNE.out]
    ·rw [← HSCL.out.1, scanL_end HNE.out, List.append_nil]
    ·exact (HROW.out.2.2.kept hkr (fun b hb => by omega)).more (fun b hb => ⟨by omega, nL hb.2 hszs⟩)
    ·obtain ⟨g5, g6⟩ := HEN11.out t ht
     exact ⟨(g5.kept hkr (fun b hb => by omega)).more (fun b hb => ⟨by omega, nL hb.2 hszs⟩), (g6.kept hkr (fun b hb => by omega)).more (fun b hb => ⟨by omega, nL hb.2 hszs⟩)⟩
   ·-- one stands there
    have hin2 := stand_in he0
    obtain ⟨cc, hcc⟩ : ∃ cc, beginsN (ldV xss at_) gen at_ = cc := ⟨_, rfl⟩
    have HE0 := hI he0
    have HCC := hI hcc
    have HXS := hI hxs
    rw [hcc] at hin2 ⊢
    have HIN2 := hI hin2
    have hccn : ((cc : Int) == 0) = false := by simp; omega
    clear hxs hcc he0
    obtain ⟨rc, hrc⟩ : ∃ rc : Array Value, rc = #[.int .i64 (kindOf xs), .int .u32 (flagsOf xs), .int .u32 (expOf xs), .int .u64 (seqOf xs), .slice A1 (klenOf xs) c1, .slice A2' (vlenOf xs) c2'] := ⟨_, rfl⟩
    have HRC := hI hrc
    rw [← hrc]
    obtain ⟨w11, hw11⟩ : ∃ w11, w11 = (w10.alloc (.cells zeroC 69)).setRow w10.heap.size rc := ⟨_, rfl⟩
    have hb11 : Below w10.heap.size w10 w11 := by rw [hw11]; exact below_setRow ((Below.refl _ _).alloc (nR _) _) (nR _) _
    have HRC11 := hI (show Blk w11 w10.heap.size 69 #[.int .i64 (kindOf xs), .int .u32 (flagsOf xs), .int .u32 (expOf xs), .int .u64 (seqOf xs), .slice A1 (klenOf xs) c1, .slice A2' (vlenOf xs) c2'] by rw [hw11, ← hrc]; exact setRow_heap _ _ _ _ _ _ (Blk.new w10 _ _))
    have HW11 := hI hw11.symm
    obtain ⟨w13, hw13⟩ : ∃ w13, w13 = w11.alloc (.cells #[.int .i64 (seg : Nat), .int .u64 gen, .int .i64 at_, .int .i64 (kindOf xs), .int .u32 (flagsOf xs), .int .u32 (expOf xs), .int .u64 (seqOf xs), .slice A1 (klenOf xs) c1, .slice A2' (vlenOf xs) c2'] 71) := ⟨_, rfl⟩
    have hb13 : Below w11.heap.size w11 w13 := by rw [hw13]; exact (Below.refl _ _).alloc (nR _) _
    have HL13 := hI (show PlM.RowE w13 (fun _ => True) (some ⟨w11.heap.size, 0, none⟩) 1 [prV seg gen ⟨at_, xs, A1, c1, A2', c2'⟩] from PlM.row_of_flat (X := []) (g := w11.heap.size) (t := 71) (by rw [hw13, List.append_nil, PlM.flatG_one]; exact Blk.new w11 _ _) trivial rfl)
    have HW13 := hI hw13.symm
    have hbr11 : Below wr.heap.size wr w11 := hb10.trans (hb11.mono hb10.size)
    have hbr13 : Below wr.heap.size wr w13 := hbr11.trans (hb13.mono hbr11.size)
    have hb10_13 : Below w10.heap.size w10 w13 := hb11.trans (hb13.mono hb11.size)
    have HO11 := hI (HO.out.below hbr11 HO.out.lt)
    have HO13 := hI (HO.out.below hbr13 HO.out.lt)
    have HB13 := hI (HB.out.trans (hbr13.mono HB.out.size))
    have HSTR11 := hI (HSTR.out.below hbr11 HSTR.out.lt)
    have HOW13 := hI (own_below HOW.out hbr13)
    have HVO := hI (show ∀ g, v.ownBlock = some g → g < wr.heap.size from fun g e => (HOW.out.lt g e).2)
    have HEN13 := hI (show ∀ t, t ∈ ts ++ [⟨at_, xs, A1, c1, A2', c2'⟩] → RowI .u8 w13 (fun b => (ob < b ∧ b < w13.heap.size) ∧ v.ownBlock ≠ some b) t.A1 (klenOf t.bs) (keyOf t.bs) ∧ RowI .u8 w13 (fun b => (ob < b ∧ b < w13.heap.size) ∧ v.ownBlock ≠ some b) t.A2 (vlenOf t.bs) (valOf t.bs) from fun t ht => by
     have hsz := hbr13.size
     have hsz2 := hb10_13.size
     have hol := HO.out.lt
     rcases List.mem_append.1 ht with ht | ht
     ·obtain ⟨g1, g2⟩ := HEN.out t ht
      exact ⟨(g1.below hbr13 (fun b h => h.1.2)).more (fun b h => ⟨⟨h.1.1, by omega⟩, h.2⟩), (g2.below hbr13 (fun b h => h.1.2)).more (fun b h => ⟨⟨h.1.1, by omega⟩, h.2⟩)⟩
     ·rw [List.mem_singleton.1 ht]
      exact ⟨(hr1.below hb10_13 (fun b h => h.2)).more (fun b h => ⟨⟨by omega, by omega⟩, fun e => by have := HVO.out b e; omega⟩), (hr2.below hb10_13 (fun b h => h.2)).more (fun b h => ⟨⟨by omega, by omega⟩, fun e => by have := HVO.out b e; omega⟩)⟩)
    have q0 : w11.cell? ⟨w2.heap.size, 0, none⟩ = some (.int .u64 gen) := HSTR11.out.cell 0
    have o1 : w11.cell? ⟨ob, 1, none⟩ = some (.int .i64 at_) := HO11.out.cell 1
    have o2 : w11.cell? ⟨ob, 2, none⟩ = some v := HO11.out.cell 2
    have HTL := hI (show ts.length + 1 ≤ 1000000 by have h1 := HIN.out; have h2 := HLN.out; omega)
    have HRS := hI (show rc.size = 6 ∧ rc.all (·.oneCell') = true from ⟨by rw [hrc]; rfl, by rw [hrc]; simp [Value.oneCell']⟩)
    have HOBL := hI (show ob < wr.heap.size from HO.out.lt)
    clear hr1 hr2 hb10 hb11 hw11 hb13 hw13 hbr11 hbr13 hb10_13 HOW HEN HO hrc
    go_upto_region 6 with (refine wpList_store_rowB (.tmp 9) (.tmp 42) 69 rfl rfl w10.heap.size rc rfl rfl 69 _ (Blk.new w10 _ _) (by rw [HRS.out.1]; exact size_rec) (by rw [HRS.out.1]; rfl) HRS.out.2 ?_; rw [HW11.out])
    go_upto_region 9 with (first
     | (refine wpList_load_rowB (.tmp 9) 69 rfl rfl w10.heap.size rfl 69 [.int .i64 (kindOf xs), .int .u32 (flagsOf xs), .int .u32 (expOf xs), .int .u64 (seqOf xs), .slice A1 (klenOf xs) c1, .slice A2' (vlenOf xs) c2'] _ Tryz.underlying69 rfl size_rec HRC11.out ?_)
     | (rw [HW13.out]; refine PlM.wpList_append_rowZ (.tmp 48) (.tmp 57) rfl rfl ob v ts.length _ rfl HOW13.out _ _ 1 1 [prV seg gen ⟨at_, xs, A1, c1, A2', c2'⟩] rfl HL13.out (fun h => by cases h) HTL.out (Nat.le_of_lt HO13.out.lt) ?_; intro v14 w14 hown hgrow hv14; obtain ⟨A14, c14, rfl⟩ := ownsRow_slice hown; have HO14 := hI (blk_past HO13.out HOW13.out (by decide) hgrow); have q14 : w14.cell? ⟨ob, 2, none⟩ = some v := HO14.out.cell 2; have f14 := HO14.out.frozen 2))
    clear o2 q14 f14 q0 o1 hccn
    have hkg : Kept (fun b => b < w13.heap.size ∧ v.ownBlock ≠ some b) w13 w14 := (Kept.refl _ w13).grown hgrow (fun b h => h.1) (fun g e h => h.2 e)
    have HB14 := hI (below_append HB13.out HOW13.out (by rw [HOB.out]; exact nR _) HB13.out.size hgrow)
    have hs14 : w13.heap.size ≤ w14.heap.size := hkg.size
    have hnew : ∀ b, b < w13.heap.size → v.ownBlock ≠ some b → (Value.slice A14 (ts.length + 1) c14).ownBlock ≠ some b := fun b h1 h2 e => by
     rcases hv14 with h | h
     ·exact h2 (h.symm.trans e)
     ·rw [h] at e
      injection e with e
      omega
    have HEN14 := hI (show ∀ t, t ∈ ts ++ [⟨at_, xs, A1, c1, A2', c2'⟩] → RowI .u8 w14 (fun b => (ob < b ∧ b < w14.heap.size) ∧ (Value.slice A14 (ts.length + 1) c14).ownBlock ≠ some b) t.A1 (klenOf t.bs) (keyOf t.bs) ∧ RowI .u8 w14 (fun b => (ob < b ∧ b < w14.heap.size) ∧ (Value.slice A14 (ts.length + 1) c14).ownBlock ≠ some b) t.A2 (vlenOf t.bs) (valOf t.bs) from fun t ht => by
     obtain ⟨g1, g2⟩ := HEN13.out t ht
     exact ⟨(g1.kept hkg (fun b h => ⟨h.1.2, h.2⟩)).more (fun b h => ⟨⟨h.1.1, nL h.1.2 hs14⟩, hnew b h.1.2 h.2⟩), (g2.kept hkg (fun b h => ⟨h.1.2, h.2⟩)).more (fun b h => ⟨⟨h.1.1, nL h.1.2 hs14⟩, hnew b h.1.2 h.2⟩)⟩)
    obtain ⟨w15, hw15⟩ : ∃ w15, w15 = w14.setCell ⟨ob, 2, none⟩ (.slice A14 (ts.length + 1) c14) := ⟨_, rfl⟩
    have hk15 : Kept (fun b => b ≠ ob) w14 w15 := by rw [hw15]; exact (Kept.refl _ _).setCell (p := ⟨ob, 2, none⟩) (fun h => h rfl) _
    have hs15 : w14.heap.size ≤ w15.heap.size := hk15.size
    have HO15 := hI (show Blk w15 ob 60 (scanC gen at_ (.slice A14 (ts.length + 1) c14)) by rw [hw15]; exact HO14.out.set_ 2 (.slice A14 (ts.length + 1) c14))
    have HOW15 := hI (show w15.ownsRow ob 71 9 (.slice A14 (ts.length + 1) c14) (ts.length + 1) _ by rw [hw15]; exact own_past hown HO14.out (by decide) 2 (.slice A14 (ts.length + 1) c14))
    have HEN15 := hI (show ∀ t, t ∈ ts ++ [⟨at_, xs, A1, c1, A2', c2'⟩] → RowI .u8 w15 (fun b => (ob < b ∧ b < w15.heap.size) ∧ (Value.slice A14 (ts.length + 1) c14).ownBlock ≠ some b) t.A1 (klenOf t.bs) (keyOf t.bs) ∧ RowI .u8 w15 (fun b => (ob < b ∧ b < w15.heap.size) ∧ (Value.slice A14 (ts.length + 1) c14).ownBlock ≠ some b) t.A2 (vlenOf t.bs) (valOf t.bs) from fun t ht => by
     obtain ⟨g1, g2⟩ := HEN14.out t ht
     exact ⟨(g1.kept hk15 (fun b h => by have := h.1.1; omega)).more (fun b h => ⟨⟨h.1.1, nL h.1.2 hs15⟩, h.2⟩), (g2.kept hk15 (fun b h => by have := h.1.1; omega)).more (fun b h => ⟨⟨h.1.1, nL h.1.2 hs15⟩, h.2⟩)⟩)
    have HB15 := hI (show Below w4.heap.size w4 w15 by rw [hw15]; exact HB14.out.setCell (p := ⟨ob, 2, none⟩) (by have := HOB.out; show w4.heap.size ≤ ob; omega) (.slice A14 (ts.length + 1) c14))
    have HW15 := hI hw15.symm
    rw [HW15.out]
    clear hw15 hk15 hown hgrow hv14 hkg hnew hs14 hs15
    have o1 : w15.cell? ⟨ob, 1, none⟩ = some (.int .i64 at_) := HO15.out.cell 1
    have f1 := HO15.out.frozen 1
    have HO16 := hI (show Blk (w15.setCell ⟨ob, 1, none⟩ (.int .i64 ((at_ : Int) + cc))) ob 60 (scanC gen ((at_ + cc : Nat) : Int) (.slice A14 (ts.length + 1) c14)) from HO15.out.set_ 1 (.int .i64 ((at_ + cc : Nat) : Int)))
    have HOW16 := hI (own_past HOW15.out HO15.out (by decide) 1 (.int .i64 ((at_ : Int) + cc)))
    have hk16 : Kept (fun b => b ≠ ob) w15 (w15.setCell ⟨ob, 1, none⟩ (.int .i64 ((at_ : Int) + cc))) := (Kept.refl _ _).setCell (p := ⟨ob, 1, none⟩) (fun h => h rfl) _
    have hs16 : w15.heap.size ≤ (w15.setCell ⟨ob, 1, none⟩ (.int .i64 ((at_ : Int) + cc))).heap.size := hk16.size
    have HEN16 := hI (show ∀ t, t ∈ ts ++ [⟨at_, xs, A1, c1, A2', c2'⟩] → RowI .u8 (w15.setCell ⟨ob, 1, none⟩ (.int .i64 ((at_ : Int) + cc))) (fun b => (ob < b ∧ b < (w15.setCell ⟨ob, 1, none⟩ (.int .i64 ((at_ : Int) + cc))).heap.size) ∧ (Value.slice A14 (ts.length + 1) c14).ownBlock ≠ some b) t.A1 (klenOf t.bs) (keyOf t.bs) ∧ RowI .u8 (w15.setCell ⟨ob, 1, none⟩ (.int .i64 ((at_ : Int) + cc))) (fun b => (ob < b ∧ b < (w15.setCell ⟨ob, 1, none⟩ (.int .i64 ((at_ : Int) + cc))).heap.size) ∧ (Value.slice A14 (ts.length + 1) c14).ownBlock ≠ some b) t.A2 (vlenOf t.bs) (valOf t.bs) from fun t ht => by
     obtain ⟨g1, g2⟩ := HEN15.out t ht
     exact ⟨(g1.kept hk16 (fun b h => by have := h.1.1; omega)).more (fun b h => ⟨⟨h.1.1, nL h.1.2 hs16⟩, h.2⟩), (g2.kept hk16 (fun b h => by have := h.1.1; omega)).more (fun b h => ⟨⟨h.1.1, nL h.1.2 hs16⟩, h.2⟩)⟩)
    have HB16 := hI (HB15.out.setCell (p := ⟨ob, 1, none⟩) (by have := HOB.out; show w4.heap.size ≤ ob; omega) (.int .i64 ((at_ : Int) + cc)))
    clear hk16 hs16
    have hin := HIN.out
    have hin2 := HIN2.out
    have hln := HLN.out
    have hf1 : 1 ≤ f := by omega
    obtain ⟨f', rfl⟩ := Nat.exists_eq_add_of_le' hf1
    clear hf1
    have HNX := hI (show 1 ≤ at_ + cc ∧ at_ + cc ≤ xss.length ∧ xss.length ≤ at_ + cc + f' ∧ (ts ++ [(⟨at_, xs, A1, c1, A2', c2'⟩ : Tr)]).length ≤ at_ + cc by simp only [List.length_append, List.length_cons, List.length_nil]; omega)
    have HME := hI (show n - (at_ + cc) < n - at_ by omega)
    have hwr : wrap64 ((at_ : Int) + cc) = (at_ : Int) + cc := IntWalk.wrap64_in _ (by omega)
    go_wp2_with fail
    have hL : scanL xss gen (f' + 1) at_ = (at_, xs) :: scanL xss gen f' (at_ + cc) := by rw [scanL, if_pos HE0.out, HXS.out, HCC.out]
    have hU : scanU xss gen (f' + 1) at_ = scanU xss gen f' (at_ + cc) := by rw [scanU, if_pos HE0.out, HCC.out]
    have h1 := HSCL.out.1
    have h2 := HSCL.out.2
    rw [hL] at h1
    rw [hU] at h2
    go_roundw
    case rel =>
     refine ⟨at_ + cc, f', _, ts ++ [⟨at_, xs, A1, c1, A2', c2'⟩], HO16.out, ?_, HB16.out, ⟨?_, h2⟩, ?_, HEN16.out⟩
     ·have h9 := HOW16.out
      rw [show (ts ++ [(⟨at_, xs, A1, c1, A2', c2'⟩ : Tr)]).length = ts.length + 1 by simp, List.map_append, PlM.flatG_append]
      exact h9
     ·rw [List.map_append, List.append_assoc]
      exact h1
     ·exact HNX.out
    case measure =>
     rw [HAT.out, sect9_eq HO16.out]
     exact HME.out
end
section
open Go.RowKit
attribute [local go_sem] Oper.semAt_some
abbrev sm0 : Oper := ⟨some 34, .fieldAddr 60 (.tmp 2) 2, 0, "ref.go:148", #[], none⟩
abbrev sm1 : Oper := ⟨some 35, .load 58 (.tmp 34), 58, "ref.go:148", #[⟨0, .data⟩], none⟩
abbrev sm2 : Oper := ⟨some 36, .move (.tmp 5), 3, "ref.go:148", #[], none⟩
abbrev sm3 : Oper := ⟨some 37, .indexAddr 58 (.tmp 35) (.tmp 36), 0, "ref.go:148", #[⟨1, .data⟩, ⟨2, .data⟩], none⟩
abbrev sm4 : Oper := ⟨some 38, .fieldAddr 71 (.tmp 37) 0, 0, "ref.go:148", #[⟨3, .data⟩], none⟩
abbrev sm5 : Oper := ⟨some 39, .load 67 (.tmp 38), 67, "ref.go:148", #[⟨4, .data⟩], none⟩
abbrev sm6 : Oper := ⟨some 40, .fieldAddr 60 (.tmp 3) 2, 0, "ref.go:148", #[], none⟩
abbrev sm7 : Oper := ⟨some 41, .load 58 (.tmp 40), 58, "ref.go:148", #[⟨6, .data⟩], none⟩
abbrev sm8 : Oper := ⟨some 42, .move (.tmp 5), 3, "ref.go:148", #[], none⟩
abbrev sm9 : Oper := ⟨some 43, .indexAddr 58 (.tmp 41) (.tmp 42), 0, "ref.go:148", #[⟨7, .data⟩, ⟨8, .data⟩], none⟩
abbrev sm10 : Oper := ⟨some 44, .fieldAddr 71 (.tmp 43) 0, 0, "ref.go:148", #[⟨9, .data⟩], none⟩
abbrev sm11 : Oper := ⟨some 45, .load 67 (.tmp 44), 67, "ref.go:148", #[⟨10, .data⟩], none⟩
abbrev sm12 : Oper := ⟨some 46, .binOp Go.BinOp.neq 67 (.tmp 39) (.tmp 45) 67, 4, "ref.go:148", #[⟨5, .data⟩, ⟨11, .data⟩], none⟩
abbrev sm13 : Oper := ⟨some 47, .move (.tmp 46), 4, "ref.go:148", #[⟨12, .data⟩], none⟩
abbrev sm14 : Oper := ⟨some 48, .fieldAddr 60 (.tmp 2) 2, 0, "ref.go:148", #[⟨13, .guard⟩], some (13, false)⟩
abbrev sm15 : Oper := ⟨some 49, .load 58 (.tmp 48), 58, "ref.go:148", #[⟨14, .data⟩, ⟨13, .guard⟩], some (13, false)⟩
abbrev sm16 : Oper := ⟨some 50, .move (.tmp 5), 3, "ref.go:148", #[⟨13, .guard⟩], some (13, false)⟩
abbrev sm17 : Oper := ⟨some 51, .indexAddr 58 (.tmp 49) (.tmp 50), 0, "ref.go:148", #[⟨15, .data⟩, ⟨16, .data⟩, ⟨13, .guard⟩], some (13, false)⟩
abbrev sm18 : Oper := ⟨some 52, .fieldAddr 71 (.tmp 51) 1, 0, "ref.go:148", #[⟨17, .data⟩, ⟨13, .guard⟩], some (13, false)⟩
abbrev sm19 : Oper := ⟨some 53, .load 69 (.tmp 52), 69, "ref.go:148", #[⟨18, .data⟩, ⟨13, .guard⟩], some (13, false)⟩
abbrev sm20 : Oper := ⟨some 54, .fieldAddr 60 (.tmp 3) 2, 0, "ref.go:148", #[⟨13, .guard⟩], some (13, false)⟩
abbrev sm21 : Oper := ⟨some 55, .load 58 (.tmp 54), 58, "ref.go:148", #[⟨20, .data⟩, ⟨13, .guard⟩], some (13, false)⟩
abbrev sm22 : Oper := ⟨some 56, .move (.tmp 5), 3, "ref.go:148", #[⟨13, .guard⟩], some (13, false)⟩
abbrev sm23 : Oper := ⟨some 57, .indexAddr 58 (.tmp 55) (.tmp 56), 0, "ref.go:148", #[⟨21, .data⟩, ⟨22, .data⟩, ⟨13, .guard⟩], some (13, false)⟩
abbrev sm24 : Oper := ⟨some 58, .fieldAddr 71 (.tmp 57) 1, 0, "ref.go:148", #[⟨23, .data⟩, ⟨13, .guard⟩], some (13, false)⟩
abbrev sm25 : Oper := ⟨some 59, .load 69 (.tmp 58), 69, "ref.go:148", #[⟨24, .data⟩, ⟨13, .guard⟩], some (13, false)⟩
abbrev sm26 : Oper := ⟨some 60, .call { callee := .value (.func 110), args := #[.tmp 53, .tmp 59], argTypes := #[69, 69] }, 4, "ref.go:148", #[⟨19, .data⟩, ⟨25, .data⟩, ⟨13, .chain⟩, ⟨13, .guard⟩], some (13, false)⟩
abbrev sm27 : Oper := ⟨some 61, .unOp Go.UnOp.not 4 (.tmp 60), 4, "ref.go:148", #[⟨26, .data⟩, ⟨13, .guard⟩], some (13, false)⟩
abbrev sm28 : Oper := ⟨some 62, .pick (.tmp 47) (.const (.bool true)) (.tmp 61), 4, "ref.go:148", #[⟨13, .data⟩, ⟨27, .data⟩], none⟩
theorem scanL_bytes {xss : List (List Int)} (hb : ∀ i, Bytes (xss.getD i [])) {gen : Int} : ∀ (f at_ : Nat) (p : Nat × List Int), p ∈ scanL xss gen f at_ → Bytes p.2
 | 0, _, p, h => by simp [scanL] at h
 | f + 1, at_, p, h => by
  rw [scanL] at h
  split at h
  ·rcases List.mem_cons.1 h with rfl | h
   ·exact meants_bytes (secsAt_bytes (fun i => by
     unfold ldV
     split
     ·exact hb i
     ·exact noughts_bytes9 64) _ _)
   ·exact scanL_bytes hb f _ p h
  ·simp at h
theorem same_scan9 {w : World} {m m' seg : Nat} {gen used : Int} {A A' : Option Addr} {c c' n : Nat} {ts : List Tl} {rs : List Tr} (h1 : ToldS w m seg gen A c ts) (h2 : ToldR w m' seg gen A' c' rs) (he : ts.map Tl.two = rs.map Tr.two) (hn : ts.length = n) (hn2 : rs.length = n) (hsm : n ≤ 100000) (hby : ∀ t, t ∈ ts → Bytes t.bs) :
 Calls Tryz.prog 45 #[.agg (scanC gen used (.slice A n c)), .agg (scanC gen used (.slice A' n c'))] w fun e w' => e = .returned (.bool true) ∧ Below w.heap.size w w' := by
 have H1 := hI h1
 have H2 := hI h2
 have HE := hI he
 have HBY := hI hby
 have HN := hI hn
 have HN2 := hI hn2
 obtain ⟨w1, hw1⟩ : ∃ w1, w1 = (w.alloc (.cells (scanC gen used (.slice A n c)) 60)).alloc (.cells (scanC gen used (.slice A' n c')) 60) := ⟨_, rfl⟩
 have hb1 : Below w.heap.size w w1 := by rw [hw1]; exact ((Below.refl _ _).alloc (nR _) _).alloc (by simp) _
 have HA1 := hI (show Blk w1 w.heap.size 60 (scanC gen used (.slice A n c)) by rw [hw1]; exact (Blk.new w _ _).alloc _)
 have HC1 := hI (show Blk w1 (w.heap.size + 1) 60 (scanC gen used (.slice A' n c')) by rw [hw1]; exact blk_new2 w _ _ _)
 have HB1 := hI hb1
 have HW1 := hI hw1
 clear h1 h2 he hby hn hn2 hw1 hb1
 have a0 := HA1.out.cell 0
 have a1 := HA1.out.cell 1
 have a2 := HA1.out.cell 2
 have b0 := HC1.out.cell 0
 have b1 := HC1.out.cell 1
 have b2 := HC1.out.cell 2
 simp only [List.getElem?_toArray, List.getElem?_cons_zero, List.getElem?_cons_succ] at a0 a1 a2 b0 b1 b2
 go_enter Tryz.func45, Tryz.ntmps45
 go_upto_region 1 with fail
 rw [← HW1.out]
 go_wp2_with fail
 clear a0 a1 a2 b0 b1 b2
 go_loopw [5] (fun iv wr => ∃ i : Nat, iv = .int .i64 i ∧ i ≤ n ∧ Below w1.heap.size w1 wr) (fun iv _ => n - (intOf iv).toNat)
 case atStart => exact ⟨0, rfl, Nat.zero_le _, Below.refl _ _⟩
 case round =>
 obtain ⟨i, rfl, hin, hb⟩ := hrel
 have HB := hI hb
 have HAR := hI (HA1.out.below hb HA1.out.lt)
 have HCR := hI (HC1.out.below hb HC1.out.lt)
 clear hb
 have a2 : wr.cell? ⟨w.heap.size, 2, none⟩ = some (.slice A n c) := HAR.out.cell 2
 by_cases hlt : i < n
 ·-- element i
  obtain ⟨g1, o1, rfl, hg1, hc1⟩ := H1.out.row.2 (by rw [HN.out]; omega)
  obtain ⟨g2, o2, rfl, hg2, hc2⟩ := H2.out.row.2 (by rw [HN2.out]; omega)
  have hi1 : i < ts.length := by rw [HN.out]; exact hlt
  have hi2 : i < rs.length := by rw [HN2.out]; exact hlt
  have hr1 := hc1 i hi1
  have hr2 := hc2 i hi2
  rw [show (ts.map (plV seg gen)).getD i PlM.ent0 = plV seg gen ts[i] by simp [List.getD, hi1]] at hr1
  rw [show (rs.map (prV seg gen)).getD i PlM.ent0 = prV seg gen rs[i] by simp [List.getD, hi2]] at hr2
  have htw : Tl.two ts[i] = Tr.two rs[i] := by
   have h9 := congrArg (fun l => l[i]?) HE.out
   simp only [List.getElem?_map, List.getElem?_eq_getElem hi1, List.getElem?_eq_getElem hi2, Option.map_some, Option.some.injEq] at h9
   exact h9
  have ht1 := H1.out.ent ts[i] (List.getElem_mem _)
  have hr3 := H2.out.ent rs[i] (List.getElem_mem _)
  have hbt := HBY.out ts[i] (List.getElem_mem _)
  generalize ts[i] = t at *
  generalize rs[i] = r at *
  obtain ⟨ta, bs, b1, b2⟩ := t
  obtain ⟨ra, bs', A1, c1, A2, c2⟩ := r
  obtain ⟨rfl, rfl⟩ : ta = ra ∧ bs = bs' := Prod.mk.inj htw
  obtain ⟨_, _, k1, k2⟩ := ht1
  obtain ⟨k3, k4⟩ := hr3
  have hbw : ∀ W, Below wr.heap.size wr W → Below w.heap.size w W := fun W hW => HB1.out.trans ((HB.out.trans (hW.mono HB.out.size)).mono HB1.out.size)
  have HBW := hI hbw
  have HG := hI (show g1 < w.heap.size ∧ g2 < w.heap.size from ⟨hg1.2, hg2.2⟩)
  have HRG := hI (show ∀ W, Below wr.heap.size wr W → W.rangeAt g1 (o1 + i * 9) [.int .i64 (seg : Int), .int .u64 gen, .int .i64 (ta : Int)] ∧ W.rangeAt g2 (o2 + i * 9) [.int .i64 (seg : Int), .int .u64 gen, .int .i64 (ta : Int)] ∧
   W.rangeAt g1 (o1 + i * 9 + 3) [.int .i64 (kindOf bs), .int .u32 (flagsOf bs), .int .u32 (expOf bs), .int .u64 (seqOf bs), .slice (some ⟨b1, 0, none⟩) (klenOf bs) (klenOf bs), .slice (some ⟨b2, 0, none⟩) (vlenOf bs) (vlenOf bs)] ∧
   W.rangeAt g2 (o2 + i * 9 + 3) [.int .i64 (kindOf bs), .int .u32 (flagsOf bs), .int .u32 (expOf bs), .int .u64 (seqOf bs), .slice A1 (klenOf bs) c1, .slice A2 (vlenOf bs) c2] from fun W hW => by
   have hb := HBW.out W hW
   refine ⟨fun j v hv => ?_, fun j v hv => ?_, fun j v hv => ?_, fun j v hv => ?_⟩
   ·exact (hb.cell (p := ⟨g1, _, none⟩) HG.out.1).trans (hr1 j v (by rcases j with _ | _ | _ | j <;> simp [plV, PlM.entV] at hv ⊢ <;> exact hv))
   ·exact (hb.cell (p := ⟨g2, _, none⟩) HG.out.2).trans (hr2 j v (by rcases j with _ | _ | _ | j <;> simp [prV, PlM.entV] at hv ⊢ <;> exact hv))
   ·rw [show o1 + i * 9 + 3 + j = o1 + i * 9 + (3 + j) by omega]
    exact (hb.cell (p := ⟨g1, _, none⟩) HG.out.1).trans (hr1 (3 + j) v (by rcases j with _ | _ | _ | _ | _ | _ | j <;> simp [plV, PlM.entV] at hv ⊢ <;> exact hv))
   ·rw [show o2 + i * 9 + 3 + j = o2 + i * 9 + (3 + j) by omega]
    exact (hb.cell (p := ⟨g2, _, none⟩) HG.out.2).trans (hr2 (3 + j) v (by rcases j with _ | _ | _ | _ | _ | _ | j <;> simp [prV, PlM.entV] at hv ⊢ <;> exact hv)))
  have HCC := hI (show ∀ W, Below wr.heap.size wr W → W.cell? ⟨w.heap.size, 2, none⟩ = some (.slice (some ⟨g1, o1, none⟩) n c) ∧ W.cell? ⟨w.heap.size + 1, 2, none⟩ = some (.slice (some ⟨g2, o2, none⟩) n c') from fun W hW => ⟨(HAR.out.below hW HAR.out.lt).cell 2, (HCR.out.below hW HCR.out.lt).cell 2⟩)
  have HK := hI (show ∀ W, Below wr.heap.size wr W → RowI .u8 W (fun b => b < w.heap.size) (some ⟨b1, 0, none⟩) (klenOf bs) (keyOf bs) ∧ RowI .u8 W (fun b => b < w.heap.size) (some ⟨b2, 0, none⟩) (vlenOf bs) (valOf bs) ∧ RowI .u8 W (fun b => b < w.heap.size) A1 (klenOf bs) (keyOf bs) ∧ RowI .u8 W (fun b => b < w.heap.size) A2 (vlenOf bs) (valOf bs) from fun W hW => by
   have hb := HBW.out W hW
   have e1 : ArrU w b1 (keyOf bs) := k1
   have e2 : ArrU w b2 (valOf bs) := k2
   exact ⟨(Arr.rowN (S := fun b => b < w.heap.size) e1 0 (n := klenOf bs) k3.1 (Blk.lt e1)).below hb (fun b h => h), (Arr.rowN (S := fun b => b < w.heap.size) e2 0 (n := vlenOf bs) k4.1 (Blk.lt e2)).below hb (fun b h => h), (k3.more (fun b h => h.2)).below hb (fun b h => h), (k4.more (fun b h => h.2)).below hb (fun b h => h)⟩)
  have HBT := hI (show Bytes (keyOf bs) ∧ Bytes (valOf bs) from ⟨by unfold keyOf; exact bytes_part hbt 21 _, by unfold valOf; exact bytes_part hbt _ _⟩)
  have hii : (i : Int) < n := by omega
  clear hr1 hr2 hc1 hc2 k1 k2 k3 k4 hbt htw hbw hg1 hg2 hi1 hi2
  go_upto_region 6 with fail
  refine Tillst.region (fun W => Below wr.heap.size wr W) [] (by kernel_rfl) ((Below.refl _ _).drew) (fun hė => ?_)
  generalize wr.drew = vd at *
  refine Tillst.takeG (i := 0) (oi := sm0) (v := ?_) rfl (by kernel_rfl) (by kernel_rfl) (by kernel_rfl) (by kernel_rfl) (by kernel_rfl) (fun _ _ _ h => h) (by rfl) ?_ hė ?_
  rotate_left
  ·intro W hSW; (try dsimp only at hSW); unfold sm0; go_simp; with_reducible rfl
  simp only [sm0, Act.put, sA, sZ, sS]
  refine Tillst.takeG (i := 1) (oi := sm1) (v := ?_) rfl (by kernel_rfl) (by kernel_rfl) (by kernel_rfl) (by kernel_rfl) (by kernel_rfl) (fun _ _ _ h => h) (by rfl) ?_ hė ?_
  rotate_left
  ·intro W hSW; have h9 := (HCC.out W hSW).1; clear hSW; unfold sm1; go_simp; with_reducible rfl
  simp only [sm1, Act.put, sA, sZ, sS]
  refine Tillst.takeG (i := 2) (oi := sm2) (v := ?_) rfl (by kernel_rfl) (by kernel_rfl) (by kernel_rfl) (by kernel_rfl) (by kernel_rfl) (fun _ _ _ h => h) (by rfl) ?_ hė ?_
  rotate_left
  ·intro W hSW; (try dsimp only at hSW); unfold sm2; go_simp; with_reducible rfl
  simp only [sm2, Act.put, sA, sZ, sS]
  refine Tillst.takeG (i := 3) (oi := sm3) (v := .pointer (some ⟨g1, o1 + i * 9, none⟩)) rfl (by kernel_rfl) (by kernel_rfl) (by kernel_rfl) (by kernel_rfl) (by kernel_rfl) (fun _ _ _ h => h) (by rfl) ?_ hė ?_
  ·intro W hSW; clear hSW; unfold sm3; go_simp
  simp only [sm3, Act.put, sA, sZ, sS]
  refine Tillst.takeG (i := 4) (oi := sm4) (v := ?_) rfl (by kernel_rfl) (by kernel_rfl) (by kernel_rfl) (by kernel_rfl) (by kernel_rfl) (fun _ _ _ h => h) (by rfl) ?_ hė ?_
  rotate_left
  ·intro W hSW; (try dsimp only at hSW); unfold sm4; go_simp; with_reducible rfl
  simp only [sm4, Act.put, sA, sZ, sS]
  refine Tillst.takeG (i := 5) (oi := sm5) (v := .agg #[.int .i64 (seg : Int), .int .u64 gen, .int .i64 (ta : Int)]) rfl (by kernel_rfl) (by kernel_rfl) (by kernel_rfl) (by kernel_rfl) (by kernel_rfl) (fun _ _ _ h => h) (by rfl) ?_ hė ?_
  ·intro W hSW; refine exec_load_row (.tmp 38) 67 ?_ g1 (o1 + i * 9) ?_ [.int .i64 (seg : Int), .int .u64 gen, .int .i64 (ta : Int)] _ Tryz.underlying67 rfl size_adr9 (HRG.out W hSW).1 <;> rfl
  simp only [sm5, Act.put, sA, sZ, sS]
  refine Tillst.takeG (i := 6) (oi := sm6) (v := ?_) rfl (by kernel_rfl) (by kernel_rfl) (by kernel_rfl) (by kernel_rfl) (by kernel_rfl) (fun _ _ _ h => h) (by rfl) ?_ hė ?_
  rotate_left
  ·intro W hSW; (try dsimp only at hSW); unfold sm6; go_simp; with_reducible rfl
  simp only [sm6, Act.put, sA, sZ, sS]
  refine Tillst.takeG (i := 7) (oi := sm7) (v := ?_) rfl (by kernel_rfl) (by kernel_rfl) (by kernel_rfl) (by kernel_rfl) (by kernel_rfl) (fun _ _ _ h => h) (by rfl) ?_ hė ?_
  rotate_left
  ·intro W hSW; have h9 := (HCC.out W hSW).2; clear hSW; unfold sm7; go_simp; with_reducible rfl
  simp only [sm7, Act.put, sA, sZ, sS]
  refine Tillst.takeG (i := 8) (oi := sm8) (v := ?_) rfl (by kernel_rfl) (by kernel_rfl) (by kernel_rfl) (by kernel_rfl) (by kernel_rfl) (fun _ _ _ h => h) (by rfl) ?_ hė ?_
  rotate_left
  ·intro W hSW; (try dsimp only at hSW); unfold sm8; go_simp; with_reducible rfl
  simp only [sm8, Act.put, sA, sZ, sS]
  refine Tillst.takeG (i := 9) (oi := sm9) (v := .pointer (some ⟨g2, o2 + i * 9, none⟩)) rfl (by kernel_rfl) (by kernel_rfl) (by kernel_rfl) (by kernel_rfl) (by kernel_rfl) (fun _ _ _ h => h) (by rfl) ?_ hė ?_
  ·intro W hSW; clear hSW; unfold sm9; go_simp
  simp only [sm9, Act.put, sA, sZ, sS]
  refine Tillst.takeG (i := 10) (oi := sm10) (v := ?_) rfl (by kernel_rfl) (by kernel_rfl) (by kernel_rfl) (by kernel_rfl) (by kernel_rfl) (fun _ _ _ h => h) (by rfl) ?_ hė ?_
  rotate_left
  ·intro W hSW; (try dsimp only at hSW); unfold sm10; go_simp; with_reducible rfl
  simp only [sm10, Act.put, sA, sZ, sS]
  refine Tillst.takeG (i := 11) (oi := sm11) (v := .agg #[.int .i64 (seg : Int), .int .u64 gen, .int .i64 (ta : Int)]) rfl (by kernel_rfl) (by kernel_rfl) (by kernel_rfl) (by kernel_rfl) (by kernel_rfl) (fun _ _ _ h => h) (by rfl) ?_ hė ?_
  ·intro W hSW; refine exec_load_row (.tmp 44) 67 ?_ g2 (o2 + i * 9) ?_ [.int .i64 (seg : Int), .int .u64 gen, .int .i64 (ta : Int)] _ Tryz.underlying67 rfl size_adr9 (HRG.out W hSW).2.1 <;> rfl
  simp only [sm11, Act.put, sA, sZ, sS]
  refine Tillst.takeG (i := 12) (oi := sm12) (v := .bool false) rfl (by kernel_rfl) (by kernel_rfl) (by kernel_rfl) (by kernel_rfl) (by kernel_rfl) (fun _ _ _ h => h) (by rfl) ?_ hė ?_
  ·intro W hSW; clear hSW; unfold sm12; go_simp
  simp only [sm12, Act.put, sA, sZ, sS]
  refine Tillst.takeG (i := 13) (oi := sm13) (v := ?_) rfl (by kernel_rfl) (by kernel_rfl) (by kernel_rfl) (by kernel_rfl) (by kernel_rfl) (fun _ _ _ h => h) (by rfl) ?_ hė ?_
  rotate_left
  ·intro W hSW; (try dsimp only at hSW); unfold sm13; go_simp; with_reducible rfl
  simp only [sm13, Act.put, sA, sZ, sS]
  refine Tillst.takeG (i := 14) (oi := sm14) (v := ?_) rfl (by kernel_rfl) (by kernel_rfl) (by kernel_rfl) (by kernel_rfl) (by kernel_rfl) (fun _ _ _ h => h) (by rfl) ?_ hė ?_
  rotate_left
  ·intro W hSW; (try dsimp only at hSW); unfold sm14; go_simp; with_reducible rfl
  simp only [sm14, Act.put, sA, sZ, sS]
  refine Tillst.takeG (i := 15) (oi := sm15) (v := ?_) rfl (by kernel_rfl) (by kernel_rfl) (by kernel_rfl) (by kernel_rfl) (by kernel_rfl) (fun _ _ _ h => h) (by rfl) ?_ hė ?_
  rotate_left
  ·intro W hSW; have h9 := (HCC.out W hSW).1; clear hSW; unfold sm15; go_simp; with_reducible rfl
  simp only [sm15, Act.put, sA, sZ, sS]
  refine Tillst.takeG (i := 16) (oi := sm16) (v := ?_) rfl (by kernel_rfl) (by kernel_rfl) (by kernel_rfl) (by kernel_rfl) (by kernel_rfl) (fun _ _ _ h => h) (by rfl) ?_ hė ?_
  rotate_left
  ·intro W hSW; (try dsimp only at hSW); unfold sm16; go_simp; with_reducible rfl
  simp only [sm16, Act.put, sA, sZ, sS]
  refine Tillst.takeG (i := 17) (oi := sm17) (v := .pointer (some ⟨g1, o1 + i * 9, none⟩)) rfl (by kernel_rfl) (by kernel_rfl) (by kernel_rfl) (by kernel_rfl) (by kernel_rfl) (fun _ _ _ h => h) (by rfl) ?_ hė ?_
  ·intro W hSW; clear hSW; unfold sm17; go_simp
  simp only [sm17, Act.put, sA, sZ, sS]
  refine Tillst.takeG (i := 18) (oi := sm18) (v := .pointer (some ⟨g1, o1 + i * 9 + 3, none⟩)) rfl (by kernel_rfl) (by kernel_rfl) (by kernel_rfl) (by kernel_rfl) (by kernel_rfl) (fun _ _ _ h => h) (by rfl) ?_ hė ?_
  ·intro W hSW; clear hSW; unfold sm18; go_simp
  simp only [sm18, Act.put, sA, sZ, sS]
  refine Tillst.takeG (i := 19) (oi := sm19) (v := .agg #[.int .i64 (kindOf bs), .int .u32 (flagsOf bs), .int .u32 (expOf bs), .int .u64 (seqOf bs), .slice (some ⟨b1, 0, none⟩) (klenOf bs) (klenOf bs), .slice (some ⟨b2, 0, none⟩) (vlenOf bs) (vlenOf bs)]) rfl (by kernel_rfl) (by kernel_rfl) (by kernel_rfl) (by kernel_rfl) (by kernel_rfl) (fun _ _ _ h => h) (by rfl) ?_ hė ?_
  ·intro W hSW; refine exec_load_row (.tmp 52) 69 ?_ g1 (o1 + i * 9 + 3) ?_ [.int .i64 (kindOf bs), .int .u32 (flagsOf bs), .int .u32 (expOf bs), .int .u64 (seqOf bs), .slice (some ⟨b1, 0, none⟩) (klenOf bs) (klenOf bs), .slice (some ⟨b2, 0, none⟩) (vlenOf bs) (vlenOf bs)] _ Tryz.underlying69 rfl size_rec (HRG.out W hSW).2.2.1 <;> rfl
  simp only [sm19, Act.put, sA, sZ, sS]
  refine Tillst.takeG (i := 20) (oi := sm20) (v := ?_) rfl (by kernel_rfl) (by kernel_rfl) (by kernel_rfl) (by kernel_rfl) (by kernel_rfl) (fun _ _ _ h => h) (by rfl) ?_ hė ?_
  rotate_left
  ·intro W hSW; (try dsimp only at hSW); unfold sm20; go_simp; with_reducible rfl
  simp only [sm20, Act.put, sA, sZ, sS]
  refine Tillst.takeG (i := 21) (oi := sm21) (v := ?_) rfl (by kernel_rfl) (by kernel_rfl) (by kernel_rfl) (by kernel_rfl) (by kernel_rfl) (fun _ _ _ h => h) (by rfl) ?_ hė ?_
  rotate_left
  ·intro W hSW; have h9 := (HCC.out W hSW).2; clear hSW; unfold sm21; go_simp; with_reducible rfl
  simp only [sm21, Act.put, sA, sZ, sS]
  refine Tillst.takeG (i := 22) (oi := sm22) (v := ?_) rfl (by kernel_rfl) (by kernel_rfl) (by kernel_rfl) (by kernel_rfl) (by kernel_rfl) (fun _ _ _ h => h) (by rfl) ?_ hė ?_
  rotate_left
  ·intro W hSW; (try dsimp only at hSW); unfold sm22; go_simp; with_reducible rfl
  simp only [sm22, Act.put, sA, sZ, sS]
  refine Tillst.takeG (i := 23) (oi := sm23) (v := .pointer (some ⟨g2, o2 + i * 9, none⟩)) rfl (by kernel_rfl) (by kernel_rfl) (by kernel_rfl) (by kernel_rfl) (by kernel_rfl) (fun _ _ _ h => h) (by rfl) ?_ hė ?_
  ·intro W hSW; clear hSW; unfold sm23; go_simp
  simp only [sm23, Act.put, sA, sZ, sS]
  refine Tillst.takeG (i := 24) (oi := sm24) (v := .pointer (some ⟨g2, o2 + i * 9 + 3, none⟩)) rfl (by kernel_rfl) (by kernel_rfl) (by kernel_rfl) (by kernel_rfl) (by kernel_rfl) (fun _ _ _ h => h) (by rfl) ?_ hė ?_
  ·intro W hSW; clear hSW; unfold sm24; go_simp
  simp only [sm24, Act.put, sA, sZ, sS]
  refine Tillst.takeG (i := 25) (oi := sm25) (v := .agg #[.int .i64 (kindOf bs), .int .u32 (flagsOf bs), .int .u32 (expOf bs), .int .u64 (seqOf bs), .slice A1 (klenOf bs) c1, .slice A2 (vlenOf bs) c2]) rfl (by kernel_rfl) (by kernel_rfl) (by kernel_rfl) (by kernel_rfl) (by kernel_rfl) (fun _ _ _ h => h) (by rfl) ?_ hė ?_
  ·intro W hSW; refine exec_load_row (.tmp 58) 69 ?_ g2 (o2 + i * 9 + 3) ?_ [.int .i64 (kindOf bs), .int .u32 (flagsOf bs), .int .u32 (expOf bs), .int .u64 (seqOf bs), .slice A1 (klenOf bs) c1, .slice A2 (vlenOf bs) c2] _ Tryz.underlying69 rfl size_rec (HRG.out W hSW).2.2.2 <;> rfl
  simp only [sm25, Act.put, sA, sZ, sS]
  refine Tillst.one (i := 26) (o := sm26) (by kernel_rfl) rfl ?_
  intro K hK
  refine step_call 110 #[.tmp 53, .tmp 59] #[69, 69] rfl rfl Tryz.func110 rfl rfl [.agg #[.int .i64 (kindOf bs), .int .u32 (flagsOf bs), .int .u32 (expOf bs), .int .u64 (seqOf bs), .slice (some ⟨b1, 0, none⟩) (klenOf bs) (klenOf bs), .slice (some ⟨b2, 0, none⟩) (vlenOf bs) (vlenOf bs)], .agg #[.int .i64 (kindOf bs), .int .u32 (flagsOf bs), .int .u32 (expOf bs), .int .u64 (seqOf bs), .slice A1 (klenOf bs) c1, .slice A2 (vlenOf bs) c2]] rfl ((rsame_any _ _ _ _ _ _ _ _ _ _ _ _ _ _ _ _ _ _ _ _ (keyOf bs) (keyOf bs) (valOf bs) (valOf bs) (fun b => b < w.heap.size) vd (HK.out vd hė).1 (HK.out vd hė).2.2.1 (HK.out vd hė).2.1 (HK.out vd hė).2.2.2 (fun b h => nL h (HB1.out.trans ((HB.out.trans (hė.mono HB.out.size)).mono HB1.out.size)).size) HBT.out.1 HBT.out.1 HBT.out.2 HBT.out.2).mono ?_)
  rintro e w4 ⟨rfl, hb4⟩
  rw [recSame_self]
  refine ⟨_, rfl, ?_⟩
  simp only [sm26, Act.put, sA, sZ, sS]
  have hH4 := hė.trans (hb4.mono hė.size)
  refine hK.out _ _ (fun _ => hH4) (fun hė => ?_)
  replace hė := hė (by decide)
  clear hK K hH4 hb4
  refine Tillst.takeG (i := 27) (oi := sm27) (v := .bool false) rfl (by kernel_rfl) (by kernel_rfl) (by kernel_rfl) (by kernel_rfl) (by kernel_rfl) (fun _ _ _ h => h) (by rfl) ?_ hė ?_
  ·intro W hSW; clear hSW; unfold sm27; go_simp
  simp only [sm27, Act.put, sA, sZ, sS]
  refine Tillst.takeG (i := 28) (oi := sm28) (v := ?_) rfl (by kernel_rfl) (by kernel_rfl) (by kernel_rfl) (by kernel_rfl) (by kernel_rfl) (fun _ _ _ h => h) (by rfl) ?_ hė ?_
  rotate_left
  ·intro W hSW; (try dsimp only at hSW); unfold sm28; go_simp; with_reducible rfl
  simp only [sm28, Act.put, sA, sZ, sS]
  refine Tillst.done (by kernel_rfl) ?_ _
  have HBN := hI (HB.out.trans (hė.mono HB.out.size))
  clear hė
  have hwr : wrap64 ((i : Int) + 1) = (i : Int) + 1 := IntWalk.wrap64_in _ (by omega)
  have HME := hI (show n - (i + 1) < n - i by omega)
  go_wp2_with fail
  go_roundw
  case rel => exact ⟨i + 1, rfl, hlt, HBN.out⟩
  case measure => exact HME.out
 ·have hge : ¬ ((i : Int) < n) := by omega
  go_wp2_with fail
  (first | go_ret | go_ret2)
  exact ⟨rfl, HB1.out.trans (HB.out.mono HB1.out.size)⟩
end
section
open Go.RowKit
section
variable {w : World} {X : Nat → Prop} {l p d n m c : Nat} {s : Sup} {t : Int} {k : Dk} {sec : Int} {A : Option Addr} {xs : List Seg} {br : Bool}
end
def bornK (a b : Int) : Dk := (((Dk.fresh 1026).wr (Dk.put 0 (supL a b 0 0 0 0 0))).wr (Dk.put 1 (noughts 64))).wr Dk.sync
theorem born_any (a : Nat) (b : Int) (w : World) (ha : 4 ≤ a ∧ a ≤ 16) (hb : 24 ≤ b ∧ b ≤ 64) :
 Calls Tryz.prog 42 #[.int .i64 a, .int .i64 b] w fun e w' => ∃ l p d A c, e = .returned (.tuple #[.pointer (some ⟨l, 0, none⟩), .pointer (some ⟨d, 0, none⟩)]) ∧
  LogM w' (fun x => x < w.heap.size) l p d 1026 ⟨a, b, 0, 0, 0, 0⟩ 0 (bornK a b) b A a c (List.replicate a seg0) false ∧ a ≤ c ∧ (A = none → c = 0) ∧ Below w.heap.size w w' := by
 have hm : MayS a b 0 0 := ⟨by omega, by omega, by omega, by omega, by omega⟩
 have hz : SizedR a b := ⟨by omega, by omega, by omega, by omega⟩
 have hok := ok_new hz
 have hop : opnR (List.replicate a seg0) < 0 := by
  rcases opn_range (List.replicate a seg0) with h | ⟨i, hi, h⟩
  ·omega
  ·exfalso
   obtain ⟨j, hj, e1, e2⟩ := opn_nat hok (by omega)
   have : stG (List.replicate a seg0) j = 0 := by
    unfold stG
    rw [List.length_replicate] at hj
    simp [List.getD, hj, seg0]
   omega
 have HM := hI hm
 have HZ := hI hz
 have HOK := hI hok
 have HOP := hI hop
 have HAR := hI (area_in hm).2
 clear hm hz hok hop
 go_enter Tryz.func42, Tryz.ntmps42
 go_wp2_with fail
 refine (new_i w 1026 1026 rfl (by omega) (by omega)).mono ?_
 rintro e w1 ⟨d, rfl, hd, hb1⟩
 have HD1 := hI hd
 have HB1 := hI hb1
 clear hd hb1
 go_wp2_with fail
 refine (format_fresh HD1.out (fun c h => nL h HB1.out.size) a b HM.out (by have := HAR.out; omega)).mono ?_
 rintro e w2 ⟨p, rfl, hst, hk⟩
 have HS2 := hI (show StoS w2 (fun x => x < w.heap.size) p d 1026 ⟨a, b, 0, 0, 0, 0⟩ 0 (bornK a b) from hst)
 have HB2 := hI (show Below w.heap.size w w2 from HB1.out.trans (hk.to_below (fun b h => h)))
 clear hst hk
 go_wp2_with fail
 refine (new_ok a b HZ.out).mono ?_
 rintro e w3 ⟨⟨A0, rfl, hr⟩, hb3⟩
 have hal := (Below.refl w3.heap.size w3).alloc (nR _) (.cells #[.int .i64 b, .slice A0 a a] 103)
 have HS3 := hI (StoreM.below HS2.out (hb3.trans (hal.mono hb3.size)))
 have HB3 := hI (HB2.out.trans ((hb3.trans (hal.mono hb3.size)).mono HB2.out.size))
 have HR3 := hI (row_now (hr.more (fun b h => h.2)) hal)
 have HK3 := hI (Blk.new w3 103 #[.int .i64 b, .slice A0 a a])
 have HA0 := hI (show A0 = none → a = 0 from fun e => by
  rcases Nat.eq_zero_or_pos a with h | h
  ·exact h
  ·obtain ⟨_, _, h2, _⟩ := hr.2 h
   rw [e] at h2; cases h2)
 obtain ⟨k0, k1⟩ := ring_cells HK3.out
 clear hr hb3 hal
 go_wp2_with fail
 refine (open_log_ok (s := ⟨a, b, 0, 0, 0, 0⟩) HS3.out (fun b h => nL h HB3.out.size) HR3.out HA0.out (nR _) b HOK.out rfl rfl HOP.out).mono ?_
 rintro e w4 ⟨l, A, c, rfl, hl, hac, hnil, hsz, hb4⟩
 have HL := hI hl
 have HB4 := hI (HB3.out.trans (hb4.mono HB3.out.size))
 have HAC := hI (And.intro hac hnil)
 clear hl hb4 hac hnil k0 k1
 go_wp2_with fail
 go_ret2
 exact ⟨l, p, d, A, c, rfl, HL.out, HAC.out.1, HAC.out.2, HB4.out⟩
end
section
open Go.RowKit
section
variable {w w' : World} {X Y : Nat → Prop} {l p d n m c : Nat} {s : Sup} {t : Int} {k : Dk} {sec : Int} {A : Option Addr} {xs : List Seg} {br : Bool}
theorem LogM.disk {v : World} {k2 : Dk} (h : LogM w X l p d n s t k sec A m c xs br) (hd : ∀ R : Nat → Prop, StoS w (fun b => X b ∨ b = l ∨ R b) p d n s t k → (∀ b, R b → b < w.heap.size) → StoS v (fun b => X b ∨ b = l ∨ R b) p d n s t k2 ∧ Kept (fun b => X b ∨ b = l ∨ R b) w v) : LogM v X l p d n s t k2 sec A m c xs br ∧ Kept X w v := by
 obtain ⟨h1, h2, R, h3, h4, h5⟩ := h
 obtain ⟨g1, g2⟩ := hd R h3 (fun b h => (h5 b h).1)
 exact ⟨⟨h1.kept g2 (.inr (.inl rfl)), h2, R, g1, h4.kept g2 (fun b h => .inr (.inr h)), fun b h => ⟨nL (h5 b h).1 g2.size, (h5 b h).2⟩⟩, g2.mono (fun b h => .inl h)⟩
end
end
section
open Go.RowKit
theorem born_good (a b : Int) : Good (bornK a b) := ((((Good.fresh 1026).put _ _).put _ _).sync)
theorem born_pend (a b : Int) : (bornK a b).pend = [] := (((Good.fresh 1026).put _ _).put _ _).pend_sync
theorem born_held (a b : Int) (j : Nat) (hj : 2 ≤ j) (hn : j < 1026) : (bornK a b).held.getD j [] = noughts 64 := by
 unfold bornK
 rw [(((Good.fresh 1026).put _ _).put _ _).held_sync, ((Good.fresh 1026).put _ _).held_put, (Good.fresh 1026).held_put]
 simp only [List.getD, List.getElem?_set]
 rw [if_neg (by omega), if_neg (by omega)]
 have : (Dk.fresh 1026).held = List.replicate 1026 (noughts 64) := by rfl
 rw [this, List.getElem?_replicate, if_pos hn]
 rfl
section
variable {w : World} {X : Nat → Prop} {l p d n : Nat} {s : Sup} {t : Int} {k : Dk} {sec : Int} {A : Option Addr} {m c : Nat} {xs : List Seg} {br : Bool}
theorem log_write (h : LogM w X l p d n s t k sec A m c xs br) (hX : ∀ b, X b → b < w.heap.size) (hg : Good k) (i : Nat) (hi : i < n) (ys : List Int) (hy : ys.length = 64) (hby : Bytes ys) (hm : k.pend.length ≤ 1000000) :
 Calls Tryz.prog 44 #[.pointer (some ⟨d, 0, none⟩), .int .i64 i, .agg (cells8 ys)] w fun e w' => e = .returned (.int .i64 0) ∧ LogM w' X l p d n s t (k.wr (Dk.put i ys)) sec A m c xs br ∧ Kept X w w' := by
 obtain ⟨h1, h2, R, h3, h4, h5⟩ := h
 have hl := h1.lt
 have hp := h3.1.lt
 refine (write_k h3.2.1 (fun b hb => ?_) i hi ys hy hby hm).mono ?_
 ·rcases hb with (hb | hb | hb) | hb
  ·exact hX b hb
  ·omega
  ·exact (h5 b hb).1
  ·omega
 ·rintro e w' ⟨rfl, hd, hk⟩
  refine ⟨by rw [hg.wre], ⟨h1.kept hk (.inl (.inr (.inl rfl))), h2, R, ⟨h3.1.kept hk (.inr rfl), hd, h3.2.2⟩, h4.kept hk (fun b h => .inl (.inr (.inr h))), fun b h => ⟨nL (h5 b h).1 hk.size, (h5 b h).2⟩⟩, hk.mono (fun b h => .inl (.inl h))⟩
theorem LogM.sto (h : LogM w X l p d n s t k sec A m c xs br) (hX : ∀ b, X b → b < w.heap.size) : ∃ Y : Nat → Prop, (∀ b, X b → Y b) ∧ (∀ b, Y b → b < w.heap.size) ∧ StoS w Y p d n s t k ∧ k.Ok n := by
 obtain ⟨h1, h2, R, h3, h4, h5⟩ := h
 refine ⟨_, fun b hb => .inl hb, fun b hb => ?_, h3, h3.2.1.1⟩
 rcases hb with hb | hb | hb
 ·exact hX b hb
 ·rw [hb]; exact h1.lt
 ·exact (h5 b hb).1
end
theorem strV_put {k : Dk} (hg : Good k) {s : Sup} {seg q j : Nat} {ys : List Int} (hq : (q : Int) < s.b) (hj : (j : Int) < s.b) (hsb : 0 ≤ (seg : Int) * s.b) (hn : (2 + (seg : Int) * s.b + j).toNat < k.held.length) :
 strV (k.wr (Dk.put (2 + (seg : Int) * s.b + j).toNat ys)) s seg q = if q = j then ys else strV k s seg q := by
 unfold strV
 rw [if_pos hq, if_pos hq, hg.held_put]
 by_cases e : q = j
 ·subst e
  rw [if_pos rfl]
  simp [List.getD, List.getElem?_set_self hn]
 ·rw [if_neg e]
  simp only [List.getD, List.getElem?_set]
  rw [if_neg (by omega)]
theorem secsAt_list {V : Nat → List Int} {L : List (List Int)} {n : Nat} (hl : L.length = n) (h : ∀ q, q < n → V q = L.getD q []) : secsAt V 0 n = L := by
 apply List.ext_getElem?
 intro j
 unfold secsAt
 by_cases hj : j < n
 ·rw [List.getElem?_map, List.getElem?_range hj, List.getElem?_eq_getElem (by omega)]
  show some (V (0 + j)) = _
  rw [Nat.zero_add, h j hj]
  simp [List.getD, List.getElem?_eq_getElem (show j < L.length by omega)]
 ·rw [List.getElem?_eq_none (by simp; omega), List.getElem?_eq_none (by omega)]
section
variable {w w' : World} {m seg : Nat} {gen : Int} {A : Option Addr} {c : Nat}
theorem ToldS.below {ts : List Tl} (h : ToldS w m seg gen A c ts) (hb : Below w.heap.size w w') : ToldS w' m seg gen A c ts :=
 ⟨(h.row.below hb (fun b h => h.2)).more (fun b h => ⟨h.1, nL h.2 hb.size⟩), h.cap, h.nil, fun t ht => by
  obtain ⟨g1, g2, g3, g4⟩ := h.ent t ht
  exact ⟨g1, g2, Blk.below g3 hb (Blk.lt g3), Blk.below g4 hb (Blk.lt g4)⟩⟩
end
end
section
open Go.RowKit Go.ChangeShapes Go.WideShapes Go.Deep Go.Joins
structure IsWrit (w : World) (A : Option Addr) (n c : Nat) (z : List (List Int)) : Prop where
 row : RowK w (· < w.heap.size) A n z
 secs : Secs z
 byt : ∀ i, Bytes (z.getD i [])
 nc : n ≤ c
 n63 : n ≤ 9223372036854775807
theorem writ_of {w : World} {a : Option Addr} {len cap : Nat} {zss : List (List Int)} (h : IsBlocks w a len cap zss) : IsWrit w a len cap (zss.take len) := by
 obtain ⟨h1, h2, h3, h4, _⟩ := blocks_of h
 refine ⟨h1, h2, h3, h4, ?_⟩
 rcases h with ⟨_, rfl, _, _⟩ | ⟨x, _, hl, hm, _⟩
 ·omega
 ·unfold maxLen at hm
  omega
section
variable {H : Type} {enc : TypeId × Value → H} {w : World} {held : Bool}
theorem open_written {r : Reach} {b0 : Nat} {v : Value} {d : DataW H} {p : List MemPlace} (hv : Value.okWide Tryz.prog w r b0 84 v) (h : DataW.Trod enc Tryz.prog w 0 (fun _ => true) held 84 v d p) :
 ∃ (a b s : Int) (A : Option Addr) (n c : Nat) (z : List (List Int)), v = .agg #[.int .i64 a, .int .i64 b, .int .i64 s, .slice A n c] ∧ IsWrit w A n c z := by
 obtain ⟨cs, rfl, hsz⟩ := okWide_struct Tryz.underlying84 hv
 obtain ⟨fuel, hf⟩ := h
 obtain ⟨ys, fu, _, _, _, hyl, hg⟩ := DataW.trod_struct Tryz.underlying84 hf
 have hc2 : Tryz.prog.cellsOf 84 = 4 := by kernel_rfl
 have hone : ∀ t, t = 3 ∨ t = 82 → Tryz.prog.cellsOf t = 1 := by
  rintro t (rfl | rfl) <;> kernel_rfl
 obtain ⟨l⟩ := cs
 have hl2 : l.length = 4 := by simpa using hsz.trans hc2
 have hy2 : ys.length = 4 := hyl
 match l, hl2 with
 | [v0, v1, v2, v3], _ =>
  have g0 := hg 0 _ rfl
  have g1 := hg 1 _ rfl
  have g2 := hg 2 _ rfl
  have g3 := hg 3 _ rfl
  simp only [Value.cells, hone _ (.inl rfl), hone _ (.inr rfl), List.drop_zero, List.drop_succ_cons, List.take_succ_cons, List.take_zero] at g0 g1 g2 g3
  rw [List.getElem?_eq_getElem (by omega)] at g0 g1 g2 g3
  obtain ⟨k0, e0, _, _⟩ := DataW.trod_int Tryz.underlying3 g0
  obtain ⟨k1, e1, _, _⟩ := DataW.trod_int Tryz.underlying3 g1
  obtain ⟨k2, e2, _, _⟩ := DataW.trod_int Tryz.underlying3 g2
  obtain ⟨A, n, c, z, ez, hz, _⟩ := open_blocks Tryz.underlying82 Tryz.underlying92 Tryz.underlying5 (by kernel_rfl) (by kernel_rfl) g3
  injection e0 with e0 _
  injection e1 with e1 _
  injection e2 with e2 _
  injection ez with ez _
  subst e0 e1 e2 ez
  exact ⟨k0, k1, k2, A, n, c, _, rfl, writ_of hz⟩
end
end
section
open Go.RowKit
section
variable {w w' : World} {X Y : Nat → Prop} {l p d n m c : Nat} {s : Sup} {t : Int} {k : Dk} {sec : Int} {A : Option Addr} {xs : List Seg} {br : Bool}
theorem append_nil (k f x s : Int) (A1 A2 : Option Addr) (n1 c1 n2 c2 : Nat) (w : World) :
 Calls Tryz.prog 62 #[.pointer none, .agg #[.int .i64 k, .int .u32 f, .int .u32 x, .int .u64 s, .slice A1 n1 c1, .slice A2 n2 c2]] w fun e w' => e = .returned (.tuple #[.agg #[.int .i64 0, .int .u64 0, .int .i64 0], .int .i64 1]) ∧ Below w.heap.size w w' := by
 have HB := hI (((Below.refl w.heap.size w).alloc (nR _) (.cells #[.int .i64 k, .int .u32 f, .int .u32 x, .int .u64 s, .slice A1 n1 c1, .slice A2 n2 c2] 69)).alloc (by simp) (.cells #[.int .i64 0, .int .u64 0, .int .i64 0] 67))
 have HK := hI (blk_new2 w (.cells #[.int .i64 k, .int .u32 f, .int .u32 x, .int .u64 s, .slice A1 n1 c1, .slice A2 n2 c2] 69) 67 #[.int .i64 0, .int .u64 0, .int .i64 0])
 go_enter Tryz.func62, Tryz.ntmps62
 go_wp2_with (with_reducible refine halt_end ?_)
 exact Halt.ret (results_row2 (p := 4) (u := 5) rfl _ _ (w.heap.size + 1) 67 #[.int .i64 0, .int .u64 0, .int .i64 0] _ rfl HK.out Tryz.underlying67 rfl size_addr) rfl ⟨rfl, HB.out⟩
end
end
end Go.Proofs.YtknfblfnfoibkaaGreat
