/- Texts of LogScans, packed. -/
import Derived.Test.YtknfblfnfoibkaaGreatPackLogScans18
import Derived.Deep.Slices
import Derived.Deep.Fields
import Derived.ChangeSame
import Derived.Lib.SmallJoins
import Derived.BigQuiet
import Derived.Deep.DeepCutAuto
import Derived.Lib.SlBytesConst
import Derived.Lib.Hide
set_option linter.unusedVariables false
set_option linter.unusedSimpArgs false
set_option maxRecDepth 100000
set_option maxHeartbeats 16000000
namespace Go.Proofs.YtknfblfnfoibkaaGreat
section
open Go.RowKit
section
variable {w : World} {X : Nat → Prop} {l p d n m c : Nat} {s : Sup} {t : Int} {k : Dk} {sec : Int} {A : Option Addr} {xs : List Seg} {br : Bool}
end
def bornK (a b : Int) : Dk := (((Dk.fresh 1026).wr (Dk.put 0 (supL a b 0 0 0 0 0))).wr (Dk.put 1 (noughts 64))).wr Dk.sync
theorem born_any (a : Nat) (b : Int) (w : World) (ha : 4 ≤ a ∧ a ≤ 16) (hb : 24 ≤ b ∧ b ≤ 64) :
 Calls Tryz.prog 42 #[.int .i64 a, .int .i64 b] w fun e w' => ∃ l p d A c, e = .returned (.tuple #[.pointer (some ⟨l, 0, none⟩), .pointer (some ⟨d, 0, none⟩)]) ∧
  LogM w' (fun x => x < w.heap.size) l p d 1026 ⟨a, b, 0, 0, 0, 0⟩ 0 (bornK a b) b A a c (List.replicate a seg0) false ∧ a ≤ c ∧ (A = none → c = 0) ∧ Below w.heap.size w w' := by
 have hm : MayS a b 0 0 := ⟨by omega, by omega, by omega, by omega, by omega⟩
 have hz : SizedR a b := ⟨by omega, by omega, by omega, by omega⟩
 have hok := ok_new hz
 have hop : opnR (List.replicate a seg0) < 0 := by
  rcases opn_range (List.replicate a seg0) with h | ⟨i, hi, h⟩
  ·omega
  ·exfalso
   obtain ⟨j, hj, e1, e2⟩ := opn_nat hok (by omega)
   have : stG (List.replicate a seg0) j = 0 := by
    unfold stG
    rw [List.length_replicate] at hj
    simp [List.getD, hj, seg0]
   omega
 have HM := hI hm
 have HZ := hI hz
 have HOK := hI hok
 have HOP := hI hop
 have HAR := hI (area_in hm).2
 clear hm hz hok hop
 go_enter Tryz.func42, Tryz.ntmps42
 go_wp2_with fail
 refine (new_i w 1026 1026 rfl (by omega) (by omega)).mono ?_
 rintro e w1 ⟨d, rfl, hd, hb1⟩
 have HD1 := hI hd
 have HB1 := hI hb1
 clear hd hb1
 go_wp2_with fail
 refine (format_fresh HD1.out (fun c h => nL h HB1.out.size) a b HM.out (by have := HAR.out; omega)).mono ?_
 rintro e w2 ⟨p, rfl, hst, hk⟩
 have HS2 := hI (show StoS w2 (fun x => x < w.heap.size) p d 1026 ⟨a, b, 0, 0, 0, 0⟩ 0 (bornK a b) from hst)
 have HB2 := hI (show Below w.heap.size w w2 from HB1.out.trans (hk.to_below (fun b h => h)))
 clear hst hk
 go_wp2_with fail
 refine (new_ok a b HZ.out).mono ?_
 rintro e w3 ⟨⟨A0, rfl, hr⟩, hb3⟩
 have hal := (Below.refl w3.heap.size w3).alloc (nR _) (.cells #[.int .i64 b, .slice A0 a a] 103)
 have HS3 := hI (StoreM.below HS2.out (hb3.trans (hal.mono hb3.size)))
 have HB3 := hI (HB2.out.trans ((hb3.trans (hal.mono hb3.size)).mono HB2.out.size))
 have HR3 := hI (row_now (hr.more (fun b h => h.2)) hal)
 have HK3 := hI (Blk.new w3 103 #[.int .i64 b, .slice A0 a a])
 have HA0 := hI (show A0 = none → a = 0 from fun e => by
  rcases Nat.eq_zero_or_pos a with h | h
  ·exact h
  ·obtain ⟨_, _, h2, _⟩ := hr.2 h
   rw [e] at h2; cases h2)
 obtain ⟨k0, k1⟩ := ring_cells HK3.out
 clear hr hb3 hal
 go_wp2_with fail
 refine (open_log_ok (s := ⟨a, b, 0, 0, 0, 0⟩) HS3.out (fun b h => nL h HB3.out.size) HR3.out HA0.out (nR _) b HOK.out rfl rfl HOP.out).mono ?_
 rintro e w4 ⟨l, A, c, rfl, hl, hac, hnil, hsz, hb4⟩
 have HL := hI hl
 have HB4 := hI (HB3.out.trans (hb4.mono HB3.out.size))
 have HAC := hI (And.intro hac hnil)
 clear hl hb4 hac hnil k0 k1
 go_wp2_with fail
 go_ret2
 exact ⟨l, p, d, A, c, rfl, HL.out, HAC.out.1, HAC.out.2, HB4.out⟩
end
section
open Go.RowKit
section
variable {w w' : World} {X Y : Nat → Prop} {l p d n m c : Nat} {s : Sup} {t : Int} {k : Dk} {sec : Int} {A : Option Addr} {xs : List Seg} {br : Bool}
theorem LogM.disk {v : World} {k2 : Dk} (h : LogM w X l p d n s t k sec A m c xs br) (hd : ∀ R : Nat → Prop, StoS w (fun b => X b ∨ b = l ∨ R b) p d n s t k → (∀ b, R b → b < w.heap.size) → StoS v (fun b => X b ∨ b = l ∨ R b) p d n s t k2 ∧ Kept (fun b => X b ∨ b = l ∨ R b) w v) : LogM v X l p d n s t k2 sec A m c xs br ∧ Kept X w v := by
 obtain ⟨h1, h2, R, h3, h4, h5⟩ := h
 obtain ⟨g1, g2⟩ := hd R h3 (fun b h => (h5 b h).1)
 exact ⟨⟨h1.kept g2 (.inr (.inl rfl)), h2, R, g1, h4.kept g2 (fun b h => .inr (.inr h)), fun b h => ⟨nL (h5 b h).1 g2.size, (h5 b h).2⟩⟩, g2.mono (fun b h => .inl h)⟩
end
end
section
open Go.RowKit
theorem born_good (a b : Int) : Good (bornK a b) := ((((Good.fresh 1026).put _ _).put _ _).sync)
theorem born_pend (a b : Int) : (bornK a b).pend = [] := (((Good.fresh 1026).put _ _).put _ _).pend_sync
theorem born_held (a b : Int) (j : Nat) (hj : 2 ≤ j) (hn : j < 1026) : (bornK a b).held.getD j [] = noughts 64 := by
 unfold bornK
 rw [(((Good.fresh 1026).put _ _).put _ _).held_sync, ((Good.fresh 1026).put _ _).held_put, (Good.fresh 1026).held_put]
 simp only [List.getD, List.getElem?_set]
 rw [if_neg (by omega), if_neg (by omega)]
 have : (Dk.fresh 1026).held = List.replicate 1026 (noughts 64) := by rfl
 rw [this, List.getElem?_replicate, if_pos hn]
 rfl
section
variable {w : World} {X : Nat → Prop} {l p d n : Nat} {s : Sup} {t : Int} {k : Dk} {sec : Int} {A : Option Addr} {m c : Nat} {xs : List Seg} {br : Bool}
theorem log_write (h : LogM w X l p d n s t k sec A m c xs br) (hX : ∀ b, X b → b < w.heap.size) (hg : Good k) (i : Nat) (hi : i < n) (ys : List Int) (hy : ys.length = 64) (hby : Bytes ys) (hm : k.pend.length ≤ 1000000) :
 Calls Tryz.prog 44 #[.pointer (some ⟨d, 0, none⟩), .int .i64 i, .agg (cells8 ys)] w fun e w' => e = .returned (.int .i64 0) ∧ LogM w' X l p d n s t (k.wr (Dk.put i ys)) sec A m c xs br ∧ Kept X w w' := by
 obtain ⟨h1, h2, R, h3, h4, h5⟩ := h
 have hl := h1.lt
 have hp := h3.1.lt
 refine (write_k h3.2.1 (fun b hb => ?_) i hi ys hy hby hm).mono ?_
 ·rcases hb with (hb | hb | hb) | hb
  ·exact hX b hb
  ·omega
  ·exact (h5 b hb).1
  ·omega
 ·rintro e w' ⟨rfl, hd, hk⟩
  refine ⟨by rw [hg.wre], ⟨h1.kept hk (.inl (.inr (.inl rfl))), h2, R, ⟨h3.1.kept hk (.inr rfl), hd, h3.2.2⟩, h4.kept hk (fun b h => .inl (.inr (.inr h))), fun b h => ⟨nL (h5 b h).1 hk.size, (h5 b h).2⟩⟩, hk.mono (fun b h => .inl (.inl h))⟩
theorem LogM.sto (h : LogM w X l p d n s t k sec A m c xs br) (hX : ∀ b, X b → b < w.heap.size) : ∃ Y : Nat → Prop, (∀ b, X b → Y b) ∧ (∀ b, Y b → b < w.heap.size) ∧ StoS w Y p d n s t k ∧ k.Ok n := by
 obtain ⟨h1, h2, R, h3, h4, h5⟩ := h
 refine ⟨_, fun b hb => .inl hb, fun b hb => ?_, h3, h3.2.1.1⟩
 rcases hb with hb | hb | hb
 ·exact hX b hb
 ·rw [hb]; exact h1.lt
 ·exact (h5 b hb).1
end
theorem strV_put {k : Dk} (hg : Good k) {s : Sup} {seg q j : Nat} {ys : List Int} (hq : (q : Int) < s.b) (hj : (j : Int) < s.b) (hsb : 0 ≤ (seg : Int) * s.b) (hn : (2 + (seg : Int) * s.b + j).toNat < k.held.length) :
 strV (k.wr (Dk.put (2 + (seg : Int) * s.b + j).toNat ys)) s seg q = if q = j then ys else strV k s seg q := by
 unfold strV
 rw [if_pos hq, if_pos hq, hg.held_put]
 by_cases e : q = j
 ·subst e
  rw [if_pos rfl]
  simp [List.getD, List.getElem?_set_self hn]
 ·rw [if_neg e]
  simp only [List.getD, List.getElem?_set]
  rw [if_neg (by omega)]
theorem secsAt_list {V : Nat → List Int} {L : List (List Int)} {n : Nat} (hl : L.length = n) (h : ∀ q, q < n → V q = L.getD q []) : secsAt V 0 n = L := by
 apply List.ext_getElem?
 intro j
 unfold secsAt
 by_cases hj : j < n
 ·rw [List.getElem?_map, List.getElem?_range hj, List.getElem?_eq_getElem (by omega)]
  show some (V (0 + j)) = _
  rw [Nat.zero_add, h j hj]
  simp [List.getD, List.getElem?_eq_getElem (show j < L.length by omega)]
 ·rw [List.getElem?_eq_none (by simp; omega), List.getElem?_eq_none (by omega)]
section
variable {w w' : World} {m seg : Nat} {gen : Int} {A : Option Addr} {c : Nat}
theorem ToldS.below {ts : List Tl} (h : ToldS w m seg gen A c ts) (hb : Below w.heap.size w w') : ToldS w' m seg gen A c ts :=
 ⟨(h.row.below hb (fun b h => h.2)).more (fun b h => ⟨h.1, nL h.2 hb.size⟩), h.cap, h.nil, fun t ht => by
  obtain ⟨g1, g2, g3, g4⟩ := h.ent t ht
  exact ⟨g1, g2, Blk.below g3 hb (Blk.lt g3), Blk.below g4 hb (Blk.lt g4)⟩⟩
end
end
section
open Go.RowKit Go.ChangeShapes Go.WideShapes Go.Deep Go.Joins
structure IsWrit (w : World) (A : Option Addr) (n c : Nat) (z : List (List Int)) : Prop where
 row : RowK w (· < w.heap.size) A n z
 secs : Secs z
 byt : ∀ i, Bytes (z.getD i [])
 nc : n ≤ c
 n63 : n ≤ 9223372036854775807
theorem writ_of {w : World} {a : Option Addr} {len cap : Nat} {zss : List (List Int)} (h : IsBlocks w a len cap zss) : IsWrit w a len cap (zss.take len) := by
 obtain ⟨h1, h2, h3, h4, _⟩ := blocks_of h
 refine ⟨h1, h2, h3, h4, ?_⟩
 rcases h with ⟨_, rfl, _, _⟩ | ⟨x, _, hl, hm, _⟩
 ·omega
 ·unfold maxLen at hm
  omega
section
variable {H : Type} {enc : TypeId × Value → H} {w : World} {held : Bool}
theorem open_written {r : Reach} {b0 : Nat} {v : Value} {d : DataW H} {p : List MemPlace} (hv : Value.okWide Tryz.prog w r b0 84 v) (h : DataW.Trod enc Tryz.prog w 0 (fun _ => true) held 84 v d p) :
 ∃ (a b s : Int) (A : Option Addr) (n c : Nat) (z : List (List Int)), v = .agg #[.int .i64 a, .int .i64 b, .int .i64 s, .slice A n c] ∧ IsWrit w A n c z := by
 obtain ⟨cs, rfl, hsz⟩ := okWide_struct Tryz.underlying84 hv
 obtain ⟨fuel, hf⟩ := h
 obtain ⟨ys, fu, _, _, _, hyl, hg⟩ := DataW.trod_struct Tryz.underlying84 hf
 have hc2 : Tryz.prog.cellsOf 84 = 4 := by kernel_rfl
 have hone : ∀ t, t = 3 ∨ t = 82 → Tryz.prog.cellsOf t = 1 := by
  rintro t (rfl | rfl) <;> kernel_rfl
 obtain ⟨l⟩ := cs
 have hl2 : l.length = 4 := by simpa using hsz.trans hc2
 have hy2 : ys.length = 4 := hyl
 match l, hl2 with
 | [v0, v1, v2, v3], _ =>
  have g0 := hg 0 _ rfl
  have g1 := hg 1 _ rfl
  have g2 := hg 2 _ rfl
  have g3 := hg 3 _ rfl
  simp only [Value.cells, hone _ (.inl rfl), hone _ (.inr rfl), List.drop_zero, List.drop_succ_cons, List.take_succ_cons, List.take_zero] at g0 g1 g2 g3
  rw [List.getElem?_eq_getElem (by omega)] at g0 g1 g2 g3
  obtain ⟨k0, e0, _, _⟩ := DataW.trod_int Tryz.underlying3 g0
  obtain ⟨k1, e1, _, _⟩ := DataW.trod_int Tryz.underlying3 g1
  obtain ⟨k2, e2, _, _⟩ := DataW.trod_int Tryz.underlying3 g2
  obtain ⟨A, n, c, z, ez, hz, _⟩ := open_blocks Tryz.underlying82 Tryz.underlying92 Tryz.underlying5 (by kernel_rfl) (by kernel_rfl) g3
  injection e0 with e0 _
  injection e1 with e1 _
  injection e2 with e2 _
  injection ez with ez _
  subst e0 e1 e2 ez
  exact ⟨k0, k1, k2, A, n, c, _, rfl, writ_of hz⟩
end
end
section
open Go.RowKit
section
variable {w w' : World} {X Y : Nat → Prop} {l p d n m c : Nat} {s : Sup} {t : Int} {k : Dk} {sec : Int} {A : Option Addr} {xs : List Seg} {br : Bool}
theorem append_nil (k f x s : Int) (A1 A2 : Option Addr) (n1 c1 n2 c2 : Nat) (w : World) :
 Calls Tryz.prog 62 #[.pointer none, .agg #[.int .i64 k, .int .u32 f, .int .u32 x, .int .u64 s, .slice A1 n1 c1, .slice A2 n2 c2]] w fun e w' => e = .returned (.tuple #[.agg #[.int .i64 0, .int .u64 0, .int .i64 0], .int .i64 1]) ∧ Below w.heap.size w w' := by
 have HB := hI (((Below.refl w.heap.size w).alloc (nR _) (.cells #[.int .i64 k, .int .u32 f, .int .u32 x, .int .u64 s, .slice A1 n1 c1, .slice A2 n2 c2] 69)).alloc (by simp) (.cells #[.int .i64 0, .int .u64 0, .int .i64 0] 67))
 have HK := hI (blk_new2 w (.cells #[.int .i64 k, .int .u32 f, .int .u32 x, .int .u64 s, .slice A1 n1 c1, .slice A2 n2 c2] 69) 67 #[.int .i64 0, .int .u64 0, .int .i64 0])
 go_enter Tryz.func62, Tryz.ntmps62
 go_wp2_with (with_reducible refine halt_end ?_)
 exact Halt.ret (results_row2 (p := 4) (u := 5) rfl _ _ (w.heap.size + 1) 67 #[.int .i64 0, .int .u64 0, .int .i64 0] _ rfl HK.out Tryz.underlying67 rfl size_addr) rfl ⟨rfl, HB.out⟩
end
end
section
open Go.RowKit
def layK (k : Dk) (s : Sup) (xs : List Seg) (i : Nat) (bs : List Int) : Dk := (wrs k (2 + (i : Int) * s.b + usedG xs i).toNat (splitL (genG xs i) (usedG xs i) bs)).1
section
variable {w w' : World} {X Y : Nat → Prop} {l p d n m c : Nat} {s : Sup} {t : Int} {k : Dk} {A : Option Addr} {xs : List Seg} {pe : Nat}
theorem LogM.setOff {sec : Int} {br : Bool} {q : Nat} {ty : TypeId} {cs : Array Value} (h : LogM w Y l p d n s t k sec A m c xs br) (hm : 2 ≤ m) (hq : Blk w q ty cs) (hsz : cs.size ≤ 3) (hY : Y q) (i : Nat) (v : Value) : LogM (w.setCell ⟨q, i, none⟩ v) Y l p d n s t k sec A m c xs br := by
 obtain ⟨h1, h2, R, h3, h4, h5⟩ := h
 obtain ⟨b, off, rfl, hR, hc⟩ := h4.2 (by omega)
 have hbq : b ≠ q := fun e => by
  subst e
  have h9 := hc (m - 1) (by omega) 2 _ rfl
  rw [hq.cell, Array.getElem?_eq_none (by omega)] at h9
  cases h9
 have hlq : l ≠ q := fun e => h2 (e ▸ hY)
 have hk := (Kept.refl (· ≠ q) w).setCell (p := ⟨q, i, none⟩) (fun h => h rfl) v
 refine ⟨h1.kept hk hlq, h2, (· = b), ?_, ⟨h4.1, fun _ => ⟨b, off, rfl, rfl, fun i2 hi2 j u hu => (hk.cell (p := ⟨b, _, none⟩) hbq).trans (hc i2 hi2 j u hu)⟩⟩, fun b2 e => by subst e; exact ⟨nL (h5 _ hR).1 hk.size, (h5 _ hR).2⟩⟩
 exact StoreM.kept h3 hk (fun b2 _ hx e => hx (.inl (e ▸ hY))) (fun b2 _ hh => by
  rcases hh with hh | hh | hh
  ·exact .inl hh
  ·exact .inr (.inl hh)
  ·exact .inr (.inr (hh ▸ hR)))
theorem LgM.setOff {q : Nat} {ty : TypeId} {cs : Array Value} (h : LgM w Y l p d n s t k xs pe) (hq : Blk w q ty cs) (hsz : cs.size ≤ 3) (hY : Y q) (i : Nat) (v : Value) : LgM (w.setCell ⟨q, i, none⟩ v) Y l p d n s t k xs pe := by
 obtain ⟨A, c, h1, h2, h3⟩ := h.log
 have := h.ok.1.1
 exact ⟨⟨A, c, h1.setOff (by omega) hq hsz hY i v, h2, h3⟩, h.good, h.ok, h.top, h.may, h.sin, h.dims, h.n2, h.room, h.pend⟩
theorem LgM.setOff3 {q : Nat} {ty : TypeId} {a0 a1 a2 : Value} (h : LgM w Y l p d n s t k xs pe) (hq : Blk w q ty #[a0, a1, a2]) (hY : Y q) (hX : ∀ b, X b → Y b) (hne : ∀ b, X b → b ≠ q) (b0 b1 b2 : Value) :
 LgM (((w.setCell ⟨q, 0, none⟩ b0).setCell ⟨q, 1, none⟩ b1).setCell ⟨q, 2, none⟩ b2) X l p d n s t k xs pe ∧ Blk (((w.setCell ⟨q, 0, none⟩ b0).setCell ⟨q, 1, none⟩ b1).setCell ⟨q, 2, none⟩ b2) q ty #[b0, b1, b2] ∧ ∀ V, Kept X V w → Kept X V (((w.setCell ⟨q, 0, none⟩ b0).setCell ⟨q, 1, none⟩ b1).setCell ⟨q, 2, none⟩ b2) := by
 have e0 := hq.set_ 0 b0
 have e1 := e0.set_ 1 b1
 have e2 := e1.set_ 2 b2
 have g0 := h.setOff hq (by simp) hY 0 b0
 have g1 := g0.setOff e0 (by simp) hY 1 b1
 have g2 := g1.setOff e1 (by simp) hY 2 b2
 exact ⟨g2.less hX, e2, fun V hV => ((hV.setCell (p := ⟨q, 0, none⟩) (fun hh => hne q hh rfl) _).setCell (p := ⟨q, 1, none⟩) (fun hh => hne q hh rfl) _).setCell (p := ⟨q, 2, none⟩) (fun hh => hne q hh rfl) _⟩
theorem lay_lg {i : Nat} {B : Option Addr} {n0 c0 : Nat} {bs : List Int} (h : LgM w X l p d n s t k xs pe) (hX : ∀ b, X b → b < w.heap.size) (hpe : pe ≤ 900000)
 (ho : opnR xs = (i : Nat)) (hfit : ((cntOf n0 : Nat) : Int) ≤ leftR s.b xs) (hb : RowI .u8 w (· < w.heap.size) B n0 bs) (hbn : B = none → c0 = 0) (hbc : n0 ≤ c0) (hn0 : n0 ≤ 16384) (hby : Bytes bs) :
 Calls Tryz.prog 135 #[.pointer (some ⟨l, 0, none⟩), .slice B n0 c0] w fun e w' =>
  e = .returned (.tuple #[.agg #[.int .i64 (i : Int), .int .u64 (genG xs i), .int .i64 (usedG xs i)], .int .i64 0]) ∧ LgM w' X l p d n s t (layK k s xs i bs) (useX xs ((cntOf n0 : Nat) : Int)) (pe + cntOf n0) ∧ Kept X w w' := by
 obtain ⟨A, c, h1, h2, h3⟩ := h.log
 obtain ⟨b1, b2, b3, b4, b5, b6⟩ := opn_bounds h.ok ho
 have hue := use_zero h.ok (n := ((cntOf n0 : Nat) : Int)) (by omega) (by omega) hfit
 have htop := h.top
 have hsin := h.sin
 have hmay := h.may
 have hg : genG xs i ≤ 18446744073709551615 := by
  have h9 : s.g ≤ 18446744073709551615 := by
   have := hsin
   simp only [Sup.In, InS] at this
   omega
  omega
 have hb64 : s.b ≤ 64 := hmay.2.2.2.1
 have hoe := opened_yes h.ok (by omega)
 have hbl : bs.length = n0 := hb.1
 have key := lay_good (i := i) (c0 := c0) h1 hX h2 h3 h.good hoe.1 (by rw [hoe.2, ho]) b1 hb hbn hbc hn0 ⟨by omega, hg⟩ ⟨by omega, by omega⟩ hue hby (by rw [← h.dims]; omega) h.may (by omega) h.room h.n2.2 (by have := h.pend; omega)
 refine key.mono ?_
 rintro e w' ⟨he, A', c', h4, h5, h6, h7⟩
 refine ⟨he, ⟨⟨A', c', h4, h6, h7⟩, (wrs_good _ _ _ h.good).2, ok_use hue, ?_, h.may, h.sin, ?_, h.n2, h.room, ?_⟩, h5⟩
 ·obtain ⟨_, _, _, _, _, _, e5, _⟩ := use_facts hue
  rw [e5]; exact h.top
 ·obtain ⟨_, _, _, _, _, _, _, _, _, e5, _⟩ := use_facts hue
  rw [e5]; exact h.dims
 ·have h8 := wrs_pend (splitL (genG xs i) (usedG xs i) bs) k (2 + (i : Int) * s.b + usedG xs i).toNat h.good
  rw [split_length, hbl] at h8
  have := h.pend
  unfold layK
  omega
theorem turn_lg (h : LgM w X l p d n s t k xs pe) (hX : ∀ b, X b → b < w.heap.size) (hpe : pe ≤ 900000) (hgm : s.g + 1 ≤ 18446744073709551615) :
 Calls Tryz.prog 134 #[.pointer (some ⟨l, 0, none⟩)] w fun e w' =>
  ((nxtR xs < 0 ∧ e = .returned (.int .i64 6) ∧ LgM w' X l p d n s t k xs pe) ∨
   (∃ i : Nat, nxtR xs = (i : Nat) ∧ e = .returned (.int .i64 0) ∧ LgM w' X l p d n (genS s) (nxt t) (begK k s t i) (openX (sealedX s.b xs) (s.g + 1)) 0)) ∧ Kept X w w' := by
 obtain ⟨A, c, h1, h2, h3⟩ := h.log
 have hz : sealedX s.b xs = if sealE s.b xs = 0 then sealX xs else xs := rfl
 obtain ⟨z1, z2, z3, z4, z5, z6, z7⟩ := seal_facts h.ok hz
 have hok : ∀ {P : Prop}, ¬ OkR s.b xs → P := fun hh => absurd h.ok hh
 have hop : nextE s.b xs = 0 → openE s.b (sealedX s.b xs) (s.g + 1) = 0 := fun hn => turn_open h.ok hz h.top (by
  unfold nextE at hn
  rw [if_neg (fun k => k h.ok)] at hn
  split at hn
  ·cases hn
  ·omega)
 have key := turn_good h1 hX h2 h3 h.good (by have := h.pend; omega) h.may h.sin hgm h.n2.1 h.n2.2 h.dims h.room hop
 refine key.mono ?_
 intro e w' ht
 rcases ht with ⟨hn, he, h4, h5⟩ | ⟨hn, he, v, hk, kk, ys, A', c', _, h4, h5, h6, h7, h8⟩
 ·have hne : nxtR xs < 0 ∧ nextE s.b xs = 6 := by
   unfold nextE at hn ⊢
   rw [if_neg (fun k => k h.ok)] at hn ⊢
   split at hn
   ·rename_i hh; exact ⟨hh, by rw [if_pos hh]⟩
   ·exact absurd rfl hn
  exact ⟨.inl ⟨hne.1, by rw [he, hne.2], ⟨A, c, h4, h2, h3⟩, h.good, h.ok, h.top, h.may, h.sin, h.dims, h.n2, h.room, h.pend⟩, h5⟩
 ·have hE := hop hn
  rcases h8 with ⟨h8, _⟩ | ⟨_, h8, h9⟩
  ·exact absurd hE h8
  subst h8 h9
  obtain ⟨i, i1, i2, i3, i4, i5, i6, i7, i8, i9, i10, i11⟩ := open_facts hE
  rw [z4] at i2
  have hnx : nxtR (sealedX s.b xs) = (i : Nat) := by rw [z4]; exact i2
  refine ⟨.inr ⟨i, i2, he, ⟨A', c', ?_, h6, h7⟩, ?_, i3, ?_, ?_, ?_, ?_, h.n2, h.room, ?_⟩, hk.trans h5 (fun b h => h)⟩
  ·rw [hnx] at h4; exact h4
  ·exact ((((h.good.put _ _).sync).put _ _).sync)
  ·rw [i6]; exact Int.le_refl _
  ·have := h.may
   exact ⟨this.1, this.2.1, this.2.2.1, this.2.2.2.1, by have := this.2.2.2.2; show s.r ≤ s.g + 1; omega⟩
  ·have := h.sin
   simp only [Sup.In, InS] at this ⊢
   omega
  ·rw [i10, z6]; exact h.dims
  ·have hgd : Good ((setK k s t).wr (Dk.put (2 + (i : Int) * s.b).toNat (hdrL (i : Int).toNat (s.g + 1)))) := ((h.good.put _ _).sync).put _ _
   have := hgd.pend_sync
   unfold begK
   rw [this]
   exact nR _
theorem turn_facts (h : LgM w X l p d n s t k xs pe) {i : Nat} (hi : nxtR xs = (i : Nat)) : opnR (openX (sealedX s.b xs) (s.g + 1)) = (i : Nat) ∧ genG (openX (sealedX s.b xs) (s.g + 1)) i = s.g + 1 ∧ usedG (openX (sealedX s.b xs) (s.g + 1)) i = 1 ∧ leftR s.b (openX (sealedX s.b xs) (s.g + 1)) = s.b - 1 := by
 have hz : sealedX s.b xs = if sealE s.b xs = 0 then sealX xs else xs := rfl
 obtain ⟨_, _, _, z4, _⟩ := seal_facts h.ok hz
 have hE := turn_open h.ok hz h.top (by omega)
 obtain ⟨j, _, j2, _, j4, _, _, j7, j8, j9, _⟩ := open_facts hE
 obtain rfl : j = i := by omega
 exact ⟨j4, j7, j8, j9⟩
theorem left_open {sec : Int} {xs : List Seg} {K : Int} (h : OkR sec xs) (hK : 1 ≤ K) (hl : K ≤ leftR sec xs) : ∃ i : Nat, opnR xs = (i : Nat) := by
 rcases opn_or h with ⟨e, _⟩ | ⟨i, _, e, _⟩
 ·unfold leftR at hl
  rw [e, if_neg (by omega)] at hl
  omega
 ·exact ⟨i, e⟩
end
end
section
open Go.RowKit
theorem rec_sectors (k f x s : Int) (A A' : Option Addr) (n c n' c' : Nat) (w : World) (h : May k f x s n n') (hn : n + n' ≤ 1000000) :
 Calls Tryz.prog 133 #[.agg #[.int .i64 k, .int .u32 f, .int .u32 x, .int .u64 s, .slice A n c, .slice A' n' c']] w fun e w' => e = .returned (.int .i64 (cntOf (21 + n + n'))) ∧ Below w.heap.size w w' := by
 have HB := hI ((Below.refl w.heap.size w).alloc (nR _) (.cells #[.int .i64 k, .int .u32 f, .int .u32 x, .int .u64 s, .slice A n c, .slice A' n' c'] 69))
 have HS := hI (fun v : World => size_yes k f x s A A' n c n' c' v h)
 obtain ⟨m, hm⟩ : ∃ m, 21 + n + n' = m := ⟨_, rfl⟩
 have h0 : 21 ≤ m := by omega
 have h1 : m ≤ 1000021 := by omega
 have h2 : (21 : Int) ≤ (m : Int) := by omega
 have h3 : (m : Int) ≤ 1000021 := by omega
 rw [hm] at HS
 rw [hm]
 have HV := hI (show ((m : Int) + 48 - 1) / 48 = ((cntOf m : Nat) : Int) by unfold cntOf; omega)
 clear h hm
 go_enter Tryz.func133, Tryz.ntmps133
 go_wp2_with fail
 refine (HS.out _).mono ?_
 rintro e w2 ⟨rfl, hb⟩
 have HB2 := hI (HB.out.trans (hb.mono HB.out.size))
 clear hb
 go_wp2_with fail
 go_ret
 rw [← HV.out]
 exact ⟨rfl, HB2.out⟩
end
section
open Go.RowKit
abbrev lp0 : Oper := ⟨some 28, .move (.tmp 0), 25, "log.go:51", #[], none⟩
abbrev lp1 : Oper := ⟨some 29, .nilCheck (.tmp 28), 0, "log.go:51", #[⟨0, .data⟩], none⟩
abbrev lp2 : Oper := ⟨some 30, .fieldAddr 169 (.tmp 29) 1, 0, "log.go:51", #[⟨1, .data⟩], none⟩
abbrev lp3 : Oper := ⟨some 31, .load 103 (.tmp 30), 103, "log.go:51", #[⟨2, .data⟩], none⟩
abbrev lp4 : Oper := ⟨some 32, .call { callee := .value (.func 132), args := #[.tmp 31], argTypes := #[103] }, 3, "log.go:51", #[⟨3, .data⟩], none⟩
abbrev lp5 : Oper := ⟨some 33, .load 69 (.tmp 3), 69, "log.go:51", #[], none⟩
abbrev lp6 : Oper := ⟨some 34, .call { callee := .value (.func 133), args := #[.tmp 33], argTypes := #[69] }, 3, "log.go:51", #[⟨5, .data⟩, ⟨4, .chain⟩], none⟩
abbrev lp7 : Oper := ⟨some 35, .binOp Go.BinOp.lss 3 (.tmp 32) (.tmp 34) 3, 4, "log.go:51", #[⟨4, .data⟩, ⟨6, .data⟩], none⟩
theorem size_rec9 : (Tryz.prog.info? 69).map (·.size) = some 6 := by kernel_rfl
section
variable {w w' : World} {X Y : Nat → Prop} {l p d n : Nat} {s : Sup} {t : Int} {k : Dk} {xs : List Seg} {pe : Nat}
def AppT (w : World) (X : Nat → Prop) (l p d n : Nat) (s : Sup) (t : Int) (k : Dk) (xs : List Seg) (pe K : Nat) (bs : List Int) (e : Ending) (w' : World) : Prop :=
 ((∃ i : Nat, opnR xs = (i : Nat) ∧ (K : Int) ≤ leftR s.b xs ∧ e = .returned (.tuple #[.agg #[.int .i64 (i : Int), .int .u64 (genG xs i), .int .i64 (usedG xs i)], .int .i64 0]) ∧ LgM w' X l p d n s t (layK k s xs i bs) (useX xs (K : Nat)) (pe + K)) ∨
  (leftR s.b xs < (K : Int) ∧ nxtR xs < 0 ∧ e = .returned (.tuple #[.agg #[.int .i64 0, .int .u64 0, .int .i64 0], .int .i64 6]) ∧ LgM w' X l p d n s t k xs pe) ∨
  (leftR s.b xs < (K : Int) ∧ ∃ i : Nat, nxtR xs = (i : Nat) ∧ e = .returned (.tuple #[.agg #[.int .i64 (i : Int), .int .u64 (s.g + 1), .int .i64 1], .int .i64 0]) ∧
    LgM w' X l p d n (genS s) (nxt t) (layK (begK k s t i) (genS s) (openX (sealedX s.b xs) (s.g + 1)) i bs) (useX (openX (sealedX s.b xs) (s.g + 1)) (K : Nat)) (0 + K))) ∧ Kept X w w'
theorem append_good (h : LgM w X l p d n s t k xs pe) (hX : ∀ b, X b → b < w.heap.size) (hpe : pe ≤ 900000) (hgm : s.g + 1 ≤ 18446744073709551615) {k1 f x s1 : Int} {A1 A2 : Option Addr} {n1 c1 n2 c2 : Nat} {us vs : List Int} (hm : May k1 f x s1 n1 n2) (hr : Rng f x s1)
 (hx : RowI .u8 w (· < w.heap.size) A1 n1 us) (hy : RowI .u8 w (· < w.heap.size) A2 n2 vs) (hn1 : A1 = none → c1 = 0) (hn2 : A2 = none → c2 = 0) (hbu : Bytes us) (hbv : Bytes vs) :
 Calls Tryz.prog 62 #[.pointer (some ⟨l, 0, none⟩), .agg #[.int .i64 k1, .int .u32 f, .int .u32 x, .int .u64 s1, .slice A1 n1 c1, .slice A2 n2 c2]] w fun e w' => AppT w X l p d n s t k xs pe (cntOf (21 + n1 + n2)) (recB k1 f x s1 us vs) e w' := by
 have HLG := hI h
 have hbs := recB_bytes (k := k1) (f := f) (x := x) (s := s1) (by have h9 := hm; unfold May at h9; omega) hbu hbv
 have HBS := hI hbs
 have HPE := hI hpe
 have HGM := hI hgm
 have hsecb := h.may.2.2
 obtain ⟨A, c, h, hmc, hnil⟩ := h.log
 have hlw : leftW s.b xs = leftR s.b xs := by unfold leftW; rw [if_pos HLG.out.ok]
 have HLW := hI hlw
 obtain ⟨m, hmm⟩ : ∃ m, xs.length = m := ⟨_, rfl⟩
 obtain ⟨sec, hsec⟩ : ∃ sec, s.b = sec := ⟨_, rfl⟩
 rw [hmm, hsec] at h
 rw [hsec] at HLW
 have HSEC := hI hsec
 have HSB := hI hsecb
 have hlen1 := hx.1
 have hlen2 := hy.1
 have HLEN := hI (And.intro hlen1 hlen2)
 have HL := hI h
 have HX := hI hX
 clear hmm hsec hlw hbs hbu hbv hmc hnil hpe hgm hsecb hlen1 hlen2
 have HM := hI hm
 have HB0 := hI (((Below.refl w.heap.size w).alloc (nR _) (.cells #[.int .i64 k1, .int .u32 f, .int .u32 x, .int .u64 s1, .slice A1 n1 c1, .slice A2 n2 c2] 69)).alloc (by simp) (.cells #[.int .i64 0, .int .u64 0, .int .i64 0] 67))
 have HK := hI (blk_new2 w (.cells #[.int .i64 k1, .int .u32 f, .int .u32 x, .int .u64 s1, .slice A1 n1 c1, .slice A2 n2 c2] 69) 67 #[.int .i64 0, .int .u64 0, .int .i64 0])
 have HRC := hI ((Blk.new w 69 #[.int .i64 k1, .int .u32 f, .int .u32 x, .int .u64 s1, .slice A1 n1 c1, .slice A2 n2 c2]).alloc (.cells #[.int .i64 0, .int .u64 0, .int .i64 0] 67))
 have HEN := hI (encode_yes k1 f x s1 A1 A2 n1 c1 n2 c2 us vs _ ((w.alloc (.cells #[.int .i64 k1, .int .u32 f, .int .u32 x, .int .u64 s1, .slice A1 n1 c1, .slice A2 n2 c2] 69)).alloc (.cells #[.int .i64 0, .int .u64 0, .int .i64 0] 67)) hm hr (hx.below HB0.out (fun b h => h)) (hy.below HB0.out (fun b h => h)) (fun b h => nL h HB0.out.size) hn1 hn2)
 have HL0 := hI (h.below HB0.out)
 clear h hX hm hr hx hy hn1 hn2
 go_enter Tryz.func62, Tryz.ntmps62
 go_wp2_with fail
 refine HEN.out.mono ?_
 rintro e v6 ⟨vb, rfl, hown, hb6⟩
 have HOWN := hI hown
 have HB6 := hI (HB0.out.trans (hb6.mono HB0.out.size))
 have HL6 := hI (HL.out.below HB6.out)
 have HK6 := hI (HK.out.below hb6 HK.out.lt)
 have HR6 := hI (HRC.out.below hb6 HRC.out.lt)
 obtain ⟨_, _, _, c3⟩ := log_cells HL6.out
 clear hown hb6
 go_upto_region 8 with fail
 clear c3
 go_cut [35] (fun t wy => t = .bool (decide (leftW sec xs < ((cntOf (21 + n1 + n2) : Nat) : Int))) ∧ Below v6.heap.size v6 wy)
 case first J KK hJ hKK =>
  have HOP := hI (show ∀ W, Below v6.heap.size v6 W → RowZ W (· < W.heap.size) A m xs from fun W hW => (HL6.out.below hW).now)
  have HL1 := hI (show ∀ W, Below v6.heap.size v6 W → W.rangeAt l 1 [.int .i64 sec, .slice A m c] from fun W hW q u hu => by
   have hb := HL6.out.1.below hW HL6.out.1.lt
   match q, hu with
   | 0, hu => exact (hb.cell 1).trans hu
   | 1, hu => exact (hb.cell 2).trans hu)
  have HR1 := hI (show ∀ W, Below v6.heap.size v6 W → W.rangeAt w.heap.size 0 [.int .i64 k1, .int .u32 f, .int .u32 x, .int .u64 s1, .slice A1 n1 c1, .slice A2 n2 c2] from fun W hW => (show Blk W w.heap.size 69 (List.toArray [.int .i64 k1, .int .u32 f, .int .u32 x, .int .u64 s1, .slice A1 n1 c1, .slice A2 n2 c2]) from HR6.out.below hW HR6.out.lt).rangeL)
  have hu35 := Tryz.underlying103
  have hu44 := Tryz.underlying69
  refine wp_region_noPanic ?_
  refine Tillst.region (fun W => Below v6.heap.size v6 W) [] (by kernel_rfl) (Below.refl _ _).drew (fun hė => ?_)
  refine Tillst.tk 0 lp0 (v := ?_) rfl (by kernel_rfl) (by rfl) ?_ hė ?_
  rotate_left
  ·intro W hSW; (try dsimp only at hSW); unfold lp0; go_simp; with_reducible rfl
  simp only [lp0, Act.put, sA, sZ, sS]
  refine Tillst.tk 1 lp1 (v := ?_) rfl (by kernel_rfl) (by rfl) ?_ hė ?_
  rotate_left
  ·intro W hSW; (try dsimp only at hSW); unfold lp1; go_simp; with_reducible rfl
  simp only [lp1, Act.put, sA, sZ, sS]
  refine Tillst.tk 2 lp2 (v := ?_) rfl (by kernel_rfl) (by rfl) ?_ hė ?_
  rotate_left
  ·intro W hSW; (try dsimp only at hSW); unfold lp2; go_simp; with_reducible rfl
  simp only [lp2, Act.put, sA, sZ, sS]
  refine Tillst.tk 3 lp3 (v := ?_) rfl (by kernel_rfl) (by rfl) ?_ hė ?_
  rotate_left
  ·intro W' hSW; refine exec_load_row (.tmp 30) 103 ?_ l 1 ?_ [.int .i64 sec, .slice A m c] _ hu35 rfl size_ring (HL1.out W' hSW) <;> rfl
  simp only [lp3, Act.put, sA, sZ, sS]
  refine Tillst.tk 5 lp5 (v := ?_) rfl (by kernel_rfl) (by rfl) ?_ hė ?_
  rotate_left
  ·intro W' hSW; refine exec_load_row (.tmp 3) 69 ?_ w.heap.size 0 ?_ [.int .i64 k1, .int .u32 f, .int .u32 x, .int .u64 s1, .slice A1 n1 c1, .slice A2 n2 c2] _ hu44 rfl size_rec9 (HR1.out W' hSW) <;> rfl
  simp only [lp5, Act.put, sA, sZ, sS]
  refine Tillst.one (i := 4) (o := lp4) (by kernel_rfl) rfl ?_
  intro K hK
  refine step_call 132 #[.tmp 31] #[103] rfl rfl Tryz.func132 rfl rfl [.agg #[.int .i64 sec, .slice A m c]] rfl ?_
  refine (left_ring (HOP.out _ hė) sec).mono ?_
  rintro e v8 ⟨rfl, hbn⟩
  have hS8 := hė.trans (hbn.mono hė.size)
  clear hbn
  refine ⟨_, rfl, ?_⟩
  simp only [lp4, Act.put, sA, sZ, sS]
  refine hK.out _ _ (fun _ => hS8) (fun hė => ?_)
  replace hė := hė (by decide)
  clear hK K hS8
  refine Tillst.one (i := 6) (o := lp6) (by kernel_rfl) rfl ?_
  intro K hK
  refine step_call 133 #[.tmp 33] #[69] rfl rfl Tryz.func133 rfl rfl [.agg #[.int .i64 k1, .int .u32 f, .int .u32 x, .int .u64 s1, .slice A1 n1 c1, .slice A2 n2 c2]] rfl ?_
  refine (rec_sectors k1 f x s1 A1 A2 n1 c1 n2 c2 _ HM.out (by obtain ⟨_, _, h1, h2, _⟩ := HM.out; omega)).mono ?_
  rintro e v9 ⟨rfl, hbn⟩
  have hS8 := hė.trans (hbn.mono hė.size)
  clear hbn
  refine ⟨_, rfl, ?_⟩
  simp only [lp6, Act.put, sA, sZ, sS]
  refine hK.out _ _ (fun _ => hS8) (fun hė => ?_)
  replace hė := hė (by decide)
  clear hK K hS8
  refine Tillst.tk 7 lp7 (v := ?_) rfl (by kernel_rfl) (by rfl) ?_ hė ?_
  rotate_left
  ·intro W hSW; (try dsimp only at hSW); unfold lp7; go_simp; with_reducible rfl
  simp only [lp7, Act.put, sA, sZ, sS]
  refine Tillst.done (by kernel_rfl) ?_ _
  refine NoPanic.normal ?_
  refine hKK _ _ (Met.intro (hJ _ _ ?_))
  (repeat apply Exists.intro)
  exact ⟨⟨rfl, hė⟩, rfl⟩
 case rest =>
  obtain ⟨rfl, hb⟩ := hcut
  have HB8 := hI (HB6.out.trans (hb.mono HB6.out.size))
  have HB68 := hI hb
  have HK8 := hI (HK6.out.below hb HK6.out.lt)
  have hkl := HK6.out.lt
  clear hb
  obtain ⟨B, hB⟩ : ∃ B, 21 + n1 + n2 = B := ⟨_, rfl⟩
  have HB17 := hI (show cntOf B ≤ 17 ∧ 1 ≤ cntOf B ∧ B ≤ 16384 by have h9 := HM.out; unfold May at h9; unfold cntOf; omega)
  have HBL := hI (show (recB k1 f x s1 us vs).length = B by rw [recB_length, HLEN.out.1, HLEN.out.2]; exact hB)
  rw [hB]
  obtain ⟨bs, hbse⟩ : ∃ bs, recB k1 f x s1 us vs = bs := ⟨_, rfl⟩
  rw [hbse] at HBS HOWN HBL
  have HBE := hI hbse
  have HBB := hI hB
  clear hB hbse
  have HG8 := hI (HLG.out.grow HB8.out)
  have HX8 := hI (grow_lt HX.out HB8.out.size)
  have hown := HOWN.out
  rw [HBL.out] at hown
  obtain ⟨A5, c5, rfl, hbc, hbn, hrow⟩ := rowG_own (mk := Value.int .u8) 0 hown
  have HROW := hI (show RowI .u8 wc (· < wc.heap.size) A5 B bs from (hrow.below HB68.out (fun b hb => hb.2.1)).more (fun b hb => nL hb.2.1 HB68.out.size))
  have HBN := hI (And.intro hbn hbc)
  have HXR := hI (show ∀ b, b < wc.heap.size ∧ w.heap.size + 2 ≤ b → (X b ∨ (w.heap.size ≤ b ∧ b < wc.heap.size)) from fun b hb => .inr ⟨by omega, hb.1⟩)
  have HROW2 := hI (show RowI .u8 wc (fun b => w.heap.size + 2 ≤ b ∧ b < wc.heap.size) A5 B bs from (hrow.below HB68.out (fun b hb => hb.2.1)).more (fun b hb => ⟨by have := hb.1; simp at this; omega, nL hb.2.1 HB68.out.size⟩))
  have hX1 := (show (fun b => X b ∨ (w.heap.size ≤ b ∧ b < wc.heap.size)) (w.heap.size + 1) from .inr ⟨by omega, HK8.out.lt⟩)
  have HX1 := hI hX1
  have hB17 := HB17.out
  have hleft := HLW.out
  rw [hleft]
  clear hown hrow hbn hbc hX1 hleft
  by_cases hlt : leftR sec xs < ((cntOf B : Nat) : Int)
  ·have HT := hI (turn_lg HG8.out HX8.out HPE.out HGM.out)
   have HLT := hI (show leftR s.b xs < ((cntOf (21 + n1 + n2) : Nat) : Int) by rw [HSEC.out, HBB.out]; exact hlt)
   rw [decide_eq_true hlt]
   clear hlt hB17
   go_wp2_with fail
   refine HT.out.mono ?_
   rintro e v9 ⟨ht, hk9⟩
   have HK9 := hI (HK8.out.kept hk9 HX1.out)
   have HKX9 := hI ((Kept.of_below HB8.out HX.out).trans hk9 (fun b h => .inl h))
   have HKZ9 := hI hk9
   clear hk9
   rcases ht with ⟨hn, rfl, hg9⟩ | ⟨i, hi, rfl, hg9⟩
   ·have HG9 := hI hg9
    have HN9 := hI hn
    have q0 := HK9.out.cell 0
    have q1 := HK9.out.cell 1
    have q2 := HK9.out.cell 2
    simp only [List.getElem?_toArray, List.getElem?_cons_zero, List.getElem?_cons_succ] at q0 q1 q2
    obtain ⟨g0, g1, g2⟩ := And.intro (HK9.out.frozen 0) (And.intro (HK9.out.frozen 1) (HK9.out.frozen 2))
    clear hg9 hn
    go_wp2_with (with_reducible refine halt_end ?_)
    have hso := HG9.out.setOff3 (X := X) HK9.out HX1.out (fun b h => .inl h) (fun b h => by have := HX.out b h; omega) (.int .i64 0) (.int .u64 0) (.int .i64 0)
    exact Halt.ret (results_row2 (p := 4) (u := 5) rfl _ _ (w.heap.size + 1) 67 #[.int .i64 0, .int .u64 0, .int .i64 0] _ rfl hso.2.1 Tryz.underlying67 rfl size_addr) rfl
     ⟨.inr (.inl ⟨HLT.out, HN9.out, rfl, hso.1⟩), hso.2.2 _ HKX9.out⟩
   ·obtain ⟨u1, u2, u3, u4⟩ := turn_facts HLG.out hi
    have HLY := hI (lay_lg (i := i) (c0 := c5) hg9 (fun b h => nL (HX8.out b h) HKZ9.out.size) (by omega) u1 (by show ((cntOf B : Nat) : Int) ≤ leftR s.b _; rw [u4]; have h8 := HSB.out; have h9 := HB17.out; omega) ((HROW2.out.kept HKZ9.out (fun b hb => HXR.out b ⟨hb.2, hb.1⟩)).more (fun b hb => nL hb.2 HKZ9.out.size)) HBN.out.1 HBN.out.2 HB17.out.2.2 HBS.out)
    rw [u2, u3] at HLY
    have HII := hI hi
    clear u1 u2 u3 u4 hi hg9
    go_wp2_with fail
    refine HLY.out.mono ?_
    rintro e v10 ⟨rfl, hg10, hk10⟩
    have HK10 := hI (HK9.out.kept hk10 HX1.out)
    have HKX10 := hI (HKX9.out.trans hk10 (fun b h => .inl h))
    have HG10 := hI hg10
    have q0 := HK10.out.cell 0
    have q1 := HK10.out.cell 1
    have q2 := HK10.out.cell 2
    simp only [List.getElem?_toArray, List.getElem?_cons_zero, List.getElem?_cons_succ] at q0 q1 q2
    obtain ⟨g0, g1, g2⟩ := And.intro (HK10.out.frozen 0) (And.intro (HK10.out.frozen 1) (HK10.out.frozen 2))
    clear hg10 hk10
    go_wp2_with (with_reducible refine halt_end ?_)
    have hso := HG10.out.setOff3 (X := X) HK10.out HX1.out (fun b h => .inl h) (fun b h => by have := HX.out b h; omega) (.int .i64 (i : Int)) (.int .u64 (s.g + 1)) (.int .i64 1)
    refine Halt.ret (results_row2 (p := 4) (u := 5) rfl _ _ (w.heap.size + 1) 67 #[.int .i64 (i : Int), .int .u64 (s.g + 1), .int .i64 1] _ rfl hso.2.1 Tryz.underlying67 rfl size_addr) rfl
     ⟨.inr (.inr ⟨HLT.out, i, HII.out, rfl, ?_⟩), hso.2.2 _ HKX10.out⟩
    rw [HBB.out, HBE.out]
    exact hso.1
  ·rw [decide_eq_false hlt]
   have HLT := hI (show ((cntOf (21 + n1 + n2) : Nat) : Int) ≤ leftR s.b xs by rw [HSEC.out, HBB.out]; omega)
   clear hlt hB17
   obtain ⟨i, hi⟩ := left_open HLG.out.ok (by rw [HBB.out]; have := HB17.out; omega) HLT.out
   have HLY := hI (lay_lg (i := i) (c0 := c5) HG8.out HX8.out HPE.out hi (by have h9 := HLT.out; rw [HBB.out] at h9; exact h9) HROW.out HBN.out.1 HBN.out.2 HB17.out.2.2 HBS.out)
   have HII := hI hi
   obtain ⟨gi, hgi⟩ : ∃ gi, genG xs i = gi := ⟨_, rfl⟩
   obtain ⟨ui, hui⟩ : ∃ ui, usedG xs i = ui := ⟨_, rfl⟩
   rw [hgi, hui] at HLY
   have HGU := hI (And.intro hgi hui)
   clear hi hgi hui
   go_wp2_with fail
   refine HLY.out.mono ?_
   rintro e v10 ⟨rfl, hg10, hk10⟩
   have HK10 := hI (HK8.out.kept hk10 HX1.out)
   have HKX10 := hI ((Kept.of_below HB8.out HX.out).trans hk10 (fun b h => .inl h))
   have HG10 := hI hg10
   have q0 := HK10.out.cell 0
   have q1 := HK10.out.cell 1
   have q2 := HK10.out.cell 2
   simp only [List.getElem?_toArray, List.getElem?_cons_zero, List.getElem?_cons_succ] at q0 q1 q2
   obtain ⟨g0, g1, g2⟩ := And.intro (HK10.out.frozen 0) (And.intro (HK10.out.frozen 1) (HK10.out.frozen 2))
   clear hg10 hk10
   go_wp2_with (with_reducible refine halt_end ?_)
   have hso := HG10.out.setOff3 (X := X) HK10.out HX1.out (fun b h => .inl h) (fun b h => by have := HX.out b h; omega) (.int .i64 (i : Int)) (.int .u64 gi) (.int .i64 ui)
   refine Halt.ret (results_row2 (p := 4) (u := 5) rfl _ _ (w.heap.size + 1) 67 #[.int .i64 (i : Int), .int .u64 gi, .int .i64 ui] _ rfl hso.2.1 Tryz.underlying67 rfl size_addr) rfl
    ⟨.inl ⟨i, HII.out, HLT.out, by rw [HGU.out.1, HGU.out.2]; rfl, ?_⟩, hso.2.2 _ HKX10.out⟩
   rw [HBB.out, HBE.out]
   exact hso.1
end
end
section
open Go.RowKit
abbrev wkS : Sup := ⟨4, 24, 0, 0, 0, 0⟩
abbrev wkX : List Seg := List.replicate 4 seg0
def wkB : List Int := recB 1 0 0 1 [97] [120]
def wkK : Dk := layK (begK (bornK 4 24) wkS 0 0) (genS wkS) (openX wkX 1) 0 wkB
theorem wk_next : nxtR wkX = 0 := by decide +kernel
theorem wk_open : opnR wkX = -1 := by decide +kernel
theorem wk_sec : strV wkK (genS wkS) 0 1 = packL 1 1 wkB := by decide +kernel
theorem wk_begins : beginsN (packL 1 1 wkB) 1 1 = 1 := by decide +kernel
end
section
open Go.RowKit
attribute [local go_sem] Oper.semAt_some
def usesB (xs : List Seg) (sg g sc : Int) : Bool := decide (0 ≤ sg ∧ sg < (xs.length : Nat)) && ((g == (xs.getD sg.toNat seg0).2.1) && (decide (1 ≤ sc) && decide (sc < (xs.getD sg.toNat seg0).2.2)))
section
variable {w : World} {X : Nat → Prop} {l p d n : Nat} {s : Sup} {t : Int} {k : Dk} {sec : Int} {A : Option Addr} {m c : Nat} {xs : List Seg} {br : Bool}
theorem uses_out {xs : List Seg} {sg g sc : Int} (h : ¬ (0 ≤ sg ∧ sg < (xs.length : Nat))) : usesB xs sg g sc = false := by
 unfold usesB; rw [decide_eq_false h]; rfl
theorem uses_in {xs : List Seg} {i : Nat} {g sc : Int} (h : i < xs.length) : usesB xs (i : Nat) g sc = ((g == (xs.getD i seg0).2.1) && (decide (1 ≤ sc) && decide (sc < (xs.getD i seg0).2.2))) := by
 unfold usesB; rw [decide_eq_true (by omega : 0 ≤ (i : Int) ∧ (i : Int) < (xs.length : Nat))]; rfl
theorem uses_any (h : LogM w X l p d n s t k sec A m c xs br) (hm : m ≤ 1000) (sg g sc : Int) :
 Calls Tryz.prog 166 #[.pointer (some ⟨l, 0, none⟩), .agg #[.int .i64 sg, .int .u64 g, .int .i64 sc]] w fun e w' => e = .returned (.bool (usesB xs sg g sc)) ∧ Below w.heap.size w w' := by
 obtain ⟨w1, hw1⟩ : ∃ w1, w1 = w.alloc (.cells #[.int .i64 sg, .int .u64 g, .int .i64 sc] 67) := ⟨_, rfl⟩
 have hb1 : Below w.heap.size w w1 := by rw [hw1]; exact (Below.refl _ w).alloc (nR _) _
 have HA := hI (show Blk w1 w.heap.size 67 #[.int .i64 sg, .int .u64 g, .int .i64 sc] by rw [hw1]; exact Blk.new w _ _)
 have hl1 := h.below hb1
 have HROW := hI hl1.now
 have hlen := hl1.now.1
 obtain ⟨l0, l1, l2, l3⟩ := log_cells hl1
 have a0 := HA.out.cell 0
 have a1 := HA.out.cell 1
 have a2 := HA.out.cell 2
 have HB1 := hI hb1
 have HW1 := hI hw1
 clear h hl1 hb1 hw1
 by_cases hin : 0 ≤ sg ∧ sg < (m : Nat)
 case neg =>
  have e := uses_out (xs := xs) (g := g) (sc := sc) (show ¬ (0 ≤ sg ∧ sg < (xs.length : Nat)) by rw [hlen]; exact hin)
  rw [e]
  clear e
  by_cases h0 : sg < 0
  ·clear hin
   go_enter Tryz.func166, Tryz.ntmps166
   go_upto_region 1 with fail
   rw [← HW1.out]
   go_quiet (fail)
   go_wp2
   go_ret
   exact ⟨rfl, below_drewN HB1.out _⟩
  ·have h1 : (m : Int) ≤ sg := by omega
   clear hin
   go_enter Tryz.func166, Tryz.ntmps166
   go_upto_region 1 with fail
   rw [← HW1.out]
   go_quiet (fail)
   go_wp2
   go_ret
   exact ⟨rfl, below_drewN HB1.out _⟩
 obtain ⟨i, rfl⟩ : ∃ i : Nat, sg = (i : Int) := ⟨sg.toNat, by omega⟩
 have him : i < m := by omega
 have e := uses_in (xs := xs) (i := i) (g := g) (sc := sc) (by rw [hlen]; exact him)
 rw [e]
 obtain ⟨b, off, rfl, _, hc⟩ := HROW.out.2 (by omega)
 have z0 := hc i him 0 _ rfl
 have z1 := hc i him 1 _ rfl
 have z2 := hc i him 2 _ rfl
 obtain ⟨⟨s0, s1, s2⟩, hs⟩ : ∃ s, xs.getD i seg0 = s := ⟨_, rfl⟩
 rw [hs] at z0 z1 z2 ⊢
 replace z0 : w1.cell? ⟨b, off + i * 3, none⟩ = some (.int .i64 s0) := z0
 replace z1 : w1.cell? ⟨b, off + i * 3 + 1, none⟩ = some (.int .u64 s1) := z1
 replace z2 : w1.cell? ⟨b, off + i * 3 + 2, none⟩ = some (.int .i64 s2) := z2
 have q0 : decide ((i : Int) < 0) = false := by simp
 have q1 : decide ((m : Int) ≤ (i : Int)) = false := by simp; omega
 have hz : ∀ (v : Nat) (q : Addr) (u : Value), w1.cell? q = some u → ((w1.drewN v).alloc (.cells #[.int .i64 0, .int .u64 0, .int .i64 0] 237)).cell? q = some u := fun v q u hq => by
  have hlt : q.block < w1.heap.size := by
   by_cases h : q.block < w1.heap.size
   ·exact h
   ·have : w1.heap[q.block]? = none := by simp; omega
    simp [World.cell?, this] at hq
  exact (World.cell?_alloc_lt (w1.drewN v) _ q (by simpa using hlt)).trans hq
 have y0 := fun v => hz v _ _ a0
 have y1 := fun v => hz v _ _ l2
 have y2 := fun v => hz v _ _ z0
 have y3 := fun v => hz v _ _ z1
 have y4 := fun v => hz v _ _ z2
 have hn : ∀ v, Blk ((w1.drewN v).alloc (.cells #[.int .i64 0, .int .u64 0, .int .i64 0] 237)) w1.heap.size 237 #[.int .i64 0, .int .u64 0, .int .i64 0] := fun v => Blk.new (w1.drewN v) _ _
 have n0 := fun v => (hn v).cell 0
 have n1 := fun v => (hn v).cell 1
 have n2 := fun v => (hn v).cell 2
 have f0 := fun v => (hn v).frozen 0
 have f1 := fun v => (hn v).frozen 1
 have f2 := fun v => (hn v).frozen 2
 simp only [List.getElem?_toArray, List.getElem?_cons_zero, List.getElem?_cons_succ] at n0 n1 n2
 have HN := hI hn
 clear hz hn
 clear hc hs e hin hlen HROW
 go_enter Tryz.func166, Tryz.ntmps166
 go_upto_region 1 with fail
 rw [← HW1.out]
 go_quiet (fail)
 go_upto_region 3 with fail
 go_region
 have HSG := hI ((HN.out (nq + 1)).set3 (.int .i64 s0) (.int .u64 s1) (.int .i64 s2))
 have HBZ := hI (((((below_drewN (Below.refl w1.heap.size w1) (nq + 1)).alloc (by simp) (.cells #[.int .i64 0, .int .u64 0, .int .i64 0] 237)).setCell (p := ⟨w1.heap.size, 0, none⟩) (nR _) (.int .i64 s0)).setCell (p := ⟨w1.heap.size, 1, none⟩) (nR _) (.int .u64 s1)).setCell (p := ⟨w1.heap.size, 2, none⟩) (nR _) (.int .i64 s2))
 generalize (((((w1.drewN (nq + 1)).alloc (.cells #[.int .i64 0, .int .u64 0, .int .i64 0] 237)).setCell ⟨w1.heap.size, 0, none⟩ (.int .i64 s0)).setCell ⟨w1.heap.size, 1, none⟩ (.int .u64 s1)).setCell ⟨w1.heap.size, 2, none⟩ (.int .i64 s2)) = wz at *
 have HAZ := HA.out.below HBZ.out HA.out.lt
 have p1 := HAZ.cell 1
 have p2 := HAZ.cell 2
 have r1 := HSG.out.cell 1
 have r2 := HSG.out.cell 2
 have HEND := hI (HB1.out.trans (HBZ.out.mono HB1.out.size))
 clear HAZ y0 y1 y2 y3 y4 n0 n1 n2 f0 f1 f2 z0 z1 z2 l0 l1 l2 l3 a0 a1 a2 HN HSG HBZ
 cases hb1 : (g == s1) <;> cases hb2 : decide (1 ≤ sc) <;> cases hb3 : decide (sc < s2)
 all_goals
  go_wp2
  go_ret
  exact ⟨by simp [hb1, hb2, hb3], HEND.out⟩
end
end
section
open Go.RowKit
theorem wk_chain : Chain [packL 1 1 wkB] := by
 intro i hi
 obtain rfl : i = 0 := by simpa using hi
 exact ⟨by decide +kernel, fun h => absurd h (by decide)⟩
theorem wk_meants : meants [packL 1 1 wkB] = wkB := by decide +kernel
theorem wk_dec : DecOk wkB wkB.length := by
 refine ⟨by decide +kernel, ?_, by decide +kernel⟩
 unfold MayB May
 decide +kernel
theorem wk_need : needOf wkB = wkB.length := by decide +kernel
theorem wk_val : valOf wkB = [120] := by decide +kernel
theorem wk_vlen : vlenOf wkB = 1 := by decide +kernel
theorem wk_E : strE (genS wkS) 1 = 0 := by decide +kernel
theorem wk_stands : standE (strV wkK (genS wkS) 0) (strE (genS wkS)) 1 1 = 0 ∧ beginsN (strV wkK (genS wkS) 0 1) 1 1 = 1 := by
 have hb : beginsN (strV wkK (genS wkS) 0 1) 1 ((1 : Nat) : Int) = 1 := by rw [wk_sec]; exact wk_begins
 have h := stand_all (V := strV wkK (genS wkS) 0) (E := strE (genS wkS)) (gen := 1) (at_ := 1) wk_E (by rw [hb]; decide) (fun q h1 h2 => by rw [hb] at h2; omega)
 rw [hb] at h
 refine ⟨h.1 ?_, hb⟩
 have e : secsAt (strV wkK (genS wkS) 0) 1 1 = [packL 1 1 wkB] := by rw [secsAt_one, wk_sec]
 rw [e]
 exact ⟨wk_chain, by rw [wk_meants]; exact wk_dec, by rw [wk_meants]; exact wk_need⟩
theorem wk_uses : usesB (useX (openX wkX 1) (1 : Nat)) 0 1 1 = true := by decide +kernel
end
section
open Go.RowKit
attribute [local go_sem] Oper.semAt_some
abbrev rq0 : Oper := ⟨some 20, .move (.tmp 0), 25, "log.go:78", #[], none⟩
abbrev rq1 : Oper := ⟨some 21, .nilCheck (.tmp 20), 0, "log.go:78", #[⟨0, .data⟩], none⟩
abbrev rq2 : Oper := ⟨some 22, .fieldAddr 169 (.tmp 21) 0, 0, "log.go:78", #[⟨1, .data⟩], none⟩
abbrev rq3 : Oper := ⟨some 23, .load 63 (.tmp 22), 63, "log.go:78", #[⟨2, .data⟩], none⟩
abbrev rq4 : Oper := ⟨some 24, .fieldAddr 67 (.tmp 3) 0, 0, "log.go:78", #[], none⟩
abbrev rq5 : Oper := ⟨some 25, .load 3 (.tmp 24), 3, "log.go:78", #[⟨4, .data⟩], none⟩
abbrev rq6 : Oper := ⟨some 26, .call { callee := .value (.func 91), args := #[.tmp 23, .tmp 25], argTypes := #[63, 3] }, 161, "log.go:78", #[⟨3, .data⟩, ⟨5, .data⟩], none⟩
abbrev rq7 : Oper := ⟨some 27, .fieldAddr 67 (.tmp 3) 1, 0, "log.go:78", #[], none⟩
abbrev rq8 : Oper := ⟨some 28, .load 34 (.tmp 27), 34, "log.go:78", #[⟨7, .data⟩], none⟩
abbrev rq9 : Oper := ⟨some 29, .fieldAddr 67 (.tmp 3) 2, 0, "log.go:78", #[], none⟩
abbrev rq10 : Oper := ⟨some 30, .load 3 (.tmp 29), 3, "log.go:78", #[⟨9, .data⟩], none⟩
abbrev rq11 : Oper := ⟨some 31, .call { callee := .value (.func 93), args := #[.tmp 26, .tmp 28, .tmp 30], argTypes := #[161, 34, 3] }, 166, "log.go:78", #[⟨6, .data⟩, ⟨8, .data⟩, ⟨10, .data⟩, ⟨6, .chain⟩], none⟩
abbrev rq12 : Oper := ⟨some 19, .move (.tmp 31), 166, "log.go:78", #[⟨11, .data⟩], none⟩
abbrev rq13 : Oper := ⟨some 32, .extract (.tmp 19) 0, 69, "log.go:78", #[⟨12, .data⟩], none⟩
abbrev rq14 : Oper := ⟨some 33, .extract (.tmp 19) 1, 3, "log.go:78", #[⟨12, .data⟩, { on := 17, ground := Go.Ground.gcOnly Go.Departure.lateStores }], none⟩
abbrev rq15 : Oper := ⟨some 34, .extract (.tmp 19) 2, 29, "log.go:78", #[⟨12, .data⟩, { on := 18, ground := Go.Ground.gcOnly Go.Departure.lateStores }], none⟩
abbrev rq16 : Oper := ⟨some 6, .alloc 69, 0, "log.go:78", #[], none⟩
abbrev rq17 : Oper := ⟨none, .store 69 (.tmp 6) (.tmp 32), 0, "log.go:78", #[⟨16, .data⟩, ⟨13, .data⟩, ⟨11, .chain⟩, ⟨0, .phase⟩, ⟨1, .phase⟩, ⟨2, .phase⟩, ⟨3, .phase⟩, ⟨4, .phase⟩, ⟨5, .phase⟩, ⟨6, .phase⟩, ⟨7, .phase⟩, ⟨8, .phase⟩, ⟨9, .phase⟩, ⟨10, .phase⟩, ⟨11, .phase⟩, ⟨12, .phase⟩, ⟨13, .phase⟩, { on := 14, ground := Go.Ground.textOnly Go.Departure.lateStores }, { on := 15, ground := Go.Ground.textOnly Go.Departure.lateStores }, ⟨16, .phase⟩], none⟩
abbrev rq18 : Oper := ⟨some 7, .assign (.tmp 33), 3, "log.go:78", #[⟨14, .data⟩, ⟨17, .chain⟩, ⟨0, .phase⟩, ⟨1, .phase⟩, ⟨2, .phase⟩, ⟨3, .phase⟩, ⟨4, .phase⟩, ⟨5, .phase⟩, ⟨6, .phase⟩, ⟨7, .phase⟩, ⟨8, .phase⟩, ⟨9, .phase⟩, ⟨10, .phase⟩, ⟨11, .phase⟩, ⟨12, .phase⟩, ⟨13, .phase⟩, ⟨14, .phase⟩, { on := 15, ground := Go.Ground.textOnly Go.Departure.lateStores }, ⟨16, .phase⟩, ⟨17, .phase⟩], none⟩
abbrev rq19 : Oper := ⟨some 8, .assign (.tmp 34), 29, "log.go:78", #[⟨15, .data⟩, ⟨18, .chain⟩, ⟨0, .phase⟩, ⟨1, .phase⟩, ⟨2, .phase⟩, ⟨3, .phase⟩, ⟨4, .phase⟩, ⟨5, .phase⟩, ⟨6, .phase⟩, ⟨7, .phase⟩, ⟨8, .phase⟩, ⟨9, .phase⟩, ⟨10, .phase⟩, ⟨11, .phase⟩, ⟨12, .phase⟩, ⟨13, .phase⟩, ⟨14, .phase⟩, ⟨15, .phase⟩, ⟨16, .phase⟩, ⟨17, .phase⟩, ⟨18, .phase⟩], none⟩
theorem zero_rec9 (w : World) : (zeroValue 69).run Tryz.prog w = .ok (.agg zeroC) w := (Tryz.zeroValue69 w).trans rfl
def RdT (V : Nat → List Int) (E : Nat → Int) (gen : Int) (at_ : Nat) (B : Nat) (W : World) (rec : Array Value) (e : Int) : Prop :=
 (rec.size = 6 ∧ rec.all (·.oneCell') = true) ∧ e = standE V E gen at_ ∧ (e ≠ 0 → rec = zeroC) ∧
 (e = 0 → ∃ (xs : List Int) (b1 b2 : Nat), xs = meants (secsAt V at_ (beginsN (V at_) gen at_)) ∧ rec = recT9 xs b1 b2 ∧ B ≤ b1 ∧ B ≤ b2 ∧ b1 ≠ b2 ∧ ArrU W b1 (keyOf xs) ∧ ArrU W b2 (valOf xs))
theorem RdT.keep {V : Nat → List Int} {E : Nat → Int} {gen : Int} {at_ B : Nat} {W W' : World} {rec : Array Value} {e : Int} {S : Nat → Prop} (h : RdT V E gen at_ B W rec e) (hk : Kept S W W') (hS : ∀ b, B ≤ b → b < W.heap.size → S b) : RdT V E gen at_ B W' rec e := by
 obtain ⟨h1, h2, h3, h4⟩ := h
 refine ⟨h1, h2, h3, fun h0 => ?_⟩
 obtain ⟨xs, b1, b2, e1, e2, e3, e4, e5, e6, e7⟩ := h4 h0
 exact ⟨xs, b1, b2, e1, e2, e3, e4, e5, Blk.kept e6 hk (hS _ e3 (Blk.lt e6)), Blk.kept e7 hk (hS _ e4 (Blk.lt e7))⟩
theorem RdT.less {V : Nat → List Int} {E : Nat → Int} {gen : Int} {at_ B B' : Nat} {W : World} {rec : Array Value} {e : Int} (h : RdT V E gen at_ B W rec e) (hB : B' ≤ B) : RdT V E gen at_ B' W rec e := by
 obtain ⟨h1, h2, h3, h4⟩ := h
 refine ⟨h1, h2, h3, fun h0 => ?_⟩
 obtain ⟨xs, b1, b2, e1, e2, e3, e4, e5, e6, e7⟩ := h4 h0
 exact ⟨xs, b1, b2, e1, e2, by omega, by omega, e5, e6, e7⟩
theorem StandT.rd {σ : Type} {R : (Nat → Prop) → σ → World → Prop} {nx : σ → Nat → σ} {X0 : Nat → Prop} {st : σ} {V : Nat → List Int} {E : Nat → Int} {gen : Int} {at_ : Nat} {w : World} {e : Ending} {w' : World} (h : StandT R nx X0 st V E gen at_ w e w') :
 ∃ rec cnt er, e = .returned (.tuple #[.agg rec, .int .i64 cnt, .int .i64 er]) ∧ RdT V E gen at_ w.heap.size w' rec er ∧ R X0 (stR nx st at_ (standR V E gen at_)) w' ∧ Kept X0 w w' := by
 obtain ⟨h1, h2, h3, h4⟩ := h
 by_cases h0 : standE V E gen at_ = 0
 ·obtain ⟨xs, e1, b1, b2, e2, e3⟩ := h4 h0
  exact ⟨_, _, _, e2, ⟨⟨rfl, one_rec _ _ _ _ _ _ _ _ _ _⟩, h0.symm, fun h => absurd rfl h, fun _ => ⟨xs, b1, b2, e1, rfl, e3⟩⟩, h1, h2⟩
 ·exact ⟨_, _, _, h3 h0, ⟨⟨rfl, one_zero⟩, rfl, fun _ => rfl, fun h => absurd h h0⟩, h1, h2⟩
structure RdS (l p : Nat) (sec : Int) (A : Option Addr) (m c : Nat) (br : Bool) (xs : List Seg) (w : World) (X R : Nat → Prop) (ga gr : Nat) (ad : Array Value) (Z : Nat → Prop) (W : World) : Prop where
 lb : Blk W l 169 (logC p sec A m c br)
 row : RowZ W R A m xs
 ab : Blk W ga 67 ad
 rb : Blk W gr 69 zeroC
 zl : Z l
 za : Z ga
 zr : Z gr
 zx : ∀ b, X b ∨ R b → Z b
 zt : ∀ b, Z b → b < W.heap.size
 kx : Kept X w W
theorem RdS.keep {l p : Nat} {sec : Int} {A : Option Addr} {m c : Nat} {br : Bool} {xs : List Seg} {w : World} {X R : Nat → Prop} {ga gr : Nat} {ad : Array Value} {Z S : Nat → Prop} {W W' : World} (h : RdS l p sec A m c br xs w X R ga gr ad Z W) (hk : Kept S W W') (hS : ∀ b, Z b → S b) : RdS l p sec A m c br xs w X R ga gr ad Z W' :=
 ⟨h.lb.kept hk (hS _ h.zl), h.row.kept hk (fun b hb => hS b (h.zx b (.inr hb))), h.ab.kept hk (hS _ h.za), h.rb.kept hk (hS _ h.zr), h.zl, h.za, h.zr, h.zx, fun b hb => nL (h.zt b hb) hk.size, h.kx.trans hk (fun b hb => hS b (h.zx b (.inl hb)))⟩
theorem RdS.mem {l p : Nat} {sec : Int} {A : Option Addr} {m c : Nat} {br : Bool} {xs : List Seg} {w : World} {X R : Nat → Prop} {ga gr : Nat} {ad : Array Value} {Z : Nat → Prop} {W W' : World} (h : RdS l p sec A m c br xs w X R ga gr ad Z W) (hb : Below W.heap.size W W') : RdS l p sec A m c br xs w X R ga gr ad Z W' :=
 h.keep (Kept.of_below (S := fun b => b < W.heap.size) hb (fun b h => h)) h.zt
theorem RdS.cells {l p : Nat} {sec : Int} {A : Option Addr} {m c : Nat} {br : Bool} {xs : List Seg} {w : World} {X R : Nat → Prop} {ga gr : Nat} {ad : Array Value} {Z : Nat → Prop} {W : World} (h : RdS l p sec A m c br xs w X R ga gr ad Z W) : W.cell? ⟨l, 0, none⟩ = some (.pointer (some ⟨p, 0, none⟩)) ∧ W.cell? ⟨ga, 0, none⟩ = ad[0]? ∧ W.cell? ⟨ga, 1, none⟩ = ad[1]? ∧ W.cell? ⟨ga, 2, none⟩ = ad[2]? :=
 ⟨h.lb.cell 0, h.ab.cell 0, h.ab.cell 1, h.ab.cell 2⟩
section
variable {w : World} {X R Z X0 : Nat → Prop} {l p d n : Nat} {s : Sup} {t : Int} {k k' : Dk} {sec : Int} {A : Option Addr} {m c : Nat} {xs : List Seg} {br : Bool}
theorem rd_fin {ga gr gx gi g6 B seg at_ : Nat} {gen : Int} {ad rec : Array Value} {er : Int} {V V11 : World} {W : Nat → List Int} {E : Nat → Int} (hrds : RdS l p sec A m c br xs w X R ga gr ad Z V11) (hstr : StrM V11 X0 gx gi p d n s t k' seg) (hz : ∀ b, Z b → X0 b)
 (hrd : RdT W E gen at_ B V11 rec er) (h6 : ¬ Z g6) (hB : g6 < B ∨ V11.heap.size ≤ g6) (hx6 : X0 g6 ∨ V11.heap.size ≤ g6) (hb : Below V11.heap.size V11 V) (hb6 : Blk V g6 69 zeroC) (hgr : gr < B) (hgw : w.heap.size ≤ gr) (hl : l < w.heap.size) (hX : ∀ b, X b → b < w.heap.size) (hR : ∀ b, R b → b < w.heap.size ∧ b ≠ l ∧ ¬ X b) (hxl : ¬ X l) :
 Blk (V.setRow g6 rec) g6 69 rec ∧ Blk (V.setRow g6 rec) gr 69 zeroC ∧ Blk ((V.setRow g6 rec).setRow gr rec) gr 69 rec ∧ RdT W E gen at_ B ((V.setRow g6 rec).setRow gr rec) rec er ∧
 LogM ((V.setRow g6 rec).setRow gr rec) X l p d n s t k' sec A m c xs br ∧ Kept X w ((V.setRow g6 rec).setRow gr rec) := by
 have hne : gr ≠ g6 := fun e => h6 (e ▸ hrds.zr)
 have hk1 : Kept (fun b => b < V11.heap.size ∧ b ≠ g6) V11 (V.setRow g6 rec) := (Kept.of_below (S := fun b => b < V11.heap.size ∧ b ≠ g6) hb (fun b h => h.1)).setRow (g := g6) (fun h => h.2 rfl) rec
 have hk2 : Kept (fun b => b < V11.heap.size ∧ b ≠ g6 ∧ b ≠ gr) V11 ((V.setRow g6 rec).setRow gr rec) := (hk1.mono (S := fun b => b < V11.heap.size ∧ b ≠ g6 ∧ b ≠ gr) (fun b h => ⟨h.1, h.2.1⟩)).setRow (g := gr) (fun h => h.2.2 rfl) rec
 have hrb : Blk (V.setRow g6 rec) gr 69 zeroC := hrds.rb.kept hk1 ⟨hrds.zt _ hrds.zr, hne⟩
 have hlow : ∀ b, Z b → b < w.heap.size → b < V11.heap.size ∧ b ≠ g6 ∧ b ≠ gr := fun b h1 h2 => ⟨hrds.zt b h1, fun e => h6 (e ▸ h1), by omega⟩
 refine ⟨setRow_heap _ _ _ rec _ _ hb6, hrb, setRow_heap _ _ _ rec _ _ hrb, hrd.keep hk2 (fun b h1 h2 => ⟨h2, by omega, by omega⟩), ?_, hrds.kx.trans hk2 (fun b hb => hlow b (hrds.zx b (.inl hb)) (hX b hb))⟩
 have hz2 := hk2.size
 refine ⟨hrds.lb.kept hk2 (hlow l hrds.zl hl), hxl, R, ?_, hrds.row.kept hk2 (fun b hb => hlow b (hrds.zx b (.inr hb)) (hR b hb).1), fun b hb => ⟨?_, (hR b hb).2⟩⟩
 ·refine StoreM.kept hstr.sto hk2 (fun b h1 h2 => ⟨h1, fun e => ?_, fun e => h2 (hz b (e ▸ hrds.zr))⟩) (fun b _ h => ?_)
  ·subst e
   rcases hx6 with h | h
   ·exact h2 h
   ·omega
  ·rcases h with h | rfl | h
   ·exact hz b (hrds.zx b (.inl h))
   ·exact hz _ hrds.zl
   ·exact hz b (hrds.zx b (.inr h))
 ·have := (hlow b (hrds.zx b (.inr hb)) (hR b hb).1).1
  omega
end
def ReadT (w : World) (X : Nat → Prop) (l p d n : Nat) (s : Sup) (t : Int) (k : Dk) (sec : Int) (A : Option Addr) (m c : Nat) (xs : List Seg) (br : Bool) (seg : Nat) (g : Int) (at_ : Nat) (e : Ending) (w' : World) : Prop :=
 ∃ rec er, e = .returned (.tuple #[.agg rec, .int .i64 er]) ∧ RdT (strV k s seg) (strE s) g at_ w.heap.size w' rec er ∧
  LogM w' X l p d n s t (stR (fun k i => strK k s i) k at_ (standR (strV k s seg) (strE s) g at_)) sec A m c xs br ∧ Kept X w w'
section
variable {w : World} {X : Nat → Prop} {l p d n : Nat} {s : Sup} {t : Int} {k : Dk} {sec : Int} {A : Option Addr} {m c : Nat} {xs : List Seg} {br : Bool}
theorem read_used (h : LogM w X l p d n s t k sec A m c xs br) (hX : ∀ b, X b → b < w.heap.size) (hm : m ≤ 1000) (hma : s.May) (hg : Good k) (hok : k.Ok n) (seg : Nat) (hseg : (seg : Int) < s.a) (hroom : 2 + s.a * s.b ≤ (n : Int)) (hn : n ≤ 2048) (g : Int) (at_ : Nat) (hat : at_ ≤ 90000)
 (hu : usesB xs (seg : Nat) g (at_ : Nat) = true) :
 Calls Tryz.prog 106 #[.pointer (some ⟨l, 0, none⟩), .agg #[.int .i64 (seg : Nat), .int .u64 g, .int .i64 (at_ : Nat)]] w (ReadT w X l p d n s t k sec A m c xs br seg g at_) := by
 obtain ⟨w1, hw1⟩ : ∃ w1, w1 = (w.alloc (.cells #[.int .i64 (seg : Nat), .int .u64 g, .int .i64 (at_ : Nat)] 67)).alloc (.cells zeroC 69) := ⟨_, rfl⟩
 have hb1 : Below w.heap.size w w1 := by rw [hw1]; exact ((Below.refl _ w).alloc (nR _) _).alloc (by simp) _
 have hz1 : w1.heap.size = w.heap.size + 2 := by rw [hw1]; simp
 have HA1 := hI (show Blk w1 w.heap.size 67 #[.int .i64 (seg : Nat), .int .u64 g, .int .i64 (at_ : Nat)] by rw [hw1]; exact (Blk.new w _ _).alloc _)
 have HR1 := hI (show Blk w1 (w.heap.size + 1) 69 zeroC by rw [hw1]; exact blk_new2 w _ _ _)
 have HU := hI (fun (W : World) (hW : LogM W X l p d n s t k sec A m c xs br) => by have h2 := uses_any hW hm (seg : Int) g (at_ : Int); rw [hu] at h2; exact h2)
 have HW1 := hI hw1
 have HB1 := hI hb1
 have HL := hI h
 have HX := hI hX
 have HMA := hI hma
 have HG := hI hg
 have HOK := hI hok
 clear hw1 hb1 h hX hma hg hok hu
 have a0 := HA1.out.cell 0
 have a1 := HA1.out.cell 1
 have a2 := HA1.out.cell 2
 go_enter Tryz.func106, Tryz.ntmps106
 go_upto_region 1 with fail
 rw [← HW1.out]
 go_upto_region 5 with (go_at_call 166; refine (HU.out _ (HL.out.below HB1.out)).mono ?_; rintro e w2 ⟨rfl, hb2⟩)
 rename World => w2
 have HB2 := hI (HB1.out.trans (hb2.mono HB1.out.size)).drew
 have hsz2 : w1.heap.size ≤ w2.heap.size := hb2.size
 have HA2 := hI (HA1.out.below hb2 HA1.out.lt).drew
 have HR2 := hI (HR1.out.below hb2 HR1.out.lt).drew
 have hszd : w2.drew.heap.size = w2.heap.size := rfl
 obtain ⟨hlb, hxl, RR, hsto, hrow, hRR⟩ := HL.out
 obtain ⟨Z, hZ⟩ : ∃ Z : Nat → Prop, Z = (fun b => (X b ∨ b = l ∨ RR b) ∨ (w.heap.size ≤ b ∧ b < w2.drew.heap.size)) := ⟨_, rfl⟩
 have HSTO := hI (show StoS w2.drew Z p d n s t k by rw [hZ]; exact StoreM.grow hsto HB2.out)
 have HZT := hI (show ∀ b, Z b → b < w2.drew.heap.size by rw [hZ]; exact grow_lt (fun b hb => by rcases hb with h | rfl | h; exact HX.out b h; exact hlb.lt; exact (hRR b h).1) HB2.out.size)
 have HRD := hI (show RdS l p sec A m c br xs w X RR w.heap.size (w.heap.size + 1) #[.int .i64 (seg : Nat), .int .u64 g, .int .i64 (at_ : Nat)] Z w2.drew from
  ⟨hlb.below HB2.out hlb.lt, hrow.below HB2.out (fun b h => (hRR b h).1), HA2.out, HR2.out, by rw [hZ]; exact .inl (.inr (.inl rfl)), by rw [hZ]; exact .inr ⟨nR _, by omega⟩, by rw [hZ]; exact .inr ⟨by omega, by omega⟩, fun b hb => by rw [hZ]; rcases hb with h | h; exact .inl (.inl h); exact .inl (.inr (.inr h)), HZT.out, Kept.of_below HB2.out HX.out⟩)
 have HLT := hI hlb.lt
 have HRR := hI hRR
 clear hb2 hsto hrow hRR hlb hZ a0 a1 a2 HA1 HA2 HR1 HR2 HU
 refine wp_region_noPanic ?_
 refine Tillst.region (fun W => W.cell? ⟨l, 0, none⟩ = some (.pointer (some ⟨p, 0, none⟩)) ∧ W.cell? ⟨w.heap.size, 0, none⟩ = some (.int .i64 (seg : Nat)) ∧ W.cell? ⟨w.heap.size, 1, none⟩ = some (.int .u64 g) ∧ W.cell? ⟨w.heap.size, 2, none⟩ = some (.int .i64 (at_ : Nat))) [12, 13, 14, 15, 17, 18, 19] (by kernel_rfl) HRD.out.cells (fun hė => ?_)
 generalize w2.drew = vd at *
 refine Tillst.takeG (i := 0) (oi := rq0) (v := ?_) rfl (by kernel_rfl) (by kernel_rfl) (by kernel_rfl) (by kernel_rfl) (by kernel_rfl) (fun _ _ _ h => h) (by rfl) ?_ hė ?_
 rotate_left
 ·intro W hSW; (try dsimp only at hSW); unfold rq0; go_simp; with_reducible rfl
 simp only [rq0, Act.put, sA, sZ, sS]
 refine Tillst.takeG (i := 1) (oi := rq1) (v := ?_) rfl (by kernel_rfl) (by kernel_rfl) (by kernel_rfl) (by kernel_rfl) (by kernel_rfl) (fun _ _ _ h => h) (by rfl) ?_ hė ?_
 rotate_left
 ·intro W hSW; (try dsimp only at hSW); unfold rq1; go_simp; with_reducible rfl
 simp only [rq1, Act.put, sA, sZ, sS]
 refine Tillst.takeG (i := 2) (oi := rq2) (v := ?_) rfl (by kernel_rfl) (by kernel_rfl) (by kernel_rfl) (by kernel_rfl) (by kernel_rfl) (fun _ _ _ h => h) (by rfl) ?_ hė ?_
 rotate_left
 ·intro W hSW; (try dsimp only at hSW); unfold rq2; go_simp; with_reducible rfl
 simp only [rq2, Act.put, sA, sZ, sS]
 refine Tillst.takeG (i := 3) (oi := rq3) (v := ?_) rfl (by kernel_rfl) (by kernel_rfl) (by kernel_rfl) (by kernel_rfl) (by kernel_rfl) (fun _ _ _ h => h) (by rfl) ?_ hė ?_
 rotate_left
 ·intro W hSW; obtain ⟨y0, y1, y2, y3⟩ := hSW; unfold rq3; go_simp; with_reducible rfl
 simp only [rq3, Act.put, sA, sZ, sS]
 refine Tillst.takeG (i := 4) (oi := rq4) (v := ?_) rfl (by kernel_rfl) (by kernel_rfl) (by kernel_rfl) (by kernel_rfl) (by kernel_rfl) (fun _ _ _ h => h) (by rfl) ?_ hė ?_
 rotate_left
 ·intro W hSW; (try dsimp only at hSW); unfold rq4; go_simp; with_reducible rfl
 simp only [rq4, Act.put, sA, sZ, sS]
 refine Tillst.takeG (i := 5) (oi := rq5) (v := ?_) rfl (by kernel_rfl) (by kernel_rfl) (by kernel_rfl) (by kernel_rfl) (by kernel_rfl) (fun _ _ _ h => h) (by rfl) ?_ hė ?_
 rotate_left
 ·intro W hSW; obtain ⟨y0, y1, y2, y3⟩ := hSW; unfold rq5; go_simp; with_reducible rfl
 simp only [rq5, Act.put, sA, sZ, sS]
 refine Tillst.takeG (i := 7) (oi := rq7) (v := ?_) rfl (by kernel_rfl) (by kernel_rfl) (by kernel_rfl) (by kernel_rfl) (by kernel_rfl) (fun _ _ _ h => h) (by rfl) ?_ hė ?_
 rotate_left
 ·intro W hSW; (try dsimp only at hSW); unfold rq7; go_simp; with_reducible rfl
 simp only [rq7, Act.put, sA, sZ, sS]
 refine Tillst.takeG (i := 8) (oi := rq8) (v := ?_) rfl (by kernel_rfl) (by kernel_rfl) (by kernel_rfl) (by kernel_rfl) (by kernel_rfl) (fun _ _ _ h => h) (by rfl) ?_ hė ?_
 rotate_left
 ·intro W hSW; obtain ⟨y0, y1, y2, y3⟩ := hSW; unfold rq8; go_simp; with_reducible rfl
 simp only [rq8, Act.put, sA, sZ, sS]
 refine Tillst.takeG (i := 9) (oi := rq9) (v := ?_) rfl (by kernel_rfl) (by kernel_rfl) (by kernel_rfl) (by kernel_rfl) (by kernel_rfl) (fun _ _ _ h => h) (by rfl) ?_ hė ?_
 rotate_left
 ·intro W hSW; (try dsimp only at hSW); unfold rq9; go_simp; with_reducible rfl
 simp only [rq9, Act.put, sA, sZ, sS]
 refine Tillst.takeG (i := 10) (oi := rq10) (v := ?_) rfl (by kernel_rfl) (by kernel_rfl) (by kernel_rfl) (by kernel_rfl) (by kernel_rfl) (fun _ _ _ h => h) (by rfl) ?_ hė ?_
 rotate_left
 ·intro W hSW; obtain ⟨y0, y1, y2, y3⟩ := hSW; unfold rq10; go_simp; with_reducible rfl
 simp only [rq10, Act.put, sA, sZ, sS]
 refine Tillst.two (i := 6) (j := 16) (o := rq6) (o' := rq16) (by kernel_rfl) rfl rfl ?_ ?_
 ·intro K hK
  refine step_call 91 #[.tmp 23, .tmp 25] #[63, 3] rfl rfl Tryz.func91 rfl rfl [.pointer (some ⟨p, 0, none⟩), .int .i64 (seg : Nat)] rfl ?_
  refine (stored_any HSTO.out HZT.out seg).mono ?_
  rintro e v6 ⟨⟨gx, gi, rfl, hsm⟩, hb6⟩
  have HSM := hI hsm
  have HRD := hI (HRD.out.mem hb6)
  have hsz6 := hb6.size
  clear hsm hb6
  refine ⟨_, rfl, ?_⟩
  simp only [rq6, Act.put, sA, sZ, sS]
  refine hK.out _ _ (fun _ => HRD.out.cells) (fun hė => ?_)
  replace hė := hė (by decide)
  clear hK K
  have HZX := hI (show ∀ b, Z b → (Z b ∨ (vd.heap.size ≤ b ∧ b < v6.heap.size)) from fun b h => Or.inl h)
  refine Tillst.two (i := 11) (j := 16) (o := rq11) (o' := rq16) (by kernel_rfl) rfl rfl ?_ ?_
  ·intro K hK
   refine step_call 93 #[.tmp 26, .tmp 28, .tmp 30] #[161, 34, 3] rfl rfl Tryz.func93 rfl rfl [.func (.func 149) #[] #[.pointer (some ⟨gx, 0, none⟩), .pointer (some ⟨gi, 0, none⟩)], .int .u64 g, .int .i64 (at_ : Nat)] rfl ?_
   refine (standing_stored _ _ (stored_held HMA.out hseg hroom hn HOK.out (v6).heap.size HSM.out.xx HSM.out.xi ⟨HSM.out.bx.lt, HSM.out.bi.lt⟩) ⟨HSM.out, HG.out, rfl⟩ g at_ hat).mono ?_
   intro e v11 hst
   obtain ⟨rec, cnt, er, rfl, hrd, hr, hk⟩ := hst.rd
   have HTOLD := hI hrd
   have HKX := hI hk
   have HRD := hI (HRD.out.keep hk HZX.out)
   have HSM := hI hr.1
   have hsz11 := hk.size
   have HRS := hI hrd.1
   clear hst hrd hr hk
   refine ⟨_, rfl, ?_⟩
   simp only [rq11, Act.put, sA, sZ, sS]
   refine hK.out _ _ (fun _ => HRD.out.cells) (fun hė => ?_)
   replace hė := hė (by decide)
   clear hK K
   refine Tillst.takeF (i := 12) (oi := rq12) (v := ?_) rfl (by kernel_rfl) (by kernel_rfl) (by kernel_rfl) (by decide) (fun _ _ _ h => h) (by rfl) ?_ ?_
   rotate_left
   ·intro W; unfold rq12; go_simp; with_reducible rfl
   simp only [rq12, Act.put, sA, sZ, sS]
   refine Tillst.takeF (i := 13) (oi := rq13) (v := ?_) rfl (by kernel_rfl) (by kernel_rfl) (by kernel_rfl) (by decide) (fun _ _ _ h => h) (by rfl) ?_ ?_
   rotate_left
   ·intro W; unfold rq13; go_simp; with_reducible rfl
   simp only [rq13, Act.put, sA, sZ, sS]
   refine Tillst.takeF (i := 14) (oi := rq14) (v := ?_) rfl (by kernel_rfl) (by kernel_rfl) (by kernel_rfl) (by decide) (fun _ _ _ h => h) (by rfl) ?_ ?_
   rotate_left
   ·intro W; unfold rq14; go_simp; with_reducible rfl
   simp only [rq14, Act.put, sA, sZ, sS]
   refine Tillst.takeF (i := 15) (oi := rq15) (v := ?_) rfl (by kernel_rfl) (by kernel_rfl) (by kernel_rfl) (by decide) (fun _ _ _ h => h) (by rfl) ?_ ?_
   rotate_left
   ·intro W; unfold rq15; go_simp; with_reducible rfl
   simp only [rq15, Act.put, sA, sZ, sS]
   refine Tillst.one (i := 16) (o := rq16) (by kernel_rfl) rfl ?_
   intro K hK
   have hba := (Below.refl (v11).heap.size (v11)).alloc (nR _) (.cells zeroC 69)
   have HB6 := hI (show Blk ((v11).alloc (.cells zeroC 69)) (v11).heap.size 69 zeroC from Blk.new (v11) _ _)
   have hza : ((v11).alloc (.cells zeroC 69)).heap.size = (v11).heap.size + 1 := by simp
   have HRD11 := HRD
   have HRD := hI (HRD.out.mem hba)
   refine step_alloc_row 69 rfl rfl zeroC zero_rec9 ?_
   simp only [rq16, Act.put, sA, sZ, sS]
   refine hK.out _ _ (fun _ => HRD.out.cells) (fun hė => ?_)
   replace hė := hė (by decide)
   clear hK K
   have HRD := HRD11
   have HF := hI (rd_fin (V := v11.alloc (.cells zeroC 69)) (g6 := v11.heap.size) HRD.out HSM.out HZX.out HTOLD.out (fun h => by have := HRD.out.zt _ h; omega) (.inr (nR _)) (.inr (nR _)) hba HB6.out (by omega) (by omega) HLT.out HX.out HRR.out hxl)
   refine Tillst.one (i := 17) (o := rq17) (by kernel_rfl) rfl ?_
   intro K hK
   refine step_store_row (.tmp 6) (.tmp 32) 69 rfl rfl (v11.heap.size) rec rfl rfl 69 zeroC HB6.out (by rw [HRS.out.1]; exact size_rec) (by rw [HRS.out.1]; rfl) HRS.out.2 ?_
   simp only [rq17, Act.put, sA, sZ, sS]
   refine hK.out _ _ (fun h => absurd h (by decide)) (fun _ => ?_)
   clear hK K hė
   refine Tillst.one (i := 18) (o := rq18) (by kernel_rfl) rfl ?_
   intro K hK
   refine step_value ?_ rfl ?_ ?_
   rotate_left
   ·unfold rq18; go_simp; with_reducible rfl
   simp only [rq18, Act.put, sA, sZ, sS]
   refine hK.out _ _ (fun h => absurd h (by decide)) (fun _ => ?_)
   clear hK K
   refine Tillst.one (i := 19) (o := rq19) (by kernel_rfl) rfl ?_
   intro K hK
   refine step_value ?_ rfl ?_ ?_
   rotate_left
   ·unfold rq19; go_simp; with_reducible rfl
   simp only [rq19, Act.put, sA, sZ, sS]
   refine hK.out _ _ (fun h => absurd h (by decide)) (fun _ => ?_)
   clear hK K
   refine Tillst.done (by kernel_rfl) ?_ _
   refine NoPanic.normal ?_
   have HSZD := hI hszd
   clear hszd
   go_wp2_with (first | (with_reducible refine halt_end ?_) | (refine wpList_load_rowB (.tmp 6) 69 rfl rfl (v11.heap.size) rfl 69 rec.toList _ Tryz.underlying69 rfl (by simp only [Array.length_toList, HRS.out.1]; exact size_rec) HF.out.1 ?_) | (refine wpList_store_rowB (.tmp 4) (.tmp 35) 69 rfl rfl (w.heap.size + 1) rec rfl rfl 69 _ HF.out.2.1 (by rw [HRS.out.1]; exact size_rec) (by rw [HRS.out.1]; rfl) HRS.out.2 ?_))
   exact Halt.ret (results_row2 rfl _ _ (w.heap.size + 1) 69 rec _ rfl HF.out.2.2.1 Tryz.underlying69 rfl (by rw [HRS.out.1]; exact size_rec)) rfl ⟨rec, er, rfl, HF.out.2.2.2.1.less (by have := HSZD.out; omega), HF.out.2.2.2.2.1, HF.out.2.2.2.2.2⟩
  ·intro K hK
   have hba := (Below.refl (v6).heap.size (v6)).alloc (nR _) (.cells zeroC 69)
   have HB6 := hI (show Blk ((v6).alloc (.cells zeroC 69)) (v6).heap.size 69 zeroC from Blk.new (v6) _ _)
   have hza : ((v6).alloc (.cells zeroC 69)).heap.size = (v6).heap.size + 1 := by simp
   have HRD := hI (HRD.out.mem hba)
   have HSM := hI (HSM.out.grow hba)
   have HZX := hI (fun b (h : Z b) => Or.inl (b := v6.heap.size ≤ b ∧ b < (v6.alloc (.cells zeroC 69)).heap.size) (HZX.out b h))
   have hz6 := HZT.out
   clear hba
   refine step_alloc_row 69 rfl rfl zeroC zero_rec9 ?_
   simp only [rq16, Act.put, sA, sZ, sS]
   refine hK.out _ _ (fun _ => HRD.out.cells) (fun hė => ?_)
   replace hė := hė (by decide)
   clear hK K
   refine Tillst.one (i := 11) (o := rq11) (by kernel_rfl) rfl ?_
   intro K hK
   refine step_call 93 #[.tmp 26, .tmp 28, .tmp 30] #[161, 34, 3] rfl rfl Tryz.func93 rfl rfl [.func (.func 149) #[] #[.pointer (some ⟨gx, 0, none⟩), .pointer (some ⟨gi, 0, none⟩)], .int .u64 g, .int .i64 (at_ : Nat)] rfl ?_
   refine (standing_stored _ _ (stored_held HMA.out hseg hroom hn HOK.out (v6.alloc (.cells zeroC 69)).heap.size HSM.out.xx HSM.out.xi ⟨HSM.out.bx.lt, HSM.out.bi.lt⟩) ⟨HSM.out, HG.out, rfl⟩ g at_ hat).mono ?_
   intro e v11 hst
   obtain ⟨rec, cnt, er, rfl, hrd, hr, hk⟩ := hst.rd
   have HTOLD := hI hrd
   have HKX := hI hk
   have HRD := hI (HRD.out.keep hk HZX.out)
   have HSM := hI hr.1
   have hsz11 := hk.size
   have HRS := hI hrd.1
   clear hst hrd hr hk
   refine ⟨_, rfl, ?_⟩
   simp only [rq11, Act.put, sA, sZ, sS]
   refine hK.out _ _ (fun _ => HRD.out.cells) (fun hė => ?_)
   replace hė := hė (by decide)
   clear hK K
   refine Tillst.takeF (i := 12) (oi := rq12) (v := ?_) rfl (by kernel_rfl) (by kernel_rfl) (by kernel_rfl) (by decide) (fun _ _ _ h => h) (by rfl) ?_ ?_
   rotate_left
   ·intro W; unfold rq12; go_simp; with_reducible rfl
   simp only [rq12, Act.put, sA, sZ, sS]
   refine Tillst.takeF (i := 13) (oi := rq13) (v := ?_) rfl (by kernel_rfl) (by kernel_rfl) (by kernel_rfl) (by decide) (fun _ _ _ h => h) (by rfl) ?_ ?_
   rotate_left
   ·intro W; unfold rq13; go_simp; with_reducible rfl
   simp only [rq13, Act.put, sA, sZ, sS]
   refine Tillst.takeF (i := 14) (oi := rq14) (v := ?_) rfl (by kernel_rfl) (by kernel_rfl) (by kernel_rfl) (by decide) (fun _ _ _ h => h) (by rfl) ?_ ?_
   rotate_left
   ·intro W; unfold rq14; go_simp; with_reducible rfl
   simp only [rq14, Act.put, sA, sZ, sS]
   refine Tillst.takeF (i := 15) (oi := rq15) (v := ?_) rfl (by kernel_rfl) (by kernel_rfl) (by kernel_rfl) (by decide) (fun _ _ _ h => h) (by rfl) ?_ ?_
   rotate_left
   ·intro W; unfold rq15; go_simp; with_reducible rfl
   simp only [rq15, Act.put, sA, sZ, sS]
   have HB6 := hI (HB6.out.kept HKX.out (.inr ⟨nR _, by omega⟩))
   have HF := hI (rd_fin (V := v11) (g6 := v6.heap.size) HRD.out HSM.out HZX.out HTOLD.out (fun h => by have := hz6 _ h; omega) (.inl (by omega)) (.inl (.inr ⟨nR _, by omega⟩)) (Below.refl _ _) HB6.out (by omega) (by omega) HLT.out HX.out HRR.out hxl)
   refine Tillst.one (i := 17) (o := rq17) (by kernel_rfl) rfl ?_
   intro K hK
   refine step_store_row (.tmp 6) (.tmp 32) 69 rfl rfl (v6.heap.size) rec rfl rfl 69 zeroC HB6.out (by rw [HRS.out.1]; exact size_rec) (by rw [HRS.out.1]; rfl) HRS.out.2 ?_
   simp only [rq17, Act.put, sA, sZ, sS]
   refine hK.out _ _ (fun h => absurd h (by decide)) (fun _ => ?_)
   clear hK K hė
   refine Tillst.one (i := 18) (o := rq18) (by kernel_rfl) rfl ?_
   intro K hK
   refine step_value ?_ rfl ?_ ?_
   rotate_left
   ·unfold rq18; go_simp; with_reducible rfl
   simp only [rq18, Act.put, sA, sZ, sS]
   refine hK.out _ _ (fun h => absurd h (by decide)) (fun _ => ?_)
   clear hK K
   refine Tillst.one (i := 19) (o := rq19) (by kernel_rfl) rfl ?_
   intro K hK
   refine step_value ?_ rfl ?_ ?_
   rotate_left
   ·unfold rq19; go_simp; with_reducible rfl
   simp only [rq19, Act.put, sA, sZ, sS]
   refine hK.out _ _ (fun h => absurd h (by decide)) (fun _ => ?_)
   clear hK K
   refine Tillst.done (by kernel_rfl) ?_ _
   refine NoPanic.normal ?_
   have HSZD := hI hszd
   clear hszd
   go_wp2_with (first | (with_reducible refine halt_end ?_) | (refine wpList_load_rowB (.tmp 6) 69 rfl rfl (v6.heap.size) rfl 69 rec.toList _ Tryz.underlying69 rfl (by simp only [Array.length_toList, HRS.out.1]; exact size_rec) HF.out.1 ?_) | (refine wpList_store_rowB (.tmp 4) (.tmp 35) 69 rfl rfl (w.heap.size + 1) rec rfl rfl 69 _ HF.out.2.1 (by rw [HRS.out.1]; exact size_rec) (by rw [HRS.out.1]; rfl) HRS.out.2 ?_))
   exact Halt.ret (results_row2 rfl _ _ (w.heap.size + 1) 69 rec _ rfl HF.out.2.2.1 Tryz.underlying69 rfl (by rw [HRS.out.1]; exact size_rec)) rfl ⟨rec, er, rfl, HF.out.2.2.2.1.less (by have := HSZD.out; omega), HF.out.2.2.2.2.1, HF.out.2.2.2.2.2⟩
 ·intro K hK
  have hba := (Below.refl (vd).heap.size (vd)).alloc (nR _) (.cells zeroC 69)
  have HB6 := hI (show Blk ((vd).alloc (.cells zeroC 69)) (vd).heap.size 69 zeroC from Blk.new (vd) _ _)
  have hza : ((vd).alloc (.cells zeroC 69)).heap.size = (vd).heap.size + 1 := by simp
  have HRD := hI (HRD.out.mem hba)
  have HSTA := hI (StoreM.grow HSTO.out hba)
  have hz6 := HZT.out
  have HZTA := hI (grow_lt HZT.out hba.size)
  clear hba
  refine step_alloc_row 69 rfl rfl zeroC zero_rec9 ?_
  simp only [rq16, Act.put, sA, sZ, sS]
  refine hK.out _ _ (fun _ => HRD.out.cells) (fun hė => ?_)
  replace hė := hė (by decide)
  clear hK K
  refine Tillst.one (i := 6) (o := rq6) (by kernel_rfl) rfl ?_
  intro K hK
  refine step_call 91 #[.tmp 23, .tmp 25] #[63, 3] rfl rfl Tryz.func91 rfl rfl [.pointer (some ⟨p, 0, none⟩), .int .i64 (seg : Nat)] rfl ?_
  refine (stored_any HSTA.out HZTA.out seg).mono ?_
  rintro e v6 ⟨⟨gx, gi, rfl, hsm⟩, hb6⟩
  have HSM := hI hsm
  have HRD := hI (HRD.out.mem hb6)
  have hsz6 := hb6.size
  have HB6 := hI (HB6.out.below hb6 HB6.out.lt)
  clear hsm hb6
  refine ⟨_, rfl, ?_⟩
  simp only [rq6, Act.put, sA, sZ, sS]
  refine hK.out _ _ (fun _ => HRD.out.cells) (fun hė => ?_)
  replace hė := hė (by decide)
  clear hK K
  have HZX := hI (fun b (h : Z b) => Or.inl (b := (vd.alloc (.cells zeroC 69)).heap.size ≤ b ∧ b < v6.heap.size) (Or.inl (b := vd.heap.size ≤ b ∧ b < (vd.alloc (.cells zeroC 69)).heap.size) h))
  refine Tillst.one (i := 11) (o := rq11) (by kernel_rfl) rfl ?_
  intro K hK
  refine step_call 93 #[.tmp 26, .tmp 28, .tmp 30] #[161, 34, 3] rfl rfl Tryz.func93 rfl rfl [.func (.func 149) #[] #[.pointer (some ⟨gx, 0, none⟩), .pointer (some ⟨gi, 0, none⟩)], .int .u64 g, .int .i64 (at_ : Nat)] rfl ?_
  refine (standing_stored _ _ (stored_held HMA.out hseg hroom hn HOK.out (v6).heap.size HSM.out.xx HSM.out.xi ⟨HSM.out.bx.lt, HSM.out.bi.lt⟩) ⟨HSM.out, HG.out, rfl⟩ g at_ hat).mono ?_
  intro e v11 hst
  obtain ⟨rec, cnt, er, rfl, hrd, hr, hk⟩ := hst.rd
  have HTOLD := hI hrd
  have HKX := hI hk
  have HRD := hI (HRD.out.keep hk HZX.out)
  have HSM := hI hr.1
  have hsz11 := hk.size
  have HRS := hI hrd.1
  clear hst hrd hr hk
  refine ⟨_, rfl, ?_⟩
  simp only [rq11, Act.put, sA, sZ, sS]
  refine hK.out _ _ (fun _ => HRD.out.cells) (fun hė => ?_)
  replace hė := hė (by decide)
  clear hK K
  refine Tillst.takeF (i := 12) (oi := rq12) (v := ?_) rfl (by kernel_rfl) (by kernel_rfl) (by kernel_rfl) (by decide) (fun _ _ _ h => h) (by rfl) ?_ ?_
  rotate_left
  ·intro W; unfold rq12; go_simp; with_reducible rfl
  simp only [rq12, Act.put, sA, sZ, sS]
  refine Tillst.takeF (i := 13) (oi := rq13) (v := ?_) rfl (by kernel_rfl) (by kernel_rfl) (by kernel_rfl) (by decide) (fun _ _ _ h => h) (by rfl) ?_ ?_
  rotate_left
  ·intro W; unfold rq13; go_simp; with_reducible rfl
  simp only [rq13, Act.put, sA, sZ, sS]
  refine Tillst.takeF (i := 14) (oi := rq14) (v := ?_) rfl (by kernel_rfl) (by kernel_rfl) (by kernel_rfl) (by decide) (fun _ _ _ h => h) (by rfl) ?_ ?_
  rotate_left
  ·intro W; unfold rq14; go_simp; with_reducible rfl
  simp only [rq14, Act.put, sA, sZ, sS]
  refine Tillst.takeF (i := 15) (oi := rq15) (v := ?_) rfl (by kernel_rfl) (by kernel_rfl) (by kernel_rfl) (by decide) (fun _ _ _ h => h) (by rfl) ?_ ?_
  rotate_left
  ·intro W; unfold rq15; go_simp; with_reducible rfl
  simp only [rq15, Act.put, sA, sZ, sS]
  have HB6 := hI (HB6.out.kept HKX.out (.inl (.inr ⟨nR _, by omega⟩)))
  have HF := hI (rd_fin (V := v11) (g6 := vd.heap.size) HRD.out HSM.out HZX.out HTOLD.out (fun h => by have := hz6 _ h; omega) (.inl (by omega)) (.inl (.inl (.inr ⟨nR _, by omega⟩))) (Below.refl _ _) HB6.out (by omega) (by omega) HLT.out HX.out HRR.out hxl)
  refine Tillst.one (i := 17) (o := rq17) (by kernel_rfl) rfl ?_
  intro K hK
  refine step_store_row (.tmp 6) (.tmp 32) 69 rfl rfl (vd.heap.size) rec rfl rfl 69 zeroC HB6.out (by rw [HRS.out.1]; exact size_rec) (by rw [HRS.out.1]; rfl) HRS.out.2 ?_
  simp only [rq17, Act.put, sA, sZ, sS]
  refine hK.out _ _ (fun h => absurd h (by decide)) (fun _ => ?_)
  clear hK K hė
  refine Tillst.one (i := 18) (o := rq18) (by kernel_rfl) rfl ?_
  intro K hK
  refine step_value ?_ rfl ?_ ?_
  rotate_left
  ·unfold rq18; go_simp; with_reducible rfl
  simp only [rq18, Act.put, sA, sZ, sS]
  refine hK.out _ _ (fun h => absurd h (by decide)) (fun _ => ?_)
  clear hK K
  refine Tillst.one (i := 19) (o := rq19) (by kernel_rfl) rfl ?_
  intro K hK
  refine step_value ?_ rfl ?_ ?_
  rotate_left
  ·unfold rq19; go_simp; with_reducible rfl
  simp only [rq19, Act.put, sA, sZ, sS]
  refine hK.out _ _ (fun h => absurd h (by decide)) (fun _ => ?_)
  clear hK K
  refine Tillst.done (by kernel_rfl) ?_ _
  refine NoPanic.normal ?_
  have HSZD := hI hszd
  clear hszd
  go_wp2_with (first | (with_reducible refine halt_end ?_) | (refine wpList_load_rowB (.tmp 6) 69 rfl rfl (vd.heap.size) rfl 69 rec.toList _ Tryz.underlying69 rfl (by simp only [Array.length_toList, HRS.out.1]; exact size_rec) HF.out.1 ?_) | (refine wpList_store_rowB (.tmp 4) (.tmp 35) 69 rfl rfl (w.heap.size + 1) rec rfl rfl 69 _ HF.out.2.1 (by rw [HRS.out.1]; exact size_rec) (by rw [HRS.out.1]; rfl) HRS.out.2 ?_))
  exact Halt.ret (results_row2 rfl _ _ (w.heap.size + 1) 69 rec _ rfl HF.out.2.2.1 Tryz.underlying69 rfl (by rw [HRS.out.1]; exact size_rec)) rfl ⟨rec, er, rfl, HF.out.2.2.2.1.less (by have := HSZD.out; omega), HF.out.2.2.2.2.1, HF.out.2.2.2.2.2⟩
end
end
section
open Go.RowKit
attribute [local go_sem] Oper.semAt_some
theorem wk_sealed : sealedX 24 wkX = wkX := by
 unfold sealedX
 rw [if_neg]
 unfold sealE
 split
 ·decide
 ·rw [if_pos (by rw [wk_open]; decide)]; decide
theorem eql_adr9 (w : World) : (binOp .eql 67 (.agg #[.int .i64 0, .int .u64 1, .int .i64 1]) (.agg #[.int .i64 0, .int .u64 1, .int .i64 1])).run Tryz.prog w = .ok (.bool true) w := by
 go_simp
theorem wk_good : Good (bornK 4 24) := ⟨by decide +kernel, by decide +kernel, by decide +kernel⟩
theorem wk_top : topG wkX ≤ 0 := by decide +kernel
theorem wk_pend : (bornK 4 24).pend.length ≤ 0 := by decide +kernel
theorem wk_cnt : cntOf (21 + 1 + 1) = 1 := by decide +kernel
theorem born_lg {w : World} {X : Nat → Prop} {l p d : Nat} {A : Option Addr} {c : Nat} (h : LogM w X l p d 1026 wkS 0 (bornK 4 24) 24 A 4 c wkX false) (hc : 4 ≤ c) (hn : A = none → c = 0) : LgM w X l p d 1026 wkS 0 (bornK 4 24) wkX 0 where
 log := ⟨A, c, h, hc, hn⟩
 good := wk_good
 ok := ok_new ⟨by decide, by decide, by decide, by decide⟩
 top := wk_top
 may := by decide
 sin := ⟨by decide, by decide, by decide, by decide, by decide, by decide, by decide, by decide, by decide, by decide, by decide, by decide⟩
 dims := rfl
 n2 := by decide
 room := by decide
 pend := wk_pend
theorem wakes9 (w : World) : Calls Tryz.prog 40 #[] w fun e w' => e = .returned (.bool true) ∧ Below w.heap.size w w' := by
 have HBN := hI (born_any 4 24 w (by omega) (by omega))
 go_enter Tryz.func40, Tryz.ntmps40
 go_wp2_with fail
 refine HBN.out.mono ?_
 rintro e wb ⟨l, p, d, A, c, rfl, hlog, hc, hnil, hb⟩
 have HLG := hI (born_lg hlog hc hnil)
 have HB0 := hI hb
 have hb0 := hb.size
 have HL0 := hI hlog.1.lt
 clear hlog hc hnil hb HBN
 have hc1 := Go.Lib.run_convert_bytes_const (P := Tryz.prog) wb 40 5 #[.int .u8 97] 1 1 Tryz.underlying40 Tryz.underlying5
 have hc2 := Go.Lib.run_convert_bytes_const (P := Tryz.prog) (wb.alloc (.cells #[.int .u8 97] 5 (1, 2))) 40 5 #[.int .u8 120] 1 1 Tryz.underlying40 Tryz.underlying5
 simp only [World.size_alloc, List.size_toArray, List.length_cons, List.length_nil, Nat.zero_add, Nat.reduceAdd] at hc1 hc2
 go_upto_region 5 with fail
 clear hc1 hc2
 generalize hw1 : ((wb.alloc _).alloc _).alloc _ = w1
 have HB1 := hI (show Below wb.heap.size wb w1 by rw [← hw1]; exact (((Below.refl _ _).alloc (nR _) _).alloc (by simp) _).alloc (by simp; omega) _)
 have HS1 := hI (show w1.heap.size = wb.heap.size + 3 by rw [← hw1]; simp)
 have HA1 := hI (show RowI .u8 w1 (fun b => b < w1.heap.size) (some ⟨wb.heap.size, 0, none⟩) 1 [97] by
  have h := row_marked wb [97] (1, 2) 1 rfl (S := fun b => b = wb.heap.size) rfl
  rw [← hw1]
  refine ((h.keep (fun p hp => World.cell?_alloc_lt _ _ p ?_)).keep (fun p hp => World.cell?_alloc_lt _ _ p ?_)).more (fun b h => ?_) <;> simp <;> omega)
 have HV1 := hI (show RowI .u8 w1 (fun b => b < w1.heap.size) (some ⟨wb.heap.size + 1, 0, none⟩) 1 [120] by
  have h := row_marked (wb.alloc (.cells #[.int .u8 97] 5 (1, 2))) [120] (1, 2) 1 rfl (S := fun b => b = wb.heap.size + 1) (by simp)
  rw [show (wb.alloc (.cells #[.int .u8 97] 5 (1, 2))).heap.size = wb.heap.size + 1 by simp] at h
  rw [← hw1]
  refine (h.keep (fun p hp => World.cell?_alloc_lt _ _ p ?_)).more (fun b h => ?_) <;> simp <;> omega)
 have HR1 := hI (show Blk w1 (wb.heap.size + 1 + 1) 69 #[.int .i64 1, .int .u32 0, .int .u32 0, .int .u64 1, .slice (some ⟨wb.heap.size, 0, none⟩) 1 1, .slice (some ⟨wb.heap.size + 1, 0, none⟩) 1 1] by rw [← hw1]; exact blk_new3 wb _ _ _ _)
 have HLG1 := hI (HLG.out.below HB1.out)
 have HAP := hI (show Calls Tryz.prog 62 #[.pointer (some ⟨l, 0, none⟩), .agg #[.int .i64 1, .int .u32 0, .int .u32 0, .int .u64 1, .slice (some ⟨wb.heap.size, 0, none⟩) 1 1, .slice (some ⟨wb.heap.size + 1, 0, none⟩) 1 1]] w1 fun e w' =>
  e = .returned (.tuple #[.agg #[.int .i64 0, .int .u64 1, .int .i64 1], .int .i64 0]) ∧ LgM w' (fun x => x < w.heap.size) l p d 1026 (genS wkS) (nxt 0) wkK (useX (openX wkX 1) (1 : Nat)) (0 + 1) ∧ Kept (fun x => x < w.heap.size) w1 w' by
  refine (append_good HLG1.out (fun b h => by have := HS1.out; omega) (by omega) (by decide) (by decide) ⟨by omega, by omega, by omega, by omega, by omega, by omega⟩ HA1.out HV1.out (fun h => by cases h) (fun h => by cases h) (by intro j; match j with | 0 => simp | (j + 1) => simp) (by intro j; match j with | 0 => simp | (j + 1) => simp)).mono ?_
  rintro e w' ⟨h3, hk⟩
  rcases h3 with ⟨i, h, _⟩ | ⟨_, h, _⟩ | ⟨_, i, hi, rfl, hlg⟩
  ·rw [wk_open] at h; omega
  ·rw [wk_next] at h; omega
  ·obtain rfl : i = 0 := by rw [wk_next] at hi; omega
   rw [wk_cnt] at hlg
   have e1 : sealedX (wkS).b wkX = wkX := wk_sealed
   rw [e1] at hlg
   exact ⟨rfl, hlg, hk⟩)
 clear hw1
 go_wp2_with (refine wpList_load_rowB (.tmp 3) 69 rfl rfl (wb.heap.size + 1 + 1) rfl 69 [.int .i64 1, .int .u32 0, .int .u32 0, .int .u64 1, .slice (some ⟨wb.heap.size, 0, none⟩) 1 1, .slice (some ⟨wb.heap.size + 1, 0, none⟩) 1 1] _ Tryz.underlying69 rfl size_rec HR1.out ?_)
 refine HAP.out.mono ?_
 rintro e w2 ⟨rfl, hlg, hk⟩
 have HLG2 := hI hlg
 have HK2 := hI hk
 clear hlg hk HAP
 obtain ⟨w3, hw3⟩ : ∃ w3, w3 = w2.alloc (.cells #[.int .i64 0, .int .u64 1, .int .i64 1] 67) := ⟨_, rfl⟩
 have hb3 : Below w2.heap.size w2 w3 := by rw [hw3]; exact (Below.refl _ w2).alloc (nR _) _
 have HA3 := hI (show Blk w3 w2.heap.size 67 #[.int .i64 0, .int .u64 1, .int .i64 1] by rw [hw3]; exact Blk.new w2 _ _)
 have hz3 : w3.heap.size = w2.heap.size + 1 := by rw [hw3]; simp
 have HLG3 := hI (HLG2.out.grow hb3)
 have HBW3 := hI (((HB0.out.trans (HB1.out.mono hb0)).trans (HK2.out.to_below (B := w.heap.size) fun b hb => hb)).trans (hb3.mono (by have := HS1.out; have : w1.heap.size ≤ w2.heap.size := HK2.out.size; omega)))
 have HW3 := hI hw3
 have hs2 : w1.heap.size ≤ w2.heap.size := HK2.out.size
 have hsb : w.heap.size ≤ w2.heap.size := by have := HS1.out; omega
 clear hb3 hw3
 have HRE := hI (show Calls Tryz.prog 106 #[.pointer (some ⟨l, 0, none⟩), .agg #[.int .i64 0, .int .u64 1, .int .i64 1]] w3 fun e w' =>
  ∃ (v0 v1 v2 v3 : Int) (b1 v4 b2 : Nat), e = .returned (.tuple #[.agg #[.int .i64 v0, .int .u32 v1, .int .u32 v2, .int .u64 v3, .slice (some ⟨b1, 0, none⟩) v4 v4, .slice (some ⟨b2, 0, none⟩) 1 1], .int .i64 0]) ∧ ArrU w' b2 [120] ∧ Kept (fun x => x < w.heap.size ∨ (w2.heap.size ≤ x ∧ x < w3.heap.size)) w3 w' by
  have hlg := HLG3.out
  obtain ⟨A2, c2, hlm, _, _⟩ := hlg.log
  have hok : wkK.Ok 1026 := by obtain ⟨_, _, R, hs, _, _⟩ := hlm; exact hs.2.1.ok
  refine (read_used hlm (fun b hb => by rcases hb with h | h <;> omega) (by decide) hlg.may hlg.good hok 0 (by decide) hlg.room hlg.n2.2 1 1 (by omega) wk_uses).mono ?_
  rintro e w' ⟨rec, er, rfl, hrd, _, hk⟩
  obtain ⟨_, h2, _, h4⟩ := hrd
  have hz : er = 0 := h2.trans wk_stands.1
  obtain ⟨xs, b1, b2, e1, e2, _, _, _, _, h7⟩ := h4 hz
  have hb : beginsN (strV wkK (genS wkS) 0 1) 1 ((1 : Nat) : Int) = 1 := wk_stands.2
  rw [hb, secsAt_one, wk_sec, wk_meants] at e1
  subst e1 e2 hz
  rw [wk_val] at h7
  exact ⟨kindOf wkB, flagsOf wkB, expOf wkB, seqOf wkB, b1, klenOf wkB, b2, by simp only [recT9, wk_vlen], h7, hk⟩)
 go_upto_region 6 with fail
 rw [← HW3.out]
 have a0 := HA3.out.cell 0
 have a1 := HA3.out.cell 1
 have a2 := HA3.out.cell 2
 go_wp2_with fail
 refine HRE.out.mono ?_
 rintro e w4 ⟨v0, v1, v2, v3, b1, v4, b2, rfl, hv, hk⟩
 have HV4 := hI hv
 have HK4 := hI hk
 have HA4 := hI (HA3.out.kept hk (.inr ⟨nR _, by omega⟩))
 clear hv hk HRE a0 a1 a2
 have HBW4 := hI (HBW3.out.trans (HK4.out.to_below (B := w.heap.size) fun b hb => .inl hb))
 obtain ⟨w5, hw5⟩ : ∃ w5, w5 = w4.alloc (.cells #[.int .i64 v0, .int .u32 v1, .int .u32 v2, .int .u64 v3, .slice (some ⟨b1, 0, none⟩) v4 v4, .slice (some ⟨b2, 0, none⟩) 1 1] 69) := ⟨_, rfl⟩
 have HQ5 := hI (show Blk w5 w4.heap.size 69 #[.int .i64 v0, .int .u32 v1, .int .u32 v2, .int .u64 v3, .slice (some ⟨b1, 0, none⟩) v4 v4, .slice (some ⟨b2, 0, none⟩) 1 1] by rw [hw5]; exact Blk.new w4 _ _)
 have HA5 := hI (show Blk w5 w2.heap.size 67 #[.int .i64 0, .int .u64 1, .int .i64 1] by rw [hw5]; exact HA4.out.alloc _)
 have HV5 := hI (show ArrU w5 b2 [120] by rw [hw5]; exact Blk.alloc HV4.out _)
 have HBW5 := hI (show Below w.heap.size w w5 by rw [hw5]; exact HBW4.out.alloc HBW4.out.size _)
 obtain ⟨tt, ht, hnt⟩ := conv_string (P := Tryz.prog) w5 40 9 5 Tryz.underlying40 Tryz.underlying5 Tryz.underlying9 1 (HV5.out.rowN 0 (n := 1) rfl (S := fun b => b < w5.heap.size) HV5.out.lt).toRow (by intro j; match j with | 0 => simp | (j + 1) => simp)
 obtain rfl : tt = ⟨#[120]⟩ := nums_inj (hnt.trans rfl)
 have HW5 := hI hw5
 have hea := eql_adr9 w5
 clear hw5 hnt
 go_upto_region 7 with fail
 rw [← HW5.out]
 have a0 := HA5.out.cell 0
 have a1 := HA5.out.cell 1
 have a2 := HA5.out.cell 2
 have r5 := HQ5.out.cell 5
 go_wp2_with fail
 go_ret
 exact ⟨rfl, HBW5.out⟩
end
section
open Go.RowKit
attribute [local go_sem] Oper.semAt_some
theorem sized_rem (a m : Int) (h : 0 ≤ a) (hm : 1 ≤ m ∧ m ≤ 100) : ∃ r : Nat, a.tmod m = (r : Int) ∧ (r : Int) < m ∧ a % m = (r : Int) := by
 rw [Int.tmod_eq_emod_of_nonneg h]
 have h2 : 0 ≤ a % m ∧ a % m < m := ⟨Int.emod_nonneg _ (by omega), Int.emod_lt_of_pos _ (by omega)⟩
 exact ⟨(a % m).toNat, by omega, by omega, by omega⟩
theorem sized_told {x y x' y' : Int} (hx : x = x') (hy : y = y') : Ending.returned (Value.tuple #[.int .i64 x, .int .i64 y]) = Ending.returned (Value.tuple #[.int .i64 x', .int .i64 y']) := by rw [hx, hy]
theorem sized9_any (a b : Int) (w : World) : ∃ (m : Nat) (s : Int), (4 ≤ m ∧ m ≤ 16) ∧ (24 ≤ s ∧ s ≤ 64) ∧ Calls Tryz.prog 41 #[.int .i64 a, .int .i64 b] w fun e w' => e = .returned (.tuple #[.int .i64 m, .int .i64 s]) ∧ w' = w := by
 by_cases ha : a < 0 <;> by_cases hb : b < 0
 ·refine ⟨4, 24, by omega, by omega, ?_⟩
  go_enter Tryz.func41, Tryz.ntmps41
  go_wp2
  all_goals (go_ret2; (first | exact ⟨rfl, rfl⟩ | exact ⟨sized_told (by omega) (by omega), rfl⟩))
 ·obtain ⟨r, hr, hr2, hr3⟩ := sized_rem b 41 (by omega) (by omega)
  refine ⟨4, 24 + (r : Int), by omega, by omega, ?_⟩
  go_enter Tryz.func41, Tryz.ntmps41
  go_wp2
  all_goals (go_ret2; (first | exact ⟨rfl, rfl⟩ | exact ⟨sized_told (by omega) (by omega), rfl⟩))
 ·obtain ⟨r, hr, hr2, hr3⟩ := sized_rem a 13 (by omega) (by omega)
  refine ⟨4 + r, 24, by omega, by omega, ?_⟩
  rw [show ((4 + r : Nat) : Int) = 4 + (r : Int) by omega]
  go_enter Tryz.func41, Tryz.ntmps41
  go_wp2
  all_goals (go_ret2; (first | exact ⟨rfl, rfl⟩ | exact ⟨sized_told (by omega) (by omega), rfl⟩))
 ·obtain ⟨r, hr, hr2, hr3⟩ := sized_rem a 13 (by omega) (by omega)
  obtain ⟨q, hq, hq2, hq3⟩ := sized_rem b 41 (by omega) (by omega)
  refine ⟨4 + r, 24 + (q : Int), by omega, by omega, ?_⟩
  rw [show ((4 + r : Nat) : Int) = 4 + (r : Int) by omega]
  go_enter Tryz.func41, Tryz.ntmps41
  go_wp2
  all_goals (go_ret2; (first | exact ⟨rfl, rfl⟩ | exact ⟨sized_told (by omega) (by omega), rfl⟩))
end
section
open Go.RowKit
structure RecOk (bs : List Int) : Prop where
 byt : Bytes bs
 may : MayB bs
 need : needOf bs = bs.length
theorem RecOk.len {bs : List Int} (h : RecOk bs) : 22 ≤ bs.length ∧ bs.length ≤ 783 := by
 have h1 := h.may
 have h2 := h.need
 unfold MayB May at h1
 unfold needOf at h2
 omega
section
variable {k : Dk} {s : Sup} {xs : List Seg} {n : Nat}
end
structure AtR (k : Dk) (s : Sup) (xs : List Seg) (a : Int × Int × Int) (bs : List Int) : Prop where
 rok : RecOk bs
 here : ∃ i c : Nat, a = ((i : Int), genG xs i, (c : Int)) ∧ i < xs.length ∧ 1 ≤ c ∧ (c : Int) + cntOf bs.length ≤ usedG xs i ∧ ∀ j, j < cntOf bs.length → strV k s i (c + j) = packL (genG xs i) ((c : Int) + j) (partOf bs j)
section
variable {k k' : Dk} {s : Sup} {xs : List Seg} {a : Int × Int × Int} {bs : List Int}
theorem AtR.held (h : AtR k s xs a bs) (hk : k'.held = k.held) : AtR k' s xs a bs := by
 obtain ⟨h1, i, c, e, h2, h3, h4, h5⟩ := h
 exact ⟨h1, i, c, e, h2, h3, h4, fun j hj => by rw [strV_held hk]; exact h5 j hj⟩
end
end
section
open Go.RowKit
noncomputable section
end
section
variable {w w' : World} {X Y : Nat → Prop} {l p d n : Nat} {s : Sup} {t : Int} {k : Dk} {xs : List Seg} {pe : Nat} {a : Int × Int × Int} {bs : List Int}
theorem LogM.off {S : Nat → Prop} {sec : Int} {A : Option Addr} {m c : Nat} {br : Bool} (h : LogM w X l p d n s t k sec A m c xs br) (hk : Kept S w w') (hS : ∀ b, b < w.heap.size → ¬ X b → S b) : LogM w' X l p d n s t k sec A m c xs br := by
 obtain ⟨h1, h2, R, h3, h4, h5⟩ := h
 exact ⟨h1.kept hk (hS _ h1.lt h2), h2, R, StoreM.kept h3 hk (fun b hb hx => hS b hb (fun e => hx (.inl e))) (fun b _ h => h), h4.kept hk (fun b h => hS b (h5 b h).1 (h5 b h).2.2), fun b h => ⟨nL (h5 b h).1 hk.size, (h5 b h).2⟩⟩
theorem LgM.off {S : Nat → Prop} (h : LgM w X l p d n s t k xs pe) (hk : Kept S w w') (hS : ∀ b, b < w.heap.size → ¬ X b → S b) : LgM w' X l p d n s t k xs pe := by
 obtain ⟨A, c, h1, h2, h3⟩ := h.log
 exact ⟨⟨A, c, h1.off hk hS, h2, h3⟩, h.good, h.ok, h.top, h.may, h.sin, h.dims, h.n2, h.room, h.pend⟩
end
end
end Go.Proofs.YtknfblfnfoibkaaGreat
