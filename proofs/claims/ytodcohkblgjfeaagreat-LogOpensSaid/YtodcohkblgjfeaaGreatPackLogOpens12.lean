/- Texts of LogOpens, packed. -/
import Derived.Test.YtodcohkblgjfeaaGreatPackLogOpens11
import Derived.Deep.DeepCutAuto
set_option linter.unusedVariables false
set_option linter.unusedSimpArgs false
namespace Go.Proofs.YtodcohkblgjfeaaGreat
open Go.RowKit
set_option maxRecDepth 100000
set_option linter.unusedVariables false
set_option linter.unusedSimpArgs false
abbrev lb0 : Oper := { dst := some 36, op := Go.Op.move (Go.Operand.tmp 0), type := 26, pos := "log.go:293", after := #[], guard := none }
abbrev lb1 : Oper := { dst := some 37, op := Go.Op.nilCheck (Go.Operand.tmp 36), type := 0, pos := "log.go:293", after := #[{ on := 0, ground := Go.Ground.data }], guard := none }
abbrev lb2 : Oper := { dst := some 38, op := Go.Op.fieldAddr 117 (Go.Operand.tmp 37) 0, type := 0, pos := "log.go:293", after := #[{ on := 1, ground := Go.Ground.data }], guard := none }
abbrev lb3 : Oper := { dst := some 39, op := Go.Op.load 70 (Go.Operand.tmp 38), type := 70, pos := "log.go:293", after := #[{ on := 2, ground := Go.Ground.data }], guard := none }
abbrev lb4 : Oper := { dst := some 40, op := Go.Op.load 32 (Go.Operand.tmp 5), type := 32, pos := "log.go:293", after := #[], guard := none }
abbrev lb5 : Oper := { dst := some 41, op := Go.Op.call { callee := Go.Callee.value (Go.Operand.func 70), args := #[Go.Operand.tmp 39, Go.Operand.tmp 40], argTypes := #[70, 32] }, type := 49, pos := "log.go:293", after := #[{ on := 3, ground := Go.Ground.data }, { on := 4, ground := Go.Ground.data }], guard := none }
abbrev lb6 : Oper := { dst := some 6, op := Go.Op.assign (Go.Operand.tmp 41), type := 49, pos := "log.go:293", after := #[{ on := 5, ground := Go.Ground.data }, { on := 5, ground := Go.Ground.chain }, { on := 0, ground := Go.Ground.phase }, { on := 1, ground := Go.Ground.phase }, { on := 2, ground := Go.Ground.phase }, { on := 3, ground := Go.Ground.phase }, { on := 4, ground := Go.Ground.phase }, { on := 5, ground := Go.Ground.phase }], guard := none }
abbrev lc0 : Oper := { dst := some 46, op := Go.Op.move (Go.Operand.tmp 0), type := 26, pos := "log.go:296", after := #[], guard := none }
abbrev lc1 : Oper := { dst := some 47, op := Go.Op.nilCheck (Go.Operand.tmp 46), type := 0, pos := "log.go:296", after := #[{ on := 0, ground := Go.Ground.data }], guard := none }
abbrev lc2 : Oper := { dst := some 48, op := Go.Op.fieldAddr 117 (Go.Operand.tmp 47) 1, type := 0, pos := "log.go:296", after := #[{ on := 1, ground := Go.Ground.data }], guard := none }
abbrev lc3 : Oper := { dst := some 49, op := Go.Op.load 35 (Go.Operand.tmp 48), type := 35, pos := "log.go:296", after := #[{ on := 2, ground := Go.Ground.data }], guard := none }
abbrev lc4 : Oper := { dst := some 50, op := Go.Op.fieldAddr 32 (Go.Operand.tmp 5) 2, type := 0, pos := "log.go:296", after := #[], guard := none }
abbrev lc5 : Oper := { dst := some 51, op := Go.Op.load 30 (Go.Operand.tmp 50), type := 30, pos := "log.go:296", after := #[{ on := 4, ground := Go.Ground.data }], guard := none }
abbrev lc6 : Oper := { dst := some 52, op := Go.Op.call { callee := Go.Callee.value (Go.Operand.func 142), args := #[Go.Operand.tmp 49, Go.Operand.tmp 51], argTypes := #[35, 30] }, type := 123, pos := "log.go:296", after := #[{ on := 3, ground := Go.Ground.data }, { on := 5, ground := Go.Ground.data }], guard := none }
abbrev lc7 : Oper := { dst := some 45, op := Go.Op.move (Go.Operand.tmp 52), type := 123, pos := "log.go:296", after := #[{ on := 6, ground := Go.Ground.data }], guard := none }
abbrev lc8 : Oper := { dst := some 53, op := Go.Op.extract (Go.Operand.tmp 45) 0, type := 35, pos := "log.go:296", after := #[{ on := 7, ground := Go.Ground.data }], guard := none }
abbrev lc9 : Oper := { dst := some 54, op := Go.Op.extract (Go.Operand.tmp 45) 1, type := 3, pos := "log.go:296", after := #[{ on := 7, ground := Go.Ground.data }, { on := 12, ground := Go.Ground.gcOnly Go.Departure.lateStores }], guard := none }
abbrev lc10 : Oper := { dst := some 55, op := Go.Op.extract (Go.Operand.tmp 45) 2, type := 49, pos := "log.go:296", after := #[{ on := 7, ground := Go.Ground.data }, { on := 13, ground := Go.Ground.gcOnly Go.Departure.lateStores }], guard := none }
abbrev lc11 : Oper := { dst := some 7, op := Go.Op.alloc 35, type := 0, pos := "log.go:296", after := #[], guard := none }
abbrev lc12 : Oper := { dst := none, op := Go.Op.store 35 (Go.Operand.tmp 7) (Go.Operand.tmp 53), type := 0, pos := "log.go:296", after := #[{ on := 11, ground := Go.Ground.data }, { on := 8, ground := Go.Ground.data }, { on := 6, ground := Go.Ground.chain }, { on := 0, ground := Go.Ground.phase }, { on := 1, ground := Go.Ground.phase }, { on := 2, ground := Go.Ground.phase }, { on := 3, ground := Go.Ground.phase }, { on := 4, ground := Go.Ground.phase }, { on := 5, ground := Go.Ground.phase }, { on := 6, ground := Go.Ground.phase }, { on := 7, ground := Go.Ground.phase }, { on := 8, ground := Go.Ground.phase }, { on := 9, ground := Go.Ground.textOnly Go.Departure.lateStores }, { on := 10, ground := Go.Ground.textOnly Go.Departure.lateStores }, { on := 11, ground := Go.Ground.phase }], guard := none }
abbrev lc13 : Oper := { dst := some 8, op := Go.Op.assign (Go.Operand.tmp 54), type := 3, pos := "log.go:296", after := #[{ on := 9, ground := Go.Ground.data }, { on := 12, ground := Go.Ground.chain }, { on := 0, ground := Go.Ground.phase }, { on := 1, ground := Go.Ground.phase }, { on := 2, ground := Go.Ground.phase }, { on := 3, ground := Go.Ground.phase }, { on := 4, ground := Go.Ground.phase }, { on := 5, ground := Go.Ground.phase }, { on := 6, ground := Go.Ground.phase }, { on := 7, ground := Go.Ground.phase }, { on := 8, ground := Go.Ground.phase }, { on := 9, ground := Go.Ground.phase }, { on := 10, ground := Go.Ground.textOnly Go.Departure.lateStores }, { on := 11, ground := Go.Ground.phase }, { on := 12, ground := Go.Ground.phase }], guard := none }
abbrev lc14 : Oper := { dst := some 9, op := Go.Op.assign (Go.Operand.tmp 55), type := 49, pos := "log.go:296", after := #[{ on := 10, ground := Go.Ground.data }, { on := 13, ground := Go.Ground.chain }, { on := 0, ground := Go.Ground.phase }, { on := 1, ground := Go.Ground.phase }, { on := 2, ground := Go.Ground.phase }, { on := 3, ground := Go.Ground.phase }, { on := 4, ground := Go.Ground.phase }, { on := 5, ground := Go.Ground.phase }, { on := 6, ground := Go.Ground.phase }, { on := 7, ground := Go.Ground.phase }, { on := 8, ground := Go.Ground.phase }, { on := 9, ground := Go.Ground.phase }, { on := 10, ground := Go.Ground.phase }, { on := 11, ground := Go.Ground.phase }, { on := 12, ground := Go.Ground.phase }, { on := 13, ground := Go.Ground.phase }], guard := none }
def setK (k : Dk) (s : Sup) (t : Int) : Dk := (k.wr (Dk.put (secOf t) (supL s.a s.b (s.g + 1) s.r s.v s.f (nxt t)))).wr Dk.sync
abbrev genS (s : Sup) : Sup := ⟨s.a, s.b, s.g + 1, s.r, s.v, s.f⟩
def begK (k : Dk) (s : Sup) (t : Int) (i : Int) : Dk := ((setK k s t).wr (Dk.put (2 + i * s.b).toNat (hdrL i.toNat (s.g + 1)))).wr Dk.sync
section
variable {w w' : World} {X Y : Nat → Prop} {l p d n m c : Nat} {s : Sup} {t : Int} {k : Dk} {sec : Int} {A : Option Addr} {xs : List Seg} {br : Bool}
theorem wrs_one {k : Dk} (h : k.wre = 0) (i : Nat) (ys : List Int) : wrs k i [ys] = (k.wr (Dk.put i ys), 0) := by
  unfold wrs
  rw [if_pos h]
  rfl
theorem hdr_bytes (i : Nat) (g : Int) (hi : i ≤ 15) : Bytes (hdrL i g) := pack_bytes _ _ _ (fun j => by
  rcases j with _ | _ | j
  · show 0 ≤ (i : Int) / 256 ∧ (i : Int) / 256 ≤ 255; omega
  · show 0 ≤ (i : Int) ∧ (i : Int) ≤ 255; omega
  · simp [List.getD])
theorem beg_write {g0 : Nat} {ys : List Int} (hs : StoS w Y p d n (genS s) t k) (hY : ∀ b, Y b → b < w.heap.size) (hl : Y l) (c0 : w.cell? ⟨l, 0, none⟩ = some (.pointer (some ⟨p, 0, none⟩))) (hg0 : Y g0) (hb : Blk w g0 84 (cells8 ys)) (hly : ys.length = 64) (hby : Bytes ys)
    (i : Nat) (hi : (i : Int) < s.a) (hm : s.May) (hroom : 2 + s.a * s.b ≤ (n : Int)) (hn : n ≤ 2048) (hg : Good k) (hp : k.pend = []) :
    Calls Tryz.prog 104 #[.pointer (some ⟨l, 0, none⟩), .int .i64 i, .int .i64 0, .slice (some ⟨g0, 0, none⟩) 1 1] w fun e w' => e = .returned (.int .i64 0) ∧ StoS w' Y p d n (genS s) t (k.wr (Dk.put (2 + (i : Int) * s.b).toNat ys)) ∧ Kept Y w w' := by
  obtain ⟨h1, h2, h3, h4, _⟩ := hm
  have hpos : 0 ≤ (i : Int) * s.b := Int.mul_nonneg (by omega) (by omega)
  have hle : ((i : Int) + 1) * s.b ≤ s.a * s.b := Int.mul_le_mul_of_nonneg_right (by omega) (by omega)
  rw [Int.add_mul, Int.one_mul] at hle
  have hi0 : (((2 + (i : Int) * s.b).toNat : Nat) : Int) = 2 + (i : Int) * s.b := Int.toNat_of_nonneg (by omega)
  have h := write_log (A := some ⟨g0, 0, none⟩) (m := 1) (c := 1) (xss := [ys]) hs hY hl c0 ⟨rfl, fun _ => ⟨g0, 0, rfl, hg0, fun j hj => by
      obtain rfl : j = 0 := by omega
      exact (show ArrB w g0 ys from hb).range⟩⟩ (fun j => by
      rcases j with _ | j
      · exact hby
      · intro q; simp [List.getD]) (fun x hx => by
      obtain rfl : x = ys := by simpa using hx
      exact hly) i 0 (2 + (i : Int) * s.b).toNat hi h2 ⟨by show 0 ≤ s.b; omega, h4⟩ (by rw [hi0]; show _ = 2 + (i : Int) * s.b + ((0 : Nat) : Int); simp) (by omega) hn (by rw [hp]; simp)
  rw [wrs_one hg.wre] at h
  exact h
def BeginT (w : World) (X : Nat → Prop) (l p d n : Nat) (s : Sup) (t : Int) (k : Dk) (sec : Int) (xs : List Seg) (e : Ending) (w' : World) : Prop :=
  ∃ kk ys A c, e = .returned (.int .i64 (openE sec (sealedX sec xs) (s.g + 1))) ∧ LogM w' X l p d n (genS s) (nxt t) kk sec A ys.length c ys false ∧ Kept X w w' ∧ ys.length ≤ c ∧ (A = none → c = 0) ∧
    (openE sec (sealedX sec xs) (s.g + 1) ≠ 0 ∧ kk = setK k s t ∧ ys = sealedX sec xs ∨ openE sec (sealedX sec xs) (s.g + 1) = 0 ∧ kk = begK k s t (nxtR (sealedX sec xs)) ∧ ys = openX (sealedX sec xs) (s.g + 1))
theorem LogM.len9 (h : LogM w X l p d n s t k sec A m c xs br) : xs.length = m := h.now.1
theorem BegT.no {e : Ending} (hE : openE sec (sealedX sec xs) (s.g + 1) ≠ 0) (he : e = .returned (.int .i64 (openE sec (sealedX sec xs) (s.g + 1)))) (h : LogM w' X l p d n (genS s) (nxt t) (setK k s t) sec A m c (sealedX sec xs) false) (hk : Kept X w w') (hmc : m ≤ c) (hnil : A = none → c = 0) : BeginT w X l p d n s t k sec xs e w' :=
  ⟨_, _, A, c, he, by rw [h.len9]; exact h, hk, by rw [h.len9]; exact hmc, hnil, .inl ⟨hE, rfl, rfl⟩⟩
theorem BegT.yes {A2 : Option Addr} {c2 : Nat} {e : Ending} (hE : openE sec (sealedX sec xs) (s.g + 1) = 0) (he : e = .returned (.int .i64 (openE sec (sealedX sec xs) (s.g + 1)))) (h : LogM w' X l p d n (genS s) (nxt t) (begK k s t (nxtR (sealedX sec xs))) sec A2 (openX (sealedX sec xs) (s.g + 1)).length c2 (openX (sealedX sec xs) (s.g + 1)) false) (hk : Kept X w w') (hmc : (openX (sealedX sec xs) (s.g + 1)).length ≤ c2) (hnil : A2 = none → c2 = 0) : BeginT w X l p d n s t k sec xs e w' :=
  ⟨_, _, A2, c2, he, h, hk, hmc, hnil, .inr ⟨hE, rfl, rfl⟩⟩
theorem LogM.lay {R : Nat → Prop} {A2 : Option Addr} {m2 c2 : Nat} {ys : List Seg} {sec2 : Int} (h1 : Blk w l 117 (logC p sec2 A m c br)) (hx : ¬ X l) (hs : StoS w (fun b => X b ∨ b = l ∨ R b) p d n s t k) (hr : RowZ w R A2 m2 ys) (hR : ∀ b, R b → b < w.heap.size ∧ b ≠ l) :
    LogM ((w.setCell ⟨l, 1, none⟩ (.int .i64 sec)).setCell ⟨l, 2, none⟩ (.slice A2 m2 c2)) X l p d n s t k sec A2 m2 c2 ys br := by
  have hk : Kept (fun b => b ≠ l) w ((w.setCell ⟨l, 1, none⟩ (.int .i64 sec)).setCell ⟨l, 2, none⟩ (.slice A2 m2 c2)) :=
    ((Kept.refl _ w).setCell (p := ⟨l, 1, none⟩) (fun h => h rfl) _).setCell (p := ⟨l, 2, none⟩) (fun h => h rfl) _
  exact ⟨(h1.set_ 1 (.int .i64 sec)).set_ 2 (.slice A2 m2 c2), hx, R, StoreM.kept hs hk (fun b hb hx e => hx (.inr (.inl e))) (fun b hb h => h), hr.kept hk (fun b h => (hR b h).2), fun b h => ⟨Nat.lt_of_lt_of_le (hR b h).1 hk.size, (hR b h).2⟩⟩
set_option maxHeartbeats 4000000 in
theorem begin_good (h : LogM w X l p d n s t k sec A m c xs false) (hX : ∀ b, X b → b < w.heap.size) (hmc : m ≤ c) (hnil : A = none → c = 0) (hg : Good k) (hp : k.pend.length ≤ 900000) (hsm : s.May) (hsi : s.In) (hgm : s.g + 1 ≤ 18446744073709551615) (hn : 2 ≤ n) (hn2 : n ≤ 2048) (hma : (m : Int) = s.a) (hroom : 2 + s.a * s.b ≤ (n : Int)) :
    Calls Tryz.prog 101 #[.pointer (some ⟨l, 0, none⟩)] w fun e w' => BeginT w X l p d n s t k sec xs e w' := by
  have HMA := Lib.hid hma
  have HRM := Lib.hid hroom
  have HNN := Lib.hid hn2
  have HL := Lib.hid h
  have HX := Lib.hid hX
  have HG := Lib.hid hg
  have HP := Lib.hid hp
  have HSM := Lib.hid hsm
  have HSI := Lib.hid hsi
  have HLEN := Lib.hid h.now.1
  obtain ⟨_, c1, c2, _⟩ := log_cells h
  have HSE := Lib.hid (seal_any (cap := c) h.now sec)
  have HMC := Lib.hid (And.intro hmc hnil)
  have hg0 : 0 ≤ s.g := hsi.2.2.2.2.1
  clear h hX hmc hnil hg hp hsm hsi hma hroom hn2
  go_enter Tryz.func101, Tryz.ntmps101
  go_wp2_with fail
  refine HSE.out.mono ?_
  rintro e w2 ⟨hcase, hb2⟩
  rcases hcase with ⟨hz, v7, rfl, A6, n6, cap6, rfl, hown6⟩ | ⟨hno, rfl⟩
  · obtain rfl : m = n6 := by rw [← hown6.1, seal_len]; exact HLEN.out.symm
    have hal := (Below.refl w2.heap.size w2).alloc (Nat.le_refl _) (.cells #[.int .i64 sec, .slice A6 m cap6] 35)
    have hbz := hb2.trans (hal.mono hb2.size)
    have hput := HL.out.put HX.out hbz (hown6.below hal)
    have HBG := Lib.hid (show BegC w X l p d n s t k sec m (sealedX sec xs) _ from ⟨A6, cap6, by unfold sealedX; rw [if_pos hz]; exact hput.1, hput.2, hown6.2.2.2, hown6.2.2.1⟩)
    have hlz := HL.out.below hbz
    obtain ⟨_, b1, b2, _⟩ := log_cells hlz
    obtain ⟨f1, f2⟩ := And.intro (hlz.1.frozen 1) (hlz.1.frozen 2)
    obtain ⟨k0, k1⟩ := ring_cells (Blk.new w2 35 #[.int .i64 sec, .slice A6 m cap6])
    have HLL := Lib.hid HL.out.1.lt
    have HB2S := Lib.hid hb2.size
    have hll := HL.out.1.lt
    have hb2s := hb2.size
    have hneq : w2.heap.size ≠ l := by omega
    clear hown6 hal hbz hput hlz hb2 hz c1 c2 hll hb2s
    go_upto_region 4 with fail
    have hz0 : True := trivial
    generalize ((w2.alloc (.cells #[.int .i64 sec, .slice A6 m cap6] 35)).setCell ⟨l, 1, none⟩ (.int .i64 sec)).setCell ⟨l, 2, none⟩ (.slice A6 m cap6) = wx at *
    clear b1 b2 f1 f2 k0 k1 hneq hz0
    obtain ⟨A2, c3, hlm, hkx, hmc2, hnil2⟩ := HBG.out
    obtain ⟨hb, hxl, R, hs, hrow, hR⟩ := hlm
    have HBK := Lib.hid hb
    have HS := Lib.hid hs
    have HRO := Lib.hid hrow
    have HRR := Lib.hid hR
    have HKX := Lib.hid hkx
    have HMC2 := Lib.hid (And.intro hmc2 hnil2)
    have HXL := Lib.hid hxl
    have HY0 := Lib.hid (show ∀ b, (X b ∨ b = l ∨ R b) → b < wx.heap.size from fun b h => by
      rcases h with h | h | h
      · exact Nat.lt_of_lt_of_le (HX.out b h) hkx.size
      · rw [h]; exact hb.lt
      · exact (hR b h).1)
    have c0 : wx.cell? ⟨l, 0, none⟩ = some (.pointer (some ⟨p, 0, none⟩)) := hb.cell 0
    clear hb hxl hs hrow hR hkx hmc2 hnil2
    go_wp2_with fail
    refine (get_any HS.out).mono ?_
    rintro e w4 ⟨rfl, hb4⟩
    have hbk : Below wx.heap.size wx (w4.alloc (.cells #[.int .i64 s.a, .int .i64 s.b, .int .u64 s.g, .int .u64 s.r, .int .u64 s.v, .int .u64 s.f] 32)) := hb4.alloc hb4.size _
    have hb5 : Below wx.heap.size wx (w4.alloc (.cells #[.int .i64 s.a, .int .i64 s.b, .int .u64 (s.g + 1), .int .u64 s.r, .int .u64 s.v, .int .u64 s.f] 32)) := hb4.alloc hb4.size _
    have HK4 := Lib.hid (show Blk (w4.alloc (.cells #[.int .i64 s.a, .int .i64 s.b, .int .u64 s.g, .int .u64 s.r, .int .u64 s.v, .int .u64 s.f] 32)) w4.heap.size 32 (supC s.a s.b s.g s.r s.v s.f) from Blk.new w4 _ _)
    have HK5 := Lib.hid (show Blk (w4.alloc (.cells #[.int .i64 s.a, .int .i64 s.b, .int .u64 (s.g + 1), .int .u64 s.r, .int .u64 s.v, .int .u64 s.f] 32)) w4.heap.size 32 (supC s.a s.b (s.g + 1) s.r s.v s.f) from Blk.new w4 _ _)
    have HB5 := Lib.hid hb5
    have HZ5 := Lib.hid (show wx.heap.size ≤ w4.heap.size from hb4.size)
    have g2 : (w4.alloc (.cells #[.int .i64 s.a, .int .i64 s.b, .int .u64 s.g, .int .u64 s.r, .int .u64 s.v, .int .u64 s.f] 32)).cell? ⟨w4.heap.size, 2, none⟩ = some (.int .u64 s.g) := HK4.out.cell 2
    have f2 := HK4.out.frozen 2
    clear hb4 hbk hb5 c0
    go_upto_region 6 with fail
    generalize (w4.alloc (.cells #[.int .i64 s.a, .int .i64 s.b, .int .u64 (s.g + 1), .int .u64 s.r, .int .u64 s.v, .int .u64 s.f] 32)) = w5 at *
    clear g2 f2
    have HS5 := Lib.hid (StoreM.grow HS.out HB5.out.drew)
    have HX5 := Lib.hid (grow_lt (w' := w5.drew) HY0.out HB5.out.drew.size)
    have hK5 : w5.drew.rangeAt w4.heap.size 0 (supC s.a s.b (s.g + 1) s.r s.v s.f).toList := Blk.rangeL (cs := (supC s.a s.b (s.g + 1) s.r s.v s.f).toList) HK5.out.drew
    have hc5 : w5.drew.cell? ⟨l, 0, none⟩ = some (.pointer (some ⟨p, 0, none⟩)) := (HBK.out.below HB5.out.drew HBK.out.lt).cell 0
    have hu32 := Tryz.underlying32
    have hs32 : (Tryz.prog.info? 32).map (·.size) = some (supC s.a s.b (s.g + 1) s.r s.v s.f).toList.length := size_sup
    have HSET := Lib.hid (set_go HS5.out HX5.out (s.g + 1) s.r s.v s.f (by obtain ⟨h1, h2, h3, h4, h5⟩ := HSM.out; exact ⟨h1, h2, h3, h4, by omega⟩) (by have h := HSI.out; unfold Sup.In InS at h; unfold InS; omega) (by unfold BackS; omega) hn (by have := HP.out; omega) HG.out.wre (HG.out.put _ _).wre)
    refine wp_region_noPanic ?_
    refine Tillst.region (fun W => W.cell? ⟨l, 0, none⟩ = some (.pointer (some ⟨p, 0, none⟩)) ∧ W.rangeAt w4.heap.size 0 (supC s.a s.b (s.g + 1) s.r s.v s.f).toList) [] (by kernel_rfl) ⟨hc5, hK5⟩ (fun hHeld => ?_)
    have HDW := Lib.hid (show w4.heap.size < w5.drew.heap.size from HK5.out.drew.lt)
    have HB5D := Lib.hid HB5.out.drew
    have HKD := Lib.hid HK5.out.drew
    generalize w5.drew = vd at *
    refine Tillst.take (i := 0) (oi := lb0) (v := ?_) rfl (by kernel_rfl) (by kernel_rfl) (by kernel_rfl) (by kernel_rfl) (fun _ _ _ h => h) (by rfl) ?_ hHeld ?_
    rotate_left
    · intro W hSW; (try dsimp only at hSW); unfold lb0; go_simp; with_reducible rfl
    simp only [lb0, Act.put, List.setIfInBounds_toArray, List.set_cons_zero, List.set_cons_succ]
    refine Tillst.take (i := 1) (oi := lb1) (v := ?_) rfl (by kernel_rfl) (by kernel_rfl) (by kernel_rfl) (by kernel_rfl) (fun _ _ _ h => h) (by rfl) ?_ hHeld ?_
    rotate_left
    · intro W hSW; (try dsimp only at hSW); unfold lb1; go_simp; with_reducible rfl
    simp only [lb1, Act.put, List.setIfInBounds_toArray, List.set_cons_zero, List.set_cons_succ]
    refine Tillst.take (i := 2) (oi := lb2) (v := ?_) rfl (by kernel_rfl) (by kernel_rfl) (by kernel_rfl) (by kernel_rfl) (fun _ _ _ h => h) (by rfl) ?_ hHeld ?_
    rotate_left
    · intro W hSW; (try dsimp only at hSW); unfold lb2; go_simp; with_reducible rfl
    simp only [lb2, Act.put, List.setIfInBounds_toArray, List.set_cons_zero, List.set_cons_succ]
    refine Tillst.take (i := 3) (oi := lb3) (v := ?_) rfl (by kernel_rfl) (by kernel_rfl) (by kernel_rfl) (by kernel_rfl) (fun _ _ _ h => h) (by rfl) ?_ hHeld ?_
    rotate_left
    · intro W' hSW; have c0 := hSW.1; unfold lb3; go_simp; with_reducible rfl
    simp only [lb3, Act.put, List.setIfInBounds_toArray, List.set_cons_zero, List.set_cons_succ]
    refine Tillst.take (i := 4) (oi := lb4) (v := ?_) rfl (by kernel_rfl) (by kernel_rfl) (by kernel_rfl) (by kernel_rfl) (fun _ _ _ h => h) (by rfl) ?_ hHeld ?_
    rotate_left
    · intro W' hSW; refine exec_load_row (.tmp 5) 32 ?_ w4.heap.size 0 ?_ (supC s.a s.b (s.g + 1) s.r s.v s.f).toList _ hu32 rfl hs32 hSW.2 <;> rfl
    simp only [lb4, Act.put, List.setIfInBounds_toArray, List.set_cons_zero, List.set_cons_succ]
    refine Tillst.one (i := 5) (o := lb5) (by kernel_rfl) rfl ?_
    intro K hK
    refine step_call 70 #[.tmp 39, .tmp 40] #[70, 32] rfl rfl Tryz.func70 rfl rfl [.pointer (some ⟨p, 0, none⟩), .agg (supC s.a s.b (s.g + 1) s.r s.v s.f)] rfl ?_
    refine HSET.out.mono ?_
    rintro e v6 ⟨rfl, hs6, hk6⟩
    have HS6 := Lib.hid hs6
    have HK6 := Lib.hid hk6
    have hS6 := And.intro (show v6.cell? ⟨l, 0, none⟩ = some (.pointer (some ⟨p, 0, none⟩)) from (hk6.cell (p := ⟨l, 0, none⟩) (.inl (.inr (.inl rfl)))).trans hHeld.1) (show v6.rangeAt w4.heap.size 0 (supC s.a s.b (s.g + 1) s.r s.v s.f).toList from fun q u hu => (hk6.cell (p := ⟨w4.heap.size, 0 + q, none⟩) (.inr ⟨HZ5.out, HDW.out⟩)).trans (hHeld.2 q u hu))
    clear hs6 hk6
    refine ⟨_, rfl, ?_⟩
    simp only [lb5, Act.put, List.setIfInBounds_toArray, List.set_cons_zero, List.set_cons_succ]
    refine hK.out _ _ (fun _ => hS6) (fun hHeld => ?_)
    replace hHeld := hHeld (by decide)
    clear hK K hS6
    refine Tillst.one (i := 6) (o := lb6) (by kernel_rfl) rfl ?_
    intro K hK
    refine step_value ?_ rfl ?_ ?_
    rotate_left
    · unfold lb6; go_simp; with_reducible rfl
    simp only [lb6, Act.put, List.setIfInBounds_toArray, List.set_cons_zero, List.set_cons_succ]
    refine hK.out _ _ (fun _ => hHeld) (fun hHeld => ?_)
    replace hHeld := hHeld (by decide)
    clear hK K
    refine Tillst.done (by kernel_rfl) ?_ _
    refine NoPanic.normal ?_
    clear hHeld hK5 hc5 hs32 hu32
    have HR6 := Lib.hid ((HRO.out.below HB5D.out (fun b h => (HRR.out b h).1)).kept HK6.out (fun b h => .inl (.inr (.inr h))))
    have HBK6 := Lib.hid ((HBK.out.below HB5D.out HBK.out.lt).kept HK6.out (.inl (.inr (.inl rfl))))
    have HSZ6 := Lib.hid (Nat.le_trans HB5D.out.size HK6.out.size)
    have HS6B := Lib.hid (show StoS v6 (fun b => X b ∨ b = l ∨ R b) p d n (genS s) (nxt t) (setK k s t) from StoreM.kept (Z := fun _ => True) HS6.out (Kept.refl _ _) (fun _ _ _ => trivial) (fun b _ h => .inl h))
    have HL6 := Lib.hid (show LogM v6 X l p d n ⟨s.a, s.b, s.g + 1, s.r, s.v, s.f⟩ (nxt t) (setK k s t) sec A2 m c3 (sealedX sec xs) false from ⟨HBK6.out, HXL.out, R, StoreM.kept (Z := fun _ => True) HS6.out (Kept.refl _ _) (fun _ _ _ => trivial) (fun b _ h => .inl h), HR6.out, fun b h => ⟨Nat.lt_of_lt_of_le (HRR.out b h).1 HSZ6.out, (HRR.out b h).2⟩⟩)
    have HKX6 := Lib.hid (HKX.out.trans (Kept.of_below HB5D.out (fun b (h : X b) => HY0.out b (.inl h)) |>.trans HK6.out (fun b h => .inl (.inl h))) (fun b h => h))
    have HKB6 := Lib.hid (HKD.out.kept HK6.out (.inr ⟨HZ5.out, HDW.out⟩))
    clear HB5 HK4 HK5 HB5D HKD HSET HS5 HX5 HS6 HK6 HDW HS HRO HBK
    go_upto_region 9 with fail
    go_cut [7, 8, 9] (fun t i e wy => OpnC v6.drew sec (sealedX sec xs) (s.g + 1) t i e wy)
    case first J KK hJ hKK =>
      have HOP := Lib.hid (show ∀ W, Below v6.drew.heap.size v6.drew W → RowZ W (· < W.heap.size) A2 m (sealedX sec xs) from fun W hW => (HL6.out.now.below ((Below.refl v6.heap.size v6).drew.trans hW) (fun b h => h)).more (fun b h => Nat.lt_of_lt_of_le h (by have := hW.size; have := (Below.refl v6.heap.size v6).drew.size; omega)))
      have HL1 := Lib.hid (show ∀ W, Below v6.drew.heap.size v6.drew W → W.rangeAt l 1 [.int .i64 sec, .slice A2 m c3] from fun W hW q u hu => by
        have hb := HBK6.out.drew.below hW HBK6.out.drew.lt
        match q, hu with
        | 0, hu => exact (hb.cell 1).trans hu
        | 1, hu => exact (hb.cell 2).trans hu)
      have HG2 := Lib.hid (show ∀ W, Below v6.drew.heap.size v6.drew W → W.cell? ⟨w4.heap.size, 2, none⟩ = some (.int .u64 (s.g + 1)) from fun W hW => (HKB6.out.drew.below hW HKB6.out.drew.lt).cell 2)
      have hu35 := Tryz.underlying35
      refine wp_region_noPanic ?_
      refine Tillst.region (fun W => Below v6.drew.heap.size v6.drew W) [] (by kernel_rfl) (Below.refl _ _) (fun hHeld => ?_)
      refine Tillst.take (i := 0) (oi := lc0) (v := ?_) rfl (by kernel_rfl) (by kernel_rfl) (by kernel_rfl) (by kernel_rfl) (fun _ _ _ h => h) (by rfl) ?_ hHeld ?_
      rotate_left
      · intro W hSW; (try dsimp only at hSW); unfold lc0; go_simp; with_reducible rfl
      simp only [lc0, Act.put, List.setIfInBounds_toArray, List.set_cons_zero, List.set_cons_succ]
      refine Tillst.take (i := 1) (oi := lc1) (v := ?_) rfl (by kernel_rfl) (by kernel_rfl) (by kernel_rfl) (by kernel_rfl) (fun _ _ _ h => h) (by rfl) ?_ hHeld ?_
      rotate_left
      · intro W hSW; (try dsimp only at hSW); unfold lc1; go_simp; with_reducible rfl
      simp only [lc1, Act.put, List.setIfInBounds_toArray, List.set_cons_zero, List.set_cons_succ]
      refine Tillst.take (i := 2) (oi := lc2) (v := ?_) rfl (by kernel_rfl) (by kernel_rfl) (by kernel_rfl) (by kernel_rfl) (fun _ _ _ h => h) (by rfl) ?_ hHeld ?_
      rotate_left
      · intro W hSW; (try dsimp only at hSW); unfold lc2; go_simp; with_reducible rfl
      simp only [lc2, Act.put, List.setIfInBounds_toArray, List.set_cons_zero, List.set_cons_succ]
      refine Tillst.take (i := 3) (oi := lc3) (v := ?_) rfl (by kernel_rfl) (by kernel_rfl) (by kernel_rfl) (by kernel_rfl) (fun _ _ _ h => h) (by rfl) ?_ hHeld ?_
      rotate_left
      · intro W' hSW; refine exec_load_row (.tmp 48) 35 ?_ l 1 ?_ [.int .i64 sec, .slice A2 m c3] _ hu35 rfl size_ring (HL1.out W' hSW) <;> rfl
      simp only [lc3, Act.put, List.setIfInBounds_toArray, List.set_cons_zero, List.set_cons_succ]
      refine Tillst.take (i := 4) (oi := lc4) (v := ?_) rfl (by kernel_rfl) (by kernel_rfl) (by kernel_rfl) (by kernel_rfl) (fun _ _ _ h => h) (by rfl) ?_ hHeld ?_
      rotate_left
      · intro W hSW; (try dsimp only at hSW); unfold lc4; go_simp; with_reducible rfl
      simp only [lc4, Act.put, List.setIfInBounds_toArray, List.set_cons_zero, List.set_cons_succ]
      refine Tillst.take (i := 5) (oi := lc5) (v := ?_) rfl (by kernel_rfl) (by kernel_rfl) (by kernel_rfl) (by kernel_rfl) (fun _ _ _ h => h) (by rfl) ?_ hHeld ?_
      rotate_left
      · intro W' hSW; have c2 := HG2.out W' hSW; unfold lc5; go_simp; with_reducible rfl
      simp only [lc5, Act.put, List.setIfInBounds_toArray, List.set_cons_zero, List.set_cons_succ]
      refine Tillst.two (i := 6) (j := 11) (o := lc6) (o' := lc11) (by kernel_rfl) rfl rfl ?_ ?_
      · intro K hK
        refine step_call 142 #[.tmp 49, .tmp 51] #[35, 30] rfl rfl Tryz.func142 rfl rfl [.agg #[.int .i64 sec, .slice A2 m c3], .int .u64 (s.g + 1)] rfl ?_
        refine (open_any (HOP.out _ hHeld) sec (s.g + 1)).mono ?_
        intro e v8 hopen
        obtain ⟨A9, c9, rfl, hown, hbn⟩ := hopen.told9
        have HOW := Lib.hid hown
        have HBN := Lib.hid hbn
        have hS8 := hbn
        clear hopen hown hbn
        refine ⟨_, rfl, ?_⟩
        simp only [lc6, Act.put, List.setIfInBounds_toArray, List.set_cons_zero, List.set_cons_succ]
        refine hK.out _ _ (fun _ => hS8) (fun hHeld => ?_)
        replace hHeld := hHeld (by decide)
        clear hK K hS8
        refine Tillst.take (i := 7) (oi := lc7) (v := ?_) rfl (by kernel_rfl) (by kernel_rfl) (by kernel_rfl) (by kernel_rfl) (fun _ _ _ h => h) (by rfl) ?_ hHeld ?_
        rotate_left
        · intro W hSW; (try dsimp only at hSW); unfold lc7; go_simp; with_reducible rfl
        simp only [lc7, Act.put, List.setIfInBounds_toArray, List.set_cons_zero, List.set_cons_succ]
        refine Tillst.take (i := 8) (oi := lc8) (v := ?_) rfl (by kernel_rfl) (by kernel_rfl) (by kernel_rfl) (by kernel_rfl) (fun _ _ _ h => h) (by rfl) ?_ hHeld ?_
        rotate_left
        · intro W hSW; (try dsimp only at hSW); unfold lc8; go_simp; with_reducible rfl
        simp only [lc8, Act.put, List.setIfInBounds_toArray, List.set_cons_zero, List.set_cons_succ]
        refine Tillst.take (i := 9) (oi := lc9) (v := ?_) rfl (by kernel_rfl) (by kernel_rfl) (by kernel_rfl) (by kernel_rfl) (fun _ _ _ h => h) (by rfl) ?_ hHeld ?_
        rotate_left
        · intro W hSW; (try dsimp only at hSW); unfold lc9; go_simp; with_reducible rfl
        simp only [lc9, Act.put, List.setIfInBounds_toArray, List.set_cons_zero, List.set_cons_succ]
        refine Tillst.take (i := 10) (oi := lc10) (v := ?_) rfl (by kernel_rfl) (by kernel_rfl) (by kernel_rfl) (by kernel_rfl) (fun _ _ _ h => h) (by rfl) ?_ hHeld ?_
        rotate_left
        · intro W hSW; (try dsimp only at hSW); unfold lc10; go_simp; with_reducible rfl
        simp only [lc10, Act.put, List.setIfInBounds_toArray, List.set_cons_zero, List.set_cons_succ]
        refine Tillst.one (i := 11) (o := lc11) (by kernel_rfl) rfl ?_
        intro K hK
        have hSA := hHeld.trans (((Below.refl (v8).heap.size (v8)).alloc (Nat.le_refl _) (.cells #[.int .i64 0, .slice none 0 0] 35)).mono hHeld.size)
        refine step_alloc_row 35 rfl rfl #[.int .i64 0, .slice none 0 0] zero_ring ?_
        simp only [lc11, Act.put, List.setIfInBounds_toArray, List.set_cons_zero, List.set_cons_succ]
        refine hK.out _ _ (fun _ => hSA) (fun hHeld => ?_)
        replace hHeld := hHeld (by decide)
        clear hK K hSA
        refine Tillst.one (i := 12) (o := lc12) (by kernel_rfl) rfl ?_
        intro K hK
        have hSA := below_setRow hHeld (g := v8.heap.size) HBN.out.size #[.int .i64 (pickS9 (openE sec (sealedX sec xs) (s.g + 1)) sec), .slice A9 (pickY9 (openE sec (sealedX sec xs) (s.g + 1)) (openX (sealedX sec xs) (s.g + 1))).length c9]
        refine step_store_row (.tmp 7) (.tmp 53) 35 rfl rfl (v8.heap.size) #[.int .i64 (pickS9 (openE sec (sealedX sec xs) (s.g + 1)) sec), .slice A9 (pickY9 (openE sec (sealedX sec xs) (s.g + 1)) (openX (sealedX sec xs) (s.g + 1))).length c9] rfl rfl 35 #[.int .i64 0, .slice none 0 0] (Blk.new v8 _ _) size_ring rfl (ring_one _ _ _ _) ?_
        simp only [lc12, Act.put, List.setIfInBounds_toArray, List.set_cons_zero, List.set_cons_succ]
        refine hK.out _ _ (fun _ => hSA) (fun hHeld => ?_)
        replace hHeld := hHeld (by decide)
        clear hK K hSA
        refine Tillst.one (i := 13) (o := lc13) (by kernel_rfl) rfl ?_
        intro K hK
        refine step_value ?_ rfl ?_ ?_
        rotate_left
        · unfold lc13; go_simp; with_reducible rfl
        simp only [lc13, Act.put, List.setIfInBounds_toArray, List.set_cons_zero, List.set_cons_succ]
        refine hK.out _ _ (fun _ => hHeld) (fun hHeld => ?_)
        replace hHeld := hHeld (by decide)
        clear hK K
        refine Tillst.one (i := 14) (o := lc14) (by kernel_rfl) rfl ?_
        intro K hK
        refine step_value ?_ rfl ?_ ?_
        rotate_left
        · unfold lc14; go_simp; with_reducible rfl
        simp only [lc14, Act.put, List.setIfInBounds_toArray, List.set_cons_zero, List.set_cons_succ]
        refine hK.out _ _ (fun _ => hHeld) (fun hHeld => ?_)
        replace hHeld := hHeld (by decide)
        clear hK K
        refine Tillst.done (by kernel_rfl) ?_ _
        refine hKK _ _ (Met.intro (hJ _ _ ?_))
        (repeat apply Exists.intro)
        exact ⟨OpnC.call HOW.out HBN.out, rfl⟩
      · intro K hK
        have hSA := hHeld.trans (((Below.refl (v6.drew).heap.size (v6.drew)).alloc (Nat.le_refl _) (.cells #[.int .i64 0, .slice none 0 0] 35)).mono hHeld.size)
        refine step_alloc_row 35 rfl rfl #[.int .i64 0, .slice none 0 0] zero_ring ?_
        simp only [lc11, Act.put, List.setIfInBounds_toArray, List.set_cons_zero, List.set_cons_succ]
        refine hK.out _ _ (fun _ => hSA) (fun hHeld => ?_)
        replace hHeld := hHeld (by decide)
        clear hK K hSA
        refine Tillst.one (i := 6) (o := lc6) (by kernel_rfl) rfl ?_
        intro K hK
        refine step_call 142 #[.tmp 49, .tmp 51] #[35, 30] rfl rfl Tryz.func142 rfl rfl [.agg #[.int .i64 sec, .slice A2 m c3], .int .u64 (s.g + 1)] rfl ?_
        refine (open_any (HOP.out _ hHeld) sec (s.g + 1)).mono ?_
        intro e v8 hopen
        obtain ⟨A9, c9, rfl, hown, hbn⟩ := hopen.told9
        have HOW := Lib.hid hown
        have HBN := Lib.hid hbn
        have hS8 := hHeld.trans (hbn.mono hHeld.size)
        clear hopen hown hbn
        refine ⟨_, rfl, ?_⟩
        simp only [lc6, Act.put, List.setIfInBounds_toArray, List.set_cons_zero, List.set_cons_succ]
        refine hK.out _ _ (fun _ => hS8) (fun hHeld => ?_)
        replace hHeld := hHeld (by decide)
        clear hK K hS8
        refine Tillst.take (i := 7) (oi := lc7) (v := ?_) rfl (by kernel_rfl) (by kernel_rfl) (by kernel_rfl) (by kernel_rfl) (fun _ _ _ h => h) (by rfl) ?_ hHeld ?_
        rotate_left
        · intro W hSW; (try dsimp only at hSW); unfold lc7; go_simp; with_reducible rfl
        simp only [lc7, Act.put, List.setIfInBounds_toArray, List.set_cons_zero, List.set_cons_succ]
        refine Tillst.take (i := 8) (oi := lc8) (v := ?_) rfl (by kernel_rfl) (by kernel_rfl) (by kernel_rfl) (by kernel_rfl) (fun _ _ _ h => h) (by rfl) ?_ hHeld ?_
        rotate_left
        · intro W hSW; (try dsimp only at hSW); unfold lc8; go_simp; with_reducible rfl
        simp only [lc8, Act.put, List.setIfInBounds_toArray, List.set_cons_zero, List.set_cons_succ]
        refine Tillst.take (i := 9) (oi := lc9) (v := ?_) rfl (by kernel_rfl) (by kernel_rfl) (by kernel_rfl) (by kernel_rfl) (fun _ _ _ h => h) (by rfl) ?_ hHeld ?_
        rotate_left
        · intro W hSW; (try dsimp only at hSW); unfold lc9; go_simp; with_reducible rfl
        simp only [lc9, Act.put, List.setIfInBounds_toArray, List.set_cons_zero, List.set_cons_succ]
        refine Tillst.take (i := 10) (oi := lc10) (v := ?_) rfl (by kernel_rfl) (by kernel_rfl) (by kernel_rfl) (by kernel_rfl) (fun _ _ _ h => h) (by rfl) ?_ hHeld ?_
        rotate_left
        · intro W hSW; (try dsimp only at hSW); unfold lc10; go_simp; with_reducible rfl
        simp only [lc10, Act.put, List.setIfInBounds_toArray, List.set_cons_zero, List.set_cons_succ]
        refine Tillst.one (i := 12) (o := lc12) (by kernel_rfl) rfl ?_
        intro K hK
        have hSA := below_setRow hHeld (g := v6.drew.heap.size) (Nat.le_refl _) #[.int .i64 (pickS9 (openE sec (sealedX sec xs) (s.g + 1)) sec), .slice A9 (pickY9 (openE sec (sealedX sec xs) (s.g + 1)) (openX (sealedX sec xs) (s.g + 1))).length c9]
        refine step_store_row (.tmp 7) (.tmp 53) 35 rfl rfl (v6.drew.heap.size) #[.int .i64 (pickS9 (openE sec (sealedX sec xs) (s.g + 1)) sec), .slice A9 (pickY9 (openE sec (sealedX sec xs) (s.g + 1)) (openX (sealedX sec xs) (s.g + 1))).length c9] rfl rfl 35 #[.int .i64 0, .slice none 0 0] (Blk.below (Blk.new v6.drew _ _) HBN.out (by simp)) size_ring rfl (ring_one _ _ _ _) ?_
        simp only [lc12, Act.put, List.setIfInBounds_toArray, List.set_cons_zero, List.set_cons_succ]
        refine hK.out _ _ (fun _ => hSA) (fun hHeld => ?_)
        replace hHeld := hHeld (by decide)
        clear hK K hSA
        refine Tillst.one (i := 13) (o := lc13) (by kernel_rfl) rfl ?_
        intro K hK
        refine step_value ?_ rfl ?_ ?_
        rotate_left
        · unfold lc13; go_simp; with_reducible rfl
        simp only [lc13, Act.put, List.setIfInBounds_toArray, List.set_cons_zero, List.set_cons_succ]
        refine hK.out _ _ (fun _ => hHeld) (fun hHeld => ?_)
        replace hHeld := hHeld (by decide)
        clear hK K
        refine Tillst.one (i := 14) (o := lc14) (by kernel_rfl) rfl ?_
        intro K hK
        refine step_value ?_ rfl ?_ ?_
        rotate_left
        · unfold lc14; go_simp; with_reducible rfl
        simp only [lc14, Act.put, List.setIfInBounds_toArray, List.set_cons_zero, List.set_cons_succ]
        refine hK.out _ _ (fun _ => hHeld) (fun hHeld => ?_)
        replace hHeld := hHeld (by decide)
        clear hK K
        refine Tillst.done (by kernel_rfl) ?_ _
        refine hKK _ _ (Met.intro (hJ _ _ ?_))
        (repeat apply Exists.intro)
        exact ⟨OpnC.laid HOW.out HBN.out, rfl⟩
    case rest =>
      obtain ⟨rfl, rfl, nb, A9, c9, rfl, hnb, hblk, hown, hbl⟩ := hcut
      have HNB := Lib.hid hnb
      have HNK := Lib.hid hblk
      have HOW := Lib.hid hown
      have HBL := Lib.hid hbl
      clear hnb hblk hown hbl
      have HB6 := Lib.hid ((Below.refl v6.heap.size v6).drew.trans HBL.out)
      obtain ⟨E, hE⟩ : ∃ E, openE sec (sealedX sec xs) (s.g + 1) = E := ⟨_, rfl⟩
      rw [hE] at HNK HOW
      have hE2 := hE
      have HE := Lib.hid hE2
      clear hE2
      by_cases hz : E = 0
      case neg =>
        have d1 : (E != 0) = true := by simpa using hz
        simp only [hE]
        have HEZ := Lib.hid hz
        clear hE hz
        go_wp2_with fail
        go_ret
        refine BegT.no (by rw [HE.out]; exact HEZ.out) (by rw [HE.out]; rfl) ?_ ?_ HMC2.out.1 HMC2.out.2
        · exact HL6.out.below HB6.out
        · exact HKX6.out.trans (Kept.of_below HB6.out (fun b h => Nat.lt_of_lt_of_le (HX.out b h) HKX6.out.size)) (fun b h => h)
      subst hz
      simp only [hE]
      rw [pickS9_zero, pickY9_zero] at HNK
      rw [pickY9_zero] at HOW
      obtain ⟨i, him, hi⟩ : ∃ i : Nat, i < m ∧ nxtR (sealedX sec xs) = (i : Int) := by
        rcases nxt_range (sealedX sec xs) with h | ⟨i, h1, h2⟩
        · exact absurd h (open_nxt HE.out)
        · exact ⟨i, by rw [← LogM.len9 HL6.out]; exact h1, h2⟩
      rw [hi]
      have HI := Lib.hid hi
      have HIM := Lib.hid him
      have HBH := Lib.hid (header_any i (s.g + 1) wc (by have := HSM.out.2.1; have := HMA.out; omega) ⟨by omega, hgm⟩)
      have g3 : wc.cell? ⟨w4.heap.size, 2, none⟩ = some (.int .u64 (s.g + 1)) := (HKB6.out.below HB6.out HKB6.out.lt).cell 2
      clear hE hi him
      go_wp2_with fail
      refine HBH.out.mono ?_
      rintro e w10 ⟨rfl, hb10⟩
      have HB10 := Lib.hid hb10
      obtain ⟨ys, hys⟩ : ∃ ys, hdrL i (s.g + 1) = ys := ⟨_, rfl⟩
      have HLY := Lib.hid (show ys.length = 64 by rw [← hys]; exact hdrL_length _ _)
      rw [hys]
      have HYS := Lib.hid hys
      clear hb10 hys g3 HBH
      go_upto_region 15 with (first | (refine wpList_alloc_blk rfl rfl ?_) | (refine wpList_store_new (.tmp 10) (.tmp 64) rfl rfl w10 ys rfl rfl (noughts 64) rfl (noughts_length 64) HLY.out ?_))
      have HBCZ := Lib.hid (show Below wc.heap.size wc ((w10.alloc (.cells (cells8 ys) 84)).alloc (.cells (cells8 ys) 84)) from HB10.out.trans ((((Below.refl w10.heap.size w10).alloc (Nat.le_refl _) (.cells (cells8 ys) 84)).alloc (by simp) (.cells (cells8 ys) 84)).mono HB10.out.size))
      have HBZ := Lib.hid (show Below v6.heap.size v6 ((w10.alloc (.cells (cells8 ys) 84)).alloc (.cells (cells8 ys) 84)) from HB6.out.trans (HBCZ.out.mono HB6.out.size))
      have HSZ := Lib.hid (show StoS ((w10.alloc (.cells (cells8 ys) 84)).alloc (.cells (cells8 ys) 84)) (fun b => (X b ∨ b = l ∨ R b) ∨ (v6.heap.size ≤ b ∧ b < ((w10.alloc (.cells (cells8 ys) 84)).alloc (.cells (cells8 ys) 84)).heap.size)) p d n (genS s) (nxt t) (setK k s t) from StoreM.grow HS6B.out HBZ.out)
      have HYZ := Lib.hid (show ∀ b, (fun b => (X b ∨ b = l ∨ R b) ∨ (v6.heap.size ≤ b ∧ b < ((w10.alloc (.cells (cells8 ys) 84)).alloc (.cells (cells8 ys) 84)).heap.size)) b → b < ((w10.alloc (.cells (cells8 ys) 84)).alloc (.cells (cells8 ys) 84)).heap.size from grow_lt (fun b h => Nat.lt_of_lt_of_le (HY0.out b h) HSZ6.out) HBZ.out.size)
      have HGK := Lib.hid (show Good (setK k s t) from (HG.out.put _ _).sync)
      have HPK := Lib.hid (show (setK k s t).pend = [] from (HG.out.put _ _).pend_sync)
      have HC0 := Lib.hid (show ((w10.alloc (.cells (cells8 ys) 84)).alloc (.cells (cells8 ys) 84)).cell? ⟨l, 0, none⟩ = some (.pointer (some ⟨p, 0, none⟩)) from (HBK6.out.below HBZ.out HBK6.out.lt).cell 0)
      have hwr := (beg_write HSZ.out HYZ.out (.inl (.inr (.inl rfl))) HC0.out (.inr ⟨by have := HB6.out.size; have := HB10.out.size; have h : (w10.alloc (.cells (cells8 ys) 84)).heap.size = w10.heap.size + 1 := (by simp); omega, by simp⟩) (Blk.new (w10.alloc (.cells (cells8 ys) 84)) _ _) HLY.out (show Bytes ys by rw [← HYS.out]; exact hdr_bytes _ _ (by have := HIM.out; have := HMA.out; have := HSM.out.2.1; omega)) i (by have := HIM.out; have := HMA.out; omega) HSM.out HRM.out HNN.out HGK.out HPK.out)
      rw [show (w10.alloc (.cells (cells8 ys) 84)).heap.size = w10.heap.size + 1 from (by simp)] at hwr
      have HWR := Lib.hid hwr
      clear hwr
      have HRL := Lib.hid (show (w10.alloc (.cells (cells8 ys) 84)).rangeAt w10.heap.size 0 (ys.map (Value.int .u8)) from (show ArrB (w10.alloc (.cells (cells8 ys) 84)) w10.heap.size ys from Blk.new w10 _ _).range)
      have hll : l < v6.heap.size := HBK6.out.lt
      have HLL6 := Lib.hid hll
      clear hll
      go_wp2_with (first | (refine wpList_load_blk (.tmp 10) rfl rfl w10.heap.size 0 rfl ys HLY.out HRL.out ?_) | (refine wpList_lit_sec (.tmp 71) rfl rfl ys rfl HLY.out ?_))
      refine HWR.out.mono ?_
      rintro e w12 ⟨rfl, hs12, hk12⟩
      have HS12 := Lib.hid hs12
      have HK12 := Lib.hid hk12
      clear hs12 hk12
      have c0 : w12.cell? ⟨l, 0, none⟩ = some (.pointer (some ⟨p, 0, none⟩)) := (HK12.out.cell (p := ⟨l, 0, none⟩) (.inl (.inr (.inl rfl)))).trans HC0.out
      go_wp2_with fail
      refine (sto_disk HS12.out).mono ?_
      rintro e w' ⟨rfl, rfl⟩
      go_wp2_with fail
      have hsy := sync_k HS12.out.2.1 (fun b h => by rcases h with h | h; exact Nat.lt_of_lt_of_le (HYZ.out b h) HK12.out.size; rw [h]; exact HS12.out.1.lt)
      rw [(HGK.out.put _ _).wre] at hsy
      refine hsy.mono ?_
      rintro e w13 ⟨rfl, hd13, hk13⟩
      have HS13 := Lib.hid (show StoS w13 (fun b => (X b ∨ b = l ∨ R b) ∨ (v6.heap.size ≤ b ∧ b < ((w10.alloc (.cells (cells8 ys) 84)).alloc (.cells (cells8 ys) 84)).heap.size)) p d n (genS s) (nxt t) (begK k s t (i : Int)) from by unfold begK; rw [Int.toNat_natCast, HYS.out]; exact ⟨HS12.out.1.kept hk13 (.inr rfl), hd13, HS12.out.2.2⟩)
      have HKW := Lib.hid (HK12.out.trans hk13 (fun b h => .inl h))
      clear c0 hsy hd13 hk13 HS12 HK12 HWR HSZ
      have HB13 := Lib.hid ((HBK6.out.below HBZ.out HBK6.out.lt).kept HKW.out (.inl (.inr (.inl rfl))))
      have HN13 := Lib.hid ((HNK.out.below HBCZ.out HNK.out.lt).kept HKW.out (.inr ⟨HNB.out, Nat.lt_of_lt_of_le HNK.out.lt HBCZ.out.size⟩))
      have HR13 := Lib.hid ((HOW.out.row.below HBCZ.out (fun b h => h.2)).kept HKW.out (fun b h => .inr ⟨h.1, Nat.lt_of_lt_of_le h.2 HBCZ.out.size⟩))
      obtain ⟨k0, k1⟩ := ring_cells HN13.out
      obtain ⟨f1, f2⟩ := And.intro (HB13.out.frozen 1) (HB13.out.frozen 2)
      have hneq : nb ≠ l := by have h1 := HLL6.out; have h2 : v6.heap.size ≤ nb := HNB.out; omega
      have b1 : w13.cell? ⟨l, 1, none⟩ = some (.int .i64 sec) := HB13.out.cell 1
      have b2 : w13.cell? ⟨l, 2, none⟩ = some (.slice A2 m c3) := HB13.out.cell 2
      go_wp2_with fail
      go_ret
      have hSZ2 : wc.heap.size ≤ w13.heap.size := Nat.le_trans HBCZ.out.size HKW.out.size
      have hsub : ∀ b, (X b ∨ b = l ∨ From v6.drew.heap.size wc b) → (fun b => (X b ∨ b = l ∨ R b) ∨ (v6.heap.size ≤ b ∧ b < ((w10.alloc (.cells (cells8 ys) 84)).alloc (.cells (cells8 ys) 84)).heap.size)) b := fun b h => by
        rcases h with h | h | h
        · exact .inl (.inl h)
        · exact .inl (.inr (.inl h))
        · exact .inr ⟨h.1, Nat.lt_of_lt_of_le h.2 HBCZ.out.size⟩
      have hfr : ∀ b, From v6.drew.heap.size wc b → b < w13.heap.size ∧ b ≠ l := fun b h => by
        have h1 := HLL6.out
        have h2 : v6.heap.size ≤ b := h.1
        have h3 := h.2
        omega
      have hlog := LogM.lay (sec := sec) (c2 := c9) HB13.out HXL.out (StoreM.kept (Z := fun _ => True) HS13.out (Kept.refl _ _) (fun _ _ _ => trivial) (fun b _ h => hsub b h)) HR13.out hfr
      refine BegT.yes HE.out (by rw [HE.out]; rfl) (by rw [HI.out]; exact hlog) ?_ HOW.out.2.2.2 HOW.out.2.2.1
      exact (((HKX6.out.trans (Kept.of_below HBZ.out (fun b h => Nat.lt_of_lt_of_le (HX.out b h) HKX6.out.size)) (fun b h => h)).trans HKW.out (fun b h => .inl (.inl h))).setCell (p := ⟨l, 1, none⟩) HXL.out _).setCell (p := ⟨l, 2, none⟩) HXL.out _
  · have hal := (Below.refl w2.heap.size w2).alloc (Nat.le_refl _) (.cells #[.int .i64 0, .slice none 0 0] 35)
    have hbz := hb2.trans (hal.mono hb2.size)
    have HBG := Lib.hid (show BegC w X l p d n s t k sec m (sealedX sec xs) (w2.alloc (.cells #[.int .i64 0, .slice none 0 0] 35)) from ⟨A, c, by unfold sealedX; rw [if_neg hno]; exact HL.out.below hbz, Kept.of_below hbz HX.out, HMC.out.1, HMC.out.2⟩)
    have d1 : (sealE sec xs == 0) = false := by simpa using hno
    generalize sealE sec xs = E at *
    clear hal hbz hb2 c1 c2 hno
    go_upto_region 4 with fail
    generalize w2.alloc (.cells #[.int .i64 0, .slice none 0 0] 35) = wx at *
    clear d1
    obtain ⟨A2, c3, hlm, hkx, hmc2, hnil2⟩ := HBG.out
    obtain ⟨hb, hxl, R, hs, hrow, hR⟩ := hlm
    have HBK := Lib.hid hb
    have HS := Lib.hid hs
    have HRO := Lib.hid hrow
    have HRR := Lib.hid hR
    have HKX := Lib.hid hkx
    have HMC2 := Lib.hid (And.intro hmc2 hnil2)
    have HXL := Lib.hid hxl
    have HY0 := Lib.hid (show ∀ b, (X b ∨ b = l ∨ R b) → b < wx.heap.size from fun b h => by
      rcases h with h | h | h
      · exact Nat.lt_of_lt_of_le (HX.out b h) hkx.size
      · rw [h]; exact hb.lt
      · exact (hR b h).1)
    have c0 : wx.cell? ⟨l, 0, none⟩ = some (.pointer (some ⟨p, 0, none⟩)) := hb.cell 0
    clear hb hxl hs hrow hR hkx hmc2 hnil2
    go_wp2_with fail
    refine (get_any HS.out).mono ?_
    rintro e w4 ⟨rfl, hb4⟩
    have hbk : Below wx.heap.size wx (w4.alloc (.cells #[.int .i64 s.a, .int .i64 s.b, .int .u64 s.g, .int .u64 s.r, .int .u64 s.v, .int .u64 s.f] 32)) := hb4.alloc hb4.size _
    have hb5 : Below wx.heap.size wx (w4.alloc (.cells #[.int .i64 s.a, .int .i64 s.b, .int .u64 (s.g + 1), .int .u64 s.r, .int .u64 s.v, .int .u64 s.f] 32)) := hb4.alloc hb4.size _
    have HK4 := Lib.hid (show Blk (w4.alloc (.cells #[.int .i64 s.a, .int .i64 s.b, .int .u64 s.g, .int .u64 s.r, .int .u64 s.v, .int .u64 s.f] 32)) w4.heap.size 32 (supC s.a s.b s.g s.r s.v s.f) from Blk.new w4 _ _)
    have HK5 := Lib.hid (show Blk (w4.alloc (.cells #[.int .i64 s.a, .int .i64 s.b, .int .u64 (s.g + 1), .int .u64 s.r, .int .u64 s.v, .int .u64 s.f] 32)) w4.heap.size 32 (supC s.a s.b (s.g + 1) s.r s.v s.f) from Blk.new w4 _ _)
    have HB5 := Lib.hid hb5
    have HZ5 := Lib.hid (show wx.heap.size ≤ w4.heap.size from hb4.size)
    have g2 : (w4.alloc (.cells #[.int .i64 s.a, .int .i64 s.b, .int .u64 s.g, .int .u64 s.r, .int .u64 s.v, .int .u64 s.f] 32)).cell? ⟨w4.heap.size, 2, none⟩ = some (.int .u64 s.g) := HK4.out.cell 2
    have f2 := HK4.out.frozen 2
    clear hb4 hbk hb5 c0
    go_upto_region 6 with fail
    generalize (w4.alloc (.cells #[.int .i64 s.a, .int .i64 s.b, .int .u64 (s.g + 1), .int .u64 s.r, .int .u64 s.v, .int .u64 s.f] 32)) = w5 at *
    clear g2 f2
    have HS5 := Lib.hid (StoreM.grow HS.out HB5.out.drew)
    have HX5 := Lib.hid (grow_lt (w' := w5.drew) HY0.out HB5.out.drew.size)
    have hK5 : w5.drew.rangeAt w4.heap.size 0 (supC s.a s.b (s.g + 1) s.r s.v s.f).toList := Blk.rangeL (cs := (supC s.a s.b (s.g + 1) s.r s.v s.f).toList) HK5.out.drew
    have hc5 : w5.drew.cell? ⟨l, 0, none⟩ = some (.pointer (some ⟨p, 0, none⟩)) := (HBK.out.below HB5.out.drew HBK.out.lt).cell 0
    have hu32 := Tryz.underlying32
    have hs32 : (Tryz.prog.info? 32).map (·.size) = some (supC s.a s.b (s.g + 1) s.r s.v s.f).toList.length := size_sup
    have HSET := Lib.hid (set_go HS5.out HX5.out (s.g + 1) s.r s.v s.f (by obtain ⟨h1, h2, h3, h4, h5⟩ := HSM.out; exact ⟨h1, h2, h3, h4, by omega⟩) (by have h := HSI.out; unfold Sup.In InS at h; unfold InS; omega) (by unfold BackS; omega) hn (by have := HP.out; omega) HG.out.wre (HG.out.put _ _).wre)
    refine wp_region_noPanic ?_
    refine Tillst.region (fun W => W.cell? ⟨l, 0, none⟩ = some (.pointer (some ⟨p, 0, none⟩)) ∧ W.rangeAt w4.heap.size 0 (supC s.a s.b (s.g + 1) s.r s.v s.f).toList) [] (by kernel_rfl) ⟨hc5, hK5⟩ (fun hHeld => ?_)
    have HDW := Lib.hid (show w4.heap.size < w5.drew.heap.size from HK5.out.drew.lt)
    have HB5D := Lib.hid HB5.out.drew
    have HKD := Lib.hid HK5.out.drew
    generalize w5.drew = vd at *
    refine Tillst.take (i := 0) (oi := lb0) (v := ?_) rfl (by kernel_rfl) (by kernel_rfl) (by kernel_rfl) (by kernel_rfl) (fun _ _ _ h => h) (by rfl) ?_ hHeld ?_
    rotate_left
    · intro W hSW; (try dsimp only at hSW); unfold lb0; go_simp; with_reducible rfl
    simp only [lb0, Act.put, List.setIfInBounds_toArray, List.set_cons_zero, List.set_cons_succ]
    refine Tillst.take (i := 1) (oi := lb1) (v := ?_) rfl (by kernel_rfl) (by kernel_rfl) (by kernel_rfl) (by kernel_rfl) (fun _ _ _ h => h) (by rfl) ?_ hHeld ?_
    rotate_left
    · intro W hSW; (try dsimp only at hSW); unfold lb1; go_simp; with_reducible rfl
    simp only [lb1, Act.put, List.setIfInBounds_toArray, List.set_cons_zero, List.set_cons_succ]
    refine Tillst.take (i := 2) (oi := lb2) (v := ?_) rfl (by kernel_rfl) (by kernel_rfl) (by kernel_rfl) (by kernel_rfl) (fun _ _ _ h => h) (by rfl) ?_ hHeld ?_
    rotate_left
    · intro W hSW; (try dsimp only at hSW); unfold lb2; go_simp; with_reducible rfl
    simp only [lb2, Act.put, List.setIfInBounds_toArray, List.set_cons_zero, List.set_cons_succ]
    refine Tillst.take (i := 3) (oi := lb3) (v := ?_) rfl (by kernel_rfl) (by kernel_rfl) (by kernel_rfl) (by kernel_rfl) (fun _ _ _ h => h) (by rfl) ?_ hHeld ?_
    rotate_left
    · intro W' hSW; have c0 := hSW.1; unfold lb3; go_simp; with_reducible rfl
    simp only [lb3, Act.put, List.setIfInBounds_toArray, List.set_cons_zero, List.set_cons_succ]
    refine Tillst.take (i := 4) (oi := lb4) (v := ?_) rfl (by kernel_rfl) (by kernel_rfl) (by kernel_rfl) (by kernel_rfl) (fun _ _ _ h => h) (by rfl) ?_ hHeld ?_
    rotate_left
    · intro W' hSW; refine exec_load_row (.tmp 5) 32 ?_ w4.heap.size 0 ?_ (supC s.a s.b (s.g + 1) s.r s.v s.f).toList _ hu32 rfl hs32 hSW.2 <;> rfl
    simp only [lb4, Act.put, List.setIfInBounds_toArray, List.set_cons_zero, List.set_cons_succ]
    refine Tillst.one (i := 5) (o := lb5) (by kernel_rfl) rfl ?_
    intro K hK
    refine step_call 70 #[.tmp 39, .tmp 40] #[70, 32] rfl rfl Tryz.func70 rfl rfl [.pointer (some ⟨p, 0, none⟩), .agg (supC s.a s.b (s.g + 1) s.r s.v s.f)] rfl ?_
    refine HSET.out.mono ?_
    rintro e v6 ⟨rfl, hs6, hk6⟩
    have HS6 := Lib.hid hs6
    have HK6 := Lib.hid hk6
    have hS6 := And.intro (show v6.cell? ⟨l, 0, none⟩ = some (.pointer (some ⟨p, 0, none⟩)) from (hk6.cell (p := ⟨l, 0, none⟩) (.inl (.inr (.inl rfl)))).trans hHeld.1) (show v6.rangeAt w4.heap.size 0 (supC s.a s.b (s.g + 1) s.r s.v s.f).toList from fun q u hu => (hk6.cell (p := ⟨w4.heap.size, 0 + q, none⟩) (.inr ⟨HZ5.out, HDW.out⟩)).trans (hHeld.2 q u hu))
    clear hs6 hk6
    refine ⟨_, rfl, ?_⟩
    simp only [lb5, Act.put, List.setIfInBounds_toArray, List.set_cons_zero, List.set_cons_succ]
    refine hK.out _ _ (fun _ => hS6) (fun hHeld => ?_)
    replace hHeld := hHeld (by decide)
    clear hK K hS6
    refine Tillst.one (i := 6) (o := lb6) (by kernel_rfl) rfl ?_
    intro K hK
    refine step_value ?_ rfl ?_ ?_
    rotate_left
    · unfold lb6; go_simp; with_reducible rfl
    simp only [lb6, Act.put, List.setIfInBounds_toArray, List.set_cons_zero, List.set_cons_succ]
    refine hK.out _ _ (fun _ => hHeld) (fun hHeld => ?_)
    replace hHeld := hHeld (by decide)
    clear hK K
    refine Tillst.done (by kernel_rfl) ?_ _
    refine NoPanic.normal ?_
    clear hHeld hK5 hc5 hs32 hu32
    have HR6 := Lib.hid ((HRO.out.below HB5D.out (fun b h => (HRR.out b h).1)).kept HK6.out (fun b h => .inl (.inr (.inr h))))
    have HBK6 := Lib.hid ((HBK.out.below HB5D.out HBK.out.lt).kept HK6.out (.inl (.inr (.inl rfl))))
    have HSZ6 := Lib.hid (Nat.le_trans HB5D.out.size HK6.out.size)
    have HS6B := Lib.hid (show StoS v6 (fun b => X b ∨ b = l ∨ R b) p d n (genS s) (nxt t) (setK k s t) from StoreM.kept (Z := fun _ => True) HS6.out (Kept.refl _ _) (fun _ _ _ => trivial) (fun b _ h => .inl h))
    have HL6 := Lib.hid (show LogM v6 X l p d n ⟨s.a, s.b, s.g + 1, s.r, s.v, s.f⟩ (nxt t) (setK k s t) sec A2 m c3 (sealedX sec xs) false from ⟨HBK6.out, HXL.out, R, StoreM.kept (Z := fun _ => True) HS6.out (Kept.refl _ _) (fun _ _ _ => trivial) (fun b _ h => .inl h), HR6.out, fun b h => ⟨Nat.lt_of_lt_of_le (HRR.out b h).1 HSZ6.out, (HRR.out b h).2⟩⟩)
    have HKX6 := Lib.hid (HKX.out.trans (Kept.of_below HB5D.out (fun b (h : X b) => HY0.out b (.inl h)) |>.trans HK6.out (fun b h => .inl (.inl h))) (fun b h => h))
    have HKB6 := Lib.hid (HKD.out.kept HK6.out (.inr ⟨HZ5.out, HDW.out⟩))
    clear HB5 HK4 HK5 HB5D HKD HSET HS5 HX5 HS6 HK6 HDW HS HRO HBK
    go_upto_region 9 with fail
    go_cut [7, 8, 9] (fun t i e wy => OpnC v6.drew sec (sealedX sec xs) (s.g + 1) t i e wy)
    case first J KK hJ hKK =>
      have HOP := Lib.hid (show ∀ W, Below v6.drew.heap.size v6.drew W → RowZ W (· < W.heap.size) A2 m (sealedX sec xs) from fun W hW => (HL6.out.now.below ((Below.refl v6.heap.size v6).drew.trans hW) (fun b h => h)).more (fun b h => Nat.lt_of_lt_of_le h (by have := hW.size; have := (Below.refl v6.heap.size v6).drew.size; omega)))
      have HL1 := Lib.hid (show ∀ W, Below v6.drew.heap.size v6.drew W → W.rangeAt l 1 [.int .i64 sec, .slice A2 m c3] from fun W hW q u hu => by
        have hb := HBK6.out.drew.below hW HBK6.out.drew.lt
        match q, hu with
        | 0, hu => exact (hb.cell 1).trans hu
        | 1, hu => exact (hb.cell 2).trans hu)
      have HG2 := Lib.hid (show ∀ W, Below v6.drew.heap.size v6.drew W → W.cell? ⟨w4.heap.size, 2, none⟩ = some (.int .u64 (s.g + 1)) from fun W hW => (HKB6.out.drew.below hW HKB6.out.drew.lt).cell 2)
      have hu35 := Tryz.underlying35
      refine wp_region_noPanic ?_
      refine Tillst.region (fun W => Below v6.drew.heap.size v6.drew W) [] (by kernel_rfl) (Below.refl _ _) (fun hHeld => ?_)
      refine Tillst.take (i := 0) (oi := lc0) (v := ?_) rfl (by kernel_rfl) (by kernel_rfl) (by kernel_rfl) (by kernel_rfl) (fun _ _ _ h => h) (by rfl) ?_ hHeld ?_
      rotate_left
      · intro W hSW; (try dsimp only at hSW); unfold lc0; go_simp; with_reducible rfl
      simp only [lc0, Act.put, List.setIfInBounds_toArray, List.set_cons_zero, List.set_cons_succ]
      refine Tillst.take (i := 1) (oi := lc1) (v := ?_) rfl (by kernel_rfl) (by kernel_rfl) (by kernel_rfl) (by kernel_rfl) (fun _ _ _ h => h) (by rfl) ?_ hHeld ?_
      rotate_left
      · intro W hSW; (try dsimp only at hSW); unfold lc1; go_simp; with_reducible rfl
      simp only [lc1, Act.put, List.setIfInBounds_toArray, List.set_cons_zero, List.set_cons_succ]
      refine Tillst.take (i := 2) (oi := lc2) (v := ?_) rfl (by kernel_rfl) (by kernel_rfl) (by kernel_rfl) (by kernel_rfl) (fun _ _ _ h => h) (by rfl) ?_ hHeld ?_
      rotate_left
      · intro W hSW; (try dsimp only at hSW); unfold lc2; go_simp; with_reducible rfl
      simp only [lc2, Act.put, List.setIfInBounds_toArray, List.set_cons_zero, List.set_cons_succ]
      refine Tillst.take (i := 3) (oi := lc3) (v := ?_) rfl (by kernel_rfl) (by kernel_rfl) (by kernel_rfl) (by kernel_rfl) (fun _ _ _ h => h) (by rfl) ?_ hHeld ?_
      rotate_left
      · intro W' hSW; refine exec_load_row (.tmp 48) 35 ?_ l 1 ?_ [.int .i64 sec, .slice A2 m c3] _ hu35 rfl size_ring (HL1.out W' hSW) <;> rfl
      simp only [lc3, Act.put, List.setIfInBounds_toArray, List.set_cons_zero, List.set_cons_succ]
      refine Tillst.take (i := 4) (oi := lc4) (v := ?_) rfl (by kernel_rfl) (by kernel_rfl) (by kernel_rfl) (by kernel_rfl) (fun _ _ _ h => h) (by rfl) ?_ hHeld ?_
      rotate_left
      · intro W hSW; (try dsimp only at hSW); unfold lc4; go_simp; with_reducible rfl
      simp only [lc4, Act.put, List.setIfInBounds_toArray, List.set_cons_zero, List.set_cons_succ]
      refine Tillst.take (i := 5) (oi := lc5) (v := ?_) rfl (by kernel_rfl) (by kernel_rfl) (by kernel_rfl) (by kernel_rfl) (fun _ _ _ h => h) (by rfl) ?_ hHeld ?_
      rotate_left
      · intro W' hSW; have c2 := HG2.out W' hSW; unfold lc5; go_simp; with_reducible rfl
      simp only [lc5, Act.put, List.setIfInBounds_toArray, List.set_cons_zero, List.set_cons_succ]
      refine Tillst.two (i := 6) (j := 11) (o := lc6) (o' := lc11) (by kernel_rfl) rfl rfl ?_ ?_
      · intro K hK
        refine step_call 142 #[.tmp 49, .tmp 51] #[35, 30] rfl rfl Tryz.func142 rfl rfl [.agg #[.int .i64 sec, .slice A2 m c3], .int .u64 (s.g + 1)] rfl ?_
        refine (open_any (HOP.out _ hHeld) sec (s.g + 1)).mono ?_
        intro e v8 hopen
        obtain ⟨A9, c9, rfl, hown, hbn⟩ := hopen.told9
        have HOW := Lib.hid hown
        have HBN := Lib.hid hbn
        have hS8 := hbn
        clear hopen hown hbn
        refine ⟨_, rfl, ?_⟩
        simp only [lc6, Act.put, List.setIfInBounds_toArray, List.set_cons_zero, List.set_cons_succ]
        refine hK.out _ _ (fun _ => hS8) (fun hHeld => ?_)
        replace hHeld := hHeld (by decide)
        clear hK K hS8
        refine Tillst.take (i := 7) (oi := lc7) (v := ?_) rfl (by kernel_rfl) (by kernel_rfl) (by kernel_rfl) (by kernel_rfl) (fun _ _ _ h => h) (by rfl) ?_ hHeld ?_
        rotate_left
        · intro W hSW; (try dsimp only at hSW); unfold lc7; go_simp; with_reducible rfl
        simp only [lc7, Act.put, List.setIfInBounds_toArray, List.set_cons_zero, List.set_cons_succ]
        refine Tillst.take (i := 8) (oi := lc8) (v := ?_) rfl (by kernel_rfl) (by kernel_rfl) (by kernel_rfl) (by kernel_rfl) (fun _ _ _ h => h) (by rfl) ?_ hHeld ?_
        rotate_left
        · intro W hSW; (try dsimp only at hSW); unfold lc8; go_simp; with_reducible rfl
        simp only [lc8, Act.put, List.setIfInBounds_toArray, List.set_cons_zero, List.set_cons_succ]
        refine Tillst.take (i := 9) (oi := lc9) (v := ?_) rfl (by kernel_rfl) (by kernel_rfl) (by kernel_rfl) (by kernel_rfl) (fun _ _ _ h => h) (by rfl) ?_ hHeld ?_
        rotate_left
        · intro W hSW; (try dsimp only at hSW); unfold lc9; go_simp; with_reducible rfl
        simp only [lc9, Act.put, List.setIfInBounds_toArray, List.set_cons_zero, List.set_cons_succ]
        refine Tillst.take (i := 10) (oi := lc10) (v := ?_) rfl (by kernel_rfl) (by kernel_rfl) (by kernel_rfl) (by kernel_rfl) (fun _ _ _ h => h) (by rfl) ?_ hHeld ?_
        rotate_left
        · intro W hSW; (try dsimp only at hSW); unfold lc10; go_simp; with_reducible rfl
        simp only [lc10, Act.put, List.setIfInBounds_toArray, List.set_cons_zero, List.set_cons_succ]
        refine Tillst.one (i := 11) (o := lc11) (by kernel_rfl) rfl ?_
        intro K hK
        have hSA := hHeld.trans (((Below.refl (v8).heap.size (v8)).alloc (Nat.le_refl _) (.cells #[.int .i64 0, .slice none 0 0] 35)).mono hHeld.size)
        refine step_alloc_row 35 rfl rfl #[.int .i64 0, .slice none 0 0] zero_ring ?_
        simp only [lc11, Act.put, List.setIfInBounds_toArray, List.set_cons_zero, List.set_cons_succ]
        refine hK.out _ _ (fun _ => hSA) (fun hHeld => ?_)
        replace hHeld := hHeld (by decide)
        clear hK K hSA
        refine Tillst.one (i := 12) (o := lc12) (by kernel_rfl) rfl ?_
        intro K hK
        have hSA := below_setRow hHeld (g := v8.heap.size) HBN.out.size #[.int .i64 (pickS9 (openE sec (sealedX sec xs) (s.g + 1)) sec), .slice A9 (pickY9 (openE sec (sealedX sec xs) (s.g + 1)) (openX (sealedX sec xs) (s.g + 1))).length c9]
        refine step_store_row (.tmp 7) (.tmp 53) 35 rfl rfl (v8.heap.size) #[.int .i64 (pickS9 (openE sec (sealedX sec xs) (s.g + 1)) sec), .slice A9 (pickY9 (openE sec (sealedX sec xs) (s.g + 1)) (openX (sealedX sec xs) (s.g + 1))).length c9] rfl rfl 35 #[.int .i64 0, .slice none 0 0] (Blk.new v8 _ _) size_ring rfl (ring_one _ _ _ _) ?_
        simp only [lc12, Act.put, List.setIfInBounds_toArray, List.set_cons_zero, List.set_cons_succ]
        refine hK.out _ _ (fun _ => hSA) (fun hHeld => ?_)
        replace hHeld := hHeld (by decide)
        clear hK K hSA
        refine Tillst.one (i := 13) (o := lc13) (by kernel_rfl) rfl ?_
        intro K hK
        refine step_value ?_ rfl ?_ ?_
        rotate_left
        · unfold lc13; go_simp; with_reducible rfl
        simp only [lc13, Act.put, List.setIfInBounds_toArray, List.set_cons_zero, List.set_cons_succ]
        refine hK.out _ _ (fun _ => hHeld) (fun hHeld => ?_)
        replace hHeld := hHeld (by decide)
        clear hK K
        refine Tillst.one (i := 14) (o := lc14) (by kernel_rfl) rfl ?_
        intro K hK
        refine step_value ?_ rfl ?_ ?_
        rotate_left
        · unfold lc14; go_simp; with_reducible rfl
        simp only [lc14, Act.put, List.setIfInBounds_toArray, List.set_cons_zero, List.set_cons_succ]
        refine hK.out _ _ (fun _ => hHeld) (fun hHeld => ?_)
        replace hHeld := hHeld (by decide)
        clear hK K
        refine Tillst.done (by kernel_rfl) ?_ _
        refine hKK _ _ (Met.intro (hJ _ _ ?_))
        (repeat apply Exists.intro)
        exact ⟨OpnC.call HOW.out HBN.out, rfl⟩
      · intro K hK
        have hSA := hHeld.trans (((Below.refl (v6.drew).heap.size (v6.drew)).alloc (Nat.le_refl _) (.cells #[.int .i64 0, .slice none 0 0] 35)).mono hHeld.size)
        refine step_alloc_row 35 rfl rfl #[.int .i64 0, .slice none 0 0] zero_ring ?_
        simp only [lc11, Act.put, List.setIfInBounds_toArray, List.set_cons_zero, List.set_cons_succ]
        refine hK.out _ _ (fun _ => hSA) (fun hHeld => ?_)
        replace hHeld := hHeld (by decide)
        clear hK K hSA
        refine Tillst.one (i := 6) (o := lc6) (by kernel_rfl) rfl ?_
        intro K hK
        refine step_call 142 #[.tmp 49, .tmp 51] #[35, 30] rfl rfl Tryz.func142 rfl rfl [.agg #[.int .i64 sec, .slice A2 m c3], .int .u64 (s.g + 1)] rfl ?_
        refine (open_any (HOP.out _ hHeld) sec (s.g + 1)).mono ?_
        intro e v8 hopen
        obtain ⟨A9, c9, rfl, hown, hbn⟩ := hopen.told9
        have HOW := Lib.hid hown
        have HBN := Lib.hid hbn
        have hS8 := hHeld.trans (hbn.mono hHeld.size)
        clear hopen hown hbn
        refine ⟨_, rfl, ?_⟩
        simp only [lc6, Act.put, List.setIfInBounds_toArray, List.set_cons_zero, List.set_cons_succ]
        refine hK.out _ _ (fun _ => hS8) (fun hHeld => ?_)
        replace hHeld := hHeld (by decide)
        clear hK K hS8
        refine Tillst.take (i := 7) (oi := lc7) (v := ?_) rfl (by kernel_rfl) (by kernel_rfl) (by kernel_rfl) (by kernel_rfl) (fun _ _ _ h => h) (by rfl) ?_ hHeld ?_
        rotate_left
        · intro W hSW; (try dsimp only at hSW); unfold lc7; go_simp; with_reducible rfl
        simp only [lc7, Act.put, List.setIfInBounds_toArray, List.set_cons_zero, List.set_cons_succ]
        refine Tillst.take (i := 8) (oi := lc8) (v := ?_) rfl (by kernel_rfl) (by kernel_rfl) (by kernel_rfl) (by kernel_rfl) (fun _ _ _ h => h) (by rfl) ?_ hHeld ?_
        rotate_left
        · intro W hSW; (try dsimp only at hSW); unfold lc8; go_simp; with_reducible rfl
        simp only [lc8, Act.put, List.setIfInBounds_toArray, List.set_cons_zero, List.set_cons_succ]
        refine Tillst.take (i := 9) (oi := lc9) (v := ?_) rfl (by kernel_rfl) (by kernel_rfl) (by kernel_rfl) (by kernel_rfl) (fun _ _ _ h => h) (by rfl) ?_ hHeld ?_
        rotate_left
        · intro W hSW; (try dsimp only at hSW); unfold lc9; go_simp; with_reducible rfl
        simp only [lc9, Act.put, List.setIfInBounds_toArray, List.set_cons_zero, List.set_cons_succ]
        refine Tillst.take (i := 10) (oi := lc10) (v := ?_) rfl (by kernel_rfl) (by kernel_rfl) (by kernel_rfl) (by kernel_rfl) (fun _ _ _ h => h) (by rfl) ?_ hHeld ?_
        rotate_left
        · intro W hSW; (try dsimp only at hSW); unfold lc10; go_simp; with_reducible rfl
        simp only [lc10, Act.put, List.setIfInBounds_toArray, List.set_cons_zero, List.set_cons_succ]
        refine Tillst.one (i := 12) (o := lc12) (by kernel_rfl) rfl ?_
        intro K hK
        have hSA := below_setRow hHeld (g := v6.drew.heap.size) (Nat.le_refl _) #[.int .i64 (pickS9 (openE sec (sealedX sec xs) (s.g + 1)) sec), .slice A9 (pickY9 (openE sec (sealedX sec xs) (s.g + 1)) (openX (sealedX sec xs) (s.g + 1))).length c9]
        refine step_store_row (.tmp 7) (.tmp 53) 35 rfl rfl (v6.drew.heap.size) #[.int .i64 (pickS9 (openE sec (sealedX sec xs) (s.g + 1)) sec), .slice A9 (pickY9 (openE sec (sealedX sec xs) (s.g + 1)) (openX (sealedX sec xs) (s.g + 1))).length c9] rfl rfl 35 #[.int .i64 0, .slice none 0 0] (Blk.below (Blk.new v6.drew _ _) HBN.out (by simp)) size_ring rfl (ring_one _ _ _ _) ?_
        simp only [lc12, Act.put, List.setIfInBounds_toArray, List.set_cons_zero, List.set_cons_succ]
        refine hK.out _ _ (fun _ => hSA) (fun hHeld => ?_)
        replace hHeld := hHeld (by decide)
        clear hK K hSA
        refine Tillst.one (i := 13) (o := lc13) (by kernel_rfl) rfl ?_
        intro K hK
        refine step_value ?_ rfl ?_ ?_
        rotate_left
        · unfold lc13; go_simp; with_reducible rfl
        simp only [lc13, Act.put, List.setIfInBounds_toArray, List.set_cons_zero, List.set_cons_succ]
        refine hK.out _ _ (fun _ => hHeld) (fun hHeld => ?_)
        replace hHeld := hHeld (by decide)
        clear hK K
        refine Tillst.one (i := 14) (o := lc14) (by kernel_rfl) rfl ?_
        intro K hK
        refine step_value ?_ rfl ?_ ?_
        rotate_left
        · unfold lc14; go_simp; with_reducible rfl
        simp only [lc14, Act.put, List.setIfInBounds_toArray, List.set_cons_zero, List.set_cons_succ]
        refine hK.out _ _ (fun _ => hHeld) (fun hHeld => ?_)
        replace hHeld := hHeld (by decide)
        clear hK K
        refine Tillst.done (by kernel_rfl) ?_ _
        refine hKK _ _ (Met.intro (hJ _ _ ?_))
        (repeat apply Exists.intro)
        exact ⟨OpnC.laid HOW.out HBN.out, rfl⟩
    case rest =>
      obtain ⟨rfl, rfl, nb, A9, c9, rfl, hnb, hblk, hown, hbl⟩ := hcut
      have HNB := Lib.hid hnb
      have HNK := Lib.hid hblk
      have HOW := Lib.hid hown
      have HBL := Lib.hid hbl
      clear hnb hblk hown hbl
      have HB6 := Lib.hid ((Below.refl v6.heap.size v6).drew.trans HBL.out)
      obtain ⟨E, hE⟩ : ∃ E, openE sec (sealedX sec xs) (s.g + 1) = E := ⟨_, rfl⟩
      rw [hE] at HNK HOW
      have hE2 := hE
      have HE := Lib.hid hE2
      clear hE2
      by_cases hz : E = 0
      case neg =>
        have d1 : (E != 0) = true := by simpa using hz
        simp only [hE]
        have HEZ := Lib.hid hz
        clear hE hz
        go_wp2_with fail
        go_ret
        refine BegT.no (by rw [HE.out]; exact HEZ.out) (by rw [HE.out]; rfl) ?_ ?_ HMC2.out.1 HMC2.out.2
        · exact HL6.out.below HB6.out
        · exact HKX6.out.trans (Kept.of_below HB6.out (fun b h => Nat.lt_of_lt_of_le (HX.out b h) HKX6.out.size)) (fun b h => h)
      subst hz
      simp only [hE]
      rw [pickS9_zero, pickY9_zero] at HNK
      rw [pickY9_zero] at HOW
      obtain ⟨i, him, hi⟩ : ∃ i : Nat, i < m ∧ nxtR (sealedX sec xs) = (i : Int) := by
        rcases nxt_range (sealedX sec xs) with h | ⟨i, h1, h2⟩
        · exact absurd h (open_nxt HE.out)
        · exact ⟨i, by rw [← LogM.len9 HL6.out]; exact h1, h2⟩
      rw [hi]
      have HI := Lib.hid hi
      have HIM := Lib.hid him
      have HBH := Lib.hid (header_any i (s.g + 1) wc (by have := HSM.out.2.1; have := HMA.out; omega) ⟨by omega, hgm⟩)
      have g3 : wc.cell? ⟨w4.heap.size, 2, none⟩ = some (.int .u64 (s.g + 1)) := (HKB6.out.below HB6.out HKB6.out.lt).cell 2
      clear hE hi him
      go_wp2_with fail
      refine HBH.out.mono ?_
      rintro e w10 ⟨rfl, hb10⟩
      have HB10 := Lib.hid hb10
      obtain ⟨ys, hys⟩ : ∃ ys, hdrL i (s.g + 1) = ys := ⟨_, rfl⟩
      have HLY := Lib.hid (show ys.length = 64 by rw [← hys]; exact hdrL_length _ _)
      rw [hys]
      have HYS := Lib.hid hys
      clear hb10 hys g3 HBH
      go_upto_region 15 with (first | (refine wpList_alloc_blk rfl rfl ?_) | (refine wpList_store_new (.tmp 10) (.tmp 64) rfl rfl w10 ys rfl rfl (noughts 64) rfl (noughts_length 64) HLY.out ?_))
      have HBCZ := Lib.hid (show Below wc.heap.size wc ((w10.alloc (.cells (cells8 ys) 84)).alloc (.cells (cells8 ys) 84)) from HB10.out.trans ((((Below.refl w10.heap.size w10).alloc (Nat.le_refl _) (.cells (cells8 ys) 84)).alloc (by simp) (.cells (cells8 ys) 84)).mono HB10.out.size))
      have HBZ := Lib.hid (show Below v6.heap.size v6 ((w10.alloc (.cells (cells8 ys) 84)).alloc (.cells (cells8 ys) 84)) from HB6.out.trans (HBCZ.out.mono HB6.out.size))
      have HSZ := Lib.hid (show StoS ((w10.alloc (.cells (cells8 ys) 84)).alloc (.cells (cells8 ys) 84)) (fun b => (X b ∨ b = l ∨ R b) ∨ (v6.heap.size ≤ b ∧ b < ((w10.alloc (.cells (cells8 ys) 84)).alloc (.cells (cells8 ys) 84)).heap.size)) p d n (genS s) (nxt t) (setK k s t) from StoreM.grow HS6B.out HBZ.out)
      have HYZ := Lib.hid (show ∀ b, (fun b => (X b ∨ b = l ∨ R b) ∨ (v6.heap.size ≤ b ∧ b < ((w10.alloc (.cells (cells8 ys) 84)).alloc (.cells (cells8 ys) 84)).heap.size)) b → b < ((w10.alloc (.cells (cells8 ys) 84)).alloc (.cells (cells8 ys) 84)).heap.size from grow_lt (fun b h => Nat.lt_of_lt_of_le (HY0.out b h) HSZ6.out) HBZ.out.size)
      have HGK := Lib.hid (show Good (setK k s t) from (HG.out.put _ _).sync)
      have HPK := Lib.hid (show (setK k s t).pend = [] from (HG.out.put _ _).pend_sync)
      have HC0 := Lib.hid (show ((w10.alloc (.cells (cells8 ys) 84)).alloc (.cells (cells8 ys) 84)).cell? ⟨l, 0, none⟩ = some (.pointer (some ⟨p, 0, none⟩)) from (HBK6.out.below HBZ.out HBK6.out.lt).cell 0)
      have hwr := (beg_write HSZ.out HYZ.out (.inl (.inr (.inl rfl))) HC0.out (.inr ⟨by have := HB6.out.size; have := HB10.out.size; have h : (w10.alloc (.cells (cells8 ys) 84)).heap.size = w10.heap.size + 1 := (by simp); omega, by simp⟩) (Blk.new (w10.alloc (.cells (cells8 ys) 84)) _ _) HLY.out (show Bytes ys by rw [← HYS.out]; exact hdr_bytes _ _ (by have := HIM.out; have := HMA.out; have := HSM.out.2.1; omega)) i (by have := HIM.out; have := HMA.out; omega) HSM.out HRM.out HNN.out HGK.out HPK.out)
      rw [show (w10.alloc (.cells (cells8 ys) 84)).heap.size = w10.heap.size + 1 from (by simp)] at hwr
      have HWR := Lib.hid hwr
      clear hwr
      have HRL := Lib.hid (show (w10.alloc (.cells (cells8 ys) 84)).rangeAt w10.heap.size 0 (ys.map (Value.int .u8)) from (show ArrB (w10.alloc (.cells (cells8 ys) 84)) w10.heap.size ys from Blk.new w10 _ _).range)
      have hll : l < v6.heap.size := HBK6.out.lt
      have HLL6 := Lib.hid hll
      clear hll
      go_wp2_with (first | (refine wpList_load_blk (.tmp 10) rfl rfl w10.heap.size 0 rfl ys HLY.out HRL.out ?_) | (refine wpList_lit_sec (.tmp 71) rfl rfl ys rfl HLY.out ?_))
      refine HWR.out.mono ?_
      rintro e w12 ⟨rfl, hs12, hk12⟩
      have HS12 := Lib.hid hs12
      have HK12 := Lib.hid hk12
      clear hs12 hk12
      have c0 : w12.cell? ⟨l, 0, none⟩ = some (.pointer (some ⟨p, 0, none⟩)) := (HK12.out.cell (p := ⟨l, 0, none⟩) (.inl (.inr (.inl rfl)))).trans HC0.out
      go_wp2_with fail
      refine (sto_disk HS12.out).mono ?_
      rintro e w' ⟨rfl, rfl⟩
      go_wp2_with fail
      have hsy := sync_k HS12.out.2.1 (fun b h => by rcases h with h | h; exact Nat.lt_of_lt_of_le (HYZ.out b h) HK12.out.size; rw [h]; exact HS12.out.1.lt)
      rw [(HGK.out.put _ _).wre] at hsy
      refine hsy.mono ?_
      rintro e w13 ⟨rfl, hd13, hk13⟩
      have HS13 := Lib.hid (show StoS w13 (fun b => (X b ∨ b = l ∨ R b) ∨ (v6.heap.size ≤ b ∧ b < ((w10.alloc (.cells (cells8 ys) 84)).alloc (.cells (cells8 ys) 84)).heap.size)) p d n (genS s) (nxt t) (begK k s t (i : Int)) from by unfold begK; rw [Int.toNat_natCast, HYS.out]; exact ⟨HS12.out.1.kept hk13 (.inr rfl), hd13, HS12.out.2.2⟩)
      have HKW := Lib.hid (HK12.out.trans hk13 (fun b h => .inl h))
      clear c0 hsy hd13 hk13 HS12 HK12 HWR HSZ
      have HB13 := Lib.hid ((HBK6.out.below HBZ.out HBK6.out.lt).kept HKW.out (.inl (.inr (.inl rfl))))
      have HN13 := Lib.hid ((HNK.out.below HBCZ.out HNK.out.lt).kept HKW.out (.inr ⟨HNB.out, Nat.lt_of_lt_of_le HNK.out.lt HBCZ.out.size⟩))
      have HR13 := Lib.hid ((HOW.out.row.below HBCZ.out (fun b h => h.2)).kept HKW.out (fun b h => .inr ⟨h.1, Nat.lt_of_lt_of_le h.2 HBCZ.out.size⟩))
      obtain ⟨k0, k1⟩ := ring_cells HN13.out
      obtain ⟨f1, f2⟩ := And.intro (HB13.out.frozen 1) (HB13.out.frozen 2)
      have hneq : nb ≠ l := by have h1 := HLL6.out; have h2 : v6.heap.size ≤ nb := HNB.out; omega
      have b1 : w13.cell? ⟨l, 1, none⟩ = some (.int .i64 sec) := HB13.out.cell 1
      have b2 : w13.cell? ⟨l, 2, none⟩ = some (.slice A2 m c3) := HB13.out.cell 2
      go_wp2_with fail
      go_ret
      have hSZ2 : wc.heap.size ≤ w13.heap.size := Nat.le_trans HBCZ.out.size HKW.out.size
      have hsub : ∀ b, (X b ∨ b = l ∨ From v6.drew.heap.size wc b) → (fun b => (X b ∨ b = l ∨ R b) ∨ (v6.heap.size ≤ b ∧ b < ((w10.alloc (.cells (cells8 ys) 84)).alloc (.cells (cells8 ys) 84)).heap.size)) b := fun b h => by
        rcases h with h | h | h
        · exact .inl (.inl h)
        · exact .inl (.inr (.inl h))
        · exact .inr ⟨h.1, Nat.lt_of_lt_of_le h.2 HBCZ.out.size⟩
      have hfr : ∀ b, From v6.drew.heap.size wc b → b < w13.heap.size ∧ b ≠ l := fun b h => by
        have h1 := HLL6.out
        have h2 : v6.heap.size ≤ b := h.1
        have h3 := h.2
        omega
      have hlog := LogM.lay (sec := sec) (c2 := c9) HB13.out HXL.out (StoreM.kept (Z := fun _ => True) HS13.out (Kept.refl _ _) (fun _ _ _ => trivial) (fun b _ h => hsub b h)) HR13.out hfr
      refine BegT.yes HE.out (by rw [HE.out]; rfl) (by rw [HI.out]; exact hlog) ?_ HOW.out.2.2.2 HOW.out.2.2.1
      exact (((HKX6.out.trans (Kept.of_below HBZ.out (fun b h => Nat.lt_of_lt_of_le (HX.out b h) HKX6.out.size)) (fun b h => h)).trans HKW.out (fun b h => .inl (.inl h))).setCell (p := ⟨l, 1, none⟩) HXL.out _).setCell (p := ⟨l, 2, none⟩) HXL.out _
end
end Go.Proofs.YtodcohkblgjfeaaGreat

namespace Go.Proofs.YtodcohkblgjfeaaGreat
open Go.RowKit
set_option maxRecDepth 100000
set_option linter.unusedVariables false
set_option linter.unusedSimpArgs false
abbrev ly0 : Oper := { dst := some 24, op := Go.Op.move (Go.Operand.tmp 6), type := 3, pos := "log.go:320", after := #[], guard := none }
abbrev ly1 : Oper := { dst := some 25, op := Go.Op.move (Go.Operand.tmp 0), type := 26, pos := "log.go:320", after := #[], guard := none }
abbrev ly2 : Oper := { dst := some 26, op := Go.Op.nilCheck (Go.Operand.tmp 25), type := 0, pos := "log.go:320", after := #[{ on := 1, ground := Go.Ground.data }], guard := none }
abbrev ly3 : Oper := { dst := some 27, op := Go.Op.fieldAddr 117 (Go.Operand.tmp 26) 1, type := 0, pos := "log.go:320", after := #[{ on := 2, ground := Go.Ground.data }], guard := none }
abbrev ly4 : Oper := { dst := some 28, op := Go.Op.fieldAddr 35 (Go.Operand.tmp 27) 1, type := 0, pos := "log.go:320", after := #[{ on := 3, ground := Go.Ground.data }], guard := none }
abbrev ly5 : Oper := { dst := some 29, op := Go.Op.load 33 (Go.Operand.tmp 28), type := 33, pos := "log.go:320", after := #[{ on := 4, ground := Go.Ground.data }], guard := none }
abbrev ly6 : Oper := { dst := some 30, op := Go.Op.move (Go.Operand.tmp 6), type := 3, pos := "log.go:320", after := #[], guard := none }
abbrev ly7 : Oper := { dst := some 31, op := Go.Op.indexAddr 33 (Go.Operand.tmp 29) (Go.Operand.tmp 30), type := 0, pos := "log.go:320", after := #[{ on := 5, ground := Go.Ground.data }, { on := 6, ground := Go.Ground.data }], guard := none }
abbrev ly8 : Oper := { dst := some 32, op := Go.Op.fieldAddr 128 (Go.Operand.tmp 31) 1, type := 0, pos := "log.go:320", after := #[{ on := 7, ground := Go.Ground.data }], guard := none }
abbrev ly9 : Oper := { dst := some 33, op := Go.Op.load 30 (Go.Operand.tmp 32), type := 30, pos := "log.go:320", after := #[{ on := 8, ground := Go.Ground.data }], guard := none }
abbrev ly10 : Oper := { dst := some 34, op := Go.Op.move (Go.Operand.tmp 0), type := 26, pos := "log.go:320", after := #[], guard := none }
abbrev ly11 : Oper := { dst := some 35, op := Go.Op.nilCheck (Go.Operand.tmp 34), type := 0, pos := "log.go:320", after := #[{ on := 10, ground := Go.Ground.data }], guard := none }
abbrev ly12 : Oper := { dst := some 36, op := Go.Op.fieldAddr 117 (Go.Operand.tmp 35) 1, type := 0, pos := "log.go:320", after := #[{ on := 11, ground := Go.Ground.data }], guard := none }
abbrev ly13 : Oper := { dst := some 37, op := Go.Op.fieldAddr 35 (Go.Operand.tmp 36) 1, type := 0, pos := "log.go:320", after := #[{ on := 12, ground := Go.Ground.data }], guard := none }
abbrev ly14 : Oper := { dst := some 38, op := Go.Op.load 33 (Go.Operand.tmp 37), type := 33, pos := "log.go:320", after := #[{ on := 13, ground := Go.Ground.data }], guard := none }
abbrev ly15 : Oper := { dst := some 39, op := Go.Op.move (Go.Operand.tmp 6), type := 3, pos := "log.go:320", after := #[], guard := none }
abbrev ly16 : Oper := { dst := some 40, op := Go.Op.indexAddr 33 (Go.Operand.tmp 38) (Go.Operand.tmp 39), type := 0, pos := "log.go:320", after := #[{ on := 14, ground := Go.Ground.data }, { on := 15, ground := Go.Ground.data }], guard := none }
abbrev ly17 : Oper := { dst := some 41, op := Go.Op.fieldAddr 128 (Go.Operand.tmp 40) 2, type := 0, pos := "log.go:320", after := #[{ on := 16, ground := Go.Ground.data }], guard := none }
abbrev ly18 : Oper := { dst := some 42, op := Go.Op.load 3 (Go.Operand.tmp 41), type := 3, pos := "log.go:320", after := #[{ on := 17, ground := Go.Ground.data }], guard := none }
abbrev ly19 : Oper := { dst := some 43, op := Go.Op.build 46 #[(0, Go.Operand.tmp 24), (1, Go.Operand.tmp 33), (2, Go.Operand.tmp 42)], type := 46, pos := "log.go:320", after := #[{ on := 0, ground := Go.Ground.data }, { on := 9, ground := Go.Ground.data }, { on := 18, ground := Go.Ground.data }], guard := none }
abbrev ly20 : Oper := { dst := some 8, op := Go.Op.alloc 46, type := 0, pos := "log.go:320", after := #[], guard := none }
abbrev ly21 : Oper := { dst := none, op := Go.Op.store 46 (Go.Operand.tmp 8) (Go.Operand.tmp 43), type := 0, pos := "log.go:320", after := #[{ on := 20, ground := Go.Ground.data }, { on := 19, ground := Go.Ground.data }, { on := 0, ground := Go.Ground.phase }, { on := 1, ground := Go.Ground.phase }, { on := 2, ground := Go.Ground.phase }, { on := 3, ground := Go.Ground.phase }, { on := 4, ground := Go.Ground.phase }, { on := 5, ground := Go.Ground.phase }, { on := 6, ground := Go.Ground.phase }, { on := 7, ground := Go.Ground.phase }, { on := 8, ground := Go.Ground.phase }, { on := 9, ground := Go.Ground.phase }, { on := 10, ground := Go.Ground.phase }, { on := 11, ground := Go.Ground.phase }, { on := 12, ground := Go.Ground.phase }, { on := 13, ground := Go.Ground.phase }, { on := 14, ground := Go.Ground.phase }, { on := 15, ground := Go.Ground.phase }, { on := 16, ground := Go.Ground.phase }, { on := 17, ground := Go.Ground.phase }, { on := 18, ground := Go.Ground.phase }, { on := 19, ground := Go.Ground.phase }, { on := 20, ground := Go.Ground.phase }], guard := none }
theorem zero_addr (w : World) : (zeroValue 46).run Tryz.prog w = .ok (.agg #[.int .i64 0, .int .u64 0, .int .i64 0]) w := (Tryz.zeroValue46 w).trans rfl
theorem size_addr : (Tryz.prog.info? 46).map (·.size) = some 3 := by kernel_rfl
theorem addr_one (a b c : Int) : (#[Value.int .i64 a, Value.int .u64 b, Value.int .i64 c] : Array Value).all (·.oneCell') = true := by simp [Value.oneCell']
def LyC (v : World) (a b c : Int) (t : Value) (wy : World) : Prop :=
  ∃ nb, t = .pointer (some ⟨nb, 0, none⟩) ∧ v.heap.size ≤ nb ∧ Blk wy nb 46 #[.int .i64 a, .int .u64 b, .int .i64 c] ∧ Below v.heap.size v wy
theorem LyC.new (v : World) (a b c : Int) : LyC v a b c (.pointer (some ⟨v.drew.heap.size, 0, none⟩)) ((v.drew.alloc (.cells #[.int .i64 0, .int .u64 0, .int .i64 0] 46)).setRow v.drew.heap.size #[.int .i64 a, .int .u64 b, .int .i64 c]) :=
  ⟨_, rfl, Nat.le_refl _, setRow_heap _ _ _ _ _ _ (Blk.new v.drew _ _), below_setRow ((Below.refl v.heap.size v).drew.alloc (Nat.le_refl _) _) (Nat.le_refl _) _⟩
section
variable {w w' : World} {X Y : Nat → Prop} {l p d n m c : Nat} {s : Sup} {t : Int} {k : Dk} {sec : Int} {A : Option Addr} {xs : List Seg} {br : Bool}
def LayT (w : World) (X : Nat → Prop) (l p d n : Nat) (s : Sup) (t : Int) (k : Dk) (sec : Int) (i : Nat) (xs : List Seg) (n0 : Nat) (bs : List Int) (e : Ending) (w' : World) : Prop :=
  e = .returned (.tuple #[.agg #[.int .i64 (i : Int), .int .u64 (genG xs i), .int .i64 (usedG xs i)], .int .i64 0]) ∧ ∃ A c, LogM w' X l p d n s t (wrs k (2 + (i : Int) * s.b + usedG xs i).toNat (splitL (genG xs i) (usedG xs i) bs)).1 sec A (useX xs ((cntOf n0 : Nat) : Int)).length c (useX xs ((cntOf n0 : Nat) : Int)) false ∧ Kept X w w' ∧ (useX xs ((cntOf n0 : Nat) : Int)).length ≤ c ∧ (A = none → c = 0)
theorem wrs_good : ∀ (xss : List (List Int)) (k : Dk) (i : Nat), Good k → (wrs k i xss).2 = 0 ∧ Good (wrs k i xss).1
  | [], k, i, h => ⟨rfl, h⟩
  | ys :: r, k, i, h => by
    unfold wrs
    rw [if_pos h.wre]
    exact wrs_good r _ _ (h.put _ _)
theorem lay_write {xss : List (List Int)} (hs : StoS w Y p d n s t k) (hY : ∀ b, Y b → b < w.heap.size) (hl : Y l) (c0 : w.cell? ⟨l, 0, none⟩ = some (.pointer (some ⟨p, 0, none⟩))) (hrow : RowK w Y A m xss) (hby : ∀ i, Bytes (xss.getD i [])) (hss : Secs xss)
    (i : Nat) (u : Int) (hu : 0 ≤ u) (hi : (i : Int) < s.a) (hm : s.May) (hfit : u + (m : Int) ≤ s.b) (hroom : 2 + s.a * s.b ≤ (n : Int)) (hn : n ≤ 2048) (hp : k.pend.length ≤ 900000) (hg : Good k) :
    Calls Tryz.prog 104 #[.pointer (some ⟨l, 0, none⟩), .int .i64 i, .int .i64 u, .slice A m c] w fun e w' => e = .returned (.int .i64 0) ∧ StoS w' Y p d n s t (wrs k (2 + (i : Int) * s.b + u).toNat xss).1 ∧ Kept Y w w' := by
  obtain ⟨h1, h2, h3, h4, _⟩ := hm
  have hpos : 0 ≤ (i : Int) * s.b := Int.mul_nonneg (by omega) (by omega)
  have hle : ((i : Int) + 1) * s.b ≤ s.a * s.b := Int.mul_le_mul_of_nonneg_right (by omega) (by omega)
  rw [Int.add_mul, Int.one_mul] at hle
  have hi0 : (((2 + (i : Int) * s.b + u).toNat : Nat) : Int) = 2 + (i : Int) * s.b + u := Int.toNat_of_nonneg (by omega)
  have hu2 : ((u.toNat : Nat) : Int) = u := Int.toNat_of_nonneg hu
  have h := write_log (c := c) hs hY hl c0 hrow hby hss i u.toNat (2 + (i : Int) * s.b + u).toNat hi h2 ⟨by omega, h4⟩ (by rw [hi0, hu2]) (by omega) hn hp
  rw [hu2, (wrs_good xss k _ hg).1] at h
  exact h
set_option maxHeartbeats 4000000 in
theorem lay_good {i : Nat} {B : Option Addr} {n0 c0 : Nat} {bs : List Int} (h : LogM w X l p d n s t k sec A m c xs false) (hX : ∀ b, X b → b < w.heap.size) (hmc : m ≤ c) (hnil : A = none → c = 0) (hg : Good k)
    (he : openedE sec xs = 0) (hi : openedV sec xs = (i : Int)) (him : i < m)
    (hb : RowI .u8 w (· < w.heap.size) B n0 bs) (hbn : B = none → c0 = 0) (hbc : n0 ≤ c0) (hn0 : n0 ≤ 16384) (hgen : 1 ≤ genG xs i ∧ genG xs i ≤ 18446744073709551615) (hused : 0 ≤ usedG xs i ∧ usedG xs i ≤ 64) (hue : useE sec xs ((cntOf n0 : Nat) : Int) = 0)
    (hby : Bytes bs) (hia : (i : Int) < s.a) (hsm : s.May) (hfit : usedG xs i + cntOf n0 ≤ s.b) (hroom : 2 + s.a * s.b ≤ (n : Int)) (hn2 : n ≤ 2048) (hp : k.pend.length ≤ 900000) :
    Calls Tryz.prog 51 #[.pointer (some ⟨l, 0, none⟩), .slice B n0 c0] w fun e w' => LayT w X l p d n s t k sec i xs n0 bs e w' := by
  have HL := Lib.hid h
  have HX := Lib.hid hX
  have HG := Lib.hid hg
  have HMC := Lib.hid (And.intro hmc hnil)
  have HIM := Lib.hid him
  have HBA := Lib.hid ((Below.refl w.heap.size w).alloc (Nat.le_refl _) (.cells #[.int .i64 0, .int .u64 0, .int .i64 0] 46))
  have HL0 := Lib.hid (h.below HBA.out)
  obtain ⟨_, c1, c2, _⟩ := log_cells HL0.out
  have hop := opened_any (cap := c) HL0.out.now sec
  rw [he, hi] at hop
  have HOP := Lib.hid hop
  have HBS := Lib.hid hb
  have HBH := Lib.hid (And.intro hbn (And.intro hbc hn0))
  have HGE := Lib.hid hgen
  have HUS := Lib.hid hused
  have HUE := Lib.hid hue
  have HBY := Lib.hid hby
  have HIA := Lib.hid hia
  have HSM := Lib.hid hsm
  have HFIT := Lib.hid hfit
  have HRM := Lib.hid hroom
  have HNN := Lib.hid hn2
  have HPE := Lib.hid hp
  clear hue hby hia hsm hfit hroom hn2 hp h hX hmc hnil hg he hi him hop hb hbn hbc hn0 hgen hused
  go_enter Tryz.func51, Tryz.ntmps51
  go_wp2_with fail
  refine HOP.out.mono ?_
  rintro e w1 ⟨rfl, hb1⟩
  have HB1 := Lib.hid (HBA.out.trans (hb1.mono HBA.out.size))
  have HL1 := Lib.hid (HL.out.below HB1.out)
  have HA1 := Lib.hid (show Blk w1 w.heap.size 46 #[.int .i64 0, .int .u64 0, .int .i64 0] from (Blk.new w _ _).below hb1 (by simp))
  clear hb1 c1 c2
  go_upto_region 4 with fail
  go_cut [8] (fun t wy => LyC w1 i (genG xs i) (usedG xs i) t wy)
  case first J KK hJ hKK =>
    obtain ⟨bA, off, rfl, hbA, hcs⟩ := seg_get HL1.out.now HIM.out
    obtain ⟨g0, g1, g2⟩ := hcs i HIM.out
    have e2 : w1.cell? ⟨l, 2, none⟩ = some (.slice (some ⟨bA, off, none⟩) m c) := (log_cells HL1.out).2.2.1
    have him : (i : Int) < (m : Int) := by have := HIM.out; omega
    have hmc2 : m ≤ c := HMC.out.1
    have hl1 := HL1.out.1.lt
    have HS := Lib.hid (show ∀ W, Below w1.heap.size w1 W → W.cell? ⟨l, 2, none⟩ = some (.slice (some ⟨bA, off, none⟩) m c) ∧ W.cell? ⟨bA, off + i * 3 + 1, none⟩ = some (.int .u64 (genG xs i)) ∧ W.cell? ⟨bA, off + i * 3 + 2, none⟩ = some (.int .i64 (usedG xs i)) from fun W hW =>
      ⟨(hW.cell (p := ⟨l, 2, none⟩) hl1).trans e2, (hW.cell (p := ⟨bA, _, none⟩) hbA).trans g1, (hW.cell (p := ⟨bA, _, none⟩) hbA).trans g2⟩)
    clear hcs hbA g0 g1 g2 e2 hl1
    refine wp_region_noPanic ?_
    refine Tillst.region (fun W => Below w1.heap.size w1 W) [] (by kernel_rfl) (Below.refl _ _).drew (fun hHeld => ?_)
    refine Tillst.take (i := 0) (oi := ly0) (v := ?_) rfl (by kernel_rfl) (by kernel_rfl) (by kernel_rfl) (by kernel_rfl) (fun _ _ _ h => h) (by rfl) ?_ hHeld ?_
    rotate_left
    · intro W' hSW; obtain ⟨s0, s1, s2⟩ := HS.out W' hSW; unfold ly0; go_simp; with_reducible rfl
    simp only [ly0, Act.put, List.setIfInBounds_toArray, List.set_cons_zero, List.set_cons_succ]
    refine Tillst.take (i := 1) (oi := ly1) (v := ?_) rfl (by kernel_rfl) (by kernel_rfl) (by kernel_rfl) (by kernel_rfl) (fun _ _ _ h => h) (by rfl) ?_ hHeld ?_
    rotate_left
    · intro W' hSW; obtain ⟨s0, s1, s2⟩ := HS.out W' hSW; unfold ly1; go_simp; with_reducible rfl
    simp only [ly1, Act.put, List.setIfInBounds_toArray, List.set_cons_zero, List.set_cons_succ]
    refine Tillst.take (i := 2) (oi := ly2) (v := ?_) rfl (by kernel_rfl) (by kernel_rfl) (by kernel_rfl) (by kernel_rfl) (fun _ _ _ h => h) (by rfl) ?_ hHeld ?_
    rotate_left
    · intro W' hSW; obtain ⟨s0, s1, s2⟩ := HS.out W' hSW; unfold ly2; go_simp; with_reducible rfl
    simp only [ly2, Act.put, List.setIfInBounds_toArray, List.set_cons_zero, List.set_cons_succ]
    refine Tillst.take (i := 3) (oi := ly3) (v := ?_) rfl (by kernel_rfl) (by kernel_rfl) (by kernel_rfl) (by kernel_rfl) (fun _ _ _ h => h) (by rfl) ?_ hHeld ?_
    rotate_left
    · intro W' hSW; obtain ⟨s0, s1, s2⟩ := HS.out W' hSW; unfold ly3; go_simp; with_reducible rfl
    simp only [ly3, Act.put, List.setIfInBounds_toArray, List.set_cons_zero, List.set_cons_succ]
    refine Tillst.take (i := 4) (oi := ly4) (v := ?_) rfl (by kernel_rfl) (by kernel_rfl) (by kernel_rfl) (by kernel_rfl) (fun _ _ _ h => h) (by rfl) ?_ hHeld ?_
    rotate_left
    · intro W' hSW; obtain ⟨s0, s1, s2⟩ := HS.out W' hSW; unfold ly4; go_simp; with_reducible rfl
    simp only [ly4, Act.put, List.setIfInBounds_toArray, List.set_cons_zero, List.set_cons_succ]
    refine Tillst.take (i := 5) (oi := ly5) (v := ?_) rfl (by kernel_rfl) (by kernel_rfl) (by kernel_rfl) (by kernel_rfl) (fun _ _ _ h => h) (by rfl) ?_ hHeld ?_
    rotate_left
    · intro W' hSW; obtain ⟨s0, s1, s2⟩ := HS.out W' hSW; unfold ly5; go_simp; with_reducible rfl
    simp only [ly5, Act.put, List.setIfInBounds_toArray, List.set_cons_zero, List.set_cons_succ]
    refine Tillst.take (i := 6) (oi := ly6) (v := ?_) rfl (by kernel_rfl) (by kernel_rfl) (by kernel_rfl) (by kernel_rfl) (fun _ _ _ h => h) (by rfl) ?_ hHeld ?_
    rotate_left
    · intro W' hSW; obtain ⟨s0, s1, s2⟩ := HS.out W' hSW; unfold ly6; go_simp; with_reducible rfl
    simp only [ly6, Act.put, List.setIfInBounds_toArray, List.set_cons_zero, List.set_cons_succ]
    refine Tillst.take (i := 7) (oi := ly7) (v := ?_) rfl (by kernel_rfl) (by kernel_rfl) (by kernel_rfl) (by kernel_rfl) (fun _ _ _ h => h) (by rfl) ?_ hHeld ?_
    rotate_left
    · intro W' hSW; obtain ⟨s0, s1, s2⟩ := HS.out W' hSW; unfold ly7; go_simp; with_reducible rfl
    simp only [ly7, Act.put, List.setIfInBounds_toArray, List.set_cons_zero, List.set_cons_succ]
    refine Tillst.take (i := 8) (oi := ly8) (v := ?_) rfl (by kernel_rfl) (by kernel_rfl) (by kernel_rfl) (by kernel_rfl) (fun _ _ _ h => h) (by rfl) ?_ hHeld ?_
    rotate_left
    · intro W' hSW; obtain ⟨s0, s1, s2⟩ := HS.out W' hSW; unfold ly8; go_simp; with_reducible rfl
    simp only [ly8, Act.put, List.setIfInBounds_toArray, List.set_cons_zero, List.set_cons_succ]
    refine Tillst.take (i := 9) (oi := ly9) (v := ?_) rfl (by kernel_rfl) (by kernel_rfl) (by kernel_rfl) (by kernel_rfl) (fun _ _ _ h => h) (by rfl) ?_ hHeld ?_
    rotate_left
    · intro W' hSW; obtain ⟨s0, s1, s2⟩ := HS.out W' hSW; unfold ly9; go_simp; with_reducible rfl
    simp only [ly9, Act.put, List.setIfInBounds_toArray, List.set_cons_zero, List.set_cons_succ]
    refine Tillst.take (i := 10) (oi := ly10) (v := ?_) rfl (by kernel_rfl) (by kernel_rfl) (by kernel_rfl) (by kernel_rfl) (fun _ _ _ h => h) (by rfl) ?_ hHeld ?_
    rotate_left
    · intro W' hSW; obtain ⟨s0, s1, s2⟩ := HS.out W' hSW; unfold ly10; go_simp; with_reducible rfl
    simp only [ly10, Act.put, List.setIfInBounds_toArray, List.set_cons_zero, List.set_cons_succ]
    refine Tillst.take (i := 11) (oi := ly11) (v := ?_) rfl (by kernel_rfl) (by kernel_rfl) (by kernel_rfl) (by kernel_rfl) (fun _ _ _ h => h) (by rfl) ?_ hHeld ?_
    rotate_left
    · intro W' hSW; obtain ⟨s0, s1, s2⟩ := HS.out W' hSW; unfold ly11; go_simp; with_reducible rfl
    simp only [ly11, Act.put, List.setIfInBounds_toArray, List.set_cons_zero, List.set_cons_succ]
    refine Tillst.take (i := 12) (oi := ly12) (v := ?_) rfl (by kernel_rfl) (by kernel_rfl) (by kernel_rfl) (by kernel_rfl) (fun _ _ _ h => h) (by rfl) ?_ hHeld ?_
    rotate_left
    · intro W' hSW; obtain ⟨s0, s1, s2⟩ := HS.out W' hSW; unfold ly12; go_simp; with_reducible rfl
    simp only [ly12, Act.put, List.setIfInBounds_toArray, List.set_cons_zero, List.set_cons_succ]
    refine Tillst.take (i := 13) (oi := ly13) (v := ?_) rfl (by kernel_rfl) (by kernel_rfl) (by kernel_rfl) (by kernel_rfl) (fun _ _ _ h => h) (by rfl) ?_ hHeld ?_
    rotate_left
    · intro W' hSW; obtain ⟨s0, s1, s2⟩ := HS.out W' hSW; unfold ly13; go_simp; with_reducible rfl
    simp only [ly13, Act.put, List.setIfInBounds_toArray, List.set_cons_zero, List.set_cons_succ]
    refine Tillst.take (i := 14) (oi := ly14) (v := ?_) rfl (by kernel_rfl) (by kernel_rfl) (by kernel_rfl) (by kernel_rfl) (fun _ _ _ h => h) (by rfl) ?_ hHeld ?_
    rotate_left
    · intro W' hSW; obtain ⟨s0, s1, s2⟩ := HS.out W' hSW; unfold ly14; go_simp; with_reducible rfl
    simp only [ly14, Act.put, List.setIfInBounds_toArray, List.set_cons_zero, List.set_cons_succ]
    refine Tillst.take (i := 15) (oi := ly15) (v := ?_) rfl (by kernel_rfl) (by kernel_rfl) (by kernel_rfl) (by kernel_rfl) (fun _ _ _ h => h) (by rfl) ?_ hHeld ?_
    rotate_left
    · intro W' hSW; obtain ⟨s0, s1, s2⟩ := HS.out W' hSW; unfold ly15; go_simp; with_reducible rfl
    simp only [ly15, Act.put, List.setIfInBounds_toArray, List.set_cons_zero, List.set_cons_succ]
    refine Tillst.take (i := 16) (oi := ly16) (v := ?_) rfl (by kernel_rfl) (by kernel_rfl) (by kernel_rfl) (by kernel_rfl) (fun _ _ _ h => h) (by rfl) ?_ hHeld ?_
    rotate_left
    · intro W' hSW; obtain ⟨s0, s1, s2⟩ := HS.out W' hSW; unfold ly16; go_simp; with_reducible rfl
    simp only [ly16, Act.put, List.setIfInBounds_toArray, List.set_cons_zero, List.set_cons_succ]
    refine Tillst.take (i := 17) (oi := ly17) (v := ?_) rfl (by kernel_rfl) (by kernel_rfl) (by kernel_rfl) (by kernel_rfl) (fun _ _ _ h => h) (by rfl) ?_ hHeld ?_
    rotate_left
    · intro W' hSW; obtain ⟨s0, s1, s2⟩ := HS.out W' hSW; unfold ly17; go_simp; with_reducible rfl
    simp only [ly17, Act.put, List.setIfInBounds_toArray, List.set_cons_zero, List.set_cons_succ]
    refine Tillst.take (i := 18) (oi := ly18) (v := ?_) rfl (by kernel_rfl) (by kernel_rfl) (by kernel_rfl) (by kernel_rfl) (fun _ _ _ h => h) (by rfl) ?_ hHeld ?_
    rotate_left
    · intro W' hSW; obtain ⟨s0, s1, s2⟩ := HS.out W' hSW; unfold ly18; go_simp; with_reducible rfl
    simp only [ly18, Act.put, List.setIfInBounds_toArray, List.set_cons_zero, List.set_cons_succ]
    refine Tillst.take (i := 19) (oi := ly19) (v := ?_) rfl (by kernel_rfl) (by kernel_rfl) (by kernel_rfl) (by kernel_rfl) (fun _ _ _ h => h) (by rfl) ?_ hHeld ?_
    rotate_left
    · intro W' hSW; obtain ⟨s0, s1, s2⟩ := HS.out W' hSW; unfold ly19; go_simp; with_reducible rfl
    simp only [ly19, Act.put, List.setIfInBounds_toArray, List.set_cons_zero, List.set_cons_succ]
    refine Tillst.one (i := 20) (o := ly20) (by kernel_rfl) rfl ?_
    intro K hK
    have hSA := hHeld.alloc hHeld.size (.cells #[.int .i64 0, .int .u64 0, .int .i64 0] 46)
    refine step_alloc_row 46 rfl rfl #[.int .i64 0, .int .u64 0, .int .i64 0] zero_addr ?_
    simp only [ly20, Act.put, List.setIfInBounds_toArray, List.set_cons_zero, List.set_cons_succ]
    refine hK.out _ _ (fun _ => hSA) (fun hHeld => ?_)
    replace hHeld := hHeld (by decide)
    clear hK K hSA
    refine Tillst.one (i := 21) (o := ly21) (by kernel_rfl) rfl ?_
    intro K hK
    have hSA := below_setRow hHeld (g := w1.drew.heap.size) (Nat.le_refl _) #[.int .i64 (i : Int), .int .u64 (genG xs i), .int .i64 (usedG xs i)]
    refine step_store_row (.tmp 8) (.tmp 43) 46 rfl rfl (w1.drew.heap.size) #[.int .i64 (i : Int), .int .u64 (genG xs i), .int .i64 (usedG xs i)] rfl rfl 46 #[.int .i64 0, .int .u64 0, .int .i64 0] (Blk.new w1.drew _ _) size_addr rfl (addr_one _ _ _) ?_
    simp only [ly21, Act.put, List.setIfInBounds_toArray, List.set_cons_zero, List.set_cons_succ]
    refine hK.out _ _ (fun _ => hSA) (fun hHeld => ?_)
    replace hHeld := hHeld (by decide)
    clear hK K hSA
    refine Tillst.done (by kernel_rfl) ?_ _
    refine NoPanic.normal ?_
    refine hKK _ _ (Met.intro (hJ _ _ ?_))
    (repeat apply Exists.intro)
    exact ⟨LyC.new w1 _ _ _, rfl⟩
  case rest =>
    obtain ⟨nb, rfl, hnb, hblk, hbl⟩ := hcut
    have HNB := Lib.hid hnb
    have HBK := Lib.hid hblk
    have HB2 := Lib.hid (HB1.out.trans (hbl.mono HB1.out.size))
    have HL2 := Lib.hid (HL.out.below HB2.out)
    have HA2 := Lib.hid (HA1.out.below hbl HA1.out.lt)
    have k1 : wc.cell? ⟨nb, 1, none⟩ = some (.int .u64 (genG xs i)) := hblk.cell 1
    have k2 : wc.cell? ⟨nb, 2, none⟩ = some (.int .i64 (usedG xs i)) := hblk.cell 2
    have hu0 : 0 ≤ usedG xs i := HUS.out.1
    have hu1 : usedG xs i ≤ 64 := HUS.out.2
    have HSP := Lib.hid (split_ok (genG xs i) (usedG xs i) B n0 c0 bs _ wc (HBS.out.below HB2.out (fun b h => h)) (fun b h => Nat.lt_of_lt_of_le h HB2.out.size) HBH.out.1 HBH.out.2.1 HBH.out.2.2 HGE.out.1 HGE.out.2 hu0 (by omega) (by have := cnt_bounds n0 HBH.out.2.2; omega))
    clear hnb hblk hbl
    go_wp2_with fail
    refine HSP.out.mono ?_
    rintro e w3 ⟨rfl, harr, hb3⟩
    have HB3 := Lib.hid (HB2.out.trans (hb3.mono HB2.out.size))
    have HARR := Lib.hid harr
    have HBK3 := Lib.hid (HBK.out.below hb3 HBK.out.lt)
    have HL3 := Lib.hid (HL.out.below HB3.out)
    have HSZ3 := Lib.hid hb3.size
    have HA3 := Lib.hid (HA2.out.below hb3 HA2.out.lt)
    obtain ⟨_, c1, c2, _⟩ := log_cells HL3.out
    have hus := use_any (cap := c) HL3.out.now sec ((cntOf n0 : Nat) : Int)
    rw [HUE.out] at hus
    have HUSE := Lib.hid hus
    clear harr hb3 k1 k2 hus
    go_wp2_with fail
    refine HUSE.out.mono ?_
    rintro e w4 ⟨⟨_, v, rfl, A7, n7, c7, rfl, hown⟩ | ⟨hno, _⟩, hb4⟩
    case inr => exact absurd rfl hno
    obtain rfl : (useX xs ((cntOf n0 : Nat) : Int)).length = n7 := hown.1
    have HOW := Lib.hid hown
    have HB4 := Lib.hid hb4
    clear hown hb4 c1 c2
    go_upto_region 11 with fail
    obtain ⟨h1, h2, R, h3, h4, h5⟩ := HL.out
    have hal := (Below.refl w4.heap.size w4).alloc (Nat.le_refl _) (.cells #[.int .i64 sec, .slice A7 (useX xs ((cntOf n0 : Nat) : Int)).length c7] 35)
    have hb34 : Below w3.heap.size w3 (w4.alloc (.cells #[.int .i64 sec, .slice A7 (useX xs ((cntOf n0 : Nat) : Int)).length c7] 35)) := HB4.out.trans (hal.mono HB4.out.size)
    have HBF := Lib.hid (HB3.out.trans (hb34.mono HB3.out.size))
    have HB34 := Lib.hid hb34
    have HSF := Lib.hid (show StoS (w4.alloc (.cells #[.int .i64 sec, .slice A7 (useX xs ((cntOf n0 : Nat) : Int)).length c7] 35)) (fun b => (X b ∨ b = l ∨ R b) ∨ (w.heap.size ≤ b ∧ b < (w4.alloc (.cells #[.int .i64 sec, .slice A7 (useX xs ((cntOf n0 : Nat) : Int)).length c7] 35)).heap.size)) p d n s t k from StoreM.grow h3 HBF.out)
    have HYF := Lib.hid (show ∀ b, (fun b => (X b ∨ b = l ∨ R b) ∨ (w.heap.size ≤ b ∧ b < (w4.alloc (.cells #[.int .i64 sec, .slice A7 (useX xs ((cntOf n0 : Nat) : Int)).length c7] 35)).heap.size)) b → b < (w4.alloc (.cells #[.int .i64 sec, .slice A7 (useX xs ((cntOf n0 : Nat) : Int)).length c7] 35)).heap.size from grow_lt (fun b h => by
      rcases h with h | h | h
      · exact HX.out b h
      · rw [h]; exact h1.lt
      · exact (h5 b h).1) HBF.out.size)
    have HC0 := Lib.hid ((h1.below HBF.out h1.lt).cell 0)
    have hlen : (splitL (genG xs i) (usedG xs i) bs).length = cntOf n0 := by rw [split_length, HBS.out.1]
    have hwc : wc.heap.size < w3.heap.size := HARR.out.lt
    have HRK := Lib.hid (Arr.rowK (S := (fun b => (X b ∨ b = l ∨ R b) ∨ (w.heap.size ≤ b ∧ b < (w4.alloc (.cells #[.int .i64 sec, .slice A7 (useX xs ((cntOf n0 : Nat) : Int)).length c7] 35)).heap.size))) (Blk.below HARR.out hb34 HARR.out.lt) (split_secs _ _ _) hlen (.inr ⟨HB2.out.size, by have := hb34.size; omega⟩))
    have hwr := lay_write (c := cntOf n0) HSF.out HYF.out (.inl (.inr (.inl rfl))) HC0.out HRK.out (fun j => split_bytes HBY.out j) (split_secs _ _ _) i (usedG xs i) hu0 HIA.out HSM.out HFIT.out HRM.out HNN.out HPE.out HG.out
    have HWR := Lib.hid hwr
    have HH := Lib.hid (And.intro h1 (And.intro h2 (And.intro h4 h5)))
    have k2 : (w4.alloc (.cells #[.int .i64 sec, .slice A7 (useX xs ((cntOf n0 : Nat) : Int)).length c7] 35)).cell? ⟨nb, 2, none⟩ = some (.int .i64 (usedG xs i)) := (HBK3.out.below hb34 HBK3.out.lt).cell 2
    have HNB3 := Lib.hid HBK3.out.lt
    have HWC := Lib.hid hwc
    clear h1 h2 h3 h4 h5 hal hb34 hwr hlen hwc
    go_wp2_with fail
    refine HWR.out.mono ?_
    rintro e w6 ⟨rfl, hs6, hk6⟩
    have HS6 := Lib.hid hs6
    have HK6 := Lib.hid hk6
    clear hs6 hk6 k2 HWR
    go_wp2_with fail
    refine (breaks_ok _ l).mono ?_
    rintro e w7 ⟨rfl, rfl⟩
    have HLT := Lib.hid (show l < w.heap.size from HH.out.1.lt)
    have HZ := Lib.hid (show w.heap.size ≤ w1.heap.size ∧ w3.heap.size ≤ w4.heap.size from ⟨HB1.out.size, HB4.out.size⟩)
    have HB6 := Lib.hid ((HH.out.1.below HBF.out HH.out.1.lt).kept HK6.out (.inl (.inr (.inl rfl))))
    have HN6 := Lib.hid ((HBK3.out.below HB34.out HBK3.out.lt).kept HK6.out (.inr ⟨Nat.le_trans HZ.out.1 HNB.out, Nat.lt_of_lt_of_le HBK3.out.lt HB34.out.size⟩))
    have HR6 := Lib.hid ((Blk.new w4 35 #[.int .i64 sec, .slice A7 (useX xs ((cntOf n0 : Nat) : Int)).length c7]).kept HK6.out (.inr ⟨Nat.le_trans HB3.out.size HZ.out.2, by simp⟩))
    have HA6 := Lib.hid ((HA3.out.below HB34.out HA3.out.lt).kept HK6.out (.inr ⟨Nat.le_refl _, Nat.lt_of_lt_of_le HA3.out.lt HB34.out.size⟩))
    have n1 : w4.heap.size ≠ l := by have h1 := HLT.out; have h2 := HZ.out.2; have h3 := HB3.out.size; omega
    have n2 : nb ≠ l := by have h1 := HLT.out; have h2 := HZ.out.1; have h3 := HNB.out; omega
    have n3 : w.heap.size ≠ l := by have h1 := HLT.out; omega
    obtain ⟨r0, r1⟩ := ring_cells HR6.out
    have b1 : w7.cell? ⟨l, 1, none⟩ = some (.int .i64 sec) := HB6.out.cell 1
    have b2 : w7.cell? ⟨l, 2, none⟩ = some (.slice A m c) := HB6.out.cell 2
    obtain ⟨f1, f2⟩ := And.intro (HB6.out.frozen 1) (HB6.out.frozen 2)
    have a0 : w7.cell? ⟨nb, 0, none⟩ = some (.int .i64 (i : Int)) := HN6.out.cell 0
    have a1 : w7.cell? ⟨nb, 1, none⟩ = some (.int .u64 (genG xs i)) := HN6.out.cell 1
    have a2 : w7.cell? ⟨nb, 2, none⟩ = some (.int .i64 (usedG xs i)) := HN6.out.cell 2
    have q0 : w7.cell? ⟨w.heap.size, 0, none⟩ = some (.int .i64 0) := HA6.out.cell 0
    have q1 : w7.cell? ⟨w.heap.size, 1, none⟩ = some (.int .u64 0) := HA6.out.cell 1
    have q2 : w7.cell? ⟨w.heap.size, 2, none⟩ = some (.int .i64 0) := HA6.out.cell 2
    obtain ⟨g0, g1, g2⟩ := And.intro (HA6.out.frozen 0) (And.intro (HA6.out.frozen 1) (HA6.out.frozen 2))
    go_wp2_with (with_reducible refine halt_end ?_)
    clear r0 r1 b1 b2 f1 f2 a0 a1 a2 q0 q1 q2 g0 g1 g2 n1 n2
    have hfin := ((((HA6.out.far (p := ⟨l, 1, none⟩) n3 (.int .i64 sec)).far (p := ⟨l, 2, none⟩) n3 (.slice A7 (useX xs ((cntOf n0 : Nat) : Int)).length c7)).set_ 0 (.int .i64 (i : Int))).set_ 1 (.int .u64 (genG xs i))).set_ 2 (.int .i64 (usedG xs i))
    have hlg := ((((HB6.out.set_ 1 (.int .i64 sec)).set_ 2 (.slice A7 (useX xs ((cntOf n0 : Nat) : Int)).length c7)).far (p := ⟨w.heap.size, 0, none⟩) (Ne.symm n3) (.int .i64 (i : Int))).far (p := ⟨w.heap.size, 1, none⟩) (Ne.symm n3) (.int .u64 (genG xs i))).far (p := ⟨w.heap.size, 2, none⟩) (Ne.symm n3) (.int .i64 (usedG xs i))
    have hk : Kept (fun b => b ≠ l ∧ b ≠ w.heap.size) w7 (((((w7.setCell ⟨l, 1, none⟩ (.int .i64 sec)).setCell ⟨l, 2, none⟩ (.slice A7 (useX xs ((cntOf n0 : Nat) : Int)).length c7)).setCell ⟨w.heap.size, 0, none⟩ (.int .i64 (i : Int))).setCell ⟨w.heap.size, 1, none⟩ (.int .u64 (genG xs i))).setCell ⟨w.heap.size, 2, none⟩ (.int .i64 (usedG xs i))) :=
      (((((Kept.refl _ w7).setCell (p := ⟨l, 1, none⟩) (fun h => h.1 rfl) _).setCell (p := ⟨l, 2, none⟩) (fun h => h.1 rfl) _).setCell (p := ⟨w.heap.size, 0, none⟩) (fun h => h.2 rfl) _).setCell (p := ⟨w.heap.size, 1, none⟩) (fun h => h.2 rfl) _).setCell (p := ⟨w.heap.size, 2, none⟩) (fun h => h.2 rfl) _
    have hal := (Below.refl w4.heap.size w4).alloc (Nat.le_refl _) (.cells #[.int .i64 sec, .slice A7 (useX xs ((cntOf n0 : Nat) : Int)).length c7] 35)
    have hlt3 : w.heap.size < w3.heap.size := HA3.out.lt
    have hwl := HLT.out
    have hz4 := hal.size
    have hz3 := HZ.out.2
    have hsub : ∀ b, (X b ∨ b = l ∨ From w3.heap.size w4 b) → (fun b => (X b ∨ b = l ∨ R b) ∨ (w.heap.size ≤ b ∧ b < (w4.alloc (.cells #[.int .i64 sec, .slice A7 (useX xs ((cntOf n0 : Nat) : Int)).length c7] 35)).heap.size)) b := fun b h => by
      rcases h with h | h | h
      · exact .inl (.inl h)
      · exact .inl (.inr (.inl h))
      · exact .inr ⟨by have := h.1; omega, by have := h.2; omega⟩
    have hsto : StoS _ (fun b => X b ∨ b = l ∨ From w3.heap.size w4 b) p d n s t _ := StoreM.kept HS6.out hk (fun b hb hy => ⟨fun e => hy (.inl (.inr (.inl e))), fun e => hy (.inr ⟨by omega, by omega⟩)⟩) (fun b _ h => hsub b h)
    have hrow := ((HOW.out.row.below hal (fun b h => h.2)).kept HK6.out (fun b h => .inr ⟨by have := h.1; omega, by have := h.2; omega⟩)).kept hk (fun b h => ⟨by have := h.1; omega, by have := h.1; omega⟩)
    have hkx := ((Kept.of_below HBF.out HX.out).trans HK6.out (fun b h => .inl (.inl h))).trans hk (fun b h => ⟨fun e => HH.out.2.1 (e ▸ h), by have := HX.out b h; omega⟩)
    exact Halt.ret (results_row2 (p := 4) (u := 5) rfl _ _ w.heap.size 46 #[.int .i64 (i : Int), .int .u64 (genG xs i), .int .i64 (usedG xs i)] _ rfl hfin Tryz.underlying46 rfl size_addr) rfl
      ⟨rfl, A7, c7, ⟨hlg, HH.out.2.1, From w3.heap.size w4, hsto, hrow, fun b h => ⟨by have h1 := h.2; have h2 := hk.size; have h3 := HK6.out.size; omega, by have := h.1; omega⟩⟩, hkx, HOW.out.2.2.2, HOW.out.2.2.1⟩
end
end Go.Proofs.YtodcohkblgjfeaaGreat

namespace Go.Proofs.YtodcohkblgjfeaaGreat
open Go.RowKit
set_option maxRecDepth 100000
set_option linter.unusedVariables false
set_option linter.unusedSimpArgs false
section
variable {w w' : World} {X Y : Nat → Prop} {l p d n m c : Nat} {s : Sup} {t : Int} {k : Dk} {sec : Int} {A : Option Addr} {xs : List Seg} {br : Bool}
theorem append_nil (k f x s : Int) (A1 A2 : Option Addr) (n1 c1 n2 c2 : Nat) (w : World) :
    Calls Tryz.prog 12 #[.pointer none, .agg #[.int .i64 k, .int .u32 f, .int .u32 x, .int .u64 s, .slice A1 n1 c1, .slice A2 n2 c2]] w fun e w' => e = .returned (.tuple #[.agg #[.int .i64 0, .int .u64 0, .int .i64 0], .int .i64 1]) ∧ Below w.heap.size w w' := by
  have HB := Lib.hid (((Below.refl w.heap.size w).alloc (Nat.le_refl _) (.cells #[.int .i64 k, .int .u32 f, .int .u32 x, .int .u64 s, .slice A1 n1 c1, .slice A2 n2 c2] 44)).alloc (by simp) (.cells #[.int .i64 0, .int .u64 0, .int .i64 0] 46))
  have HK := Lib.hid (blk_new2 w (.cells #[.int .i64 k, .int .u32 f, .int .u32 x, .int .u64 s, .slice A1 n1 c1, .slice A2 n2 c2] 44) 46 #[.int .i64 0, .int .u64 0, .int .i64 0])
  go_enter Tryz.func12, Tryz.ntmps12
  go_wp2_with (with_reducible refine halt_end ?_)
  exact Halt.ret (results_row2 (p := 4) (u := 5) rfl _ _ (w.heap.size + 1) 46 #[.int .i64 0, .int .u64 0, .int .i64 0] _ rfl HK.out Tryz.underlying46 rfl size_addr) rfl ⟨rfl, HB.out⟩
set_option maxHeartbeats 1000000 in
theorem append_no (h : LogM w X l p d n s t k sec A m c xs br) (k1 f x s1 : Int) (A1 A2 : Option Addr) (n1 c1 n2 c2 : Nat) (hm : ¬ May k1 f x s1 n1 n2) :
    Calls Tryz.prog 12 #[.pointer (some ⟨l, 0, none⟩), .agg #[.int .i64 k1, .int .u32 f, .int .u32 x, .int .u64 s1, .slice A1 n1 c1, .slice A2 n2 c2]] w fun e w' => e = .returned (.tuple #[.agg #[.int .i64 0, .int .u64 0, .int .i64 0], .int .i64 160]) ∧ Below w.heap.size w w' := by
  have HB := Lib.hid (((Below.refl w.heap.size w).alloc (Nat.le_refl _) (.cells #[.int .i64 k1, .int .u32 f, .int .u32 x, .int .u64 s1, .slice A1 n1 c1, .slice A2 n2 c2] 44)).alloc (by simp) (.cells #[.int .i64 0, .int .u64 0, .int .i64 0] 46))
  have HK := Lib.hid (blk_new2 w (.cells #[.int .i64 k1, .int .u32 f, .int .u32 x, .int .u64 s1, .slice A1 n1 c1, .slice A2 n2 c2] 44) 46 #[.int .i64 0, .int .u64 0, .int .i64 0])
  have HEN := Lib.hid (fun v : World => encode_no k1 f x s1 A1 A2 n1 c1 n2 c2 v hm)
  clear h hm
  go_enter Tryz.func12, Tryz.ntmps12
  go_wp2_with fail
  refine (HEN.out _).mono ?_
  rintro e w2 ⟨rfl, hb⟩
  have HK2 := Lib.hid (HK.out.below hb HK.out.lt)
  have HB2 := Lib.hid (HB.out.trans (hb.mono HB.out.size))
  have q0 := HK2.out.cell 0
  have q1 := HK2.out.cell 1
  have q2 := HK2.out.cell 2
  simp only [List.getElem?_toArray, List.getElem?_cons_zero, List.getElem?_cons_succ] at q0 q1 q2
  obtain ⟨g0, g1, g2⟩ := And.intro (HK2.out.frozen 0) (And.intro (HK2.out.frozen 1) (HK2.out.frozen 2))
  clear hb
  go_wp2_with (with_reducible refine halt_end ?_)
  exact Halt.ret (results_row2 (p := 4) (u := 5) rfl _ _ (w.heap.size + 1) 46 #[.int .i64 0, .int .u64 0, .int .i64 0] _ rfl (((HK2.out.set_ 0 (.int .i64 0)).set_ 1 (.int .u64 0)).set_ 2 (.int .i64 0)) Tryz.underlying46 rfl size_addr) rfl
    ⟨rfl, ((HB2.out.setCell (p := ⟨w.heap.size + 1, 0, none⟩) (by simp) _).setCell (p := ⟨w.heap.size + 1, 1, none⟩) (by simp) _).setCell (p := ⟨w.heap.size + 1, 2, none⟩) (by simp) _⟩
end
end Go.Proofs.YtodcohkblgjfeaaGreat

namespace Go.Proofs.YtodcohkblgjfeaaGreat
open Go.RowKit
set_option maxRecDepth 100000
set_option linter.unusedVariables false
set_option linter.unusedSimpArgs false
section
variable {w w' : World} {X Y : Nat → Prop} {l p d n m c : Nat} {s : Sup} {t : Int} {k : Dk} {sec : Int} {A : Option Addr} {xs : List Seg} {br : Bool}
def TurnG (w : World) (X : Nat → Prop) (l p d n : Nat) (s : Sup) (t : Int) (k : Dk) (sec : Int) (A : Option Addr) (m c : Nat) (xs : List Seg) (e : Ending) (w' : World) : Prop :=
  (nextE sec xs ≠ 0 ∧ e = .returned (.int .i64 (nextE sec xs)) ∧ LogM w' X l p d n s t k sec A m c xs false ∧ Kept X w w') ∨
  (nextE sec xs = 0 ∧ e = .returned (.int .i64 0) ∧ ∃ v, Kept X w v ∧ BeginT v X l p d n s t k sec xs (.returned (.int .i64 0)) w')
set_option maxHeartbeats 1000000 in
theorem turn_good (h : LogM w X l p d n s t k sec A m c xs false) (hX : ∀ b, X b → b < w.heap.size) (hmc : m ≤ c) (hnil : A = none → c = 0) (hg : Good k) (hp : k.pend.length ≤ 900000) (hsm : s.May) (hsi : s.In) (hgm : s.g + 1 ≤ 18446744073709551615) (hn : 2 ≤ n) (hn2 : n ≤ 2048) (hma : (m : Int) = s.a) (hroom : 2 + s.a * s.b ≤ (n : Int))
    (hop : nextE sec xs = 0 → openE sec (sealedX sec xs) (s.g + 1) = 0) :
    Calls Tryz.prog 50 #[.pointer (some ⟨l, 0, none⟩)] w fun e w' => TurnG w X l p d n s t k sec A m c xs e w' := by
  have HL := Lib.hid h
  have HX := Lib.hid hX
  have HN := Lib.hid (next_any_s8 (cap := c) h.now sec)
  have HOP := Lib.hid hop
  have HB := Lib.hid (show ∀ v, Below w.heap.size w v → Calls Tryz.prog 101 #[.pointer (some ⟨l, 0, none⟩)] v fun e w' => BeginT v X l p d n s t k sec xs e w' from fun v hv =>
    begin_good (h.below hv) (fun b hb => Nat.lt_of_lt_of_le (hX b hb) hv.size) hmc hnil hg hp hsm hsi hgm hn hn2 hma hroom)
  obtain ⟨_, c1, c2, _⟩ := log_cells h
  clear h hX hmc hnil hg hp hsm hsi hop hma hroom
  obtain ⟨E, hE⟩ : ∃ E, nextE sec xs = E := ⟨_, rfl⟩
  obtain ⟨V, hV⟩ : ∃ V, nextV sec xs = V := ⟨_, rfl⟩
  rw [hE, hV] at HN
  by_cases hz : E = 0
  case neg =>
    have d1 : (E != 0) = true := by simpa using hz
    have HE := Lib.hid hE
    have HZ := Lib.hid hz
    clear hE hV hz
    go_enter Tryz.func50, Tryz.ntmps50
    go_wp2_with fail
    refine HN.out.mono ?_
    rintro e w1 ⟨rfl, hb⟩
    have HB1 := Lib.hid hb
    clear hb
    go_wp2_with fail
    go_ret
    exact .inl ⟨by rw [HE.out]; exact HZ.out, by rw [HE.out]; rfl, HL.out.below HB1.out, Kept.of_below HB1.out HX.out⟩
  subst hz
  have HE := Lib.hid hE
  clear hE hV
  go_enter Tryz.func50, Tryz.ntmps50
  go_wp2_with fail
  refine HN.out.mono ?_
  rintro e w1 ⟨rfl, hb⟩
  have HB1 := Lib.hid hb
  clear hb c1 c2
  go_wp2_with fail
  refine (HB.out _ HB1.out).mono ?_
  intro e w2 hbt
  have he : e = .returned (.int .i64 0) := by
    obtain ⟨_, _, _, _, he, _⟩ := hbt
    rw [HOP.out HE.out] at he
    exact he
  subst he
  have HBT := Lib.hid hbt
  clear hbt
  go_wp2_with fail
  refine (breaks_ok _ l).mono ?_
  rintro e w3 ⟨rfl, rfl⟩
  go_wp2_with fail
  go_ret
  exact .inr ⟨HE.out, rfl, w1, Kept.of_below HB1.out HX.out, HBT.out⟩
end
end Go.Proofs.YtodcohkblgjfeaaGreat

namespace Go.Proofs.YtodcohkblgjfeaaGreat
open Go.RowKit
set_option maxRecDepth 100000
set_option linter.unusedVariables false
set_option linter.unusedSimpArgs false
section
variable {w w' : World} {X Y : Nat → Prop} {l p d n m c : Nat} {s : Sup} {t : Int} {k : Dk} {sec : Int} {A : Option Addr} {xs : List Seg} {br : Bool}
theorem LogM.grow (h : LogM w X l p d n s t k sec A m c xs br) (hb : Below w.heap.size w w') : LogM w' (fun b => X b ∨ (w.heap.size ≤ b ∧ b < w'.heap.size)) l p d n s t k sec A m c xs br := by
  obtain ⟨h1, h2, R, h3, h4, h5⟩ := h
  have hl := h1.lt
  refine ⟨h1.below hb hl, fun e => ?_, R, ?_, h4.below hb (fun b h => (h5 b h).1), fun b h => ⟨Nat.lt_of_lt_of_le (h5 b h).1 hb.size, (h5 b h).2⟩⟩
  · rcases e with e | e
    · exact h2 e
    · omega
  · refine StoreM.kept (Z := fun _ => True) (StoreM.grow h3 hb) (Kept.refl _ _) (fun _ _ _ => trivial) (fun b _ h => ?_)
    rcases h with (h | h) | h | h
    · exact .inl (.inl h)
    · exact .inr h
    · exact .inl (.inr (.inl h))
    · exact .inl (.inr (.inr h))
end
end Go.Proofs.YtodcohkblgjfeaaGreat
