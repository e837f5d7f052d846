/- Texts of LogScans, packed. -/
import Derived.Test.YtknfblfnfoibkaaGreatPackLogScans19
import Derived.Great.BuildSlice
import Derived.Laws.CopyRow
import Derived.OwnWalk
import Derived.Laws.StructEq
set_option linter.unusedVariables false
set_option linter.unusedSimpArgs false
set_option maxRecDepth 100000
set_option maxHeartbeats 16000000
namespace Go.Proofs.YtknfblfnfoibkaaGreat
section
open Go.RowKit
attribute [local go_sem] Oper.semAt_some
abbrev ls0 : Oper := ⟨some 78, .move (.tmp 9), 29, "law.go:175", #[], none⟩
abbrev ls1 : Oper := ⟨some 79, .binOp Go.BinOp.eql 29 (.tmp 78) (.const (.int .i64 0)) 29, 4, "law.go:175", #[⟨0, .data⟩], none⟩
abbrev ls2 : Oper := ⟨some 80, .move (.tmp 79), 4, "law.go:175", #[⟨1, .data⟩], none⟩
abbrev ls3 : Oper := ⟨some 81, .load 60 (.tmp 13), 60, "law.go:175", #[⟨2, .guard⟩], some (2, true)⟩
abbrev ls4 : Oper := ⟨some 82, .move (.tmp 10), 82, "law.go:175", #[⟨2, .guard⟩], some (2, true)⟩
abbrev ls5 : Oper := ⟨some 83, .move (.tmp 7), 3, "law.go:175", #[⟨2, .guard⟩], some (2, true)⟩
abbrev ls6 : Oper := ⟨some 84, .call { callee := .value (.func 46), args := #[.tmp 82, .tmp 83], argTypes := #[82, 3] }, 60, "law.go:175", #[⟨4, .data⟩, ⟨5, .data⟩, ⟨2, .chain⟩, ⟨2, .guard⟩], some (2, true)⟩
abbrev ls7 : Oper := ⟨some 85, .call { callee := .value (.func 45), args := #[.tmp 81, .tmp 84], argTypes := #[60, 60] }, 4, "law.go:175", #[⟨3, .data⟩, ⟨6, .data⟩, ⟨6, .chain⟩, ⟨2, .guard⟩], some (2, true)⟩
abbrev ls8 : Oper := ⟨some 86, .pick (.tmp 80) (.tmp 85) (.const (.bool false)), 4, "law.go:175", #[⟨2, .data⟩, ⟨7, .data⟩], none⟩
abbrev ls9 : Oper := ⟨some 2, .assign (.tmp 86), 4, "law.go:175", #[⟨8, .data⟩, ⟨7, .chain⟩, ⟨0, .phase⟩, ⟨1, .phase⟩, ⟨2, .phase⟩, ⟨3, .phase⟩, ⟨4, .phase⟩, ⟨5, .phase⟩, ⟨6, .phase⟩, ⟨7, .phase⟩, ⟨8, .phase⟩], none⟩
abbrev hdL (z : List (List Int)) (sc i : Nat) : List (List Int) := ldL (fun q => if q < z.length then z.getD q [] else noughts 64) sc (min i sc)
theorem writ_V {z : List (List Int)} (hs : Secs z) : ∀ q, ((fun q => if q < z.length then z.getD q [] else noughts 64 : Nat → List Int) q).length = 64 := fun q => by
 dsimp only
 split
 ·exact hs.get q (by assumption)
 ·exact noughts_length 64
theorem ldL_bytes {V : Nat → List Int} (h : ∀ i, Bytes (V i)) (n j i : Nat) : Bytes ((ldL V n j).getD i []) := by
 unfold ldL
 by_cases h1 : i < (secsAt V 0 j).length
 ·rw [show (secsAt V 0 j ++ List.replicate (n - j) (noughts 64)).getD i [] = (secsAt V 0 j).getD i [] by simp [List.getD, List.getElem?_append_left h1]]
  exact secsAt_bytes h 0 j i
 ·rw [show (secsAt V 0 j ++ List.replicate (n - j) (noughts 64)).getD i [] = (List.replicate (n - j) (noughts 64)).getD (i - (secsAt V 0 j).length) [] by simp [List.getD, List.getElem?_append_right (Nat.le_of_not_lt h1)]]
  simp only [List.getD, List.getElem?_replicate]
  split
  ·exact noughts_bytes9 64
  ·exact fun j => by simp
theorem ldL_get {V : Nat → List Int} {n j q : Nat} (hj : j < n) (hq : q < n) : (ldL V n (j + 1)).getD q [] = if q = j then V j else (ldL V n j).getD q [] := by
 rw [← ldL_set V hj]
 simp only [List.getD, List.getElem?_set]
 by_cases e : q = j
 ·subst e
  rw [if_pos rfl, if_pos rfl, if_pos (by rw [ldL_length V (by omega)]; omega)]
  rfl
 ·rw [if_neg e, if_neg (fun h => e h.symm)]
theorem min_small {i sc : Nat} (h : i < sc) : min i sc = i := by omega
theorem min_small2 {i sc : Nat} (h : i < sc) : min (i + 1) sc = i + 1 := by omega
theorem min_big {i sc : Nat} (h : ¬ i < sc) : min (i + 1) sc = min i sc := by omega
theorem pe_next {i sc a b : Nat} (h : b ≤ min i sc) (hi : i < sc) (h2 : a ≤ b + 1) : a ≤ min (i + 1) sc := by omega
theorem pe_big {i sc a : Nat} (h : a ≤ min i sc) (hi : ¬ i < sc) : a ≤ min (i + 1) sc := by omega
theorem born_may {m sc : Nat} (hm : 4 ≤ m ∧ m ≤ 16) (hs : 24 ≤ (sc : Int) ∧ (sc : Int) ≤ 64) : Sup.May ⟨m, sc, 0, 0, 0, 0⟩ := by
 show MayS m sc 0 0
 exact ⟨by omega, by omega, by omega, by omega, by omega⟩
theorem born_room {m sc : Nat} (hm : 4 ≤ m ∧ m ≤ 16) (hs : 24 ≤ (sc : Int) ∧ (sc : Int) ≤ 64) : 2 + (m : Int) * (sc : Int) ≤ ((1026 : Nat) : Int) := by
 have h1 : m * sc ≤ 16 * 64 := Nat.mul_le_mul (by omega) (by omega)
 have h2 : (m : Int) * (sc : Int) = ((m * sc : Nat) : Int) := (Int.natCast_mul m sc).symm
 rw [h2]
 omega
theorem born_kk {m kk : Nat} (hm : 4 ≤ m ∧ m ≤ 16) (hk : (kk : Int) < m) : kk ≤ 15 := by omega
theorem born_sc {sc : Nat} (hs : 24 ≤ (sc : Int) ∧ (sc : Int) ≤ 64) : 1 ≤ sc ∧ sc ≤ 80000 := by omega
theorem scanL_len (xss : List (List Int)) (gen : Int) : ∀ f at_, (scanL xss gen f at_).length ≤ f
 | 0, _ => by simp [scanL]
 | f + 1, at_ => by
  rw [scanL]
  split
  ·rw [List.length_cons]; exact Nat.succ_le_succ (scanL_len xss gen f _)
  ·simp
theorem put_V {kj : Dk} (hg : Good kj) {m sc kk M i : Nat} {ys : List Int} (hMI : (kk : Int) * (sc : Int) = M) (hM1 : M + sc ≤ 1024) (hl : kj.held.length = 1026) (hi : i < sc) (q : Nat) (hq : q < sc) :
 strV (kj.wr (Dk.put (2 + M + i) ys)) ⟨m, sc, 0, 0, 0, 0⟩ kk q = if q = i then ys else strV kj ⟨m, sc, 0, 0, 0, 0⟩ kk q := by
 have e0 : (2 + (kk : Int) * (sc : Int) + (i : Int)).toNat = 2 + M + i := by rw [hMI]; omega
 have h1 := strV_put (k := kj) hg (s := ⟨m, sc, 0, 0, 0, 0⟩) (seg := kk) (q := q) (j := i) (ys := ys) (Int.ofNat_lt.2 hq) (Int.ofNat_lt.2 hi) (by show 0 ≤ (kk : Int) * (sc : Int); rw [hMI]; exact Int.natCast_nonneg _) (by
  show (2 + (kk : Int) * (sc : Int) + (i : Int)).toNat < _
  rw [e0, hl]
  omega)
 rw [← e0]
 exact h1
theorem wr_next {i n : Nat} (h : i < n) (hn : n ≤ 9223372036854775807) : wrap64 ((i : Int) + 1) = (i : Int) + 1 := IntWalk.wrap64_in _ (by omega)
theorem me_next {i n : Nat} (h : i < n) : n - (i + 1) < n - i := by omega
theorem scans_law9 (a b0 s0 : Int) {A : Option Addr} {n c : Nat} {z : List (List Int)} (w : World) (hz : IsWrit w A n c z) :
 Calls Tryz.prog 8 #[.agg #[.int .i64 a, .int .i64 b0, .int .i64 s0, .slice A n c]] w fun e w' => e = .returned (.bool true) ∧ Below w.heap.size w w' := by
 have HZ := hI hz
 have HZL := hI hz.row.1
 obtain ⟨w1, hw1⟩ : ∃ w1, w1 = w.alloc (.cells #[.int .i64 a, .int .i64 b0, .int .i64 s0, .slice A n c] 84) := ⟨_, rfl⟩
 have hb1 : Below w.heap.size w w1 := by rw [hw1]; exact (Below.refl _ _).alloc (nR _) _
 have HP1 := hI (show Blk w1 w.heap.size 84 #[.int .i64 a, .int .i64 b0, .int .i64 s0, .slice A n c] by rw [hw1]; exact Blk.new w _ _)
 have HB1 := hI hb1
 have HW1 := hI hw1
 clear hz hw1 hb1
 go_enter Tryz.func8, Tryz.ntmps8
 go_upto_region 1 with fail
 rw [← HW1.out]
 go_wp2_with fail
 refine (wakes9 w1).mono ?_
 rintro e w2 ⟨rfl, hb2⟩
 have HP2 := hI (HP1.out.below hb2 HP1.out.lt)
 have HB2 := hI (HB1.out.trans (hb2.mono HB1.out.size))
 clear hb2
 have p1 : w2.cell? ⟨w.heap.size, 1, none⟩ = some (.int .i64 b0) := HP2.out.cell 1
 have p2 : w2.cell? ⟨w.heap.size, 2, none⟩ = some (.int .i64 s0) := HP2.out.cell 2
 obtain ⟨m, si, hm, hsi, hsz⟩ := sized9_any b0 s0 w2
 obtain ⟨sc, rfl⟩ : ∃ sc : Nat, si = sc := ⟨si.toNat, by omega⟩
 have HSZ := hI hsz
 clear hsz
 go_wp2_with fail
 refine HSZ.out.mono ?_
 rintro e w3 ⟨rfl, rfl⟩
 clear p1 p2 HSZ
 go_wp2_with fail
 refine (born_any m sc w3 hm hsi).mono ?_
 rintro e w4 ⟨l, p, d, A4, c4, rfl, hlg, _, _, hb4⟩
 have HLG4 := hI hlg
 have HP4 := hI (HP2.out.below hb4 HP2.out.lt)
 have HB4 := hI (HB2.out.trans (hb4.mono HB2.out.size))
 have HSZ4 := hI (show w.heap.size < w3.heap.size from HP2.out.lt)
 have HS34 := hI hb4.size
 clear hlg hb4
 have p0 : w4.cell? ⟨w.heap.size, 0, none⟩ = some (.int .i64 a) := HP4.out.cell 0
 obtain ⟨kk, hkk, hkm, _⟩ := sized_rem (max a 0) m (by omega) (by omega)
 have hm0 : ((m : Int) == 0) = false := by simp; omega
 go_upto_region 8 with fail
 clear p0 hkk hm0
 have HSU := hI (log_super HLG4.out)
 obtain ⟨Y, hXY, hYl, hst, hok⟩ := HLG4.out.sto (fun b h => nL h HS34.out)
 have HBA := hI (sto_base hst kk (by show (kk : Int) < m; exact hkm) (by show (m : Int) ≤ 16; omega) (by show 0 ≤ (sc : Int) ∧ (sc : Int) ≤ 64; omega))
 clear hst hXY hYl hok
 go_wp2_with fail
 refine HSU.out.mono ?_
 rintro e w5 ⟨rfl, rfl⟩
 clear HSU
 go_wp2_with fail
 refine HBA.out.mono ?_
 rintro e w6 ⟨rfl, rfl⟩
 clear HBA
 obtain ⟨M, hM⟩ : ∃ M : Nat, kk * sc = M := ⟨_, rfl⟩
 have hMI : (kk : Int) * (sc : Int) = (M : Int) := by rw [← hM]; exact (Int.natCast_mul kk sc).symm
 have hM1 : M + sc ≤ 1024 := by
  have h1 : (kk + 1) * sc ≤ 16 * 64 := Nat.mul_le_mul (by omega) (by omega)
  rw [Nat.add_mul, Nat.one_mul, hM] at h1
  exact h1
 obtain ⟨w7, hw7⟩ : ∃ w7, w7 = w6.alloc (.cells (cells8 (noughts (sc * 64))) 92) := ⟨_, rfl⟩
 have hb7 : Below w6.heap.size w6 w7 := by rw [hw7]; exact (Below.refl _ _).alloc (nR _) _
 obtain ⟨g, hg⟩ : ∃ g, w6.heap.size = g := ⟨_, rfl⟩
 have HARR := hI (show Arr (Value.int .u8) w7 g 92 (flat (hdL z sc 0)) by
  unfold hdL
  rw [Nat.zero_min, ldL_zero, hw7, ← hg]
  exact Blk.new w6 _ _)
 have HP7 := hI (HP4.out.below hb7 HP4.out.lt)
 have HLG7 := hI (HLG4.out.grow hb7)
 have HB7 := hI (HB4.out.trans (hb7.mono HB4.out.size))
 have HGG := hI (show w6.heap.size = g ∧ g < w7.heap.size from ⟨hg, HARR.out.lt⟩)
 have HW7 := hI hw7.symm
 have HXL := hI (show ∀ b, ((b < w3.heap.size) ∨ (w6.heap.size ≤ b ∧ b < w7.heap.size)) → b < w7.heap.size from fun b hb => by
  have := hb7.size
  have := HS34.out
  omega)
 have p3 : w7.cell? ⟨w.heap.size, 3, none⟩ = some (.slice A n c) := HP7.out.cell 3
 rw [hMI]
 clear hw7
 go_upto_region 12 with (refine wpList_make_secs (.tmp 46) (.tmp 46) rfl rfl sc sc sc rfl rfl rfl rfl (by omega) ?_)
 rw [HW7.out]
 go_wp2_with fail
 clear p3 hb7 hg HLG4 HP4
 have HD0 := hI (show ∀ q, q < sc → strV (bornK m sc) ⟨m, sc, 0, 0, 0, 0⟩ kk q = (hdL z sc 0).getD q [] from fun q hq => by
  unfold strV
  rw [if_pos (show (q : Int) < sc by omega)]
  show (bornK m sc).held.getD (2 + (kk : Int) * (sc : Int) + q).toNat [] = _
  rw [hMI, born_held _ _ _ (by omega) (by omega)]
  unfold hdL ldL secsAt
  simp [List.getD, List.getElem?_replicate, hq])
 have HMI := hI hMI
 have HM1 := hI hM1
 clear hM hMI hM1
 go_loopw [51] (fun iv wr => ∃ (i : Nat) (kj : Dk), iv = .int .i64 i ∧ i ≤ n ∧ LogM wr (fun b => (b < w3.heap.size) ∨ (w6.heap.size ≤ b ∧ b < w7.heap.size)) l p d 1026 ⟨m, sc, 0, 0, 0, 0⟩ 0 kj sc A4 m c4 (List.replicate m seg0) false ∧ Good kj ∧ kj.pend.length ≤ min i sc ∧
  (∀ q, q < sc → strV kj ⟨m, sc, 0, 0, 0, 0⟩ kk q = (hdL z sc i).getD q []) ∧ Arr (Value.int .u8) wr g 92 (flat (hdL z sc i)) ∧ Below w.heap.size w wr ∧ w7.heap.size ≤ wr.heap.size) (fun iv _ => n - (intOf iv).toNat)
 case atStart => exact ⟨0, bornK m sc, rfl, Nat.zero_le _, HLG7.out, born_good _ _, by rw [born_pend]; exact Nat.zero_le _, HD0.out, HARR.out, HB7.out, nR _⟩
 case round =>
 clear HLG7 HD0 HARR HB7
 obtain ⟨i, kj, rfl, hin, hlg, hgd, hpe, hv, harr, hb, hz7⟩ := hrel
 have HLG := hI hlg
 have HGD := hI hgd
 have HV := hI hv
 have HAR := hI harr
 have HB := hI hb
 have HPE := hI hpe
 have HZ7 := hI hz7
 clear hlg hgd hv harr hb hpe hz7
 by_cases hlt : i < n
 ·obtain ⟨b, off, rfl, hbS, hc⟩ := HZ.out.row.2 (by omega)
  have hr := hc i hlt
  obtain ⟨ys, hys⟩ : ∃ ys, z.getD i [] = ys := ⟨_, rfl⟩
  have hyl : ys.length = 64 := by rw [← hys]; exact HZ.out.secs.get i (by have := HZL.out; omega)
  have hyb : Bytes ys := by rw [← hys]; exact HZ.out.byt i
  rw [hys] at hr
  have HYR := hI (show wr.rangeAt b (off + i * 64) (ys.map (Value.int .u8)) from fun j v hv => (HB.out.cell (p := ⟨b, _, none⟩) hbS).trans (hr j v hv))
  have HYL := hI hyl
  have HYB := hI hyb
  have HYS := hI hys
  obtain ⟨w8, hw8⟩ : ∃ w8, w8 = wr.alloc (.cells (cells8 ys) 92) := ⟨_, rfl⟩
  have hb8 : Below wr.heap.size wr w8 := by rw [hw8]; exact (Below.refl _ _).alloc (nR _) _
  have HA8 := hI (show ArrB w8 wr.heap.size ys by rw [hw8]; exact Blk.new wr _ _)
  have HLG8 := hI (HLG.out.below hb8)
  have HAR8 := hI (show Arr (Value.int .u8) w8 g 92 (flat (hdL z sc i)) from Blk.below HAR.out hb8 (Blk.lt HAR.out))
  have HB8 := hI (HB.out.trans (hb8.mono HB.out.size))
  have HZ8 := hI (show w7.heap.size ≤ w8.heap.size from nT HZ7.out hb8.size)
  have HGW := hI (show g < wr.heap.size from Blk.lt HAR.out)
  have HW8 := hI hw8.symm
  clear hr hc hys hyl hyb hw8 hb8
  have hi2 : (i : Int) < n := by omega
  have hwr1 : wrap64 ((i : Int) + 1) = (i : Int) + 1 := wr_next hlt HZ.out.n63
  have HME := hI (me_next hlt)
  by_cases his : i < sc
  ·have hi3 : (i : Int) < sc := Int.ofNat_lt.2 his
   have HL8 := hI (ldL_length (fun q => if q < z.length then z.getD q [] else noughts 64) (count := sc) (j := min i sc) (Nat.min_le_right _ _))
   have HSS8 := hI (ldL_secs (writ_V HZ.out.secs) sc (min i sc))
   have HFIT := hI (show i * 64 + 64 ≤ (flat (hdL z sc i)).length by rw [flat_length HSS8.out, HL8.out]; omega)
   have HSET := hI (show (flat (hdL z sc i)).take (i * 64) ++ ys ++ (flat (hdL z sc i)).drop (i * 64 + 64) = flat (hdL z sc (i + 1)) by
    have e1 : min i sc = i := by omega
    have e2 : min (i + 1) sc = i + 1 := by omega
    have h1 := HSS8.out
    have h2 := HL8.out
    rw [e1] at h1 h2
    unfold hdL
    rw [e1, e2, flat_set_s5 h1 i (by rw [h2]; exact his) ys HYL.out]
    rw [← ldL_set (fun q => if q < z.length then z.getD q [] else noughts 64) his]
    rw [if_pos (by have := HZL.out; omega), HYS.out])
   obtain ⟨w9, hw9⟩ : ∃ w9, w9 = w8.setRow g (((flat (hdL z sc (i + 1))).map (Value.int .u8)).toArray) := ⟨_, rfl⟩
   have hk9 : Kept (fun b => b ≠ g) w8 w9 := by rw [hw9]; exact (Kept.refl _ _).setRow (fun h => h rfl) _
   have HAR9 := hI (show Arr (Value.int .u8) w9 g 92 (flat (hdL z sc (i + 1))) by rw [hw9]; exact setRow_heap _ _ _ _ _ _ HAR8.out)
   have HA9 := hI (show ArrB w9 wr.heap.size ys from Blk.kept HA8.out hk9 (by have := HGW.out; omega))
   have HLG9 := hI (HLG8.out.off hk9 (fun b hb hn e => hn (.inr (by rw [e]; have := HGG.out; omega))))
   have HB9 := hI (show Below w.heap.size w w9 by rw [hw9]; exact below_setRow HB8.out (by have h1 := HGG.out.1; have h2 := HS34.out; have h3 := HSZ4.out; omega) _)
   have HXL9 := hI (show ∀ b, ((b < w3.heap.size) ∨ (w6.heap.size ≤ b ∧ b < w7.heap.size)) → b < w9.heap.size from fun b hb => by
    have h1 := HXL.out b hb
    have h2 := HZ8.out
    have h3 := hk9.size
    omega)
   have HW9 := hI hw9.symm
   obtain ⟨Y, _, _, _, hok⟩ := HLG9.out.sto HXL9.out
   have HHL := hI hok.heldLen
   have HWR := hI (log_write HLG9.out HXL9.out HGD.out (2 + M + i) (by have := HM1.out; omega) ys HYL.out HYB.out (by have := HPE.out; omega))
   have hcast : ((2 + M + i : Nat) : Int) = 2 + (M : Int) + (i : Int) := by omega
   rw [hcast] at HWR
   have hwr2 : wrap64 (2 + (M : Int) + (i : Int)) = 2 + (M : Int) + (i : Int) := IntWalk.wrap64_in _ (by have := HM1.out; omega)
   have HGQ := hI (show w6.heap.size ≤ g ∧ g < w7.heap.size from ⟨Nat.le_of_eq HGG.out.1, HGG.out.2⟩)
   have HZ9 := hI (nT HZ8.out hk9.size)
   have HPE10 := hI (show (kj.wr (Dk.put (2 + M + i) ys)).pend.length ≤ min (i + 1) sc from by
    have h1 := HPE.out
    have h2 := wr_pend kj (2 + M + i) ys
    exact pe_next h1 his h2)
   have HV10 := hI (show ∀ q, q < sc → strV (kj.wr (Dk.put (2 + M + i) ys)) ⟨m, sc, 0, 0, 0, 0⟩ kk q = (hdL z sc (i + 1)).getD q [] from fun q hq => by
    have h2 := put_V (m := m) (ys := ys) HGD.out HMI.out HM1.out HHL.out his q hq
    rw [h2, HV.out q hq]
    unfold hdL
    rw [min_small his, min_small2 his, ldL_get his hq, if_pos (show i < z.length by rw [HZL.out]; exact hlt), HYS.out])
   clear hw9 hk9 hcast hok
   go_wp2_with (first
    | (refine wpList_load_blk (.tmp 54) rfl rfl b (off + i * 64) rfl ys HYL.out HYR.out ?_)
    | (refine wpList_alloc_blk rfl rfl ?_)
    | (refine wpList_store_new (.tmp 12) (.tmp 55) rfl rfl wr ys rfl rfl (noughts 64) rfl (noughts_length 64) HYL.out ?_; rw [HW8.out])
    | (refine wpList_load_blk (.tmp 12) rfl rfl wr.heap.size 0 rfl ys HYL.out HA8.out.range ?_)
    | (refine wpList_load_blk (.tmp 12) rfl rfl wr.heap.size 0 rfl ys HYL.out HA9.out.range ?_)
    | (refine wpList_store_sec (.tmp 62) (.tmp 61) rfl rfl g (i * 64) ys rfl rfl 92 _ HAR8.out HYL.out HFIT.out ?_; rw [HSET.out, HW9.out]))
   refine HWR.out.mono ?_
   rintro e w10 ⟨rfl, hlg10, hk10⟩
   have HAR10 := hI (show Arr (Value.int .u8) w10 g 92 (flat (hdL z sc (i + 1))) from Blk.kept HAR9.out hk10 (.inr HGQ.out))
   have HB10 := hI (HB9.out.trans (hk10.to_below (B := w.heap.size) (fun b hb => .inl (Nat.lt_trans hb HSZ4.out))))
   have HZ10 := hI (nT HZ9.out hk10.size)
   have HLG10 := hI hlg10
   clear hlg10 hk10 HWR
   go_wp2_with fail
   go_roundw
   case rel => exact ⟨i + 1, _, by rw [hwr1]; rfl, hlt, HLG10.out, HGD.out.put _ _, HPE10.out, HV10.out, HAR10.out, HB10.out, HZ10.out⟩
   case measure => rw [hwr1]; exact HME.out
  ·have hi3 : ¬ ((i : Int) < sc) := fun h => his (Int.ofNat_lt.1 h)
   have e1 : hdL z sc (i + 1) = hdL z sc i := by unfold hdL; rw [min_big his]
   have HE1 := hI e1
   have HPE2 := hI (pe_big HPE.out his)
   clear e1
   go_wp2_with (first
    | (refine wpList_load_blk (.tmp 54) rfl rfl b (off + i * 64) rfl ys HYL.out HYR.out ?_)
    | (refine wpList_alloc_blk rfl rfl ?_)
    | (refine wpList_store_new (.tmp 12) (.tmp 55) rfl rfl wr ys rfl rfl (noughts 64) rfl (noughts_length 64) HYL.out ?_; rw [HW8.out]))
   go_roundw
   case rel => exact ⟨i + 1, kj, by rw [hwr1]; rfl, hlt, HLG8.out, HGD.out, HPE2.out, by rw [HE1.out]; exact HV.out, by rw [HE1.out]; exact HAR8.out, HB8.out, HZ8.out⟩
   case measure => rw [hwr1]; exact HME.out
 ·obtain rfl : i = n := Nat.le_antisymm hin (Nat.le_of_not_lt hlt)
  have hXLr : ∀ b, ((b < w3.heap.size) ∨ (w6.heap.size ≤ b ∧ b < w7.heap.size)) → b < wr.heap.size := fun b hb => nL (HXL.out b hb) HZ7.out
  have HSU := hI (log_super HLG.out)
  obtain ⟨Y, hXY, hYl, hst, hok⟩ := HLG.out.sto hXLr
  have HHD := hI (show secsAt (strV kj ⟨m, sc, 0, 0, 0, 0⟩ kk) 0 sc = hdL z sc i from secsAt_list (ldL_length _ (Nat.min_le_right _ _)) HV.out)
  have HSCN := hI (scan_good hst hYl (born_may hm hsi) HGD.out hok kk (by show (kk : Int) < m; exact hkm) (by show 2 + (m : Int) * (sc : Int) ≤ ((1026 : Nat) : Int); exact born_room hm hsi) (by decide))
  have HYG := hI (hXY g (.inr ⟨Nat.le_of_eq HGG.out.1, HGG.out.2⟩))
  have HYW := hI (show ∀ b, b < w.heap.size → Y b from fun b h => hXY b (.inl (Nat.lt_trans h HSZ4.out)))
  have HSS := hI (ldL_secs (writ_V HZ.out.secs) sc (min i sc))
  have HBS := hI (ldL_bytes (V := fun q => if q < z.length then z.getD q [] else noughts 64) (fun q => by
   try dsimp only
   split
   ·exact HZ.out.byt q
   ·exact noughts_bytes9 64) sc (min i sc))
  have HLL := hI (ldL_length (fun q => if q < z.length then z.getD q [] else noughts 64) (count := sc) (j := min i sc) (Nat.min_le_right _ _))
  have hge : ¬ ((i : Int) < i) := Int.lt_irrefl _
  have HK15 := hI (show kk ≤ 15 from born_kk hm hkm)
  have HSC1 := hI (show 1 ≤ sc ∧ sc ≤ 80000 from born_sc hsi)
  clear hst hYl hXY hok hXLr hlt
  go_wp2_with fail
  refine HSU.out.mono ?_
  rintro e w8' ⟨rfl, rfl⟩
  clear HSU hge
  go_wp2_with fail
  refine HSCN.out.mono ?_
  rintro e w8 ⟨k', A5, c5, ts, gen, used, m5, rfl, hm5, _, _, _, hk5, hgen, hg0, hg1, htold⟩
  rw [show (⟨m, sc, 0, 0, 0, 0⟩ : Sup).b.toNat = sc from rfl, HHD.out] at hgen hg1
  have HAR8 := hI (show Arr (Value.int .u8) w8 g 92 (flat (hdL z sc i)) from Blk.kept HAR.out hk5 HYG.out)
  have HB8 := hI (HB.out.trans (hk5.to_below (B := w.heap.size) HYW.out))
  obtain ⟨w9, hw9⟩ : ∃ w9, w9 = (w8.alloc (.cells zeroS9 60)).setRow w8.heap.size (scanC gen used (.slice A5 ts.length c5)) := ⟨_, rfl⟩
  have hb9 : Below w8.heap.size w8 w9 := by rw [hw9]; exact below_setRow ((Below.refl _ _).alloc (nR _) _) (nR _) _
  have HS9 := hI (show Blk w9 w8.heap.size 60 (scanC gen used (.slice A5 ts.length c5)) by rw [hw9]; exact setRow_heap _ _ _ _ _ _ (Blk.new w8 _ _))
  have HT9 := hI (htold.below hb9)
  have HAR9 := hI (show Arr (Value.int .u8) w9 g 92 (flat (hdL z sc i)) from Blk.below HAR8.out hb9 (Blk.lt HAR8.out))
  have HB9 := hI (HB8.out.trans (hb9.mono HB8.out.size))
  have HGEN := hI hgen
  have HG0 := hI hg0
  have HG1 := hI hg1
  have HW9 := hI hw9.symm
  clear hm5 hk5 hgen hg0 hg1 htold hw9 hb9 HSCN
  go_upto_region 21 with (refine wpList_store_rowB (.tmp 13) (.tmp 76) 60 rfl rfl w8.heap.size (scanC gen used (.slice A5 ts.length c5)) rfl rfl 60 _ (Blk.new w8 _ _) size_scan rfl (by simp [Value.oneCell']) ?_; rw [HW9.out])
  refine Tillst.region (fun W => Below w9.heap.size w9 W) [] (by kernel_rfl) ((Below.refl _ _).drew) (fun hė => ?_)
  generalize w9.drew = vd at *
  refine Tillst.tk 0 ls0 (v := ?_) rfl (by kernel_rfl) (by rfl) ?_ hė ?_
  rotate_left
  ·intro W hSW; (try dsimp only at hSW); unfold ls0; go_simp; with_reducible rfl
  simp only [ls0, Act.put, sA, sZ, sS]
  refine Tillst.tk 1 ls1 (v := .bool true) rfl (by kernel_rfl) (by rfl) ?_ hė ?_
  ·intro W hSW; clear hSW; unfold ls1; go_simp
  simp only [ls1, Act.put, sA, sZ, sS]
  refine Tillst.tk 2 ls2 (v := ?_) rfl (by kernel_rfl) (by rfl) ?_ hė ?_
  rotate_left
  ·intro W hSW; (try dsimp only at hSW); unfold ls2; go_simp; with_reducible rfl
  simp only [ls2, Act.put, sA, sZ, sS]
  refine Tillst.tk 3 ls3 (v := .agg (scanC gen used (.slice A5 ts.length c5))) rfl (by kernel_rfl) (by rfl) ?_ hė ?_
  ·intro W hSW; refine exec_load_row (.tmp 13) 60 ?_ w8.heap.size 0 ?_ (scanC gen used (.slice A5 ts.length c5)).toList _ Tryz.underlying60 rfl size_scan (Blk.rangeL (cs := (scanC gen used (.slice A5 ts.length c5)).toList) (HS9.out.below hSW HS9.out.lt)) <;> rfl
  simp only [ls3, Act.put, sA, sZ, sS]
  refine Tillst.tk 4 ls4 (v := ?_) rfl (by kernel_rfl) (by rfl) ?_ hė ?_
  rotate_left
  ·intro W hSW; (try dsimp only at hSW); unfold ls4; go_simp; with_reducible rfl
  simp only [ls4, Act.put, sA, sZ, sS]
  refine Tillst.tk 5 ls5 (v := ?_) rfl (by kernel_rfl) (by rfl) ?_ hė ?_
  rotate_left
  ·intro W hSW; (try dsimp only at hSW); unfold ls5; go_simp; with_reducible rfl
  simp only [ls5, Act.put, sA, sZ, sS]
  refine Tillst.one (i := 6) (o := ls6) (by kernel_rfl) rfl ?_
  intro K hK
  have hARd : Arr (Value.int .u8) vd g 92 (flat (hdL z sc i)) := Blk.below HAR9.out hė (Blk.lt HAR9.out)
  refine step_call 46 #[.tmp 82, .tmp 83] #[82, 3] rfl rfl Tryz.func46 rfl rfl [.slice (some ⟨g, 0, none⟩) sc sc, .int .i64 (kk : Nat)] rfl ((rscan_any (some ⟨g, 0, none⟩) sc sc (hdL z sc i) (fun b => b < vd.heap.size) vd (Arr.rowK hARd HSS.out HLL.out (Blk.lt hARd)) (fun b h => h) HSS.out HBS.out HSC1.out.1 HSC1.out.2 (nR _) kk HK15.out).mono ?_)
  rintro e w10 ⟨hb10, A6, c6, rs, gen', used', rfl, hgen', hg0', hg1', htold'⟩
  refine ⟨_, rfl, ?_⟩
  simp only [ls6, Act.put, sA, sZ, sS]
  have hEG : gen' = gen := hgen'.trans HGEN.out.symm
  subst hEG
  have hEU : used' = used ∧ ts.map Tl.two = rs.map Tr.two := by
   by_cases e0 : gen' = 0
   ·obtain ⟨q1, q2⟩ := HG0.out e0
    obtain ⟨q3, q4⟩ := hg0' e0
    rw [q1, q2, q3, q4]
    exact ⟨rfl, rfl⟩
   ·obtain ⟨q1, q2⟩ := HG1.out e0
    obtain ⟨q3, q4⟩ := hg1' e0
    rw [q1, q2, q3, q4]
    exact ⟨rfl, rfl⟩
  obtain ⟨hEU1, hEU2⟩ := hEU
  subst hEU1
  have hlen : rs.length = ts.length := by have h9 := congrArg List.length hEU2; simpa using h9.symm
  have hH10 : Below w9.heap.size w9 w10 := hė.trans (hb10.mono hė.size)
  have HT10 := hI (HT9.out.below hH10)
  have HTR := hI htold'
  have HBY := hI (show (∀ t, t ∈ ts → Bytes t.bs) ∧ ts.length ≤ 100000 from by
   by_cases e0 : gen' = 0
   ·obtain ⟨q1, q2⟩ := HG0.out e0
    rw [q2]
    exact ⟨fun t ht => by simp at ht, by simp⟩
   ·obtain ⟨q1, q2⟩ := HG1.out e0
    refine ⟨fun t ht => scanL_bytes HBS.out _ _ (Tl.two t) (by rw [← q2]; exact List.mem_map_of_mem ht), ?_⟩
    have h9 := congrArg List.length q2
    rw [List.length_map] at h9
    rw [h9]
    exact nT (scanL_len _ _ _ _) (by rw [HLL.out]; exact nT HSC1.out.2 (by decide)))
  rw [hlen]
  refine hK.out _ _ (fun _ => hH10) (fun hė => ?_)
  replace hė := hė (by decide)
  clear hK K hH10 hb10 hARd
  refine Tillst.one (i := 7) (o := ls7) (by kernel_rfl) rfl ?_
  intro K hK
  refine step_call 45 #[.tmp 81, .tmp 84] #[60, 60] rfl rfl Tryz.func45 rfl rfl [.agg (scanC gen' used' (.slice A5 ts.length c5)), .agg (scanC gen' used' (.slice A6 ts.length c6))] rfl ((same_scan9 HT10.out HTR.out hEU2 rfl hlen HBY.out.2 HBY.out.1).mono ?_)
  rintro e w11 ⟨rfl, hb11⟩
  refine ⟨_, rfl, ?_⟩
  simp only [ls7, Act.put, sA, sZ, sS]
  have hH11 : Below w9.heap.size w9 w11 := hė.trans (hb11.mono hė.size)
  refine hK.out _ _ (fun _ => hH11) (fun hė => ?_)
  replace hė := hė (by decide)
  clear hK K hH11 hb11
  refine Tillst.tk 8 ls8 (v := ?_) rfl (by kernel_rfl) (by rfl) ?_ hė ?_
  rotate_left
  ·intro W hSW; (try dsimp only at hSW); unfold ls8; go_simp; with_reducible rfl
  simp only [ls8, Act.put, sA, sZ, sS]
  refine Tillst.tk 9 ls9 (v := ?_) rfl (by kernel_rfl) (by rfl) ?_ hė ?_
  rotate_left
  ·intro W hSW; (try dsimp only at hSW); unfold ls9; go_simp; with_reducible rfl
  simp only [ls9, Act.put, sA, sZ, sS]
  refine Tillst.done (by kernel_rfl) ?_ _
  have HBE := hI (HB9.out.trans (hė.mono HB9.out.size))
  clear hė
  go_wp2_with fail
  (first | go_ret | go_ret2)
  exact ⟨rfl, HBE.out⟩
end
end Go.Proofs.YtknfblfnfoibkaaGreat
