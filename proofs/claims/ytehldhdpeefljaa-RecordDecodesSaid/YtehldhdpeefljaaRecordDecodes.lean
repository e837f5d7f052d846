/- For every list of bytes (of its first 1200): the record that they begin with, how many bytes it has and the error are the document's, twice; the bytes, and what stands behind them, are as they were, also when the lists that Decode told are overwritten. No condition. -/
import Derived.Test.YtehldhdpeefljaaRows
import Derived.WalkKit
import Derived.ProofKit
import Derived.OpenShut
import Derived.ShutString
import Derived.ChangeOld
import Derived.Below
import Derived.SizedLaws
import Derived.Test.YtehldhdpeefljaaWakes
import Derived.Test.YtehldhdpeefljaaDecNeed
import Derived.Test.YtehldhdpeefljaaRDec
import Derived.Test.YtehldhdpeefljaaRSame
import Derived.Test.YtehldhdpeefljaaEqual
import Derived.Test.YtehldhdpeefljaaRoom
import Derived.Test.YtehldhdpeefljaaArgs
import Derived.Deep.DeepCutAuto
namespace Go.Proofs.Ytehldhdpeefljaa.recordDecodes
open Go.ChangeShapes Go.WideShapes Go.ChangeAt Go.RowKit
open Go.ChangeMaps (open_string shut_string)
set_option linter.unusedVariables false

theorem own : ownKnob Try.prog.godebug = none := by kernel_rfl
theorem laidOut : laidOutB Try.prog = true := by kernel_rfl
theorem bytes5 : Try.prog.bytesOf 5 = 1 := by kernel_rfl

/-- A slice of integers that came in: nil; or a row of 'cap' cells, the numbers 'zs', each fitting its kind. -/
def IsRow (k : IntKind) (w : World) (a : Option Addr) (len cap : Nat) (zs : List Int) : Prop :=
  (a = none ∧ len = 0 ∧ cap = 0 ∧ zs = []) ∨
  ∃ x : Addr, a = some x ∧ len ≤ cap ∧ cap ≤ maxLen ∧ zs.length = cap ∧ (∀ i, i < zs.length → w.cell? (x.add i) = some (.int k (zs.getD i 0))) ∧ ∀ n ∈ zs, (Lit.int k n).wf = true

/-- The bytes of a block are overwritten from the left; nothing else has turned. -/
def Over (w0 wr : World) (g n : Nat) : Prop := ∃ zs : List Int, zs.length = n ∧ ArrU wr g zs ∧ Kept (fun b => b ≠ g) w0 wr
theorem Over.set {w0 wr : World} {g n : Nat} (h : Over w0 wr g n) (j : Nat) (u : Int) : Over w0 (wr.setCell ⟨g, j, none⟩ (.int .u8 u)) g n := by
  obtain ⟨zs, hl, ho, hk⟩ := h
  exact ⟨zs.set j u, by simpa using hl, Arr.set ho j u, hk.setCell (fun h => h rfl) _⟩
theorem Over.cell {w0 wr : World} {g n : Nat} (h : Over w0 wr g n) (j : Nat) (hj : j < n) : (∃ u : Int, wr.cell? ⟨g, j, none⟩ = some (.int .u8 u)) ∧ wr.frozen? ⟨g, j, none⟩ = false := by
  obtain ⟨zs, hl, ho, hk⟩ := h
  exact ⟨⟨_, ho.cell (by omega) 0⟩, ho.frozen j⟩

set_option maxRecDepth 100000 in
set_option maxHeartbeats 4000000 in
theorem walk_ok (A : Option Addr) (len n c : Nat) (xs : List Int) (w : World) (hx : RowI .u8 w (· < w.heap.size) A n xs) (hby : Bytes xs) (hmin : (len ≤ 1200 ∧ n = len) ∨ (1200 < len ∧ n = 1200)) (hnc : len ≤ c) (hnil : A = none → c = 0) (hok : DecOk xs n) :
    Calls Try.prog 4 #[.slice A len c] w fun e w' => e = .returned (.bool true) ∧ Below w.heap.size w w' := by
  obtain ⟨i0, hi, hz0, hz1, hz2⟩ := info_parts info_u8
  have n9 : n ≤ 1200 := by omega
  have hnc2 : n ≤ c := by omega
  have hmk : ∀ u : World, (Instr.makeSlice 24 (.int .i64 0) (.int .i64 ((n : Int) + 2))).run Try.prog u = .ok (.slice (some ⟨u.heap.size, 0, none⟩) 0 (n + 2)) (u.alloc (.cells (madeCells #[.int .u8 0] (n + 2)) 5)) := by
    intro u
    have := run_make (P := Try.prog) (w := u) 24 5 i0 (.int .u8 0) Try.underlying24 hi hz0 .i64 .i64 0 ((n : Int) + 2) (by omega) (by omega) (by rw [hz2]; omega) (by omega)
    rw [hz1, show ((n : Int) + 2).toNat = n + 2 by omega, Nat.mul_one] at this
    exact this
  have HMIN := Lib.hid hmin
  have HX := Lib.hid hx
  have HBY := Lib.hid hby
  obtain ⟨hn21, hmb, hle⟩ := hok
  have hlx := hx.1
  have hkl : (keyOf xs).length = klenOf xs := by unfold keyOf; unfold needOf at hle; simp; omega
  have hvl : (valOf xs).length = vlenOf xs := by unfold valOf; unfold needOf at hle; simp; omega
  have HKL := Lib.hid hkl
  have HVL := Lib.hid hvl
  have k9 : klenOf xs ≤ 250 := hmb.2.2.1
  have v9 : vlenOf xs ≤ 512 := hmb.2.2.2.1
  have HMB := Lib.hid hmb
  have HLE := Lib.hid hle
  have HBK := Lib.hid (show Bytes (keyOf xs) from bytes_part hby _ _)
  have HBV := Lib.hid (show Bytes (valOf xs) from bytes_part hby _ _)
  have HNK := Lib.hid (show needK xs n = needOf xs from if_pos ⟨hn21, hmb⟩)
  have HNE := Lib.hid (show needE xs n = 0 from if_pos ⟨hn21, hmb⟩)
  have HXL := Lib.hid hx.1
  clear hx hby hmin hmb hkl hvl hle hlx
  go_enter Try.func4, Try.ntmps4
  go_wp2_with fail
  refine (wakes_any w).mono ?_
  rintro e w1 ⟨rfl, hb1⟩
  have HB1 := Lib.hid hb1
  clear hb1
  go_upto_region 3 with fail
  go_cut [0] (fun s wx => s = .slice A n c ∧ wx = w1)
  case first =>
    rcases HMIN.out with ⟨hle, rfl⟩ | ⟨hgt, rfl⟩
    · have h2 : ¬ (1200 : Int) < n := by omega
      go_wp2
      go_meet
      exact ⟨rfl, rfl⟩
    · have h2 : (1200 : Int) < len := by omega
      go_wp2
      go_meet
      exact ⟨rfl, rfl⟩
  case rest =>
    obtain ⟨rfl, rfl⟩ := hcut
    have HX1 := Lib.hid (HX.out.below HB1.out (fun b h => h))
    go_wp2_with (at_builtin; refine wpList_append_rowG (mk := Value.int .u8) (d := 0) rfl (.tmp 27) (.tmp 28) 24 rfl wc.heap.size 5 i0 (.int .u8 0) 1 Try.underlying24 hi hz0 hz1 hz2 rfl (fun _ => rfl) _ 0 [] rfl (World.ownsRow_made wc (madeCells #[.int .u8 0] (n + 2)) (n + 2) (Nat.le_refl _) (by unfold maxLen; omega) (by simp [size_madeCells])) (· < w.heap.size) A n c xs rfl (HX1.out.keep ?c0) hnil ?c2 ?c3 ?c4 ?_)
    case c0 => exact fun p hp => World.cell?_alloc_lt wc _ p (Nat.lt_of_lt_of_le hp HB1.out.size)
    case c2 => unfold maxLen; omega
    case c3 => omega
    case c4 => simp
    intro v1 w2 hown1 hgrow1 _
    have hb2 : Below wc.heap.size wc w2 := ((Below.refl _ _).alloc (Nat.le_refl _) _).grown hgrow1 (by simp) (fun k hk => by simp [Value.ownBlock] at hk; omega)
    have hown1 : w2.ownsRow wc.heap.size 5 1 v1 n (xs.map (Value.int .u8)) := by first | exact hown1 | simpa using hown1
    have HO2 := Lib.hid (hown1.alloc (.cells #[.int .u8 7] 5))
    have HL2 := Lib.hid hown1.lt
    have HB2 := Lib.hid (HB1.out.trans (hb2.mono HB1.out.size))
    have HX2 := Lib.hid (HX1.out.below hb2 (fun b h => Nat.lt_of_lt_of_le h HB1.out.size))
    have HS2 := Lib.hid hb2.size
    clear hown1 hgrow1 hb2
    go_wp2_with (at_builtin; refine wpList_append_rowG (mk := Value.int .u8) (d := 0) rfl (.tmp 29) (.tmp 30) 24 rfl wc.heap.size 5 i0 (.int .u8 0) 1 Try.underlying24 hi hz0 hz1 hz2 rfl (fun _ => rfl) _ n _ rfl HO2.out (· = w2.heap.size) (some ⟨w2.heap.size, 0, none⟩) 1 1 [7] rfl (row_new1 (Value.int .u8) 0 w2 5 7) (fun h => by cases h) ?d2 ?d3 ?d4 ?_)
    case d2 => unfold maxLen; omega
    case d3 => omega
    case d4 => simp; have := HS2.out; omega
    intro v2 w3 hown2 hgrow2 _
    have hown2 : w3.ownsRow wc.heap.size 5 1 v2 (n + 1) ((xs ++ [7]).map (Value.int .u8)) := by rw [List.map_append]; exact hown2
    have HB3 := Lib.hid (HB2.out.trans (((Below.refl w2.heap.size w2).alloc (Nat.le_refl _) (.cells #[.int .u8 7] 5)).mono HB2.out.size |>.grown hgrow2 (by simp; have := HB2.out.size; omega) (fun g hg => by have := (HL2.out g hg).1; have := HB1.out.size; omega)))
    have HX3 := Lib.hid (HX2.out.below (((Below.refl wc.heap.size w2).alloc HS2.out (.cells #[.int .u8 7] 5)).grown hgrow2 (by simp; have := HS2.out; omega) (fun g hg => (HL2.out g hg).1)) (fun b h => Nat.lt_of_lt_of_le h HB1.out.size))
    obtain ⟨g, cap, rfl, hroom⟩ := room_of hown2 HXL.out
    have hcap : n + 1 ≤ cap := hroom.cap_le
    have HR3 := Lib.hid hroom
    clear hown2 hgrow2 hroom
    have hcap2 : (n : Int) ≤ cap := by omega
    go_wp2_with fail
    refine (rdec_ok A n c xs (· < w.heap.size) _ HX3.out (fun b h => Nat.lt_of_lt_of_le h HB3.out.size) HBY.out hn21 hnc2 HMB.out HLE.out).mono ?_
    rintro e w4 ⟨A1, c1, A2, c2, rfl, ha1, ha2, hb⟩
    obtain ⟨w5, hw5⟩ : ∃ w5, w5 = w4.alloc (.cells (recC (kindOf xs) (flagsOf xs) (expOf xs) (seqOf xs) A1 (klenOf xs) c1 A2 (vlenOf xs) c2) 26) := ⟨_, rfl⟩
    have hb5 : Below w3.heap.size w3 w5 := by rw [hw5]; exact hb.alloc hb.size _
    have HX5 := Lib.hid (HX3.out.below hb5 (fun b h => Nat.lt_of_lt_of_le h HB3.out.size))
    have HB5 := Lib.hid (HB3.out.trans (hb5.mono HB3.out.size))
    have HR5 := Lib.hid (HR3.out.below hb5)
    have HT5 := Lib.hid (show Blk w5 w4.heap.size 26 (recC (kindOf xs) (flagsOf xs) (expOf xs) (seqOf xs) A1 (klenOf xs) c1 A2 (vlenOf xs) c2) by rw [hw5]; exact Blk.new w4 _ _)
    have HK5 := Lib.hid (show RowI .u8 w5 (fun b => b < w5.heap.size) A1 (klenOf xs) (keyOf xs) by rw [hw5]; exact (ha1.keep (fun p hp => World.cell?_alloc_lt _ _ p hp.2)).more (fun b h => by simp; omega))
    have HV5 := Lib.hid (show RowI .u8 w5 (fun b => b < w5.heap.size) A2 (vlenOf xs) (valOf xs) by rw [hw5]; exact (ha2.keep (fun p hp => World.cell?_alloc_lt _ _ p hp.2)).more (fun b h => by simp; omega))
    have HW5 := Lib.hid hw5
    clear hb hb5 hw5 ha1 ha2 hown2
    go_wp2_with fail
    rw [← HW5.out]
    refine (rneed_all A n c xs (· < w.heap.size) _ HX5.out (fun b h => Nat.lt_of_lt_of_le h HB5.out.size) HBY.out hnc2).mono ?_
    rintro e w6 ⟨rfl, hb⟩
    rw [HNK.out, HNE.out]
    have HB6 := Lib.hid (HB5.out.trans (hb.mono HB5.out.size))
    have HX6 := Lib.hid (HX5.out.below hb (fun b h => Nat.lt_of_lt_of_le h HB5.out.size))
    have HR6 := Lib.hid (HR5.out.below hb)
    have HT6 := Lib.hid (HT5.out.below hb HT5.out.lt)
    have HK6 := Lib.hid (HK5.out.below hb (fun b h => h))
    have HV6 := Lib.hid (HV5.out.below hb (fun b h => h))
    have HS56 := Lib.hid hb.size
    clear hb
    go_wp2_with fail
    go_loopw [9] (fun i wr => ∃ j : Nat, j ≤ 2 ∧ i = .int .i64 j ∧ Below w6.heap.size w6 wr) (fun i _ => 2 - (intOf i).toNat)
    case atStart => exact ⟨0, by omega, rfl, Below.refl _ _⟩
    case round =>
      obtain ⟨j, hj, rfl, hbr⟩ := hrel
      have HBR := Lib.hid hbr
      clear hbr
      by_cases hlt : j < 2
      · have HX7 := Lib.hid (HX6.out.below HBR.out (fun b h => Nat.lt_of_lt_of_le h HB6.out.size))
        have HB7 := Lib.hid (HB6.out.trans (HBR.out.mono HB6.out.size))
        have HR7 := Lib.hid (HR6.out.below HBR.out)
        have HT7 := Lib.hid (HT6.out.below HBR.out HT6.out.lt)
        have HK7 := Lib.hid (HK6.out.below HBR.out (fun b h => Nat.lt_of_lt_of_le h HS56.out))
        have HV7 := Lib.hid (HV6.out.below HBR.out (fun b h => Nat.lt_of_lt_of_le h HS56.out))
        have HS57 := Lib.hid (Nat.le_trans HS56.out HBR.out.size)
        go_wp2_with fail
        refine (dec_ok (some ⟨g, 0, none⟩) n cap xs (· = g) _ (HR7.out.row rfl) (fun b h => by rw [h]; exact HR7.out.lt.2) HBY.out hn21 (by omega) HMB.out HLE.out).mono ?_
        rintro e w8 ⟨b1, b2, rfl, h1, h2, hne, ha1, ha2, hb⟩
        have hb9 := hb.alloc hb.size (.cells (recC (kindOf xs) (flagsOf xs) (expOf xs) (seqOf xs) (some ⟨b1, 0, none⟩) (klenOf xs) (klenOf xs) (some ⟨b2, 0, none⟩) (vlenOf xs) (vlenOf xs)) 26)
        obtain ⟨w9, hw9⟩ : ∃ w9, w9 = w8.alloc (.cells (recC (kindOf xs) (flagsOf xs) (expOf xs) (seqOf xs) (some ⟨b1, 0, none⟩) (klenOf xs) (klenOf xs) (some ⟨b2, 0, none⟩) (vlenOf xs) (vlenOf xs)) 26) := ⟨_, rfl⟩
        have HB9 := Lib.hid (show Below wr.heap.size wr w9 by rw [hw9]; exact hb9)
        have HN9 := Lib.hid (show Blk w9 w8.heap.size 26 (recC (kindOf xs) (flagsOf xs) (expOf xs) (seqOf xs) (some ⟨b1, 0, none⟩) (klenOf xs) (klenOf xs) (some ⟨b2, 0, none⟩) (vlenOf xs) (vlenOf xs)) by rw [hw9]; exact Blk.new w8 _ _)
        have HA9 := Lib.hid (show ArrU w9 b1 (keyOf xs) by rw [hw9]; exact Blk.alloc ha1 _)
        have HC9 := Lib.hid (show ArrU w9 b2 (valOf xs) by rw [hw9]; exact Blk.alloc ha2 _)
        have HW9 := Lib.hid hw9
        have HR9 := Lib.hid (HR7.out.below HB9.out)
        have HL1 := Lib.hid h1
        have HL2 := Lib.hid h2
        have HNE12 := Lib.hid hne
        have HLT1 := Lib.hid ha1.lt
        have HLT2 := Lib.hid ha2.lt
        clear hb hb9 hw9 h1 h2 hne ha1 ha2
        go_wp2_with fail
        rw [← HW9.out]
        refine (need_all (some ⟨g, 0, none⟩) n cap xs (· = g) w9 (HR9.out.row rfl) (fun b h => by rw [h]; exact HR9.out.lt.2) HBY.out (by omega)).mono ?_
        rintro e w10 ⟨rfl, hb⟩
        rw [HNK.out, HNE.out]
        have HB10 := Lib.hid (HB9.out.trans (hb.mono HB9.out.size))
        have HN10 := Lib.hid (HN9.out.below hb HN9.out.lt)
        have HA10 := Lib.hid (show ArrU w10 b1 (keyOf xs) from Blk.below HA9.out hb HA9.out.lt)
        have HC10 := Lib.hid (show ArrU w10 b2 (valOf xs) from Blk.below HC9.out hb HC9.out.lt)
        have HT10 := Lib.hid (HT7.out.below HB10.out HT7.out.lt)
        have HX10 := Lib.hid (HX7.out.below HB10.out (fun b h => Nat.lt_of_lt_of_le h HB7.out.size))
        have HR10 := Lib.hid (HR7.out.below HB10.out)
        have HK10 := Lib.hid ((HK7.out.below HB10.out (fun b h => Nat.lt_of_lt_of_le h HS57.out)).more (T := fun b => b < w10.heap.size) (fun b h => Nat.lt_of_lt_of_le h (Nat.le_trans HS57.out HB10.out.size)))
        have HV10 := Lib.hid ((HV7.out.below HB10.out (fun b h => Nat.lt_of_lt_of_le h HS57.out)).more (T := fun b => b < w10.heap.size) (fun b h => Nat.lt_of_lt_of_le h (Nat.le_trans HS57.out HB10.out.size)))
        clear hb
        go_wp2_with (first
          | (refine wpList_load_rowB (.tmp 10) 26 rfl rfl w8.heap.size rfl 26 [.int .i64 (kindOf xs), .int .u32 (flagsOf xs), .int .u32 (expOf xs), .int .u64 (seqOf xs), .slice (some ⟨b1, 0, none⟩) (klenOf xs) (klenOf xs), .slice (some ⟨b2, 0, none⟩) (vlenOf xs) (vlenOf xs)] _ Try.underlying26 rfl size_rec HN10.out ?_)
          | (refine wpList_load_rowB (.tmp 4) 26 rfl rfl w4.heap.size rfl 26 [.int .i64 (kindOf xs), .int .u32 (flagsOf xs), .int .u32 (expOf xs), .int .u64 (seqOf xs), .slice A1 (klenOf xs) c1, .slice A2 (vlenOf xs) c2] _ Try.underlying26 rfl size_rec HT10.out ?_))
        refine (rsame_any _ _ _ _ _ _ _ _ _ _ A1 A2 _ _ _ _ _ c1 _ c2 (keyOf xs) (keyOf xs) (valOf xs) (valOf xs) (fun b => b < w10.heap.size) w10 (HA10.out.rowN 0 HKL.out HA10.out.lt) HK10.out (HC10.out.rowN 0 HVL.out HC10.out.lt) HV10.out (fun b h => h) HBK.out HBK.out HBV.out HBV.out).mono ?_
        rintro e w11 ⟨rfl, hb⟩
        rw [recSame_self]
        have HB11 := Lib.hid (HB10.out.trans (hb.mono HB10.out.size))
        have HN11 := Lib.hid (HN10.out.below hb HN10.out.lt)
        have HA11 := Lib.hid (show ArrU w11 b1 (keyOf xs) from Blk.below HA10.out hb HA10.out.lt)
        have HC11 := Lib.hid (show ArrU w11 b2 (valOf xs) from Blk.below HC10.out hb HC10.out.lt)
        have HX11 := Lib.hid (HX10.out.below hb (fun b h => Nat.lt_of_lt_of_le h ((HB7.out.trans (HB10.out.mono HB7.out.size)).size)))
        have HR11 := Lib.hid (HR10.out.below hb)
        clear hb
        go_wp2_with fail
        refine (equal_yes (some ⟨g, 0, none⟩) A n cap c xs (fun b => b < w11.heap.size) (fun b => b < w11.heap.size) w11 (HR11.out.row HR11.out.lt.2) (HX11.out.more (fun b h => Nat.lt_of_lt_of_le h ((HB7.out.trans (HB11.out.mono HB7.out.size)).size))) (fun b h => h) (fun b h => h) HBY.out).mono ?_
        rintro e w12 ⟨rfl, rfl⟩
        have hlast := HR11.out.last
        have hlt7 : (n : Int) < (n : Int) + 1 := by omega
        have hlt7' : n < n + 1 := by omega
        have q4 : w11.cell? ⟨w8.heap.size, 4, none⟩ = some (.slice (some ⟨b1, 0, none⟩) (klenOf xs) (klenOf xs)) := HN11.out.cell 4
        go_wp2_with fail
        go_loopw [15, 108] (fun _ i wi => ∃ p : Nat, p ≤ klenOf xs ∧ i = .int .i64 p ∧ Over w11 wi b1 (klenOf xs)) (fun _ i _ => klenOf xs - (intOf i).toNat)
        case atStart => exact ⟨0, by omega, rfl, keyOf xs, HKL.out, HA11.out, Kept.refl _ _⟩
        case round =>
          obtain ⟨p, hp, rfl, hov⟩ := hrel
          have hN : Blk wr w8.heap.size 26 (recC (kindOf xs) (flagsOf xs) (expOf xs) (seqOf xs) (some ⟨b1, 0, none⟩) (klenOf xs) (klenOf xs) (some ⟨b2, 0, none⟩) (vlenOf xs) (vlenOf xs)) := HN11.out.kept hov.choose_spec.2.2 (by have := HLT1.out; omega)
          by_cases hpk : p < klenOf xs
          · obtain ⟨⟨u, hcell⟩, hfr⟩ := hov.cell p hpk
            have q4' : wr.cell? ⟨w8.heap.size, 4, none⟩ = some (.slice (some ⟨b1, 0, none⟩) (klenOf xs) (klenOf xs)) := hN.cell 4
            have hpk' : (p : Int) < (klenOf xs : Int) := by omega
            have HOV := Lib.hid (hov.set p 238)
            clear hov hN q4
            go_wp2
            go_roundw
            case rel => exact ⟨p + 1, by omega, by go_num, HOV.out⟩
            case measure => (simp [intOf] <;> omega)
          · obtain ⟨kl, hkl⟩ : ∃ kl, kl = klenOf xs := ⟨_, rfl⟩
            have hpk' : ¬ ((p : Int) < (klenOf xs : Int)) := by omega
            obtain ⟨_, _, _, hk⟩ := hov
            have hbk : Below w6.heap.size w11 wr := hk.to_below (fun q hq => by have := HL1.out; have := HBR.out.size; omega)
            have HBK1 := Lib.hid ((HBR.out.trans (HB11.out.mono HBR.out.size)).trans hbk)
            have HN13 := Lib.hid hN
            have HC13 := Lib.hid (show ArrU wr b2 (valOf xs) from Blk.kept HC11.out hk (fun h => HNE12.out h.symm))
            have q5 : wr.cell? ⟨w8.heap.size, 5, none⟩ = some (.slice (some ⟨b2, 0, none⟩) (vlenOf xs) (vlenOf xs)) := hN.cell 5
            obtain ⟨w13, hw13⟩ : ∃ w13, w13 = wr := ⟨_, rfl⟩
            clear hk hbk hN q4 hkl
            subst hw13
            go_wp2_with fail
            go_loopw [16, 119] (fun _ i wi => ∃ p : Nat, p ≤ vlenOf xs ∧ i = .int .i64 p ∧ Over w13 wi b2 (vlenOf xs)) (fun _ i _ => vlenOf xs - (intOf i).toNat)
            case atStart => exact ⟨0, by omega, rfl, valOf xs, HVL.out, HC13.out, Kept.refl _ _⟩
            case round =>
              obtain ⟨p, hp, rfl, hov⟩ := hrel
              have hN : Blk wr w8.heap.size 26 (recC (kindOf xs) (flagsOf xs) (expOf xs) (seqOf xs) (some ⟨b1, 0, none⟩) (klenOf xs) (klenOf xs) (some ⟨b2, 0, none⟩) (vlenOf xs) (vlenOf xs)) := HN13.out.kept hov.choose_spec.2.2 (by have := HLT2.out; omega)
              by_cases hpk : p < vlenOf xs
              · obtain ⟨⟨u, hcell⟩, hfr⟩ := hov.cell p hpk
                have q5' : wr.cell? ⟨w8.heap.size, 5, none⟩ = some (.slice (some ⟨b2, 0, none⟩) (vlenOf xs) (vlenOf xs)) := hN.cell 5
                have hpk' : (p : Int) < (vlenOf xs : Int) := by omega
                have HOV := Lib.hid (hov.set p 238)
                clear hov hN q5
                go_wp2
                go_roundw
                case rel => exact ⟨p + 1, by omega, by go_num, HOV.out⟩
                case measure => (simp [intOf] <;> omega)
              · have hpk' : ¬ ((p : Int) < (vlenOf xs : Int)) := by omega
                obtain ⟨_, _, _, hk⟩ := hov
                have hbk : Below w6.heap.size w13 wr := hk.to_below (fun q hq => by have := HL2.out; have := HBR.out.size; omega)
                have HBK2 := Lib.hid (HBK1.out.trans hbk)
                clear hk hbk hN q5
                go_wp2_with fail
                go_roundw
                case rel => exact ⟨j + 1, by omega, by go_num, HBK2.out⟩
                case measure => (simp [intOf] <;> omega)
      · obtain rfl : j = 2 := by omega
        go_wp2_with fail
        go_ret
        exact ⟨rfl, HB6.out.trans (HBR.out.mono HB6.out.size)⟩

set_option maxRecDepth 100000 in
set_option maxHeartbeats 4000000 in
theorem walk_no (A : Option Addr) (len n c : Nat) (xs : List Int) (w : World) (hx : RowI .u8 w (· < w.heap.size) A n xs) (hby : Bytes xs) (hmin : (len ≤ 1200 ∧ n = len) ∨ (1200 < len ∧ n = 1200)) (hnc : len ≤ c) (hnil : A = none → c = 0) (hno : ¬ DecOk xs n) :
    Calls Try.prog 4 #[.slice A len c] w fun e w' => e = .returned (.bool true) ∧ Below w.heap.size w w' := by
  obtain ⟨i0, hi, hz0, hz1, hz2⟩ := info_parts info_u8
  have n9 : n ≤ 1200 := by omega
  have hnc2 : n ≤ c := by omega
  have hmk : ∀ u : World, (Instr.makeSlice 24 (.int .i64 0) (.int .i64 ((n : Int) + 2))).run Try.prog u = .ok (.slice (some ⟨u.heap.size, 0, none⟩) 0 (n + 2)) (u.alloc (.cells (madeCells #[.int .u8 0] (n + 2)) 5)) := by
    intro u
    have := run_make (P := Try.prog) (w := u) 24 5 i0 (.int .u8 0) Try.underlying24 hi hz0 .i64 .i64 0 ((n : Int) + 2) (by omega) (by omega) (by rw [hz2]; omega) (by omega)
    rw [hz1, show ((n : Int) + 2).toNat = n + 2 by omega, Nat.mul_one] at this
    exact this
  have HMIN := Lib.hid hmin
  have HX := Lib.hid hx
  have HBY := Lib.hid hby
  have HNO := Lib.hid hno
  have HXL := Lib.hid hx.1
  clear hx hby hmin hno
  go_enter Try.func4, Try.ntmps4
  go_wp2_with fail
  refine (wakes_any w).mono ?_
  rintro e w1 ⟨rfl, hb1⟩
  have HB1 := Lib.hid hb1
  clear hb1
  go_upto_region 3 with fail
  go_cut [0] (fun s wx => s = .slice A n c ∧ wx = w1)
  case first =>
    rcases HMIN.out with ⟨hle, rfl⟩ | ⟨hgt, rfl⟩
    · have h2 : ¬ (1200 : Int) < n := by omega
      go_wp2
      go_meet
      exact ⟨rfl, rfl⟩
    · have h2 : (1200 : Int) < len := by omega
      go_wp2
      go_meet
      exact ⟨rfl, rfl⟩
  case rest =>
    obtain ⟨rfl, rfl⟩ := hcut
    have HX1 := Lib.hid (HX.out.below HB1.out (fun b h => h))
    go_wp2_with (at_builtin; refine wpList_append_rowG (mk := Value.int .u8) (d := 0) rfl (.tmp 27) (.tmp 28) 24 rfl wc.heap.size 5 i0 (.int .u8 0) 1 Try.underlying24 hi hz0 hz1 hz2 rfl (fun _ => rfl) _ 0 [] rfl (World.ownsRow_made wc (madeCells #[.int .u8 0] (n + 2)) (n + 2) (Nat.le_refl _) (by unfold maxLen; omega) (by simp [size_madeCells])) (· < w.heap.size) A n c xs rfl (HX1.out.keep ?c0) hnil ?c2 ?c3 ?c4 ?_)
    case c0 => exact fun p hp => World.cell?_alloc_lt wc _ p (Nat.lt_of_lt_of_le hp HB1.out.size)
    case c2 => unfold maxLen; omega
    case c3 => omega
    case c4 => simp
    intro v1 w2 hown1 hgrow1 _
    have hb2 : Below wc.heap.size wc w2 := ((Below.refl _ _).alloc (Nat.le_refl _) _).grown hgrow1 (by simp) (fun k hk => by simp [Value.ownBlock] at hk; omega)
    have hown1 : w2.ownsRow wc.heap.size 5 1 v1 n (xs.map (Value.int .u8)) := by first | exact hown1 | simpa using hown1
    have HO2 := Lib.hid (hown1.alloc (.cells #[.int .u8 7] 5))
    have HL2 := Lib.hid hown1.lt
    have HB2 := Lib.hid (HB1.out.trans (hb2.mono HB1.out.size))
    have HX2 := Lib.hid (HX1.out.below hb2 (fun b h => Nat.lt_of_lt_of_le h HB1.out.size))
    have HS2 := Lib.hid hb2.size
    clear hown1 hgrow1 hb2
    go_wp2_with (at_builtin; refine wpList_append_rowG (mk := Value.int .u8) (d := 0) rfl (.tmp 29) (.tmp 30) 24 rfl wc.heap.size 5 i0 (.int .u8 0) 1 Try.underlying24 hi hz0 hz1 hz2 rfl (fun _ => rfl) _ n _ rfl HO2.out (· = w2.heap.size) (some ⟨w2.heap.size, 0, none⟩) 1 1 [7] rfl (row_new1 (Value.int .u8) 0 w2 5 7) (fun h => by cases h) ?d2 ?d3 ?d4 ?_)
    case d2 => unfold maxLen; omega
    case d3 => omega
    case d4 => simp; have := HS2.out; omega
    intro v2 w3 hown2 hgrow2 _
    have hown2 : w3.ownsRow wc.heap.size 5 1 v2 (n + 1) ((xs ++ [7]).map (Value.int .u8)) := by rw [List.map_append]; exact hown2
    have HB3 := Lib.hid (HB2.out.trans (((Below.refl w2.heap.size w2).alloc (Nat.le_refl _) (.cells #[.int .u8 7] 5)).mono HB2.out.size |>.grown hgrow2 (by simp; have := HB2.out.size; omega) (fun g hg => by have := (HL2.out g hg).1; have := HB1.out.size; omega)))
    have HX3 := Lib.hid (HX2.out.below (((Below.refl wc.heap.size w2).alloc HS2.out (.cells #[.int .u8 7] 5)).grown hgrow2 (by simp; have := HS2.out; omega) (fun g hg => (HL2.out g hg).1)) (fun b h => Nat.lt_of_lt_of_le h HB1.out.size))
    obtain ⟨g, cap, rfl, hroom⟩ := room_of hown2 HXL.out
    have hcap : n + 1 ≤ cap := hroom.cap_le
    have HR3 := Lib.hid hroom
    clear hown2 hgrow2 hroom
    have hcap2 : (n : Int) ≤ cap := by omega
    go_wp2_with fail
    refine (rdec_no A n c xs (· < w.heap.size) _ HX3.out (fun b h => Nat.lt_of_lt_of_le h HB3.out.size) HBY.out hnc2 HNO.out).mono ?_
    rintro e w4 ⟨rfl, hb⟩
    have HX4 := Lib.hid (HX3.out.below (hb.alloc hb.size (.cells zeroC 26)) (fun b h => Nat.lt_of_lt_of_le h HB3.out.size))
    have HB4 := Lib.hid (HB3.out.trans ((hb.alloc hb.size (.cells zeroC 26)).mono HB3.out.size))
    have HR4 := Lib.hid (HR3.out.below (hb.alloc hb.size (.cells zeroC 26)))
    have HT4 := Lib.hid (Blk.new w4 26 zeroC)
    have HG := Lib.hid HR3.out.lt.2
    have HS4 := Lib.hid hb.size
    clear hb hown2
    go_wp2_with fail
    refine (rneed_all A n c xs (· < w.heap.size) _ HX4.out (fun b h => Nat.lt_of_lt_of_le h HB4.out.size) HBY.out hnc2).mono ?_
    rintro e w5 ⟨rfl, hb⟩
    have HB5 := Lib.hid (HB4.out.trans (hb.mono HB4.out.size))
    have HX5 := Lib.hid (HX4.out.below hb (fun b h => Nat.lt_of_lt_of_le h HB4.out.size))
    have HR5 := Lib.hid (HR4.out.below hb)
    have HT5 := Lib.hid (HT4.out.below hb HT4.out.lt)
    obtain ⟨K, hK⟩ : ∃ K, K = needK xs n := ⟨_, rfl⟩
    obtain ⟨F, hF⟩ : ∃ F, F = needE xs n := ⟨_, rfl⟩
    obtain ⟨E, hE⟩ : ∃ E, E = errOf xs n := ⟨_, rfl⟩
    rw [← hK, ← hF, ← hE]
    have HK := Lib.hid hK
    have HF := Lib.hid hF
    have HE := Lib.hid hE
    clear hb hK hF hE
    go_wp2_with fail
    go_loopw [9] (fun i wr => ∃ j : Nat, j ≤ 2 ∧ i = .int .i64 j ∧ Below w5.heap.size w5 wr) (fun i _ => 2 - (intOf i).toNat)
    case atStart => exact ⟨0, by omega, rfl, Below.refl _ _⟩
    case round =>
      obtain ⟨j, hj, rfl, hbr⟩ := hrel
      have HBR := Lib.hid hbr
      clear hbr
      by_cases hlt : j < 2
      · have HX6 := Lib.hid (HX5.out.below HBR.out (fun b h => Nat.lt_of_lt_of_le h HB5.out.size))
        have HB6 := Lib.hid (HB5.out.trans (HBR.out.mono HB5.out.size))
        have HR6 := Lib.hid (HR5.out.below HBR.out)
        have HT6 := Lib.hid (HT5.out.below HBR.out HT5.out.lt)
        go_wp2_with fail
        refine (dec_no (some ⟨g, 0, none⟩) n cap xs (· = g) _ (HR6.out.row rfl) (fun b h => by rw [h]; exact HR6.out.lt.2) HBY.out (by omega) HNO.out).mono ?_
        rintro e w7 ⟨rfl, hb⟩
        have hb7 := hb.alloc hb.size (.cells zeroC 26)
        obtain ⟨w8, hw8⟩ : ∃ w8, w8 = w7.alloc (.cells zeroC 26) := ⟨_, rfl⟩
        have HB8 := Lib.hid (show Below wr.heap.size wr w8 by rw [hw8]; exact hb7)
        have HN8 := Lib.hid (show Blk w8 w7.heap.size 26 zeroC by rw [hw8]; exact Blk.new w7 _ _)
        have HW8 := Lib.hid hw8
        have HR8 := Lib.hid (HR6.out.below HB8.out)
        clear hb hb7 hw8
        go_wp2_with fail
        rw [← HW8.out]
        refine (need_all (some ⟨g, 0, none⟩) n cap xs (· = g) w8 (HR8.out.row rfl) (fun b h => by rw [h]; exact HR8.out.lt.2) HBY.out (by omega)).mono ?_
        rintro e w9 ⟨rfl, hb⟩
        rw [← HK.out, ← HF.out, ← HE.out]
        have HB9 := Lib.hid (HB8.out.trans (hb.mono HB8.out.size))
        have HN9 := Lib.hid (HN8.out.below hb HN8.out.lt)
        have HT9 := Lib.hid (HT6.out.below HB9.out HT6.out.lt)
        have HX9 := Lib.hid (HX6.out.below HB9.out (fun b h => Nat.lt_of_lt_of_le h HB6.out.size))
        have HR9 := Lib.hid (HR6.out.below HB9.out)
        clear hb
        go_wp2_with (first
          | (refine wpList_load_rowB (.tmp 10) 26 rfl rfl w7.heap.size rfl 26 [.int .i64 0, .int .u32 0, .int .u32 0, .int .u64 0, .slice none 0 0, .slice none 0 0] _ Try.underlying26 rfl size_rec HN9.out ?_)
          | (refine wpList_load_rowB (.tmp 4) 26 rfl rfl w4.heap.size rfl 26 [.int .i64 0, .int .u32 0, .int .u32 0, .int .u64 0, .slice none 0 0, .slice none 0 0] _ Try.underlying26 rfl size_rec HT9.out ?_))
        refine (rsame_any 0 0 0 0 0 0 0 0 none none none none 0 0 0 0 0 0 0 0 [] [] [] [] (fun b => b < w9.heap.size) w9 (RowG.nil _ _ _ _ _) (RowG.nil _ _ _ _ _) (RowG.nil _ _ _ _ _) (RowG.nil _ _ _ _ _) (fun b h => h) (fun j => by simp) (fun j => by simp) (fun j => by simp) (fun j => by simp)).mono ?_
        rintro e w10 ⟨rfl, hb⟩
        rw [recSame_self]
        have HB10 := Lib.hid (HB9.out.trans (hb.mono HB9.out.size))
        have HN10 := Lib.hid (HN9.out.below hb HN9.out.lt)
        have HX10 := Lib.hid (HX9.out.below hb (fun b h => Nat.lt_of_lt_of_le h ((HB6.out.trans (HB9.out.mono HB6.out.size)).size)))
        have HR10 := Lib.hid (HR9.out.below hb)
        clear hb
        go_wp2_with fail
        refine (equal_yes (some ⟨g, 0, none⟩) A n cap c xs (fun b => b < w10.heap.size) (fun b => b < w10.heap.size) w10 (HR10.out.row HR10.out.lt.2) (HX10.out.more (fun b h => Nat.lt_of_lt_of_le h ((HB6.out.trans (HB10.out.mono HB6.out.size)).size))) (fun b h => h) (fun b h => h) HBY.out).mono ?_
        rintro e w11 ⟨rfl, rfl⟩
        have hlast := HR10.out.last
        have hlt7 : (n : Int) < (n : Int) + 1 := by omega
        have hlt7' : n < n + 1 := by omega
        have q4 : w10.cell? ⟨w7.heap.size, 4, none⟩ = some (.slice none 0 0) := HN10.out.cell 4
        have q5 : w10.cell? ⟨w7.heap.size, 5, none⟩ = some (.slice none 0 0) := HN10.out.cell 5
        go_wp2_with fail
        go_loopw [15, 108] (fun _ i wi => i = .int .i64 0 ∧ wi = w10) (fun _ _ _ => 0)
        case atStart => exact ⟨rfl, rfl⟩
        case round =>
          obtain ⟨rfl, hwi⟩ := hrel
          subst hwi
          go_wp2_with fail
          go_loopw [16, 119] (fun _ i wi => i = .int .i64 0 ∧ wi = wr) (fun _ _ _ => 0)
          case atStart => exact ⟨rfl, rfl⟩
          case round =>
            obtain ⟨rfl, hwi⟩ := hrel
            subst hwi
            go_wp2_with fail
            go_roundw
            case rel => exact ⟨j + 1, by omega, by go_num, HBR.out.trans (HB10.out.mono HBR.out.size)⟩
            case measure => (simp [intOf] <;> omega)
      · obtain rfl : j = 2 := by omega
        go_wp2_with fail
        go_ret
        exact ⟨rfl, HB5.out.trans (HBR.out.mono HB5.out.size)⟩

set_option maxRecDepth 100000 in
theorem walk (a0 : Option Addr) (len0 cap0 : Nat) (z0 : List Int) (w : World) (w0 : IsRow .u8 w a0 len0 cap0 z0) (b0 : cap0 ≤ 140737488351232) :
    Calls Try.prog 4 #[.slice a0 len0 cap0] w fun e w' => e = .returned (.bool true) ∧ Below w.heap.size w w' := by
  have r0 := row8_of w0
  obtain ⟨hx, hby, hnc, hl, hnil⟩ := r0
  obtain ⟨n, hn⟩ : ∃ n, n = min len0 1200 := ⟨_, rfl⟩
  have hmin : (len0 ≤ 1200 ∧ n = len0) ∨ (1200 < len0 ∧ n = 1200) := by omega
  have hx2 := hx.take n (by omega)
  have hby2 := hby.take n
  generalize (z0.take len0).take n = xs at *
  by_cases h4 : DecOk xs n
  · exact walk_ok a0 len0 n cap0 xs w hx2 hby2 hmin hnc hnil h4
  · exact walk_no a0 len0 n cap0 xs w hx2 hby2 hmin hnc hnil h4

set_option maxRecDepth 100000 in
theorem lifted (os : Os) (started : os.Started) (H : Type) (enc : TypeId × Value → H) :
    ReturnsInHanded {} Try.checked os 4 .any (Rows.recordDecodesSpec.pre6 enc Try.prog Try.f4 Rows.recordDecodesRow.domain false) (Rows.recordDecodesSpec.post enc Try.prog Try.f4 false true false false) := by
  refine returnsInHanded_of_change_sized (C := Try.checked) own started (by kernel_rfl) Try.func4
    (ChangeSpec.witness6 (enc := enc) (C := Try.checked) false ⟨#[], #[.slice none 0 0], []⟩ 8 (by kernel_rfl) (by kernel_rfl) (by kernel_rfl) (by kernel_rfl)) ?_
  intro W base args ds gs before hval0 hW hcnd hsz0 _
  have hval : ∀ (j : Nat) t v, Try.f4.params[j]? = some t → args[j]? = some v → Value.okWide Try.prog W .any base t v := hval0
  have hW' := hW
  have hsz : (DataW.weightsEach Try.prog (Try.f4.params.toList ++ Rows.recordDecodesSpec.plain.varTypes Try.prog) (ds ++ gs)).all (· ≤ reachBytes) = true := hsz0
  obtain ⟨p, q, hA0, hV, rfl, hfz, hnd⟩ := hW
  have hA : DataW.TrodAll enc Try.prog W 0 (fun _ => true) true Try.f4.params.toList args.toList ds p := hA0
  rw [Try.params4] at hA hval hsz
  obtain ⟨v0, vs0, d0, ds0, p0, q0, hargs, rfl, rfl, h0, r0⟩ := trodAll_cons hA
  obtain ⟨rfl, rfl, rfl⟩ := trodAll_nil r0
  obtain rfl : args = #[v0] := by cases args; simp_all
  obtain ⟨rfl, rfl⟩ := trodVars_none hV
  obtain ⟨a0, len0, cap0, rfl⟩ := okWide_slice Try.underlying24 (hval 0 24 v0 rfl rfl)
  have k0 := h0
  have lt0 : ∀ x ∈ p0, x.block < W.heap.size := by obtain ⟨m, hm⟩ := k0; exact DataW.trod_lt m _ _ _ hm
  obtain ⟨z0, w0, e0⟩ : ∃ zs, IsRow .u8 W a0 len0 cap0 zs ∧ (cap0 = 0 ∨ d0 = .slice (ChangeShapes.lits .u8 (zs.take len0)) (ChangeShapes.lits .u8 (zs.drop len0)) ∧ zs.length = cap0) := by
    obtain ⟨fuel, hf⟩ := h0
    rcases open_ints Try.underlying24 Try.underlying5 (by kernel_rfl) hf with ⟨hcs, _⟩ | ⟨x, l, c, zs, hcs, _, hl, hm, hz, hx, hcell, hwz⟩
    · simp [Value.cells] at hcs
      obtain ⟨rfl, rfl, rfl⟩ := hcs
      exact ⟨[], .inl ⟨rfl, rfl, rfl, rfl⟩, .inl rfl⟩
    · simp [Value.cells] at hcs
      obtain ⟨rfl, rfl, rfl⟩ := hcs
      have hz' : zs.length = cap0 := by simpa using hz
      exact ⟨zs, .inr ⟨_, rfl, hl, hm, hz', hcell, hwz⟩, .inr ⟨(Prod.mk.injEq _ _ _ _ ▸ hx).1, hz'⟩⟩
  have b0 : cap0 ≤ 140737488351232 := by
    rcases e0 with h | ⟨rfl, hl⟩
    · omega
    · have h := sized_slice hsz (j := 0) (t := 24) (e := 5) rfl rfl Try.underlying24
      rw [bytes5] at h
      simp only [ChangeShapes.lits, List.length_map, List.length_take, List.length_drop, reachBytes] at h
      omega
  clear hA0 hval0
  refine (walk a0 len0 cap0 z0 W w0 b0).mono fun e W' ⟨he, bel⟩ => ?_
  subst he
  exact ⟨_, rfl, _, _, _, [], _, [], hW', trodAll_mk1 (shut_bool Try.underlying4 _), (trodAll_cons_mk (Below.trod laidOut (by kernel_rfl) (of_decide_eq_true (by kernel_rfl)) k0 bel lt0) trodAll_mk0), rfl, bel.frame _, fun h => by cases h⟩

theorem over : Rows.recordDecodesRow.holds Try.pinned (OpenSpec.ofChange Rows.recordDecodesSpec) :=
  OpenClaim.holds_of_wide 4 Try.f4 rfl rfl rfl rfl rfl rfl rfl ⟨rfl, rfl, rfl, rfl, rfl⟩ rfl rfl rfl rfl rfl (by kernel_rfl) Try.func4 (by kernel_rfl)
    (of_decide_eq_true (by kernel_rfl)) (by unfold Func.isWrapper; first | (rw [if_pos (by decide +kernel)]; kernel_rfl) | (rw [if_neg (by decide +kernel)]; exact ⟨rfl, rfl⟩))
    (fun os started H enc _ => lifted os started H enc)

theorem proved : Rows.RecordDecodesSaid := over
end Go.Proofs.Ytehldhdpeefljaa.recordDecodes
