/- For every key (of it the first 400 bytes) and every sequence: Tomb answers the document's tombstone in memory of its own, or ErrRecord and nothing. No condition. -/
import Derived.Test.YtehldhdpeefljaaRows
import Derived.WalkKit
import Derived.ProofKit
import Derived.OpenShut
import Derived.ShutString
import Derived.ChangeOld
import Derived.Below
import Derived.SizedLaws
import Derived.Test.YtehldhdpeefljaaWakes
import Derived.Test.YtehldhdpeefljaaTomb
import Derived.Test.YtehldhdpeefljaaRSame
import Derived.Test.YtehldhdpeefljaaRRight
import Derived.Test.YtehldhdpeefljaaRoom
import Derived.Test.YtehldhdpeefljaaArgs
import Derived.Deep.DeepCutAuto
namespace Go.Proofs.Ytehldhdpeefljaa.recordTombs
open Go.ChangeShapes Go.WideShapes Go.ChangeAt Go.RowKit
open Go.ChangeMaps (open_string shut_string)
set_option linter.unusedVariables false

theorem own : ownKnob Try.prog.godebug = none := by kernel_rfl
theorem laidOut : laidOutB Try.prog = true := by kernel_rfl
theorem bytes5 : Try.prog.bytesOf 5 = 1 := by kernel_rfl

/-- A slice of integers that came in: nil; or a row of 'cap' cells, the numbers 'zs', each fitting its kind. -/
def IsRow (k : IntKind) (w : World) (a : Option Addr) (len cap : Nat) (zs : List Int) : Prop :=
  (a = none ∧ len = 0 ∧ cap = 0 ∧ zs = []) ∨
  ∃ x : Addr, a = some x ∧ len ≤ cap ∧ cap ≤ maxLen ∧ zs.length = cap ∧ (∀ i, i < zs.length → w.cell? (x.add i) = some (.int k (zs.getD i 0))) ∧ ∀ n ∈ zs, (Lit.int k n).wf = true

/-- The bytes are overwritten from the left. -/
def Over (w0 wr : World) (base g n cap : Nat) : Prop := ∃ zs : List Int, zs.length = n + 1 ∧ wr.ownsRow base 5 1 (.slice (some ⟨g, 0, none⟩) (n + 1) cap) (n + 1) (zs.map (Value.int .u8)) ∧ Kept (fun b => b ≠ g) w0 wr
theorem Over.set {w0 wr : World} {base g n cap : Nat} (h : Over w0 wr base g n cap) (j : Nat) (u : Int) : Over w0 (wr.setCell ⟨g, j, none⟩ (.int .u8 u)) base g n cap := by
  obtain ⟨zs, hl, ho, hk⟩ := h
  refine ⟨zs.set j u, by simpa using hl, ?_, hk.setCell (fun h => h rfl) _⟩
  have := (ho.stored j (.int .u8 u)).1
  rwa [← List.map_set] at this
theorem Over.cell {w0 wr : World} {base g n cap : Nat} (h : Over w0 wr base g n cap) (j : Nat) (hj : j < n) : (∃ u : Int, wr.cell? ⟨g, j, none⟩ = some (.int .u8 u)) ∧ wr.frozen? ⟨g, j, none⟩ = false := by
  obtain ⟨zs, hl, ho, hk⟩ := h
  refine ⟨⟨zs.getD j 0, ?_⟩, ho.frozenAt j⟩
  rw [ho.cellAt j (by omega)]
  simp [List.getD, List.getElem?_eq_getElem (show j < zs.length by omega)]

set_option maxRecDepth 100000 in
set_option maxHeartbeats 4000000 in
theorem walk_any (A : Option Addr) (len n c : Nat) (xs : List Int) (s : Int) (w : World) (hx : RowI .u8 w (· < w.heap.size) A n xs) (hby : Bytes xs) (hmin : (len ≤ 400 ∧ n = len) ∨ (400 < len ∧ n = 400)) (hnc : len ≤ c) (hnil : A = none → c = 0) (hs : 0 ≤ s ∧ s ≤ 18446744073709551615) :
    Calls Try.prog 5 #[.slice A len c, .int .u64 s] w fun e w' => e = .returned (.bool true) ∧ Below w.heap.size w w' := by
  obtain ⟨i0, hi, hz0, hz1, hz2⟩ := info_parts info_u8
  have n9 : n ≤ 400 := by omega
  have hnc2 : n ≤ c := by omega
  have hmk : ∀ u : World, (Instr.makeSlice 24 (.int .i64 0) (.int .i64 ((n : Int) + 2))).run Try.prog u = .ok (.slice (some ⟨u.heap.size, 0, none⟩) 0 (n + 2)) (u.alloc (.cells (madeCells #[.int .u8 0] (n + 2)) 5)) := by
    intro u
    have := run_make (P := Try.prog) (w := u) 24 5 i0 (.int .u8 0) Try.underlying24 hi hz0 .i64 .i64 0 ((n : Int) + 2) (by omega) (by omega) (by rw [hz2]; omega) (by omega)
    rw [hz1, show ((n : Int) + 2).toNat = n + 2 by omega, Nat.mul_one] at this
    exact this
  have HMIN := Lib.hid hmin
  have HX := Lib.hid hx
  have HBY := Lib.hid hby
  have HXL := Lib.hid hx.1
  clear hx hby hmin
  go_enter Try.func5, Try.ntmps5
  go_wp2_with fail
  refine (wakes_any w).mono ?_
  rintro e w1 ⟨rfl, hb1⟩
  have HB1 := Lib.hid hb1
  clear hb1
  go_upto_region 3 with fail
  go_cut [0] (fun s wx => s = .slice A n c ∧ wx = w1)
  case first =>
    rcases HMIN.out with ⟨hle, rfl⟩ | ⟨hgt, rfl⟩
    · have h2 : ¬ (400 : Int) < n := by omega
      go_wp2
      go_meet
      exact ⟨rfl, rfl⟩
    · have h2 : (400 : Int) < len := by omega
      go_wp2
      go_meet
      exact ⟨rfl, rfl⟩
  case rest =>
    obtain ⟨rfl, rfl⟩ := hcut
    have HX1 := Lib.hid (HX.out.below HB1.out (fun b h => h))
    go_wp2_with (at_builtin; refine wpList_append_rowG (mk := Value.int .u8) (d := 0) rfl (.tmp 20) (.tmp 21) 24 rfl wc.heap.size 5 i0 (.int .u8 0) 1 Try.underlying24 hi hz0 hz1 hz2 rfl (fun _ => rfl) _ 0 [] rfl (World.ownsRow_made wc (madeCells #[.int .u8 0] (n + 2)) (n + 2) (Nat.le_refl _) (by unfold maxLen; omega) (by simp [size_madeCells])) (· < w.heap.size) A n c xs rfl (HX1.out.keep ?c0) hnil ?c2 ?c3 ?c4 ?_)
    case c0 => exact fun p hp => World.cell?_alloc_lt wc _ p (Nat.lt_of_lt_of_le hp HB1.out.size)
    case c2 => unfold maxLen; omega
    case c3 => omega
    case c4 => simp
    intro v1 w2 hown1 hgrow1 _
    have hb2 : Below wc.heap.size wc w2 := ((Below.refl _ _).alloc (Nat.le_refl _) _).grown hgrow1 (by simp) (fun k hk => by simp [Value.ownBlock] at hk; omega)
    have hown1 : w2.ownsRow wc.heap.size 5 1 v1 n (xs.map (Value.int .u8)) := by first | exact hown1 | simpa using hown1
    have HO2 := Lib.hid (hown1.alloc (.cells #[.int .u8 7] 5))
    have HL2 := Lib.hid hown1.lt
    have HB2 := Lib.hid (HB1.out.trans (hb2.mono HB1.out.size))
    have HX2 := Lib.hid (HX1.out.below hb2 (fun b h => Nat.lt_of_lt_of_le h HB1.out.size))
    have HS2 := Lib.hid hb2.size
    clear hown1 hgrow1 hb2
    go_wp2_with (at_builtin; refine wpList_append_rowG (mk := Value.int .u8) (d := 0) rfl (.tmp 22) (.tmp 23) 24 rfl wc.heap.size 5 i0 (.int .u8 0) 1 Try.underlying24 hi hz0 hz1 hz2 rfl (fun _ => rfl) _ n _ rfl HO2.out (· = w2.heap.size) (some ⟨w2.heap.size, 0, none⟩) 1 1 [7] rfl (row_new1 (Value.int .u8) 0 w2 5 7) (fun h => by cases h) ?d2 ?d3 ?d4 ?_)
    case d2 => unfold maxLen; omega
    case d3 => omega
    case d4 => simp; have := HS2.out; omega
    intro v2 w3 hown2 hgrow2 _
    have hown2 : w3.ownsRow wc.heap.size 5 1 v2 (n + 1) ((xs ++ [7]).map (Value.int .u8)) := by rw [List.map_append]; exact hown2
    have HB3 := Lib.hid (HB2.out.trans (((Below.refl w2.heap.size w2).alloc (Nat.le_refl _) (.cells #[.int .u8 7] 5)).mono HB2.out.size |>.grown hgrow2 (by simp; have := HB2.out.size; omega) (fun g hg => by have := (HL2.out g hg).1; have := HB1.out.size; omega)))
    have HX3 := Lib.hid (HX2.out.below (((Below.refl wc.heap.size w2).alloc HS2.out (.cells #[.int .u8 7] 5)).grown hgrow2 (by simp; have := HS2.out; omega) (fun g hg => (HL2.out g hg).1)) (fun b h => Nat.lt_of_lt_of_le h HB1.out.size))
    obtain ⟨g, cap, rfl, hroom⟩ := room_of hown2 HXL.out
    have hcap : n + 1 ≤ cap := hroom.cap_le
    have HR3 := Lib.hid hroom
    clear hown2 hgrow2 hroom
    have hcap2 : (n : Int) ≤ cap := by omega
    go_wp2_with fail
    by_cases hmay : May 2 0 0 s n 0
    · have HM := Lib.hid hmay
      refine (tomb_yes _ n cap xs s (· = g) w3 (HR3.out.row rfl) (fun b h => by rw [h]; exact HR3.out.lt.2) hmay).mono ?_
      rintro e w4 ⟨g4, rfl, hg4, ha4, hb⟩
      rw [HXL.out]
      have hb5 := hb.alloc hb.size (.cells (recC 2 0 0 s (some ⟨g4, 0, none⟩) n n none 0 0) 26)
      have hb6 := hb5.alloc hb5.size (.cells #[] 5)
      obtain ⟨w6, hw6⟩ : ∃ w6, w6 = (w4.alloc (.cells (recC 2 0 0 s (some ⟨g4, 0, none⟩) n n none 0 0) 26)).alloc (.cells #[] 5) := ⟨_, rfl⟩
      have HB6 := Lib.hid (show Below w3.heap.size w3 w6 by rw [hw6]; exact hb6)
      have HE6 := Lib.hid (show w6.ownsRow (w4.heap.size + 1) 5 1 (.slice (some ⟨w4.heap.size + 1, 0, none⟩) 0 0) 0 [] by
        rw [hw6]
        have h := own_empty (w4.alloc (.cells (recC 2 0 0 s (some ⟨g4, 0, none⟩) n n none 0 0) 26)) 5
        rw [show (w4.alloc (.cells (recC 2 0 0 s (some ⟨g4, 0, none⟩) n n none 0 0) 26)).heap.size = w4.heap.size + 1 by simp] at h
        exact h)
      have HA6 := Lib.hid (show ArrU w6 g4 xs by rw [hw6]; exact Blk.alloc (Blk.alloc ha4 _) _)
      have HT6 := Lib.hid (show Blk w6 w4.heap.size 26 (recC 2 0 0 s (some ⟨g4, 0, none⟩) n n none 0 0) by rw [hw6]; exact (Blk.new w4 _ _).alloc _)
      have HS6 := Lib.hid (show w6.heap.size = w4.heap.size + 2 by rw [hw6]; simp)
      have HG4 := Lib.hid hg4
      have HW6 := Lib.hid hw6
      have HX6 := Lib.hid (HX3.out.below HB6.out (fun b h => Nat.lt_of_lt_of_le h HB3.out.size))
      have HLA := Lib.hid ha4.lt
      have HS34 := Lib.hid hb.size
      clear hb hb5 hb6 hw6 ha4 hg4 hmay
      go_wp2_with (at_builtin; rw [← HW6.out]; refine wpList_append_rowG (mk := Value.int .u8) (d := 0) rfl (.tmp 35) (.tmp 36) 24 rfl (w4.heap.size + 1) 5 i0 (.int .u8 0) 1 Try.underlying24 hi hz0 hz1 hz2 rfl (fun _ => rfl) _ 0 [] rfl HE6.out (· < w.heap.size) A n c xs rfl HX6.out hnil ?e2 ?e3 ?e4 ?_)
      case e2 => unfold maxLen; omega
      case e3 => omega
      case e4 => have := HS6.out; omega
      intro v7 w7 hown7 hgrow7 _
      have hb7 : Below (w4.heap.size + 1) w6 w7 := (Below.refl _ _).grown hgrow7 (by have := HS6.out; omega) (fun k hk => by simp [Value.ownBlock] at hk; omega)
      have hown7 : w7.ownsRow (w4.heap.size + 1) 5 1 v7 n (xs.map (Value.int .u8)) := by first | exact hown7 | simpa using hown7
      obtain ⟨A7, c7, rfl, hcc7, hnn7, hrow7⟩ := rowG_own 0 hown7
      have HRW7 := Lib.hid hrow7
      have HB7 := Lib.hid (HB6.out.trans (hb7.mono (by have := HS34.out; omega)))
      have HA7 := Lib.hid (Blk.below HA6.out hb7 (by have := HLA.out; omega))
      have HT7 := Lib.hid (HT6.out.below hb7 (by omega))
      have HR7 := Lib.hid (HR3.out.below (HB6.out.trans (hb7.mono (by have := HS34.out; omega))))
      have hcell7 := (HR7.out.below (w' := w7.alloc (.cells (recC 2 0 0 s A7 n c7 none 0 0) 26)) ((Below.refl _ _).alloc (Nat.le_refl _) _)).last
      clear hown7 hgrow7 hb7 hcc7 hnn7 hrow7
      have hlt7 : (n : Int) < (n : Int) + 1 := by omega
      have hlt7' : n < n + 1 := by omega
      go_wp2_with fail
      refine (rright_yes 2 0 0 s A7 none n c7 0 0 _ HM.out).mono ?_
      rintro e w8 ⟨rfl, hb⟩
      have hb78 : Below w7.heap.size w7 w8 := ((Below.refl _ _).alloc (Nat.le_refl _) _).trans (hb.mono (by simp))
      have HB8 := Lib.hid (HB7.out.trans (hb78.mono HB7.out.size))
      have HA8 := Lib.hid (show ArrU w8 g4 xs from Blk.below HA7.out hb78 HA7.out.lt)
      have HT8 := Lib.hid (HT7.out.below hb78 HT7.out.lt)
      have HR8 := Lib.hid (HR7.out.below hb78)
      have HW8 := Lib.hid (show Blk w8 w7.heap.size 26 (recC 2 0 0 s A7 n c7 none 0 0) from (Blk.new w7 _ _).below hb (by simp))
      have HRW8 := Lib.hid (HRW7.out.below hb78 (fun b h => h.2.1))
      have HG := Lib.hid (show g < w3.heap.size from HR3.out.lt.2)
      have HL78 := Lib.hid hb78.size
      have HL67 := Lib.hid (show w4.heap.size < w7.heap.size from HT7.out.lt)
      clear hcell7 hb hb78
      go_wp2_with fail
      go_loopw [9, 57] (fun _ i wr => ∃ j : Nat, j ≤ n ∧ i = .int .i64 j ∧ Over w8 wr wc.heap.size g n cap) (fun _ i _ => n - (intOf i).toNat)
      case atStart => exact ⟨0, by omega, rfl, xs ++ [7], by simp [HXL.out], HR8.out.1, Kept.refl _ _⟩
      case round =>
        obtain ⟨j, hj, rfl, hov⟩ := hrel
        by_cases hlt : j < n
        · obtain ⟨⟨u, hcell⟩, hfr⟩ := hov.cell j hlt
          have hjn : j < n + 1 := by omega
          have hjn' : (j : Int) < (n : Int) + 1 := by omega
          have HOV := Lib.hid (hov.set j 238)
          clear hov
          go_wp2
          go_roundw
          case rel => exact ⟨j + 1, by omega, by go_num, HOV.out⟩
          case measure => (simp [intOf] <;> omega)
        · obtain rfl : j = n := by omega
          obtain ⟨zs, _, _, hk⟩ := hov
          have HT9 := Lib.hid (HT8.out.kept hk (by have := HG.out; have := HS34.out; omega))
          have HW9 := Lib.hid (HW8.out.kept hk (by have := HG.out; have := HS34.out; have := HL67.out; omega))
          have HA9 := Lib.hid (show ArrU wr g4 xs from Blk.kept HA8.out hk (by have := HG.out; have := HG4.out; omega))
          have HRW9 := Lib.hid ((HRW8.out.kept hk (fun b h => by have := HG.out; have := HS34.out; have := h.1; omega)).more (T := fun b => b < wr.heap.size) (fun b h => by have := hk.size; have := HL78.out; have := h.2.1; omega))
          have hbk : Below w.heap.size w8 wr := hk.to_below (fun b hb => by have := HR3.out.lt.1; have := HB1.out.size; omega)
          have HB9 := Lib.hid ((HB3.out.trans (HB8.out.mono HB3.out.size)).trans hbk)
          clear hk hbk
          go_wp2_with (first
            | (refine wpList_load_rowB (.tmp 6) 26 rfl rfl w4.heap.size rfl 26 [.int .i64 2, .int .u32 0, .int .u32 0, .int .u64 s, .slice (some ⟨g4, 0, none⟩) j j, .slice none 0 0] _ Try.underlying26 rfl size_rec HT9.out ?_)
            | (refine wpList_load_rowB (.tmp 8) 26 rfl rfl w7.heap.size rfl 26 [.int .i64 2, .int .u32 0, .int .u32 0, .int .u64 s, .slice A7 j c7, .slice none 0 0] _ Try.underlying26 rfl size_rec HW9.out ?_))
          refine (rsame_any 2 0 0 s 2 0 0 s (some ⟨g4, 0, none⟩) none A7 none j j 0 0 j c7 0 0 xs xs [] [] (fun b => b < wr.heap.size) wr (HA9.out.rowN 0 HXL.out HA9.out.lt) HRW9.out (RowG.nil _ _ _ _ _) (RowG.nil _ _ _ _ _) (fun b h => h) HBY.out HBY.out (fun j => by simp) (fun j => by simp)).mono ?_
          rintro e w10 ⟨rfl, hb⟩
          rw [recSame_self]
          have HB10 := Lib.hid (HB9.out.trans (hb.mono HB9.out.size))
          clear hb
          go_wp2_with fail
          go_ret
          exact ⟨rfl, HB10.out⟩
    · have HM := Lib.hid hmay
      refine (tomb_no _ n cap s w3 hmay).mono ?_
      rintro e w4 ⟨rfl, hb⟩
      have hb5 := hb.alloc hb.size (.cells zeroC 26)
      have hb6 := hb5.alloc hb5.size (.cells #[] 5)
      obtain ⟨w6, hw6⟩ : ∃ w6, w6 = (w4.alloc (.cells zeroC 26)).alloc (.cells #[] 5) := ⟨_, rfl⟩
      have HB6 := Lib.hid (show Below w3.heap.size w3 w6 by rw [hw6]; exact hb6)
      have HE6 := Lib.hid (show w6.ownsRow (w4.heap.size + 1) 5 1 (.slice (some ⟨w4.heap.size + 1, 0, none⟩) 0 0) 0 [] by
        rw [hw6]
        have h := own_empty (w4.alloc (.cells zeroC 26)) 5
        rw [show (w4.alloc (.cells zeroC 26)).heap.size = w4.heap.size + 1 by simp] at h
        exact h)
      have HT6 := Lib.hid (show Blk w6 w4.heap.size 26 zeroC by rw [hw6]; exact (Blk.new w4 _ _).alloc _)
      have HS6 := Lib.hid (show w6.heap.size = w4.heap.size + 2 by rw [hw6]; simp)
      have HW6 := Lib.hid hw6
      have HX6 := Lib.hid (HX3.out.below HB6.out (fun b h => Nat.lt_of_lt_of_le h HB3.out.size))
      have HS34 := Lib.hid hb.size
      clear hb hb5 hb6 hw6 hmay
      go_wp2_with (at_builtin; rw [← HW6.out]; refine wpList_append_rowG (mk := Value.int .u8) (d := 0) rfl (.tmp 35) (.tmp 36) 24 rfl (w4.heap.size + 1) 5 i0 (.int .u8 0) 1 Try.underlying24 hi hz0 hz1 hz2 rfl (fun _ => rfl) _ 0 [] rfl HE6.out (· < w.heap.size) A n c xs rfl HX6.out hnil ?e2 ?e3 ?e4 ?_)
      case e2 => unfold maxLen; omega
      case e3 => omega
      case e4 => have := HS6.out; omega
      intro v7 w7 hown7 hgrow7 _
      have hb7 : Below (w4.heap.size + 1) w6 w7 := (Below.refl _ _).grown hgrow7 (by have := HS6.out; omega) (fun k hk => by simp [Value.ownBlock] at hk; omega)
      have hown7 : w7.ownsRow (w4.heap.size + 1) 5 1 v7 n (xs.map (Value.int .u8)) := by first | exact hown7 | simpa using hown7
      obtain ⟨A7, c7, rfl, hcc7, hnn7, hrow7⟩ := rowG_own 0 hown7
      have HB7 := Lib.hid (HB6.out.trans (hb7.mono (by have := HS34.out; omega)))
      have HT7 := Lib.hid (HT6.out.below hb7 (by omega))
      have HR7 := Lib.hid (HR3.out.below (HB6.out.trans (hb7.mono (by have := HS34.out; omega))))
      have hcell7 := (HR7.out.below (w' := w7.alloc (.cells (recC 2 0 0 s A7 n c7 none 0 0) 26)) ((Below.refl _ _).alloc (Nat.le_refl _) _)).last
      clear hown7 hgrow7 hb7 hcc7 hnn7 hrow7
      have hlt7 : (n : Int) < (n : Int) + 1 := by omega
      have hlt7' : n < n + 1 := by omega
      go_wp2_with fail
      refine (rright_no 2 0 0 s A7 none n c7 0 0 _ HM.out).mono ?_
      rintro e w8 ⟨rfl, hb⟩
      have hb78 : Below w7.heap.size w7 w8 := ((Below.refl _ _).alloc (Nat.le_refl _) _).trans (hb.mono (by simp))
      have HB8 := Lib.hid (HB3.out.trans ((HB7.out.trans (hb78.mono HB7.out.size)).mono HB3.out.size))
      have HT8 := Lib.hid (HT7.out.below hb78 HT7.out.lt)
      clear hcell7 hb hb78
      go_wp2_with (refine wpList_load_rowB (.tmp 6) 26 rfl rfl w4.heap.size rfl 26 [.int .i64 0, .int .u32 0, .int .u32 0, .int .u64 0, .slice none 0 0, .slice none 0 0] _ Try.underlying26 rfl size_rec HT8.out ?_)
      refine (rsame_any 0 0 0 0 0 0 0 0 none none none none 0 0 0 0 0 0 0 0 [] [] [] [] (fun b => b < w8.heap.size) w8 (RowG.nil _ _ _ _ _) (RowG.nil _ _ _ _ _) (RowG.nil _ _ _ _ _) (RowG.nil _ _ _ _ _) (fun b h => h) (fun j => by simp) (fun j => by simp) (fun j => by simp) (fun j => by simp)).mono ?_
      rintro e w10 ⟨rfl, hb⟩
      rw [recSame_self]
      have HB10 := Lib.hid (HB8.out.trans (hb.mono HB8.out.size))
      clear hb
      go_wp2_with fail
      go_ret
      exact ⟨rfl, HB10.out⟩

set_option maxHeartbeats 4000000 in
set_option maxRecDepth 100000 in
theorem walk (a0 : Option Addr) (len0 cap0 : Nat) (z0 : List Int) (a1 : Int) (w : World) (w0 : IsRow .u8 w a0 len0 cap0 z0) (b0 : cap0 ≤ 140737488351232) (w1 : (Lit.int .u64 a1).wf = true) :
    Calls Try.prog 5 #[.slice a0 len0 cap0, .int .u64 a1] w fun e w' => e = .returned (.bool true) ∧ Below w.heap.size w w' := by
  -- HEARTS
  have r0 := row8_of w0
  obtain ⟨hx, hby, hnc, hl, hnil⟩ := r0
  have hs : 0 ≤ a1 ∧ a1 ≤ 18446744073709551615 := by simpa [Lit.wf, IntKind.min, IntKind.max, IntKind.signed, IntKind.bits] using w1
  obtain ⟨n, hn⟩ : ∃ n, n = min len0 400 := ⟨_, rfl⟩
  have hmin : (len0 ≤ 400 ∧ n = len0) ∨ (400 < len0 ∧ n = 400) := by omega
  have hx2 := hx.take n (by omega)
  have hby2 := hby.take n
  generalize (z0.take len0).take n = xs at *
  exact walk_any a0 len0 n cap0 xs a1 w hx2 hby2 hmin hnc hnil hs

set_option maxRecDepth 100000 in
theorem lifted (os : Os) (started : os.Started) (H : Type) (enc : TypeId × Value → H) :
    ReturnsInHanded {} Try.checked os 5 .any (Rows.recordTombsSpec.pre6 enc Try.prog Try.f5 Rows.recordTombsRow.domain false) (Rows.recordTombsSpec.post enc Try.prog Try.f5 false true false false) := by
  refine returnsInHanded_of_change_sized (C := Try.checked) own started (by kernel_rfl) Try.func5
    (ChangeSpec.witness6 (enc := enc) (C := Try.checked) false ⟨#[], #[.slice none 0 0, .int .u64 0], []⟩ 8 (by kernel_rfl) (by kernel_rfl) (by kernel_rfl) (by kernel_rfl)) ?_
  intro W base args ds gs before hval0 hW hcnd hsz0 _
  have hval : ∀ (j : Nat) t v, Try.f5.params[j]? = some t → args[j]? = some v → Value.okWide Try.prog W .any base t v := hval0
  have hW' := hW
  have hsz : (DataW.weightsEach Try.prog (Try.f5.params.toList ++ Rows.recordTombsSpec.plain.varTypes Try.prog) (ds ++ gs)).all (· ≤ reachBytes) = true := hsz0
  obtain ⟨p, q, hA0, hV, rfl, hfz, hnd⟩ := hW
  have hA : DataW.TrodAll enc Try.prog W 0 (fun _ => true) true Try.f5.params.toList args.toList ds p := hA0
  rw [Try.params5] at hA hval hsz
  obtain ⟨v0, vs0, d0, ds0, p0, q0, hargs, rfl, rfl, h0, r0⟩ := trodAll_cons hA
  obtain ⟨v1, vs1, d1, ds1, p1, q1, rfl, rfl, rfl, h1, r1⟩ := trodAll_cons r0
  obtain ⟨rfl, rfl, rfl⟩ := trodAll_nil r1
  obtain rfl : args = #[v0, v1] := by cases args; simp_all
  obtain ⟨rfl, rfl⟩ := trodVars_none hV
  obtain ⟨a0, len0, cap0, rfl⟩ := okWide_slice Try.underlying24 (hval 0 24 v0 rfl rfl)
  have k0 := h0
  have lt0 : ∀ x ∈ p0, x.block < W.heap.size := by obtain ⟨m, hm⟩ := k0; exact DataW.trod_lt m _ _ _ hm
  obtain ⟨z0, w0, e0⟩ : ∃ zs, IsRow .u8 W a0 len0 cap0 zs ∧ (cap0 = 0 ∨ d0 = .slice (ChangeShapes.lits .u8 (zs.take len0)) (ChangeShapes.lits .u8 (zs.drop len0)) ∧ zs.length = cap0) := by
    obtain ⟨fuel, hf⟩ := h0
    rcases open_ints Try.underlying24 Try.underlying5 (by kernel_rfl) hf with ⟨hcs, _⟩ | ⟨x, l, c, zs, hcs, _, hl, hm, hz, hx, hcell, hwz⟩
    · simp [Value.cells] at hcs
      obtain ⟨rfl, rfl, rfl⟩ := hcs
      exact ⟨[], .inl ⟨rfl, rfl, rfl, rfl⟩, .inl rfl⟩
    · simp [Value.cells] at hcs
      obtain ⟨rfl, rfl, rfl⟩ := hcs
      have hz' : zs.length = cap0 := by simpa using hz
      exact ⟨zs, .inr ⟨_, rfl, hl, hm, hz', hcell, hwz⟩, .inr ⟨(Prod.mk.injEq _ _ _ _ ▸ hx).1, hz'⟩⟩
  obtain ⟨a1, rfl, rfl, rfl, w1⟩ := open_int Try.underlying23 (hval 1 23 v1 rfl rfl) h1
  have b0 : cap0 ≤ 140737488351232 := by
    rcases e0 with h | ⟨rfl, hl⟩
    · omega
    · have h := sized_slice hsz (j := 0) (t := 24) (e := 5) rfl rfl Try.underlying24
      rw [bytes5] at h
      simp only [ChangeShapes.lits, List.length_map, List.length_take, List.length_drop, reachBytes] at h
      omega
  clear hA0 hval0
  refine (walk a0 len0 cap0 z0 a1 W w0 b0 w1).mono fun e W' ⟨he, bel⟩ => ?_
  subst he
  exact ⟨_, rfl, _, _, _, [], _, [], hW', trodAll_mk1 (shut_bool Try.underlying4 _), (trodAll_cons_mk (Below.trod laidOut (by kernel_rfl) (of_decide_eq_true (by kernel_rfl)) k0 bel lt0) (trodAll_cons_mk (shut_int Try.underlying23 w1) trodAll_mk0)), rfl, bel.frame _, fun h => by cases h⟩

theorem over : Rows.recordTombsRow.holds Try.pinned (OpenSpec.ofChange Rows.recordTombsSpec) :=
  OpenClaim.holds_of_wide 5 Try.f5 rfl rfl rfl rfl rfl rfl rfl ⟨rfl, rfl, rfl, rfl, rfl⟩ rfl rfl rfl rfl rfl (by kernel_rfl) Try.func5 (by kernel_rfl)
    (of_decide_eq_true (by kernel_rfl)) (by unfold Func.isWrapper; first | (rw [if_pos (by decide +kernel)]; kernel_rfl) | (rw [if_neg (by decide +kernel)]; exact ⟨rfl, rfl⟩))
    (fun os started H enc _ => lifted os started H enc)

theorem proved : Rows.RecordTombsSaid := over
end Go.Proofs.Ytehldhdpeefljaa.recordTombs
