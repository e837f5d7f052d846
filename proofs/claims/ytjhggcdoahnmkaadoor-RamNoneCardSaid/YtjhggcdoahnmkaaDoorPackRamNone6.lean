/- Texts of RamNone, packed. -/
import Derived.Test.YtjhggcdoahnmkaaDoorPackRamNone5
import Derived.Deep.Slices
import Derived.Deep.Fields
import Derived.ChangeSame
import Derived.Lib.SmallJoins
/- RamNone. -/
namespace Go.Proofs.YtjhggcdoahnmkaaDoor
open Go.RowKit Go.Maps Go.ChangeMaps Go.Shelf PgM
attribute [local go_sem] Oper.semAt_some
set_option linter.unusedVariables false
set_option linter.unusedSimpArgs false
set_option maxRecDepth 100000
theorem all1_nil13 (n g : Nat) (A : Option Addr) (c : Nat) (encs : Nat → Array Value) (M : Nat → World → Prop) (hM : ∀ j V, M j V → V.cell? ⟨g, 0, none⟩ = some (.slice A 0 c)) :
    SeqM Fence.wide n Tryd.prog 50 #[.pointer (some ⟨g, 0, none⟩)] encs 0 M := by
  intro l J Jx W hJ hJx hJM hY h0
  refine callsIn_of_wp Tryd.func50 rfl trivial ?_ rfl
  simp only [Tryd.ntmps50, List.size_toArray, List.length_cons, List.length_nil, Nat.reduceAdd, Nat.reduceSub, Array.replicate_succ, Array.replicate_zero, List.push_toArray, List.append_toArray, List.nil_append, List.cons_append]
  have k1 := hM _ _ (hJM 0 W h0)
  gi_wp2
  gi_loopw [7] (fun i wr => i = .int .i64 0 ∧ J 0 wr) (fun i _ => 0)
  case atStart => exact ⟨rfl, h0⟩
  case round =>
    obtain ⟨rfl, hj⟩ := hrel
    gi_wp2
    go_end0
    exact ⟨⟨_, rfl⟩, .inl hj⟩
set_option maxHeartbeats 16000000 in
theorem none_law13 (A : Option Addr) (n c : Nat) (B : Option Addr) (m d : Nat) (fl ex sq : Int) (dy : Bool) (w : World) (hT : Tab w) : Calls Tryd.prog 4 #[itV A n c B m d fl ex sq dy] w fun e w' => e = .returned (.bool true) ∧ Below w.heap.size w w' := by
  obtain ⟨w2, hw2⟩ : ∃ w2, w2 = (w.alloc (.cells (itC A n c B m d fl ex sq dy).toArray 40)).alloc (.cells #[.bool false] 4) := ⟨_, rfl⟩
  have hb2 : Below w.heap.size w w2 := by rw [hw2]; exact ((Below.refl _ w).alloc (Nat.le_refl _) _).alloc (by simp) _
  have HB2 := Lib.hid hb2
  have HK1 := Lib.hid (show Blk w2 w.heap.size 40 (itC A n c B m d fl ex sq dy).toArray by rw [hw2]; exact (Blk.new w _ _).alloc _)
  have HK2 := Lib.hid (show Blk w2 (w.heap.size + 1) 4 #[.bool false] by rw [hw2]; exact blk_new2 w _ _ _)
  have HW := Lib.hid (wakes13 w2 (hT.below hb2 hT.1))
  have HW2 := Lib.hid hw2
  have HPOS := Lib.hid hT.1
  clear hT hb2 hw2
  refine (callsIn_wide (n := 7)).1 ?_
  refine callsIn_of_wp_marks Tryd.func4 rfl trivial ?_ rfl
  simp only [Tryd.ntmps4, List.size_toArray, List.length_cons, List.length_nil, Nat.reduceAdd, Nat.reduceSub, Array.replicate_succ, Array.replicate_zero, List.push_toArray, List.append_toArray, List.nil_append, List.cons_append]
  refine wpIn_wide.2 ?_
  go_upto_region 1 with fail
  rw [← HW2.out]
  go_wp2_with fail
  refine HW.out.mono ?_
  rintro e w3 ⟨rfl, hb⟩
  have HB3 := Lib.hid (HB2.out.trans (hb.mono HB2.out.size))
  have HK13 := Lib.hid (HK1.out.below hb HK1.out.lt)
  have HK23 := Lib.hid (HK2.out.below hb HK2.out.lt)
  clear hb HW
  have HP := Lib.hid (put_nil13 A n c B m d fl ex sq dy w3)
  go_wp2_with (refine wpList_load_rowB (.tmp 1) 40 rfl rfl w.heap.size rfl 40 (itC A n c B m d fl ex sq dy) _ Tryd.underlying40 rfl size_item HK13.out ?_)
  refine HP.out.mono ?_
  rintro e w4 ⟨rfl, hb⟩
  have HB4 := Lib.hid (HB3.out.trans (hb.mono HB3.out.size))
  have HK14 := Lib.hid (HK13.out.below hb HK13.out.lt)
  have HK24 := Lib.hid (HK23.out.below hb HK23.out.lt)
  clear hb HP
  have k0 : w4.cell? ⟨w.heap.size, 0, none⟩ = some (.slice A n c) := HK14.out.cell 0
  have HP := Lib.hid (get_err none A n c 1 rfl w4 (fun W hW => find_nil13 A n c W))
  go_wp2_with fail
  refine HP.out.mono ?_
  rintro e w5 ⟨rfl, hb⟩
  have HB5 := Lib.hid (HB4.out.trans (hb.mono HB4.out.size))
  have HK15 := Lib.hid (HK14.out.below hb HK14.out.lt)
  have HK25 := Lib.hid (HK24.out.below hb HK24.out.lt)
  clear hb HP k0
  have HBN := Lib.hid (Blk.new w5 40 #[.slice none 0 0, .slice none 0 0, .int .u32 0, .int .u32 0, .int .u64 0, .bool false])
  obtain ⟨w6, hw6⟩ : ∃ w6, w6 = (w5.alloc (.cells #[.slice none 0 0, .slice none 0 0, .int .u32 0, .int .u32 0, .int .u64 0, .bool false] 40)).setRow w5.heap.size it0C.toArray := ⟨_, rfl⟩
  have hb6 : Below w5.heap.size w5 w6 := by rw [hw6]; exact Kept.to_below (((Kept.refl (fun b => b < w5.heap.size) w5).alloc (fun b h => h) _).setRow (fun h => by omega) _) (fun b h => h)
  have HY := Lib.hid (show Blk w6 w5.heap.size 40 it0C.toArray by rw [hw6]; exact setRow_heap _ _ _ it0C.toArray _ _ HBN.out)
  have HB6 := Lib.hid (HB5.out.trans (hb6.mono HB5.out.size))
  have HK16 := Lib.hid (HK15.out.below hb6 HK15.out.lt)
  have HK26 := Lib.hid (HK25.out.below hb6 HK25.out.lt)
  have HW6 := Lib.hid hw6.symm
  clear hb6 hw6
  have k0 : w6.cell? ⟨w.heap.size, 0, none⟩ = some (.slice A n c) := HK16.out.cell 0
  have HP := Lib.hid (peek_err none A n c 1 rfl w6 (fun W hW => find_nil13 A n c W))
  go_wp2_with (refine wpList_store_rowB (.tmp 6) (.tmp 23) 40 rfl rfl w5.heap.size it0C.toArray rfl rfl 40 _ HBN.out size_item rfl (one_item _ _ _ _ _ _ _ _ _ _) ?_; rw [HW6.out])
  refine HP.out.mono ?_
  rintro e w7 ⟨rfl, hb⟩
  have HB7 := Lib.hid (HB6.out.trans (hb.mono HB6.out.size))
  have HK17 := Lib.hid (HK16.out.below hb HK16.out.lt)
  have HK27 := Lib.hid (HK26.out.below hb HK26.out.lt)
  have HY7 := Lib.hid (HY.out.below hb HY.out.lt)
  clear hb HP k0
  have HBN := Lib.hid (Blk.new w7 40 #[.slice none 0 0, .slice none 0 0, .int .u32 0, .int .u32 0, .int .u64 0, .bool false])
  obtain ⟨w8, hw8⟩ : ∃ w8, w8 = (w7.alloc (.cells #[.slice none 0 0, .slice none 0 0, .int .u32 0, .int .u32 0, .int .u64 0, .bool false] 40)).setRow w7.heap.size it0C.toArray := ⟨_, rfl⟩
  have hb8 : Below w7.heap.size w7 w8 := by rw [hw8]; exact Kept.to_below (((Kept.refl (fun b => b < w7.heap.size) w7).alloc (fun b h => h) _).setRow (fun h => by omega) _) (fun b h => h)
  have HZ := Lib.hid (show Blk w8 w7.heap.size 40 it0C.toArray by rw [hw8]; exact setRow_heap _ _ _ it0C.toArray _ _ HBN.out)
  have HB8 := Lib.hid (HB7.out.trans (hb8.mono HB7.out.size))
  have HK18 := Lib.hid (HK17.out.below hb8 HK17.out.lt)
  have HK28 := Lib.hid (HK27.out.below hb8 HK27.out.lt)
  have HY8 := Lib.hid (HY7.out.below hb8 HY7.out.lt)
  have HW8 := Lib.hid hw8.symm
  clear hb8 hw8
  have HP := Lib.hid (all_nil13 w8)
  go_wp2_with (refine wpList_store_rowB (.tmp 8) (.tmp 30) 40 rfl rfl w7.heap.size it0C.toArray rfl rfl 40 _ HBN.out size_item rfl (one_item _ _ _ _ _ _ _ _ _ _) ?_; rw [HW8.out])
  refine HP.out.mono ?_
  rintro e w9 ⟨g, v, rfl, ⟨hg1, hg2⟩, hb, hg⟩
  have HB9 := Lib.hid (HB8.out.trans (hb.mono HB8.out.size))
  have HK19 := Lib.hid (HK18.out.below hb HK18.out.lt)
  have HK29 := Lib.hid (HK28.out.below hb HK28.out.lt)
  have HY9 := Lib.hid (HY8.out.below hb HY8.out.lt)
  have HZ9 := Lib.hid (HZ.out.below hb HZ.out.lt)
  obtain ⟨A1, q1, rfl⟩ := ownsRow_slice hg2
  have HG := Lib.hid (show ∀ V, Below w9.heap.size w9 V → V.cell? ⟨g, 0, none⟩ = some (.slice A1 0 q1) from fun V hV => (hV.cell (p := ⟨g, 0, none⟩) hg1.lt).trans (hg1.cell 0))
  clear hg1 hg2 hb HP
  go_wp2_with fail
  refine (wpIn_wide (n := 7)).1 ?_
  refine range_by rfl (by decide) (gf := 50) (lb := #[.pointer (some ⟨g, 0, none⟩)]) rfl trivial (enters_of Tryd.func50 (by kernel_rfl) rfl)
    (encs := fun j => #[.int .i64 (([] : List Nat).getD j 0 : Nat)]) (N := 0) (M := fun j V => Below w9.heap.size w9 V)
    (all1_nil13 6 g A1 q1 _ _ (fun j V hV => HG.out V hV)) (fun _ => rfl)
    (fun j V => Below w9.heap.size w9 V)
    (fun cd i V => False)
    (ownFrom_below (Nat.le_refl _) (Nat.le_refl _))
    (fun cd => own_pure _)
    (Below.refl _ _)
    (fun j V hV => hV)
    (fun j a' V => True)
    (fun j a' _ X Y row hs hg hr => trivial)
    ?assign ?body ?done ?stop
  case assign => rintro l j W K hj; omega
  case body => rintro l j a' W hj; omega
  case stop =>
    rintro D cd i W _ _ h _
    exact h.elim
  case done =>
    rintro D W hD hB hK
    have HBW := Lib.hid (HB9.out.trans (hB.mono HB9.out.size))
    have HKW := Lib.hid (HK19.out.below hB HK19.out.lt)
    have HRW := Lib.hid (HK29.out.below hB HK29.out.lt)
    have HYW := Lib.hid (HY9.out.below hB HY9.out.lt)
    have HZW := Lib.hid (HZ9.out.below hB HZ9.out.lt)
    have HKD := Lib.hid hK
    have HDL := Lib.hid hD
    clear hB hK hD
    have hz0 : ∀ (V : World) (S : Nat → Prop), ItM V S none 0 none 0 ⟨[], [], 0, 0, 0, false⟩ := fun V S => ⟨RowG.nil _ _ _ _ _, RowG.nil _ _ _ _ _, (fun _ => rfl), (fun _ => rfl), (fun j => by simp), (fun j => by simp), by simp, by simp⟩
    have HSM := Lib.hid (show ∀ V : World, Calls Tryd.prog 18 #[.agg it0C.toArray, .agg it0C.toArray] V fun e w' => e = .returned (.bool true) ∧ Below V.heap.size V w' from fun V => same_it none 0 none 0 none 0 none 0 ⟨[], [], 0, 0, 0, false⟩ (fun _ => False) (fun _ => False) V (hz0 V _) (hz0 V _) (fun b h => by rcases h with h | h <;> exact h.elim))
    clear hz0
    go_wp2_with (first
      | (refine wpList_load_rowB (.tmp 6) 40 rfl rfl w5.heap.size rfl 40 it0C _ Tryd.underlying40 rfl size_item HYW.out ?_))
    refine (HSM.out W).mono ?_
    rintro e wa ⟨rfl, hb⟩
    have HBW := Lib.hid (HBW.out.trans (hb.mono HBW.out.size))
    have HKW := Lib.hid (HKW.out.below hb HKW.out.lt)
    have HRW := Lib.hid (HRW.out.below hb HRW.out.lt)
    have HYW := Lib.hid (HYW.out.below hb HYW.out.lt)
    have HZW := Lib.hid (HZW.out.below hb HZW.out.lt)
    have HKD := Lib.hid ((hb.block D (Array.getElem?_eq_some_iff.1 HKD.out).1).trans HKD.out)
    clear hb
    go_wp2_with (first
      | (refine wpList_load_rowB (.tmp 8) 40 rfl rfl w7.heap.size rfl 40 it0C _ Tryd.underlying40 rfl size_item HZW.out ?_))
    refine (HSM.out wa).mono ?_
    rintro e wb ⟨rfl, hb⟩
    have HBW := Lib.hid (HBW.out.trans (hb.mono HBW.out.size))
    have HKW := Lib.hid (HKW.out.below hb HKW.out.lt)
    have HRW := Lib.hid (HRW.out.below hb HRW.out.lt)
    have HYW := Lib.hid (HYW.out.below hb HYW.out.lt)
    have HZW := Lib.hid (HZW.out.below hb HZW.out.lt)
    have HKD := Lib.hid ((hb.block D (Array.getElem?_eq_some_iff.1 HKD.out).1).trans HKD.out)
    clear hb
    have k0 : wb.cell? ⟨w.heap.size, 0, none⟩ = some (.slice A n c) := HKW.out.cell 0
    have HP := Lib.hid (remove_err none A n c 1 rfl wb (find_nil13 A n c wb))
    go_wp2_with fail
    refine HP.out.mono ?_
    rintro e wd ⟨rfl, hb⟩
    have HBW := Lib.hid (HBW.out.trans (hb.mono HBW.out.size))
    have HKW := Lib.hid (HKW.out.below hb HKW.out.lt)
    have HRW := Lib.hid (HRW.out.below hb HRW.out.lt)
    have HYW := Lib.hid (HYW.out.below hb HYW.out.lt)
    have HZW := Lib.hid (HZW.out.below hb HZW.out.lt)
    have HKD := Lib.hid ((hb.block D (Array.getElem?_eq_some_iff.1 HKD.out).1).trans HKD.out)
    clear hb
    clear k0 HP
    have k0 : wd.cell? ⟨w.heap.size, 0, none⟩ = some (.slice A n c) := HKW.out.cell 0
    have HP := Lib.hid (clean_err none A n c 1 rfl wd (find_nil13 A n c wd))
    go_wp2_with fail
    refine HP.out.mono ?_
    rintro e we ⟨rfl, hb⟩
    have HBW := Lib.hid (HBW.out.trans (hb.mono HBW.out.size))
    have HKW := Lib.hid (HKW.out.below hb HKW.out.lt)
    have HRW := Lib.hid (HRW.out.below hb HRW.out.lt)
    have HYW := Lib.hid (HYW.out.below hb HYW.out.lt)
    have HZW := Lib.hid (HZW.out.below hb HZW.out.lt)
    have HKD := Lib.hid ((hb.block D (Array.getElem?_eq_some_iff.1 HKD.out).1).trans HKD.out)
    clear hb
    clear k0 HP
    have HP := Lib.hid (clear_nil13 we)
    go_wp2_with fail
    refine HP.out.mono ?_
    rintro e wf ⟨rfl, hb⟩
    have HBW := Lib.hid (HBW.out.trans (hb.mono HBW.out.size))
    have HKW := Lib.hid (HKW.out.below hb HKW.out.lt)
    have HRW := Lib.hid (HRW.out.below hb HRW.out.lt)
    have HYW := Lib.hid (HYW.out.below hb HYW.out.lt)
    have HZW := Lib.hid (HZW.out.below hb HZW.out.lt)
    have HKD := Lib.hid ((hb.block D (Array.getElem?_eq_some_iff.1 HKD.out).1).trans HKD.out)
    clear hb
    clear HP
    have HP := Lib.hid (len_nil13 wf)
    have HQ := Lib.hid (charge_nil13 wf)
    go_wp2_with fail
    refine HP.out.mono ?_
    rintro e wx ⟨rfl, rfl⟩
    go_wp2_with fail
    refine HQ.out.mono ?_
    rintro e wx2 ⟨rfl, rfl⟩
    have d0 := HRW.out.cell 0
    have f0 := HRW.out.frozen 0
    simp only [List.getElem?_toArray, List.getElem?_cons_zero] at d0
    go_wp2_with fail
    have hKW : ((wx2.setCell ⟨w.heap.size + 1, 0, none⟩ (.bool true))).heap[D]? = some (.deferred (some [])) := (Below.heap_setCell wx2 ⟨w.heap.size + 1, 0, none⟩ _ D (by
      have s1 := HB9.out.size
      have s2 := HDL.out
      have s3 := HK29.out.lt
      show D ≠ w.heap.size + 1
      omega)).trans HKD.out
    refine leaves_marks2 (w := w) [D] _ ⟨by simp, fun D' hD' => ?_⟩ (fun W' hW' hkc => ⟨.bool true, ?_, rfl, ?_⟩)
    · obtain rfl : D' = D := by simpa using hD'
      have s1 := HB9.out.size
      have s2 := HDL.out
      exact ⟨by omega, (Array.getElem?_eq_some_iff.1 hKW).1, hKW⟩
    · have e1 := (hkc.blk (HRW.out.set_ 0 (.bool true))).cell 0
      simp [results, Tryd.f4, go_sem, e1]
    · exact (HBW.out.setCell (p := ⟨w.heap.size + 1, 0, none⟩) (by simp) _).trans hW'
end Go.Proofs.YtjhggcdoahnmkaaDoor

/- An item that comes in by value: its numbers, and its lists in memory. -/
namespace Go.Proofs.YtjhggcdoahnmkaaDoor
open Go.RowKit Go.ChangeShapes Go.WideShapes Go.Deep Go.Joins
set_option linter.unusedVariables false
set_option linter.unusedSimpArgs false
set_option maxRecDepth 100000
/-- An item that came in. -/
structure IsIt (w : World) (A : Option Addr) (c : Nat) (B : Option Addr) (d : Nat) (t : It) : Prop where
  key : RowI .u8 w (· < w.heap.size) A t.key.length t.key
  value : RowI .u8 w (· < w.heap.size) B t.val.length t.val
  bkey : Bytes t.key
  bvalue : Bytes t.val
  nc : t.key.length ≤ c
  md : t.val.length ≤ d
  n63 : t.key.length ≤ 9223372036854775807
  m63 : t.val.length ≤ 9223372036854775807
  nA : A = none → c = 0
  nB : B = none → d = 0
section
variable {H : Type} {enc : TypeId × Value → H} {w : World} {held : Bool}
theorem open_row8 {fuel : Nat} {v : Value} {y : DataW H × List MemPlace} (h : DataW.trod enc Tryd.prog w 0 (fun _ => true) held fuel 36 [v] = some y) :
    ∃ (a : Option Addr) (len cap : Nat) (zs : List Int), v = .slice a len cap ∧ RowI .u8 w (· < w.heap.size) a len zs ∧ Bytes zs ∧ len ≤ cap ∧ len ≤ 9223372036854775807 ∧ (a = none → cap = 0) := by
  rcases open_ints Tryd.underlying36 Tryd.underlying5 (by kernel_rfl) h with ⟨hcs, _⟩ | ⟨x, l, c, zs, hcs, _, hl, hm, hz, hx, hcell, hwz⟩
  · simp at hcs
    subst hcs
    exact ⟨none, 0, 0, [], rfl, RowG.nil _ _ _ _ _, fun j => by simp, Nat.le_refl _, by omega, fun _ => rfl⟩
  · simp at hcs
    subst hcs
    have hz' : zs.length = c := by simpa using hz
    have h8 := row8_of (w := w) (a := some x) (len := l) (cap := c) (zs := zs) (.inr ⟨x, rfl, hl, hm, hz', hcell, hwz⟩)
    exact ⟨some x, l, c, zs.take l, rfl, h8.1, h8.2.1, h8.2.2.1, h8.2.2.2.1, h8.2.2.2.2⟩
/-- The cells of an item that is trodden. -/
theorem open_item_cells {fuel : Nat} {cs : List Value} (hl6 : cs.length = 6) {y : DataW H × List MemPlace} (hf : DataW.trod enc Tryd.prog w 0 (fun _ => true) held fuel 40 cs = some y) :
    ∃ (A : Option Addr) (c : Nat) (B : Option Addr) (d : Nat) (t : It), cs = itTC A c B d t ∧ IsIt w A c B d t := by
  obtain ⟨ys, fu, _, _, _, hyl, hg⟩ := DataW.trod_struct Tryd.underlying40 hf
  have hone : ∀ t, t = 4 ∨ t = 37 ∨ t = 38 ∨ t = 36 → Tryd.prog.cellsOf t = 1 := by
    rintro t (rfl | rfl | rfl | rfl) <;> kernel_rfl
  have hy6 : ys.length = 6 := hyl
  match cs, hl6 with
  | [v0, v1, v2, v3, v4, v5], _ =>
    have g0 := hg 0 _ rfl
    have g1 := hg 1 _ rfl
    have g2 := hg 2 _ rfl
    have g3 := hg 3 _ rfl
    have g4 := hg 4 _ rfl
    have g5 := hg 5 _ rfl
    simp only [Value.cells, List.getElem_toArray, List.getElem_cons_zero, List.getElem_cons_succ, hone _ (.inl rfl), hone _ (.inr (.inl rfl)), hone _ (.inr (.inr (.inl rfl))), hone _ (.inr (.inr (.inr rfl))), List.drop_zero, List.drop_succ_cons, List.take_succ_cons, List.take_zero] at g0 g1 g2 g3 g4 g5
    rw [List.getElem?_eq_getElem (by omega)] at g0 g1 g2 g3 g4 g5
    obtain ⟨A, n, c, z, rfl, hz, bz, nc, n63, nA⟩ := open_row8 g0
    obtain ⟨B, m, d, y, rfl, hy, by_, md, m63, nB⟩ := open_row8 g1
    obtain ⟨f, ef, _, wf⟩ := DataW.trod_int Tryd.underlying37 g2
    obtain ⟨x, ex, _, wx⟩ := DataW.trod_int Tryd.underlying37 g3
    obtain ⟨s, es, _, ws⟩ := DataW.trod_int Tryd.underlying38 g4
    obtain ⟨b, eb, _⟩ := DataW.trod_bool Tryd.underlying4 g5
    injection ef with ef _
    injection ex with ex _
    injection es with es _
    injection eb with eb _
    subst ef ex es eb
    have h1 := hz.1
    have h2 := hy.1
    subst h1 h2
    exact ⟨A, c, B, d, ⟨z, y, f, x, s, b⟩, rfl, ⟨hz, hy, bz, by_, nc, md, n63, m63, nA, nB⟩⟩
theorem open_item {r : Reach} {b0 : Nat} {v : Value} {d : DataW H} {p : List MemPlace} (hv : Value.okWide Tryd.prog w r b0 40 v) (h : DataW.Trod enc Tryd.prog w 0 (fun _ => true) held 40 v d p) :
    ∃ (A : Option Addr) (c : Nat) (B : Option Addr) (d : Nat) (t : It), v = itT A c B d t ∧ IsIt w A c B d t := by
  obtain ⟨cs, rfl, hsz⟩ := okWide_struct Tryd.underlying40 hv
  obtain ⟨fuel, hf⟩ := h
  have hc6 : Tryd.prog.cellsOf 40 = 6 := by kernel_rfl
  obtain ⟨l⟩ := cs
  obtain ⟨A, c, B, d, t, e, h⟩ := open_item_cells (cs := l) (by simpa using hsz.trans hc6) hf
  exact ⟨A, c, B, d, t, by rw [e], h⟩
end
end Go.Proofs.YtjhggcdoahnmkaaDoor
