/- The layer does something; the document's Size and Class. -/
import Derived.Test.YtgipkdkfecegkaaDoorFree
namespace Go.Proofs.YtgipkdkfecegkaaDoor
open Go.RowKit Go.Shelf PgM
attribute [local go_sem] Oper.semAt_some
set_option linter.unusedVariables false
set_option linter.unusedSimpArgs false
set_option maxHeartbeats 2000000 in
theorem wakes11 (w : World) (hT : Tab w) : Calls Tryd.prog 8 #[] w fun e w' => e = .returned (.bool true) ∧ Below w.heap.size w w' := by
  have hnew := new_ok 2 (by decide) (by decide) w hT
  obtain ⟨p0, hp0⟩ : ∃ p, p = List.replicate 2 pg0 := ⟨_, rfl⟩
  obtain ⟨p1, hp1⟩ : ∃ p, p = giveX p0 20 := ⟨_, rfl⟩
  obtain ⟨p2, hp2⟩ : ∃ p, p = giveX p1 20 := ⟨_, rfl⟩
  have a1 : giveN p0 20 = 0 := by subst hp0; decide +kernel
  have a2 : giveE p0 20 = 0 := by subst hp0; decide +kernel
  have a3 : giveN p1 20 = 1 := by subst hp1 hp0; decide +kernel
  have a4 : giveE p1 20 = 0 := by subst hp1 hp0; decide +kernel
  have a5 : ((p2.filter (hasZ 0)).map (fun p => pop p.2)).sum = 2 := by subst hp2 hp1 hp0; decide +kernel
  have a6 : freeP p2 = 1 := by subst hp2 hp1 hp0; decide +kernel
  rw [← hp0] at hnew
  have HG1 := Lib.hid (fun (W : World) (x g : Nat) (h : ArM W x g p0) => give_any h 20)
  have HG2 := Lib.hid (fun (W : World) (x g : Nat) (h : ArM W x g p1) => give_any h 20)
  have HU := Lib.hid (fun (W : World) (x g : Nat) (h : ArM W x g p2) => used_all h 0)
  have HF := Lib.hid (fun (W : World) (x g : Nat) (h : ArM W x g p2) => free_all h)
  rw [a1, a2, ← hp1] at HG1
  rw [a3, a4, ← hp2] at HG2
  rw [a5] at HU
  rw [a6] at HF
  clear a1 a2 a3 a4 a5 a6 hp0 hp1 hp2
  have HNEW := Lib.hid hnew
  clear hnew hT
  go_enter Tryd.func8, Tryd.ntmps8
  go_wp2_with fail
  refine HNEW.out.mono ?_
  rintro e w1 ⟨x, rfl, g, ha1, hb1, hx1, hg1⟩
  have HA1 := Lib.hid ha1
  have HB1 := Lib.hid hb1
  clear ha1 hb1
  go_wp2_with fail
  refine (HG1.out _ _ _ HA1.out).mono ?_
  rintro e w2 ⟨rfl, ha2, hk2⟩
  have HA2 := Lib.hid ha2
  have HB2 := Lib.hid (HB1.out.trans (hk2.to_below (B := w.heap.size) (fun b hb => ⟨Nat.lt_of_lt_of_le hb HB1.out.size, by omega⟩)))
  clear ha2 hk2
  go_wp2_with fail
  refine (HG2.out _ _ _ HA2.out).mono ?_
  rintro e w3 ⟨rfl, ha3, hk3⟩
  have HA3 := Lib.hid ha3
  have HB3 := Lib.hid (HB2.out.trans (hk3.to_below (B := w.heap.size) (fun b hb => ⟨Nat.lt_of_lt_of_le hb HB2.out.size, by omega⟩)))
  clear ha3 hk3
  go_wp2_with fail
  refine (HU.out _ _ _ HA3.out).mono ?_
  rintro e w4 ⟨rfl, hb4⟩
  have HA4 := Lib.hid (HA3.out.belowAll hb4)
  have HB4 := Lib.hid (HB3.out.trans (hb4.mono HB3.out.size))
  clear hb4
  go_wp2_with fail
  refine (HF.out _ _ _ HA4.out).mono ?_
  rintro e w5 ⟨rfl, hb5⟩
  have HB5 := Lib.hid (HB4.out.trans (hb5.mono HB4.out.size))
  clear hb5
  go_wp2
  go_ret
  exact ⟨rfl, HB5.out⟩
set_option maxHeartbeats 2000000 in
theorem none_law (n : Int) (w : World) (hT : Tab w) : Calls Tryd.prog 5 #[.int .i64 n] w fun e w' => e = .returned (.bool true) ∧ Below w.heap.size w w' := by
  have HW := Lib.hid (wakes11 w hT)
  clear hT
  go_enter Tryd.func5, Tryd.ntmps5
  go_wp2_with fail
  refine HW.out.mono ?_
  rintro e w1 ⟨rfl, hb1⟩
  have HB1 := Lib.hid hb1
  clear hb1
  go_wp2_with fail
  refine (give_nil _ _).mono ?_
  rintro e w2 ⟨rfl, rfl⟩
  go_wp2_with fail
  refine (where_nil _ _).mono ?_
  rintro e w3 ⟨rfl, rfl⟩
  go_wp2_with fail
  refine (take_nil _ _).mono ?_
  rintro e w4 ⟨rfl, rfl⟩
  go_wp2_with fail
  refine (used_nil _ _).mono ?_
  rintro e w5 ⟨rfl, hb5⟩
  have HB5 := Lib.hid (HB1.out.trans (hb5.mono HB1.out.size))
  clear hb5
  go_wp2_with fail
  refine (pages_nil _ _).mono ?_
  rintro e w6 ⟨rfl, hb6⟩
  have HB6 := Lib.hid (HB5.out.trans (hb6.mono HB5.out.size))
  clear hb6
  go_wp2_with fail
  refine (free_nil _).mono ?_
  rintro e w7 ⟨rfl, rfl⟩
  go_wp2_with fail
  refine (copy_nil _).mono ?_
  rintro e w8 ⟨rfl, rfl⟩
  go_wp2
  go_ret
  exact ⟨rfl, HB6.out⟩
end Go.Proofs.YtgipkdkfecegkaaDoor
