/- Package disk: perform, by each of what it is let do. -/
import Derived.Test.YtkmbbfdjdmkjpaaSettle
import Derived.Test.YtkmbbfdjdmkjpaaRead1
namespace Go.Proofs.Ytkmbbfdjdmkjpaa
open Go.RowKit
set_option linter.unusedVariables false
set_option linter.unusedSimpArgs false

theorem perform_refused (w : World) (d : Nat) (e : Int) (he : e ≠ 0) (c : Bool) (f : Value) :
    Calls Try.prog 77 #[.pointer (some ⟨d, 0, none⟩), .int .i64 e, .bool c, f] w fun r w' => r = .returned (.int .i64 e) ∧ w = w' := by
  have h1 : (e != 0) = true := by simp [bne, he]
  go_enter Try.func77, Try.ntmps77
  go_wp2
  go_ret
  exact ⟨rfl, rfl⟩

section
variable {w : World} {d H S n : Nat} {v : Value} {m : Nat} {held safe : List Int} {P : List Value} {armed fails : Int} {ops : Int}

/-- It fails. -/
theorem pread_io (h : Dm w d H S n v m held safe P armed fails false ops) (hf0 : -9223372036854775808 ≤ fails) (hf1 : fails ≤ 9223372036854775807) (hz : fails = 0) (f : Value) :
    Calls Try.prog 77 #[.pointer (some ⟨d, 0, none⟩), .int .i64 0, .bool false, f] w fun e w' => e = .returned (.int .i64 8) ∧ Dm w' d H S n v m held safe P armed (-1) false ops ∧ Kept (fun b => b ≠ d) w w' := by
  have HD := Lib.hid h
  have HFZ := Lib.hid (show decide (fails = 0) = true by simp [hz])
  have hst : struck fails = -1 := by subst hz; rfl
  have HST := Lib.hid hst
  clear h hst hz
  go_enter Try.func77, Try.ntmps77
  go_wp2_with (go_at_call 110; with_reducible refine (fails_any HD.out hf0 hf1).mono ?_; rintro e w1 ⟨rfl, hd1, hk1⟩; have HD1 := Lib.hid hd1; have HK1 := Lib.hid hk1; clear hd1 hk1; rw [HFZ.out])
  go_ret
  rw [HST.out] at HD1
  exact ⟨rfl, HD1.out, HK1.out⟩

/-- It is done. -/
theorem pread_done (h : Dm w d H S n v m held safe P armed fails false ops) (hf0 : -9223372036854775808 ≤ fails) (hf1 : fails ≤ 9223372036854775807) (hz : fails ≠ 0) (ha0 : -9223372036854775808 ≤ armed) (ha1 : armed ≤ 9223372036854775807) (c0 c1 c2 : Value) (R : World → Prop)
    (hdo : ∀ w1, Dm w1 d H S n v m held safe P armed (struck fails) false ops → Kept (fun b => b ≠ d) w w1 → Calls Try.prog 79 #[c0, c1, c2] w1 fun e w2 => e = .returned (.tuple #[]) ∧ R w2)
    (hR : ∀ w2, R w2 → w2.cell? ⟨d, 6, none⟩ = some (.int .i64 ops) ∧ w2.frozen? ⟨d, 6, none⟩ = false) :
    Calls Try.prog 77 #[.pointer (some ⟨d, 0, none⟩), .int .i64 0, .bool false, .func (.func 79) #[] #[c0, c1, c2]] w fun e w' => e = .returned (.int .i64 0) ∧ ∃ w2, R w2 ∧ w' = w2.setCell ⟨d, 6, none⟩ (.int .i64 (wrap64 (ops + 1))) := by
  have HD := Lib.hid h
  have HDO := Lib.hid hdo
  have HRR := Lib.hid hR
  have HFZ := Lib.hid (show decide (fails = 0) = false by simp [hz])
  clear h hz hdo hR
  go_enter Try.func77, Try.ntmps77
  go_wp2_with (first | (go_at_call 110; with_reducible refine (fails_any HD.out hf0 hf1).mono ?_; rintro e w1 ⟨rfl, hd1, hk1⟩; have HD1 := Lib.hid hd1; have HK1 := Lib.hid hk1; clear hd1 hk1; rw [HFZ.out]) | (go_at_call 79; refine (HDO.out _ HD1.out HK1.out).mono ?_; rintro e w3 ⟨rfl, hr⟩; have HR3 := Lib.hid hr; obtain ⟨hc6, hz6⟩ := HRR.out _ hr; clear hr))
  go_ret
  exact ⟨rfl, _, HR3.out, rfl⟩

/-- It fails. -/
theorem pwrite_io (h : Dm w d H S n v m held safe P armed fails false ops) (hf0 : -9223372036854775808 ≤ fails) (hf1 : fails ≤ 9223372036854775807) (hz : fails = 0) (f : Value) :
    Calls Try.prog 77 #[.pointer (some ⟨d, 0, none⟩), .int .i64 0, .bool true, f] w fun e w' => e = .returned (.int .i64 8) ∧ Dm w' d H S n v m held safe P armed (-1) false ops ∧ Kept (fun b => b ≠ d) w w' := by
  have HD := Lib.hid h
  have HFZ := Lib.hid (show decide (fails = 0) = true by simp [hz])
  have hst : struck fails = -1 := by subst hz; rfl
  have HST := Lib.hid hst
  clear h hst hz
  go_enter Try.func77, Try.ntmps77
  go_wp2_with (go_at_call 110; with_reducible refine (fails_any HD.out hf0 hf1).mono ?_; rintro e w1 ⟨rfl, hd1, hk1⟩; have HD1 := Lib.hid hd1; have HK1 := Lib.hid hk1; clear hd1 hk1; rw [HFZ.out])
  go_ret
  rw [HST.out] at HD1
  exact ⟨rfl, HD1.out, HK1.out⟩

/-- The power goes with it. -/
theorem pwrite_dead (h : Dm w d H S n v m held safe P armed fails false ops) (hf0 : -9223372036854775808 ≤ fails) (hf1 : fails ≤ 9223372036854775807) (hz : fails ≠ 0) (ha0 : -9223372036854775808 ≤ armed) (ha1 : armed ≤ 9223372036854775807) (haz : armed = 0) (f : Value) :
    Calls Try.prog 77 #[.pointer (some ⟨d, 0, none⟩), .int .i64 0, .bool true, f] w fun e w' => e = .returned (.int .i64 7) ∧ Dm w' d H S n v m held safe P (-1) (struck fails) true ops ∧ Kept (fun b => b ≠ d) w w' := by
  have HD := Lib.hid h
  have HFZ := Lib.hid (show decide (fails = 0) = false by simp [hz])
  have HAZ := Lib.hid (show decide (armed = 0) = true by simp [haz])
  have hst : struck armed = -1 := by subst haz; rfl
  have HST := Lib.hid hst
  clear h hst hz haz
  go_enter Try.func77, Try.ntmps77
  go_wp2_with (first | (go_at_call 110; with_reducible refine (fails_any HD.out hf0 hf1).mono ?_; rintro e w1 ⟨rfl, hd1, hk1⟩; have HD1 := Lib.hid hd1; have HK1 := Lib.hid hk1; clear hd1 hk1; rw [HFZ.out]) | (go_at_call 110; with_reducible refine (armed_any HD1.out ha0 ha1).mono ?_; rintro e w2 ⟨rfl, hd2, hk2⟩; have HD2 := Lib.hid hd2; have HK2 := Lib.hid hk2; clear hd2 hk2; rw [HAZ.out]; have hc5 := HD2.out.cell.2.2.2.2.2.1; have hz5 := HD2.out.frozen 5))
  go_ret
  have hd3 := HD2.out.dead_ true
  rw [HST.out] at hd3
  exact ⟨rfl, hd3, (HK1.out.trans HK2.out (fun b h => h)).setCell (fun h => h rfl) _⟩

/-- It is done. -/
theorem pwrite_done (h : Dm w d H S n v m held safe P armed fails false ops) (hf0 : -9223372036854775808 ≤ fails) (hf1 : fails ≤ 9223372036854775807) (hz : fails ≠ 0) (ha0 : -9223372036854775808 ≤ armed) (ha1 : armed ≤ 9223372036854775807) (haz : armed ≠ 0) (c0 c1 c2 : Value) (R : World → Prop)
    (hdo : ∀ w1, Dm w1 d H S n v m held safe P (struck armed) (struck fails) false ops → Kept (fun b => b ≠ d) w w1 → Calls Try.prog 107 #[c0, c1, c2] w1 fun e w2 => e = .returned (.tuple #[]) ∧ R w2)
    (hR : ∀ w2, R w2 → w2.cell? ⟨d, 6, none⟩ = some (.int .i64 ops) ∧ w2.frozen? ⟨d, 6, none⟩ = false) :
    Calls Try.prog 77 #[.pointer (some ⟨d, 0, none⟩), .int .i64 0, .bool true, .func (.func 107) #[] #[c0, c1, c2]] w fun e w' => e = .returned (.int .i64 0) ∧ ∃ w2, R w2 ∧ w' = w2.setCell ⟨d, 6, none⟩ (.int .i64 (wrap64 (ops + 1))) := by
  have HD := Lib.hid h
  have HDO := Lib.hid hdo
  have HRR := Lib.hid hR
  have HFZ := Lib.hid (show decide (fails = 0) = false by simp [hz])
  have HAZ := Lib.hid (show decide (armed = 0) = false by simp [haz])
  clear h hz haz hdo hR
  go_enter Try.func77, Try.ntmps77
  go_wp2_with (first | (go_at_call 110; with_reducible refine (fails_any HD.out hf0 hf1).mono ?_; rintro e w1 ⟨rfl, hd1, hk1⟩; have HD1 := Lib.hid hd1; have HK1 := Lib.hid hk1; clear hd1 hk1; rw [HFZ.out]) | (go_at_call 110; with_reducible refine (armed_any HD1.out ha0 ha1).mono ?_; rintro e w2 ⟨rfl, hd2, hk2⟩; have HD2 := Lib.hid hd2; have HK2 := Lib.hid hk2; clear hd2 hk2; rw [HAZ.out]; skip) | (go_at_call 107; refine (HDO.out _ HD2.out (HK1.out.trans HK2.out (fun b h => h))).mono ?_; rintro e w3 ⟨rfl, hr⟩; have HR3 := Lib.hid hr; obtain ⟨hc6, hz6⟩ := HRR.out _ hr; clear hr))
  go_ret
  exact ⟨rfl, _, HR3.out, rfl⟩

/-- It is done. -/
theorem psync_done (h : Dm w d H S n v m held safe P armed fails false ops) (hf0 : -9223372036854775808 ≤ fails) (hf1 : fails ≤ 9223372036854775807) (hz : fails ≠ 0) (ha0 : -9223372036854775808 ≤ armed) (ha1 : armed ≤ 9223372036854775807) (haz : armed ≠ 0) (c0 : Value) (R : World → Prop)
    (hdo : ∀ w1, Dm w1 d H S n v m held safe P (struck armed) (struck fails) false ops → Kept (fun b => b ≠ d) w w1 → Calls Try.prog 108 #[c0] w1 fun e w2 => e = .returned (.tuple #[]) ∧ R w2)
    (hR : ∀ w2, R w2 → w2.cell? ⟨d, 6, none⟩ = some (.int .i64 ops) ∧ w2.frozen? ⟨d, 6, none⟩ = false) :
    Calls Try.prog 77 #[.pointer (some ⟨d, 0, none⟩), .int .i64 0, .bool true, .func (.func 108) #[] #[c0]] w fun e w' => e = .returned (.int .i64 0) ∧ ∃ w2, R w2 ∧ w' = w2.setCell ⟨d, 6, none⟩ (.int .i64 (wrap64 (ops + 1))) := by
  have HD := Lib.hid h
  have HDO := Lib.hid hdo
  have HRR := Lib.hid hR
  have HFZ := Lib.hid (show decide (fails = 0) = false by simp [hz])
  have HAZ := Lib.hid (show decide (armed = 0) = false by simp [haz])
  clear h hz haz hdo hR
  go_enter Try.func77, Try.ntmps77
  go_wp2_with (first | (go_at_call 110; with_reducible refine (fails_any HD.out hf0 hf1).mono ?_; rintro e w1 ⟨rfl, hd1, hk1⟩; have HD1 := Lib.hid hd1; have HK1 := Lib.hid hk1; clear hd1 hk1; rw [HFZ.out]) | (go_at_call 110; with_reducible refine (armed_any HD1.out ha0 ha1).mono ?_; rintro e w2 ⟨rfl, hd2, hk2⟩; have HD2 := Lib.hid hd2; have HK2 := Lib.hid hk2; clear hd2 hk2; rw [HAZ.out]; skip) | (go_at_call 108; refine (HDO.out _ HD2.out (HK1.out.trans HK2.out (fun b h => h))).mono ?_; rintro e w3 ⟨rfl, hr⟩; have HR3 := Lib.hid hr; obtain ⟨hc6, hz6⟩ := HRR.out _ hr; clear hr))
  go_ret
  exact ⟨rfl, _, HR3.out, rfl⟩
end

end Go.Proofs.Ytkmbbfdjdmkjpaa
