/- The document's Take. -/
import Derived.Test.YtgipkdkfecegkaaDoorRfP
namespace Go.Proofs.YtgipkdkfecegkaaDoor
open Go.RowKit Go.Shelf PgM
attribute [local go_sem] Oper.semAt_some
set_option linter.unusedVariables false
set_option linter.unusedSimpArgs false
set_option maxRecDepth 100000 in
set_option maxHeartbeats 4000000 in
theorem ref_take {w : World} {S : Nat → Prop} {A : Option Addr} {n cap : Nat} {rows : List Nat} {ps : List Pg} (h : RefM w S A n rows (cellF ps)) (hS : ∀ b, S b → b < w.heap.size) (hn : n ≤ 256) (hl : ps.length = n) (hi : InvP ps) (c : Int) (hc63 : wrap64 (c / 32) = c / 32) :
    Calls Tryd.prog 22 #[arV A n cap, .int .i64 c] w fun e w' =>
      (∃ A' cap' rows', e = .returned (.tuple #[arV A' n cap', .int .i64 (findE ps c : Nat)]) ∧ RefM w' (fun b => S b ∨ (w.heap.size ≤ b ∧ b < w'.heap.size)) A' n rows' (cellF (takeX ps c))) ∧ Below w.heap.size w w' := by
  obtain ⟨w1, hw1⟩ : ∃ w1, w1 = (w.alloc (.cells #[.slice A n cap] 35)).alloc (.cells #[.slice none 0 0] 35) := ⟨_, rfl⟩
  have hb1 : Below w.heap.size w w1 := by rw [hw1]; exact ((Below.refl _ w).alloc (Nat.le_refl _) _).alloc (by simp) _
  have HB1 := Lib.hid hb1
  have HK1 := Lib.hid (show Blk w1 w.heap.size 35 #[.slice A n cap] by rw [hw1]; exact (Blk.new w _ _).alloc _)
  have HK2 := Lib.hid (show Blk w1 (w.heap.size + 1) 35 #[.slice none 0 0] by rw [hw1]; have h := Blk.new (w.alloc (.cells #[.slice A n cap] 35)) 35 #[.slice none 0 0]; simpa using h)
  have HWH := Lib.hid (ref_where (cap := cap) (h.below hb1 hS) (fun b hb => Nat.lt_of_lt_of_le (hS b hb) hb1.size) hn hl hi c hc63)
  have HM := Lib.hid h
  have HS := Lib.hid hS
  have HW := Lib.hid hw1
  have HL := Lib.hid hl
  have k0 := (HK1.out.cell 0).trans (show _ = some (Value.slice A n cap) from rfl)
  rw [hw1] at k0
  clear h hS hw1 hb1 hl
  obtain ⟨E, hE⟩ : ∃ E, findE ps c = E := ⟨_, rfl⟩
  obtain ⟨K0, hK0⟩ : ∃ E, whereK ps c = E := ⟨_, rfl⟩
  rw [hE, hK0] at HWH
  by_cases he : E = 0
  · subst he
    obtain ⟨a, p, rfl, hp, ha, ht, e1, e2, e3⟩ := find_ok hE
    have hcells := take_cells hp ha ht
    have q1 : (((a * 32 + p : Nat) : Int)).tdiv 32 = (a : Nat) := by rw [Int.tdiv_eq_ediv_of_nonneg (by omega)]; omega
    have q2 : (((a * 32 + p : Nat) : Int)).tmod 32 = (p : Nat) := by rw [Int.tmod_eq_emod_of_nonneg (by omega)]; omega
    have ha' : a < n := by rw [← HL.out]; exact ha
    have hc64 : ((a * 32 + p : Nat) : Int) < 8192 := by omega
    have hcn : (0 : Int) ≤ ((a * 32 + p : Nat) : Int) := by omega
    rw [hE]
    obtain ⟨c, hc⟩ : ∃ c : Int, ((a * 32 + p : Nat) : Int) = c := ⟨_, rfl⟩
    rw [hc] at q1 q2 hc64 hcn HWH hcells ⊢
    have HWI := Lib.hid (fun (W : World) (hb : Below w.heap.size w W) => ref_with (cap := cap) (HM.out.below hb HS.out) (fun b hb2 => Nat.lt_of_lt_of_le (HS.out b hb2) hb.size) hn a p ha' hp 0)
    have HCE := Lib.hid hcells
    have a64 : (a : Int) < 256 := by omega
    have p64 : (p : Int) < 32 := by omega
    clear hE hK0 hcells e1 e2 e3 ha ht hc63 hc ha' hi
    go_enter Tryd.func22, Tryd.ntmps22
    go_wp2_with fail
    rw [← HW.out]
    refine HWH.out.mono ?_
    rintro e w2 ⟨rfl, hb2⟩
    have HB2 := Lib.hid (HB1.out.trans (hb2.mono HB1.out.size))
    have HK12 := Lib.hid (HK1.out.below hb2 HK1.out.lt)
    have HK22 := Lib.hid (HK2.out.below hb2 HK2.out.lt)
    clear hb2 k0
    have k0 := (HK12.out.cell 0).trans (show _ = some (Value.slice A n cap) from rfl)
    go_wp2_with fail
    refine (HWI.out _ HB2.out).mono ?_
    rintro e w3 ⟨⟨A', cap', rows', rfl, hM⟩, hb3⟩
    have HB3 := Lib.hid (HB2.out.trans (hb3.mono HB2.out.size))
    have HK23 := Lib.hid (HK22.out.below hb3 HK22.out.lt)
    have hlt23 := HK22.out.lt
    have HM3 := Lib.hid hM
    clear hM hb3 k0
    have k1 := (HK23.out.cell 0).trans (show _ = some (Value.slice none 0 0) from rfl)
    have f1 := HK23.out.frozen 0
    go_wp2_with (with_reducible refine halt_end ?_)
    have hst := HK23.out.set_ 0 (.slice A' n cap')
    have hbel := HB3.out.setCell (p := ⟨w.heap.size + 1, 0, none⟩) (by simp) (.slice A' n cap')
    have hs2 := HB2.out.size
    refine Halt.ret (results_row2 rfl _ _ (w.heap.size + 1) 35 #[.slice A' n cap'] _ rfl hst Tryd.underlying35 rfl size_arR) rfl ⟨⟨A', cap', rows', rfl, ?_⟩, hbel⟩
    have h2 := HM3.out.kept ((Kept.refl (fun b => w2.heap.size ≤ b ∧ b < w3.heap.size) w3).setCell (p := ⟨w.heap.size + 1, 0, none⟩) (fun hh => by have h3 : w2.heap.size ≤ w.heap.size + 1 := hh.1; omega) (.slice A' n cap')) (fun b hb => hb)
    exact (h2.more (fun b hb => .inr ⟨by omega, by simpa using hb.2⟩)).congr (fun i hi k hk => HCE.out i k)
  · have hx : takeX ps c = ps := by unfold takeX; rw [if_neg (by rw [hE]; exact he)]
    have hne : ((E : Int) != 0) = true := by simp; omega
    rw [hx, hE]
    clear hE hK0 hx hc63 hi he
    go_enter Tryd.func22, Tryd.ntmps22
    go_wp2_with fail
    rw [← HW.out]
    refine HWH.out.mono ?_
    rintro e w2 ⟨rfl, hb2⟩
    have HB2 := Lib.hid (HB1.out.trans (hb2.mono HB1.out.size))
    have HK12 := Lib.hid (HK1.out.below hb2 HK1.out.lt)
    have HK22 := Lib.hid (HK2.out.below hb2 HK2.out.lt)
    clear hb2 k0
    have k0 := (HK12.out.cell 0).trans (show _ = some (Value.slice A n cap) from rfl)
    have k1 := (HK22.out.cell 0).trans (show _ = some (Value.slice none 0 0) from rfl)
    have f1 := HK22.out.frozen 0
    go_wp2_with (with_reducible refine halt_end ?_)
    have hst := HK22.out.set_ 0 (.slice A n cap)
    have hbel := HB2.out.setCell (p := ⟨w.heap.size + 1, 0, none⟩) (by simp) (.slice A n cap)
    refine Halt.ret (results_row2 rfl _ _ (w.heap.size + 1) 35 #[.slice A n cap] _ rfl hst Tryd.underlying35 rfl size_arR) rfl ⟨⟨A, cap, rows, rfl, ?_⟩, hbel⟩
    exact (HM.out.below hbel HS.out).more (fun b hb => .inl hb)
end Go.Proofs.YtgipkdkfecegkaaDoor
