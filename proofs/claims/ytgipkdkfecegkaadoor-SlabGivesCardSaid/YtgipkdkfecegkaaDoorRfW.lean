/- The document's with. -/
import Derived.Test.YtgipkdkfecegkaaDoorRfN
import Derived.Deep.DeepCutAuto
import Derived.Deep.CutBlock
namespace Go.Proofs.YtgipkdkfecegkaaDoor
open Go.RowKit Go.Shelf PgM
attribute [local go_sem] Oper.semAt_some
set_option linter.unusedVariables false
set_option linter.unusedSimpArgs false
/-- What stands between two rounds of the copying. -/
structure WtI (w : World) (S : Nat → Prop) (A : Option Addr) (n cap : Nat) (rows : List Nat) (F : Nat → Nat → Int) (B c : Nat) (A' : Option Addr) (cap' : Nat) (rows' : List Nat) (G : Nat → Nat → Int) (wr : World) : Prop where
  m : RefM wr S A n rows F
  o : RefO B wr (.slice A' n cap') rows' G
  k0 : Blk wr w.heap.size 35 #[.slice A n cap]
  k1 : Blk wr (w.heap.size + 1) 35 #[.slice none 0 0]
  k2 : Blk wr c 35 #[.slice A' n cap']
  bel : Below w.heap.size w wr
theorem WtI.set {w : World} {S : Nat → Prop} {A : Option Addr} {n cap : Nat} {rows : List Nat} {F : Nat → Nat → Int} {B c : Nat} {A' : Option Addr} {cap' : Nat} {rows' : List Nat} {G : Nat → Nat → Int} {wr : World}
    (h : WtI w S A n cap rows F B c A' cap' rows' G wr) (hS : ∀ b, S b → b < w.heap.size) (hB : w.heap.size ≤ B) {i k : Nat} (hi : i < rows'.length) (x : Int) : WtI w S A n cap rows F B c A' cap' rows' (fun a c => if a = i ∧ c = k then x else G a c) (wr.setCell ⟨rows'.getD i 0, k, none⟩ (.int .i64 x)) := by
  have hr := h.o.row i hi
  have hlow := h.o.low i hi
  have hne : ∀ {b : Nat} {t : TypeId} {cs : Array Value}, Blk wr b t cs → 3 ≠ t → b ≠ rows'.getD i 0 := fun hb ht e => Blk.ne_ hr hb ht e.symm
  exact ⟨h.m.kept ((Kept.refl (fun b => b < w.heap.size) wr).setCell (p := ⟨rows'.getD i 0, k, none⟩) (fun hh => by replace hh : rows'.getD i 0 < w.heap.size := hh; omega) (.int .i64 x)) hS, h.o.set hi x,
    h.k0.far (p := ⟨rows'.getD i 0, k, none⟩) (hne h.k0 (by decide)) _, h.k1.far (p := ⟨rows'.getD i 0, k, none⟩) (hne h.k1 (by decide)) _, h.k2.far (p := ⟨rows'.getD i 0, k, none⟩) (hne h.k2 (by decide)) _,
    h.bel.setCell (p := ⟨rows'.getD i 0, k, none⟩) (by simp only []; omega) _⟩
theorem WtI.drew {w : World} {S : Nat → Prop} {A : Option Addr} {n cap : Nat} {rows : List Nat} {F : Nat → Nat → Int} {B c : Nat} {A' : Option Addr} {cap' : Nat} {rows' : List Nat} {G : Nat → Nat → Int} {wr : World}
    (h : WtI w S A n cap rows F B c A' cap' rows' G wr) : WtI w S A n cap rows F B c A' cap' rows' G wr.drew :=
  ⟨h.m.keep (fun _ _ => rfl), h.o.drew, h.k0.drew, h.k1.drew, h.k2.drew, h.bel.drew⟩
theorem WtI.congr {w : World} {S : Nat → Prop} {A : Option Addr} {n cap : Nat} {rows : List Nat} {F : Nat → Nat → Int} {B c : Nat} {A' : Option Addr} {cap' : Nat} {rows' : List Nat} {G H : Nat → Nat → Int} {wr : World}
    (h : WtI w S A n cap rows F B c A' cap' rows' G wr) (he : ∀ i, i < rows'.length → ∀ k, k < 32 → H i k = G i k) : WtI w S A n cap rows F B c A' cap' rows' H wr :=
  ⟨h.m, h.o.congr he, h.k0, h.k1, h.k2, h.bel⟩
set_option maxRecDepth 100000 in
set_option maxHeartbeats 4000000 in
theorem ref_with {w : World} {S : Nat → Prop} {A : Option Addr} {n cap : Nat} {rows : List Nat} {F : Nat → Nat → Int} (h : RefM w S A n rows F) (hS : ∀ b, S b → b < w.heap.size) (hn : n ≤ 256) (i k : Nat) (hi : i < n) (hk : k < 32) (x : Int) :
    Calls Tryd.prog 33 #[arV A n cap, .int .i64 i, .int .i64 k, .int .i64 x] w fun e w' =>
      (∃ A' cap' rows', e = .returned (arV A' n cap') ∧ RefM w' (fun b => w.heap.size ≤ b ∧ b < w'.heap.size) A' n rows' (fun a c => if a = i ∧ c = k then x else F a c)) ∧ Below w.heap.size w w' := by
  have HM := Lib.hid h
  have HS := Lib.hid hS
  clear h hS
  obtain ⟨w2, hw2⟩ : ∃ w2, w2 = (w.alloc (.cells #[.slice A n cap] 35)).alloc (.cells #[.slice none 0 0] 35) := ⟨_, rfl⟩
  have hs2 : w2.heap.size = w.heap.size + 2 := by rw [hw2]; simp
  have HB2 := Lib.hid (show Below w.heap.size w w2 by rw [hw2]; exact ((Below.refl _ w).alloc (Nat.le_refl _) _).alloc (by simp) _)
  have HK1 := Lib.hid (show Blk w2 w.heap.size 35 #[.slice A n cap] by rw [hw2]; exact (Blk.new w _ _).alloc _)
  have HK2 := Lib.hid (show Blk w2 (w.heap.size + 1) 35 #[.slice none 0 0] by rw [hw2]; have h := Blk.new (w.alloc (.cells #[.slice A n cap] 35)) 35 #[.slice none 0 0]; simpa using h)
  have HNEW := Lib.hid (ref_new n hn w2)
  have HW2 := Lib.hid hw2
  have c0 := HK1.out.cell 0
  rw [hw2] at c0
  clear hw2
  go_enter Tryd.func33, Tryd.ntmps33
  go_wp2_with fail
  rw [← HW2.out]
  refine HNEW.out.mono ?_
  rintro e w3 ⟨⟨v, rows', rfl, hl, hO⟩, hb3⟩
  obtain ⟨A', cap', rfl⟩ := ownsRow_slice hO.own
  rw [hl] at hO ⊢
  have HI3 := Lib.hid (show WtI w S A n cap rows F w2.heap.size w3.heap.size A' cap' rows' (fun _ _ => 0) (w3.alloc (.cells #[.slice A' n cap'] 35)) from
    ⟨(HM.out.below HB2.out HS.out).below (hb3.alloc hb3.size _) (fun b hb => by have := HS.out b hb; omega), ⟨own_alloc hO.own _, fun i hi => (hO.row i hi).alloc _, hO.nd, hO.low⟩, (HK1.out.below hb3 HK1.out.lt).alloc _, (HK2.out.below hb3 HK2.out.lt).alloc _, Blk.new w3 _ _, (HB2.out.trans (hb3.mono HB2.out.size)).alloc (Nat.le_trans HB2.out.size hb3.size) _⟩)
  have HL := Lib.hid hl
  clear hl hO hb3 c0
  go_wp2_with fail
  generalize hw4 : w3.alloc (.cells #[.slice A' n cap'] 35) = w4 at *
  generalize hc : w3.heap.size = c at *
  clear hw4 hc
  go_loopw [10, 11] (fun j0 _ wr => ∃ j : Nat, j0 = .int .i64 j ∧ j ≤ n ∧ WtI w S A n cap rows F w2.heap.size c A' cap' rows' (fun a d => if a < j then F a d else 0) wr) (fun i _ _ => n - (intOf i).toNat)
  case atStart => exact ⟨0, rfl, Nat.zero_le _, HI3.out.congr (fun i hi k hk => by simp)⟩
  case round =>
    obtain ⟨j, rfl, hj, hI⟩ := hrel
    have HI := Lib.hid hI
    clear hI
    by_cases hjn : j < n
    · have k0 := HI.out.k0.cell 0
      have hn9 : (n : Int) ≤ 256 := by omega
      go_wp2_with fail
      clear k0
      go_loopw [11] (fun l0 wx => ∃ l : Nat, l0 = .int .i64 l ∧ l ≤ 32 ∧ WtI w S A n cap rows F w2.heap.size c A' cap' rows' (fun a d => if a < j ∨ (a = j ∧ d < l) then F a d else 0) wx) (fun i _ => 32 - (intOf i).toNat)
      case atStart => exact ⟨0, rfl, Nat.zero_le _, HI.out.congr (fun i hi k hk => by simp)⟩
      case round =>
        obtain ⟨l, rfl, hl, hX⟩ := hrel
        have HX := Lib.hid hX
        clear hX
        by_cases hl32 : l < 32
        · have hjr : j < rows'.length := by have := HL.out; omega
          obtain ⟨b, off, r, rfl, d0, d1⟩ := HX.out.m.at hjn
          have k0 := (HX.out.k0.cell 0).trans (show _ = some (Value.slice (some ⟨b, off, none⟩) n cap) from rfl)
          have d1l := d1 l hl32
          obtain ⟨A2, cap2, e2, hM2⟩ := HX.out.o.toM
          injection e2 with e2 _ e3
          subst e2
          have hl' := HL.out
          obtain ⟨b', off', e4, -, hc4⟩ := hM2.out.2 (by omega)
          subst e4
          have k2 := (HX.out.k2.cell 0).trans (show _ = some (Value.slice (some ⟨b', off', none⟩) n cap') from rfl)
          have d2 := hc4 j (by omega)
          have d3 := HX.out.o.row j hjr
          have f3 := d3.frozen l
          have d4 := d3.cell l
          rw [rowA_get _ hl32] at d4
          have HR := Lib.hid (WtI.set HX.out HS.out HB2.out.size (k := l) hjr (F j l))
          obtain ⟨X, hXe⟩ : ∃ X, F j l = X := ⟨_, rfl⟩
          rw [hXe] at d1l HR
          have HXE := Lib.hid hXe
          clear hXe
          clear d1 hM2 hc4 d3 hjr hl' e3
          rename n = rows'.length => len9
          clear len9
          obtain ⟨r', hr'⟩ : ∃ r', rows'.getD j 0 = r' := ⟨_, rfl⟩
          rw [hr'] at d2 d4 f3 HR
          replace d2 := d2.trans (show _ = some (Value.slice (some ⟨r', 0, none⟩) 32 32) from rfl)
          obtain ⟨y, hy⟩ : ∃ y : Int, (if j < j ∨ j = j ∧ l < l then F j l else 0) = y := ⟨_, rfl⟩
          rw [hy] at d4
          clear hy hr'
          go_wp2_with fail
          go_region
          go_wp2
          go_roundw
          case rel => exact ⟨l + 1, by simp, by omega, (HR.out.congr (fun a ha d hd => by
            by_cases e1 : a = j
            · subst e1
              by_cases e2 : d = l
              · subst e2; simp [HXE.out]
              · simp [e2]; congr 1; apply propext; omega
            · simp [e1])).drew⟩
          case measure => show 32 - (Int.toNat ((l : Int) + 1)) < 32 - (Int.toNat (l : Int)); omega
        · obtain rfl : l = 32 := by omega
          go_wp2
          go_roundw
          case rel => exact ⟨j + 1, by simp, by omega, HX.out.congr (fun a ha d hd => by
            by_cases e1 : a < j
            · simp [e1]; omega
            · by_cases e2 : a = j
              · subst e2; simp [hd]
              · have h1 : ¬ a < j + 1 := by omega
                simp [e1, e2, h1])⟩
          case measure => show n - (Int.toNat ((j : Int) + 1)) < n - (Int.toNat (j : Int)); omega
    · obtain rfl : j = n := by omega
      have HZ := Lib.hid (HI.out.congr (H := F) (fun a ha d hd => by have := HL.out; rw [if_pos (by omega)]))
      have hir : i < rows'.length := by have := HL.out; omega
      have k0 := (HZ.out.k0.cell 0).trans (show _ = some (Value.slice A j cap) from rfl)
      obtain ⟨A2, cap2, e2, hM2⟩ := HZ.out.o.toM
      injection e2 with e2 _ e3
      subst e2
      have hl' := HL.out
      obtain ⟨b', off', e4, -, hc4⟩ := hM2.out.2 (by omega)
      subst e4
      have k2 := (HZ.out.k2.cell 0).trans (show _ = some (Value.slice (some ⟨b', off', none⟩) j cap') from rfl)
      have d2 := hc4 i (by omega)
      have d3 := HZ.out.o.row i hir
      have f3 := d3.frozen k
      have d4 := d3.cell k
      rw [rowA_get _ hk] at d4
      have HR := Lib.hid (WtI.set HZ.out HS.out HB2.out.size (k := k) hir x)
      obtain ⟨r', hr'⟩ : ∃ r', rows'.getD i 0 = r' := ⟨_, rfl⟩
      rw [hr'] at d2 d4 f3 HR
      replace d2 := d2.trans (show _ = some (Value.slice (some ⟨r', 0, none⟩) 32 32) from rfl)
      obtain ⟨y, hy⟩ : ∃ y : Int, F i k = y := ⟨_, rfl⟩
      rw [hy] at d4
      rename j = rows'.length => len9
      clear hM2 hc4 d3 hir hl' e3 len9 hy hr'
      have hi64 : (i : Int) < j := by omega
      go_upto_region 10 with fail
      generalize hw5 : wr.setCell ⟨r', k, none⟩ (.int .i64 x) = w5 at *
      clear hw5 d2 f3 d4 k0 k2
      have k2 := (HR.out.k2.cell 0).trans (show _ = some (Value.slice (some ⟨b', off', none⟩) j cap') from rfl)
      have k1 := (HR.out.k1.cell 0).trans (show _ = some (Value.slice none 0 0) from rfl)
      have f1 := HR.out.k1.frozen 0
      go_wp2_with (with_reducible refine halt_end ?_)
      have hst := HR.out.k1.set_ 0 (.slice (some ⟨b', off', none⟩) j cap')
      have hbel := HR.out.bel.setCell (p := ⟨w.heap.size + 1, 0, none⟩) (by simp) (.slice (some ⟨b', off', none⟩) j cap')
      obtain ⟨A2, cap2, e2, hM2⟩ := HR.out.o.toM
      injection e2 with e2 _ e3
      refine Halt.ret (results_row1 rfl _ _ (w.heap.size + 1) 35 #[.slice (some ⟨b', off', none⟩) j cap'] _ rfl hst Tryd.underlying35 rfl size_arR) rfl ⟨⟨some ⟨b', off', none⟩, cap', rows', rfl, ?_⟩, hbel⟩
      subst e2
      have hl' := HL.out
      rw [hl'] at hM2
      have h2 := hM2.kept ((Kept.refl (fun b => w2.heap.size ≤ b ∧ b < w5.heap.size) w5).setCell (p := ⟨w.heap.size + 1, 0, none⟩) (fun hh => by have h3 : w2.heap.size ≤ w.heap.size + 1 := hh.1; omega) (.slice (some ⟨b', off', none⟩) j cap')) (fun b hb => hb)
      exact h2.more (fun b hb => ⟨by omega, by simpa using hb.2⟩)
end Go.Proofs.YtgipkdkfecegkaaDoor
