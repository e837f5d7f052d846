/- The document's Order. -/
import Derived.Test.YtkmbbfdjdmkjpaaAppNew
import Derived.Test.YtkmbbfdjdmkjpaaRefG
import Derived.Test.YtkmbbfdjdmkjpaaNewR
import Derived.Test.YtkmbbfdjdmkjpaaTill
import Derived.Test.YtkmbbfdjdmkjpaaAppend
import Derived.BigQuiet
import Derived.Deep.DeepCutAuto
namespace Go.Proofs.Ytkmbbfdjdmkjpaa
open Go.RowKit
set_option linter.unusedVariables false
set_option linter.unusedSimpArgs false

abbrev od0 : Oper := { dst := some 38, op := Go.Op.move (Go.Operand.tmp 3), type := 48, pos := "ref.go:105", after := #[], guard := none }
abbrev od1 : Oper := { dst := some 39, op := Go.Op.move (Go.Operand.tmp 6), type := 3, pos := "ref.go:105", after := #[], guard := none }
abbrev od2 : Oper := { dst := some 40, op := Go.Op.move (Go.Operand.tmp 6), type := 3, pos := "ref.go:105", after := #[], guard := none }
abbrev od3 : Oper := { dst := some 41, op := Go.Op.slice 48 (Go.Operand.tmp 38) none (some (Go.Operand.tmp 39)) (some (Go.Operand.tmp 40)), type := 48, pos := "ref.go:105", after := #[{ on := 0, ground := Go.Ground.data }, { on := 1, ground := Go.Ground.data }, { on := 2, ground := Go.Ground.data }], guard := none }
abbrev od4 : Oper := { dst := some 42, op := Go.Op.move (Go.Operand.tmp 4), type := 3, pos := "ref.go:105", after := #[], guard := none }
abbrev od5 : Oper := { dst := some 43, op := Go.Op.buildSlice 48 1 #[(0, Go.Operand.tmp 42)], type := 48, pos := "ref.go:105", after := #[{ on := 4, ground := Go.Ground.data }], guard := none }
abbrev od6 : Oper := { dst := some 44, op := Go.Op.move (Go.Operand.tmp 3), type := 48, pos := "ref.go:105", after := #[], guard := none }
abbrev od7 : Oper := { dst := some 45, op := Go.Op.move (Go.Operand.tmp 6), type := 3, pos := "ref.go:105", after := #[], guard := none }
abbrev od8 : Oper := { dst := some 46, op := Go.Op.slice 48 (Go.Operand.tmp 44) (some (Go.Operand.tmp 45)) none none, type := 48, pos := "ref.go:105", after := #[{ on := 6, ground := Go.Ground.data }, { on := 7, ground := Go.Ground.data }], guard := none }
abbrev od9 : Oper := { dst := some 47, op := Go.Op.call { callee := Go.Callee.builtin Go.Builtin.append, args := #[Go.Operand.tmp 43, Go.Operand.tmp 46], argTypes := #[48, 48] }, type := 48, pos := "ref.go:105", after := #[{ on := 5, ground := Go.Ground.data }, { on := 8, ground := Go.Ground.data }], guard := none }
abbrev od10 : Oper := { dst := some 48, op := Go.Op.call { callee := Go.Callee.builtin Go.Builtin.append, args := #[Go.Operand.tmp 41, Go.Operand.tmp 47], argTypes := #[48, 48] }, type := 48, pos := "ref.go:105", after := #[{ on := 3, ground := Go.Ground.data }, { on := 9, ground := Go.Ground.data }, { on := 9, ground := Go.Ground.chain }], guard := none }
abbrev od11 : Oper := { dst := some 3, op := Go.Op.assign (Go.Operand.tmp 48), type := 48, pos := "ref.go:105", after := #[{ on := 10, ground := Go.Ground.data }, { on := 10, ground := Go.Ground.chain }, { on := 0, ground := Go.Ground.phase }, { on := 1, ground := Go.Ground.phase }, { on := 2, ground := Go.Ground.phase }, { on := 3, ground := Go.Ground.phase }, { on := 4, ground := Go.Ground.phase }, { on := 5, ground := Go.Ground.phase }, { on := 6, ground := Go.Ground.phase }, { on := 7, ground := Go.Ground.phase }, { on := 8, ground := Go.Ground.phase }, { on := 9, ground := Go.Ground.phase }, { on := 10, ground := Go.Ground.phase }], guard := none }

theorem below_next8 {w W W' : World} (h : Below w.heap.size w W) (hb : Below W.heap.size W W') : Below w.heap.size w W' := h.trans (hb.mono h.size)
def idsN (L : List Num) : List Int := L.map fun x => (x.1 : Int)
theorem ids_get (L : List Num) (q : Nat) (h : q < L.length) : (idsN L).getD q 0 = ((L.getD q num0).1 : Int) := by simp [idsN, List.getD, h]
theorem ord_get (xs : List Seg) (j q : Nat) (h : q < (ordN xs j).length) : ∃ i : Nat, i < j ∧ (ordN xs j).getD q num0 = (i, xs.getD i seg0) := by
  have hm : (ordN xs j).getD q num0 ∈ ordN xs j := by simp [List.getD, h]
  obtain ⟨i, hi, _, e⟩ := live_mem xs j _ ((ord_perm xs j).mem_iff.1 hm)
  exact ⟨i, hi, e⟩
theorem row_drop {w : World} {S : Nat → Prop} {gb m q : Nat} {ids : List Int} (h : RowI .i64 w S (some ⟨gb, 0, none⟩) m ids) : RowI .i64 w S (some ⟨gb, q, none⟩) (m - q) (ids.drop q) := by
  refine ⟨by rw [List.length_drop, h.1], fun hp => ?_⟩
  obtain ⟨b, off, e, hb, hc⟩ := h.2 (by omega)
  injection e with e
  injection e with e1 e2
  subst e1
  subst e2
  refine ⟨gb, q, rfl, hb, fun j hj => ?_⟩
  have := hc (q + j) (by omega)
  rw [Nat.zero_add] at this
  rw [this]
  simp [List.getD]
theorem row_takeI {w : World} {S : Nat → Prop} {A : Option Addr} {m q : Nat} {ids : List Int} (h : RowI .i64 w S A m ids) (hq : q ≤ m) : RowI .i64 w S A q (ids.take q) := by
  refine ⟨by rw [List.length_take, h.1]; omega, fun hp => ?_⟩
  obtain ⟨b, off, e, hb, hc⟩ := h.2 (by omega)
  refine ⟨b, off, e, hb, fun j hj => ?_⟩
  rw [hc j (by omega)]
  have h1 : j < ids.length := by rw [h.1]; omega
  simp [List.getD, List.getElem?_take, hj]
theorem row_none0 (w : World) (S : Nat → Prop) (A : Option Addr) : RowI .i64 w S A 0 [] := ⟨rfl, fun h => absurd h (by omega)⟩
theorem ids_next {xs : List Seg} {j t : Nat} {g : Int} (h0 : stG xs j ≠ 0) (hg : genG xs j = g) (ht : atN (ordN xs j) g = t) : idsN (ordN xs (j + 1)) = (idsN (ordN xs j)).take t ++ ([(j : Int)] ++ (idsN (ordN xs j)).drop t) ∧ (ordN xs (j + 1)).length = (ordN xs j).length + 1 := by
  have e : ordN xs (j + 1) = insN (ordN xs j) (j, xs.getD j seg0) := by conv => (lhs; unfold ordN); rw [if_neg h0]
  have e2 : atN (ordN xs j) (xs.getD j seg0).2.1 = t := by rw [← ht, ← hg]
  rw [e]
  refine ⟨?_, by rw [(ins_perm _ _).length_eq]; simp⟩
  unfold insN idsN
  rw [e2]
  simp
/-- Between two rounds. -/
def OrdI (w : World) (sec : Int) (A : Option Addr) (n cap : Nat) (xs : List Seg) (wr : World) (v i : Value) : Prop :=
  ∃ (j m c : Nat) (B : Option Addr), RI w sec A n cap wr j i ∧ v = .slice B m c ∧ m = (ordN xs j).length ∧ RowI .i64 wr (From w.heap.size wr) B m (idsN (ordN xs j)) ∧ ((B = none ∧ m = 0 ∧ c = 0) ∨ ∃ gb, B = some ⟨gb, 0, none⟩ ∧ 0 < m) ∧ m ≤ c

set_option maxRecDepth 100000 in
set_option maxHeartbeats 4000000 in
theorem ref_order {w : World} {A : Option Addr} {n cap : Nat} {xs : List Seg} (h : RowZ w (· < w.heap.size) A n xs) (sec : Int) (hn : n ≤ 40) :
    Calls Try.prog 45 #[ringV sec A n cap] w fun e w' => (∃ B m c, e = .returned (.slice B m c) ∧ m = (ordN xs n).length ∧ RowI .i64 w' (From w.heap.size w') B m (idsN (ordN xs n)) ∧ (B = none → c = 0) ∧ m ≤ c) ∧ Below w.heap.size w w' := by
  have HX := Lib.hid h
  clear h
  obtain ⟨k0, k1⟩ := ring_cells (Blk.new w 66 #[.int .i64 sec, .slice A n cap])
  have HB0 := Lib.hid (Blk.new w 66 #[.int .i64 sec, .slice A n cap])
  go_enter Try.func45, Try.ntmps45
  go_wp2
  go_loopw [3, 10] (fun v i wr => OrdI w sec A n cap xs wr v i) (fun _ i _ => n - (intOf i).toNat)
  case atStart => exact ⟨0, 0, 0, none, ⟨Nat.zero_le _, rfl, HB0.out, (Below.refl _ w).alloc (Nat.le_refl _) _⟩, rfl, rfl, ⟨rfl, fun h => absurd h (by omega)⟩, .inl ⟨rfl, rfl, rfl⟩, Nat.le_refl _⟩
  case round =>
    obtain ⟨j, m, c, B, ⟨hj, rfl, hb, hbel⟩, rfl, hm, hr, hnil, hmc⟩ := hrel
    have HB := Lib.hid hb
    have HW := Lib.hid hbel
    have HR := Lib.hid hr
    have HM := Lib.hid hm
    have HNIL := Lib.hid hnil
    have hm40 : m ≤ 40 := by have := ord_len xs j; omega
    obtain ⟨q0, q1⟩ := ring_cells hb
    clear hb hbel hr hm hnil k0 k1
    by_cases hlt : j < n
    · obtain ⟨b, off, rfl, hbb, hcc⟩ := seg_get (HX.out.below HW.out (fun b h => h)) hlt
      obtain ⟨c0, c1, c2⟩ := hcc j hlt
      have HCC := Lib.hid hcc
      have HBB := Lib.hid hbb
      obtain ⟨st, hst⟩ : ∃ st, stG xs j = st := ⟨_, rfl⟩
      obtain ⟨g, hg⟩ : ∃ g, genG xs j = g := ⟨_, rfl⟩
      obtain ⟨u, hu⟩ : ∃ u, usedG xs j = u := ⟨_, rfl⟩
      rw [hst] at c0
      rw [hg] at c1
      rw [hu] at c2
      have HST := Lib.hid hst
      have HG := Lib.hid hg
      have HU := Lib.hid hu
      clear hcc hbb hst hg hu
      by_cases h0 : st = 0
      · subst h0
        go_wp2
        go_roundw
        case rel =>
          have e : ordN xs (j + 1) = ordN xs j := by conv => (lhs; unfold ordN); rw [if_pos HST.out]
          have hb1 := (Below.refl wr.heap.size wr).alloc (Nat.le_refl _) (.cells #[.int .i64 0, .int .u64 g, .int .i64 u] 78)
          exact ⟨j + 1, m, c, B, ⟨by omega, by simp, HB.out.alloc _, HW.out.alloc HW.out.size _⟩, rfl, by rw [e]; exact HM.out, by rw [e]; exact (HR.out.below hb1 (fun b h => h.2)).more (fun b h => ⟨h.1, Nat.lt_of_lt_of_le h.2 hb1.size⟩), HNIL.out, hmc⟩
        case measure => simp [intOf]; omega
      · have d0 : (st == 0) = false := by simpa using h0
        have hb1 := (Below.refl wr.heap.size wr).alloc (Nat.le_refl _) (.cells #[.int .i64 st, .int .u64 g, .int .i64 u] 78)
        have HS6 := Lib.hid (Blk.new wr 78 #[.int .i64 st, .int .u64 g, .int .i64 u])
        have HB6 := Lib.hid (HB.out.alloc (.cells #[.int .i64 st, .int .u64 g, .int .i64 u] 78))
        have HW6 := Lib.hid (HW.out.alloc HW.out.size (.cells #[.int .i64 st, .int .u64 g, .int .i64 u] 78))
        have HR6 := Lib.hid ((HR.out.below hb1 (fun b h => h.2)).more (T := From w.heap.size (wr.alloc (.cells #[.int .i64 st, .int .u64 g, .int .i64 u] 78))) (fun b h => ⟨h.1, Nat.lt_of_lt_of_le h.2 hb1.size⟩))
        obtain ⟨t, ht⟩ : ∃ t, atN (ordN xs j) g = t := ⟨_, rfl⟩
        have htm : t ≤ m := by have := atN_le (ordN xs j) g; have := HM.out; omega
        have HT := Lib.hid ht
        clear hb1 ht
        go_wp2
        obtain ⟨w6, hw6⟩ : ∃ w6, wr.alloc (.cells #[.int .i64 st, .int .u64 g, .int .i64 u] 78) = w6 := ⟨_, rfl⟩
        obtain ⟨gs, hgs⟩ : ∃ gs, wr.heap.size = gs := ⟨_, rfl⟩
        rw [hw6, hgs] at HS6
        rw [hw6] at HB6 HW6 HR6
        rw [hw6, hgs]
        clear hw6 hgs
        go_loopw [6] (fun v6 wi => ∃ q : Nat, q ≤ t ∧ v6 = .int .i64 q ∧ Below w6.heap.size w6 wi) (fun v6 _ => t - (intOf v6).toNat)
        case atStart => exact ⟨0, Nat.zero_le _, rfl, Below.refl _ _⟩
        case round =>
          obtain ⟨q, hq, rfl, hbi⟩ := hrel
          have HI := Lib.hid hbi
          obtain ⟨p0, p1⟩ := ring_cells (HB6.out.below hbi HB6.out.lt)
          obtain ⟨s0, s1⟩ : wr.cell? ⟨gs, 0, none⟩ = some (.int .i64 st) ∧ wr.cell? ⟨gs, 1, none⟩ = some (.int .u64 g) := ⟨(HS6.out.below hbi HS6.out.lt).cell 0, (HS6.out.below hbi HS6.out.lt).cell 1⟩
          by_cases hqm : q < m
          · obtain ⟨gb, go, hB, hgb, hcell⟩ := HR6.out.2 (by omega)
            obtain rfl : go = 0 := by
              rcases HNIL.out with ⟨h1, h2, _⟩ | ⟨g1, h1, _⟩
              · omega
              · rw [h1] at hB; injection hB with hB; injection hB with _ h2; exact h2.symm
            subst hB
            obtain ⟨i, hij, ei⟩ := ord_get xs j q (by rw [← HM.out]; exact hqm)
            have o0 : wr.cell? ⟨gb, 0 + q, none⟩ = some (.int .i64 (i : Nat)) := by
              rw [Below.cell hbi (p := ⟨gb, _, none⟩) hgb.2, hcell q hqm, ids_get _ _ (by rw [← HM.out]; exact hqm), ei]
            obtain ⟨b', off', e', hb', hcw⟩ := seg_get HX.out (show i < n by omega)
            obtain ⟨rfl, rfl⟩ : b = b' ∧ off = off' := by injection e' with e'; injection e' with h1 h2; exact ⟨h1, h2⟩
            have g0 : wr.cell? ⟨b, off + i * 3 + 1, none⟩ = some (.int .u64 (genG xs i)) := (Below.cell (below_next8 HW6.out hbi) (p := ⟨b, _, none⟩) hb').trans (hcw i (by omega)).2.1
            have hlt2 : q < t → genG xs i < g := fun h => by have := atN_lt (ordN xs j) g q (by rw [HT.out]; exact h); rw [ei] at this; exact this
            have hge2 : q = t → ¬ genG xs i < g := fun h => by have := atN_stop (ordN xs j) g (by rw [HT.out, ← HM.out]; omega); rw [HT.out, ← h, ei] at this; exact this
            have d1 : decide ((q : Int) < (m : Int)) = true := decide_eq_true (by omega)
            have hin : (i : Int) < (n : Int) := by omega
            have hqm2 : (q : Int) < (m : Int) := by omega
            generalize genG xs i = gi at *
            rw [Nat.zero_add] at o0
            clear hbi hgb hcell ei e' hb' hcw
            by_cases hqt : q < t
            · have d2 : decide (gi < g) = true := decide_eq_true (hlt2 hqt)
              clear hlt2 hge2
              go_wp2_with fail
              go_quiet (fail)
              go_wp2
              go_roundw
              case rel => exact ⟨q + 1, by omega, by simp, below_drewN HI.out _⟩
              case measure => simp [intOf]; omega
            · have d2 : decide (gi < g) = false := decide_eq_false (hge2 (by omega))
              obtain rfl : q = t := by omega
              have hqc : q ≤ c := by omega
              have hcq : ¬ c = q := by omega
              clear hlt2 hge2
              go_wp2_with fail
              go_quiet (fail)
              go_wp2_with fail
              refine wp_region_noPanic ?_
              refine Tillst.region (fun V => Below w6.heap.size w6 V) [] (by kernel_rfl) (below_drewN HI.out _).drew (fun hHeld => ?_)
              generalize (wr.drewN _).drew = vd at *
              have HZ := Lib.hid (below_next8 HW6.out hHeld)
              have HRZ := Lib.hid (HR6.out.below hHeld (fun b h => h.2))
              have HZ2 := Lib.hid hHeld.size
              refine Tillst.take (i := 0) (oi := od0) (v := ?_) rfl (by kernel_rfl) (by kernel_rfl) (by kernel_rfl) (by kernel_rfl) (fun _ _ _ h => h) (by rfl) ?_ hHeld ?_
              rotate_left
              · intro W hSW; (try dsimp only at hSW); unfold od0; go_simp; with_reducible rfl
              simp only [od0, Act.put, List.setIfInBounds_toArray, List.set_cons_zero, List.set_cons_succ]
              refine Tillst.take (i := 1) (oi := od1) (v := ?_) rfl (by kernel_rfl) (by kernel_rfl) (by kernel_rfl) (by kernel_rfl) (fun _ _ _ h => h) (by rfl) ?_ hHeld ?_
              rotate_left
              · intro W hSW; (try dsimp only at hSW); unfold od1; go_simp; with_reducible rfl
              simp only [od1, Act.put, List.setIfInBounds_toArray, List.set_cons_zero, List.set_cons_succ]
              refine Tillst.take (i := 2) (oi := od2) (v := ?_) rfl (by kernel_rfl) (by kernel_rfl) (by kernel_rfl) (by kernel_rfl) (fun _ _ _ h => h) (by rfl) ?_ hHeld ?_
              rotate_left
              · intro W hSW; (try dsimp only at hSW); unfold od2; go_simp; with_reducible rfl
              simp only [od2, Act.put, List.setIfInBounds_toArray, List.set_cons_zero, List.set_cons_succ]
              refine Tillst.take (i := 3) (oi := od3) (v := ?_) rfl (by kernel_rfl) (by kernel_rfl) (by kernel_rfl) (by kernel_rfl) (fun _ _ _ h => h) (by rfl) ?_ hHeld ?_
              rotate_left
              · intro W hSW; (try dsimp only at hSW); unfold od3; go_simp; with_reducible rfl
              simp only [od3, Act.put, List.setIfInBounds_toArray, List.set_cons_zero, List.set_cons_succ]
              refine Tillst.take (i := 4) (oi := od4) (v := ?_) rfl (by kernel_rfl) (by kernel_rfl) (by kernel_rfl) (by kernel_rfl) (fun _ _ _ h => h) (by rfl) ?_ hHeld ?_
              rotate_left
              · intro W hSW; (try dsimp only at hSW); unfold od4; go_simp; with_reducible rfl
              simp only [od4, Act.put, List.setIfInBounds_toArray, List.set_cons_zero, List.set_cons_succ]
              refine Tillst.take (i := 6) (oi := od6) (v := ?_) rfl (by kernel_rfl) (by kernel_rfl) (by kernel_rfl) (by kernel_rfl) (fun _ _ _ h => h) (by rfl) ?_ hHeld ?_
              rotate_left
              · intro W hSW; (try dsimp only at hSW); unfold od6; go_simp; with_reducible rfl
              simp only [od6, Act.put, List.setIfInBounds_toArray, List.set_cons_zero, List.set_cons_succ]
              refine Tillst.take (i := 7) (oi := od7) (v := ?_) rfl (by kernel_rfl) (by kernel_rfl) (by kernel_rfl) (by kernel_rfl) (fun _ _ _ h => h) (by rfl) ?_ hHeld ?_
              rotate_left
              · intro W hSW; (try dsimp only at hSW); unfold od7; go_simp; with_reducible rfl
              simp only [od7, Act.put, List.setIfInBounds_toArray, List.set_cons_zero, List.set_cons_succ]
              refine Tillst.take (i := 8) (oi := od8) (v := ?_) rfl (by kernel_rfl) (by kernel_rfl) (by kernel_rfl) (by kernel_rfl) (fun _ _ _ h => h) (by rfl) ?_ hHeld ?_
              rotate_left
              · intro W hSW; (try dsimp only at hSW); unfold od8; go_simp; with_reducible rfl
              simp only [od8, Act.put, List.setIfInBounds_toArray, List.set_cons_zero, List.set_cons_succ]
              refine Tillst.one (i := 5) (o := od5) (by kernel_rfl) rfl ?_
              intro K hK
              refine step_lit1 (.tmp 42) rfl rfl (j : Nat) rfl ?_
              simp only [od5, Act.put, List.setIfInBounds_toArray, List.set_cons_zero, List.set_cons_succ]
              refine hK.out _ _ (fun _ => hHeld.alloc hHeld.size _) (fun hHeld => ?_)
              replace hHeld := hHeld (by decide)
              clear hK K
              have HL1 := Lib.hid (Arr.owns (mk := Value.int .i64) (w := vd.alloc (.cells #[.int .i64 (j : Nat)] 3)) (g := vd.heap.size) (base := vd.heap.size) (n := 1) (c := 1) (t := 3) (xs := [(j : Int)]) (Blk.new vd _ _) (Nat.le_refl _) rfl rfl (by unfold maxLen; omega))
              have HA1 := Lib.hid ((Below.refl vd.heap.size vd).alloc (Nat.le_refl _) (.cells #[.int .i64 (j : Nat)] 3))
              have HZ1 := Lib.hid (show w6.heap.size ≤ vd.heap.size from HZ2.out)
              obtain ⟨i0, hi0, hz0, hz1, hz2⟩ := info_parts info_int
              refine Tillst.one (i := 9) (o := od9) (by kernel_rfl) rfl ?_
              intro K hK
              refine step_append_rowG (mk := Value.int .i64) (d := 0) rfl (.tmp 43) (.tmp 46) 48 rfl vd.heap.size 3 i0 _ 8 Try.underlying48 hi0 hz0 hz1 hz2 (by simp [Value.cells]) (fun _ => rfl) (.slice (some ⟨vd.heap.size, 0, none⟩) 1 1) 1 _ rfl HL1.out _ _ (m - q) _ ((idsN (ordN xs j)).drop q) rfl ((row_drop (q := q) (HRZ.out.below HA1.out (fun b h => Nat.lt_of_lt_of_le h.2 HZ1.out)))) (fun e => by cases e) (by unfold maxLen; omega) (by omega) (by simp) ?_
              intro v9 w9 hown9 hgr9 _
              have HO9 := Lib.hid hown9
              have HV9 := Lib.hid (HA1.out.grown hgr9 HA1.out.size (fun k e => own_least HL1.out e))
              have HH9 := Lib.hid (hHeld.grown hgr9 hHeld.size (fun k e => Nat.le_trans HZ1.out (own_least HL1.out e)))
              clear hown9 hgr9
              simp only [od9, Act.put, List.setIfInBounds_toArray, List.set_cons_zero, List.set_cons_succ]
              refine hK.out _ _ (fun _ => HH9.out) (fun hHeld => ?_)
              replace hHeld := hHeld (by decide)
              clear hK K
              refine Tillst.one (i := 10) (o := od10) (by kernel_rfl) rfl ?_
              intro K hK
              refine step_append_new (.tmp 41) (.tmp 47) rfl rfl (A := (some ⟨gb, 0, none⟩)) (k := q) rfl ((row_takeI (q := q) HRZ.out (by omega)).below HV9.out (fun b h => Nat.lt_of_lt_of_le h.2 HZ1.out)) (fun e => by cases e) (v := v9) rfl (n := 1 + (m - q)) (news := [(j : Int)] ++ ((idsN (ordN xs j)).drop q)) (by rw [List.map_append]; exact HO9.out) (by omega) (by omega) ?_
              intro c10 w10 hc10 hr10 hb10 hl10
              have HC10 := Lib.hid hc10
              have HR10 := Lib.hid hr10
              have HB10 := Lib.hid hb10
              have HL10 := Lib.hid hl10
              have HH10 := Lib.hid (hHeld.trans (hb10.mono hHeld.size))
              clear hc10 hr10 hb10 hl10
              simp only [od10, Act.put, List.setIfInBounds_toArray, List.set_cons_zero, List.set_cons_succ]
              refine hK.out _ _ (fun _ => HH10.out) (fun hHeld => ?_)
              replace hHeld := hHeld (by decide)
              clear hK K
              refine Tillst.take (i := 11) (oi := od11) (v := ?_) rfl (by kernel_rfl) (by kernel_rfl) (by kernel_rfl) (by kernel_rfl) (fun _ _ _ h => h) (by rfl) ?_ hHeld ?_
              rotate_left
              · intro W hSW; (try dsimp only at hSW); unfold od11; go_simp; with_reducible rfl
              simp only [od11, Act.put, List.setIfInBounds_toArray, List.set_cons_zero, List.set_cons_succ]
              refine Tillst.done (by kernel_rfl) ?_ _
              refine NoPanic.normal ?_
              have HEND := Lib.hid hHeld
              clear hHeld
              go_wp2_with fail
              go_roundw
              case rel =>
                obtain ⟨e1, e2⟩ := ids_next (xs := xs) (j := j) (by rw [HST.out]; exact h0) HG.out HT.out
                refine ⟨j + 1, q + (1 + (m - q)), c10, some ⟨w9.heap.size, 0, none⟩, ⟨by omega, by simp, HB6.out.below HEND.out HB6.out.lt, below_next8 HW6.out HEND.out⟩, rfl, by rw [e2]; have := HM.out; omega, ?_, .inr ⟨_, rfl, by omega⟩, HC10.out.1⟩
                rw [e1]
                have hm := HM.out
                have hlen : (idsN (ordN xs j)).length = (ordN xs j).length := by simp [idsN]
                exact HR10.out.more (fun b h => by rw [h]; exact ⟨Nat.le_trans (below_next8 HW6.out HH9.out).size (Nat.le_refl _), HL10.out⟩)
              case measure => simp [intOf]; omega
          · have d1 : decide ((q : Int) < (m : Int)) = false := decide_eq_false (by omega)
            obtain rfl : t = m := by omega
            obtain rfl : q = t := by omega
            have HL0 := Lib.hid hbi
            clear hbi
            rcases HNIL.out with ⟨rfl, rfl, rfl⟩ | ⟨gb, rfl, hq0⟩
            · go_wp2_with fail
              go_quiet (fail)
              go_wp2_with fail
              refine wp_region_noPanic ?_
              refine Tillst.region (fun V => Below w6.heap.size w6 V) [] (by kernel_rfl) (below_drewN HI.out _).drew (fun hHeld => ?_)
              generalize (wr.drewN _).drew = vd at *
              have HZ := Lib.hid (below_next8 HW6.out hHeld)
              have HRZ := Lib.hid (HR6.out.below hHeld (fun b h => h.2))
              have HZ2 := Lib.hid hHeld.size
              refine Tillst.take (i := 0) (oi := od0) (v := ?_) rfl (by kernel_rfl) (by kernel_rfl) (by kernel_rfl) (by kernel_rfl) (fun _ _ _ h => h) (by rfl) ?_ hHeld ?_
              rotate_left
              · intro W hSW; (try dsimp only at hSW); unfold od0; go_simp; with_reducible rfl
              simp only [od0, Act.put, List.setIfInBounds_toArray, List.set_cons_zero, List.set_cons_succ]
              refine Tillst.take (i := 1) (oi := od1) (v := ?_) rfl (by kernel_rfl) (by kernel_rfl) (by kernel_rfl) (by kernel_rfl) (fun _ _ _ h => h) (by rfl) ?_ hHeld ?_
              rotate_left
              · intro W hSW; (try dsimp only at hSW); unfold od1; go_simp; with_reducible rfl
              simp only [od1, Act.put, List.setIfInBounds_toArray, List.set_cons_zero, List.set_cons_succ]
              refine Tillst.take (i := 2) (oi := od2) (v := ?_) rfl (by kernel_rfl) (by kernel_rfl) (by kernel_rfl) (by kernel_rfl) (fun _ _ _ h => h) (by rfl) ?_ hHeld ?_
              rotate_left
              · intro W hSW; (try dsimp only at hSW); unfold od2; go_simp; with_reducible rfl
              simp only [od2, Act.put, List.setIfInBounds_toArray, List.set_cons_zero, List.set_cons_succ]
              refine Tillst.take (i := 3) (oi := od3) (v := ?_) rfl (by kernel_rfl) (by kernel_rfl) (by kernel_rfl) (by kernel_rfl) (fun _ _ _ h => h) (by rfl) ?_ hHeld ?_
              rotate_left
              · intro W hSW; (try dsimp only at hSW); unfold od3; go_simp; with_reducible rfl
              simp only [od3, Act.put, List.setIfInBounds_toArray, List.set_cons_zero, List.set_cons_succ]
              refine Tillst.take (i := 4) (oi := od4) (v := ?_) rfl (by kernel_rfl) (by kernel_rfl) (by kernel_rfl) (by kernel_rfl) (fun _ _ _ h => h) (by rfl) ?_ hHeld ?_
              rotate_left
              · intro W hSW; (try dsimp only at hSW); unfold od4; go_simp; with_reducible rfl
              simp only [od4, Act.put, List.setIfInBounds_toArray, List.set_cons_zero, List.set_cons_succ]
              refine Tillst.take (i := 6) (oi := od6) (v := ?_) rfl (by kernel_rfl) (by kernel_rfl) (by kernel_rfl) (by kernel_rfl) (fun _ _ _ h => h) (by rfl) ?_ hHeld ?_
              rotate_left
              · intro W hSW; (try dsimp only at hSW); unfold od6; go_simp; with_reducible rfl
              simp only [od6, Act.put, List.setIfInBounds_toArray, List.set_cons_zero, List.set_cons_succ]
              refine Tillst.take (i := 7) (oi := od7) (v := ?_) rfl (by kernel_rfl) (by kernel_rfl) (by kernel_rfl) (by kernel_rfl) (fun _ _ _ h => h) (by rfl) ?_ hHeld ?_
              rotate_left
              · intro W hSW; (try dsimp only at hSW); unfold od7; go_simp; with_reducible rfl
              simp only [od7, Act.put, List.setIfInBounds_toArray, List.set_cons_zero, List.set_cons_succ]
              refine Tillst.take (i := 8) (oi := od8) (v := ?_) rfl (by kernel_rfl) (by kernel_rfl) (by kernel_rfl) (by kernel_rfl) (fun _ _ _ h => h) (by rfl) ?_ hHeld ?_
              rotate_left
              · intro W hSW; (try dsimp only at hSW); unfold od8; go_simp; with_reducible rfl
              simp only [od8, Act.put, List.setIfInBounds_toArray, List.set_cons_zero, List.set_cons_succ]
              refine Tillst.one (i := 5) (o := od5) (by kernel_rfl) rfl ?_
              intro K hK
              refine step_lit1 (.tmp 42) rfl rfl (j : Nat) rfl ?_
              simp only [od5, Act.put, List.setIfInBounds_toArray, List.set_cons_zero, List.set_cons_succ]
              refine hK.out _ _ (fun _ => hHeld.alloc hHeld.size _) (fun hHeld => ?_)
              replace hHeld := hHeld (by decide)
              clear hK K
              have HL1 := Lib.hid (Arr.owns (mk := Value.int .i64) (w := vd.alloc (.cells #[.int .i64 (j : Nat)] 3)) (g := vd.heap.size) (base := vd.heap.size) (n := 1) (c := 1) (t := 3) (xs := [(j : Int)]) (Blk.new vd _ _) (Nat.le_refl _) rfl rfl (by unfold maxLen; omega))
              have HA1 := Lib.hid ((Below.refl vd.heap.size vd).alloc (Nat.le_refl _) (.cells #[.int .i64 (j : Nat)] 3))
              have HZ1 := Lib.hid (show w6.heap.size ≤ vd.heap.size from HZ2.out)
              obtain ⟨i0, hi0, hz0, hz1, hz2⟩ := info_parts info_int
              refine Tillst.one (i := 9) (o := od9) (by kernel_rfl) rfl ?_
              intro K hK
              refine step_append_rowG (mk := Value.int .i64) (d := 0) rfl (.tmp 43) (.tmp 46) 48 rfl vd.heap.size 3 i0 _ 8 Try.underlying48 hi0 hz0 hz1 hz2 (by simp [Value.cells]) (fun _ => rfl) (.slice (some ⟨vd.heap.size, 0, none⟩) 1 1) 1 _ rfl HL1.out (fun _ => True) none 0 _ [] rfl (row_none0 _ (fun _ => True) _) (fun _ => rfl) (by unfold maxLen; omega) (by omega) (by simp) ?_
              intro v9 w9 hown9 hgr9 _
              have HO9 := Lib.hid hown9
              have HV9 := Lib.hid (HA1.out.grown hgr9 HA1.out.size (fun k e => own_least HL1.out e))
              have HH9 := Lib.hid (hHeld.grown hgr9 hHeld.size (fun k e => Nat.le_trans HZ1.out (own_least HL1.out e)))
              clear hown9 hgr9
              simp only [od9, Act.put, List.setIfInBounds_toArray, List.set_cons_zero, List.set_cons_succ]
              refine hK.out _ _ (fun _ => HH9.out) (fun hHeld => ?_)
              replace hHeld := hHeld (by decide)
              clear hK K
              refine Tillst.one (i := 10) (o := od10) (by kernel_rfl) rfl ?_
              intro K hK
              refine step_append_new (.tmp 41) (.tmp 47) rfl rfl (A := none) (k := 0) rfl ((row_takeI (q := 0) HRZ.out (by omega)).below HV9.out (fun b h => Nat.lt_of_lt_of_le h.2 HZ1.out)) (fun _ => rfl) (v := v9) rfl (n := 1 + 0) (news := [(j : Int)] ++ []) (by rw [List.map_append]; exact HO9.out) (by omega) (by omega) ?_
              intro c10 w10 hc10 hr10 hb10 hl10
              have HC10 := Lib.hid hc10
              have HR10 := Lib.hid hr10
              have HB10 := Lib.hid hb10
              have HL10 := Lib.hid hl10
              have HH10 := Lib.hid (hHeld.trans (hb10.mono hHeld.size))
              clear hc10 hr10 hb10 hl10
              simp only [od10, Act.put, List.setIfInBounds_toArray, List.set_cons_zero, List.set_cons_succ]
              refine hK.out _ _ (fun _ => HH10.out) (fun hHeld => ?_)
              replace hHeld := hHeld (by decide)
              clear hK K
              refine Tillst.take (i := 11) (oi := od11) (v := ?_) rfl (by kernel_rfl) (by kernel_rfl) (by kernel_rfl) (by kernel_rfl) (fun _ _ _ h => h) (by rfl) ?_ hHeld ?_
              rotate_left
              · intro W hSW; (try dsimp only at hSW); unfold od11; go_simp; with_reducible rfl
              simp only [od11, Act.put, List.setIfInBounds_toArray, List.set_cons_zero, List.set_cons_succ]
              refine Tillst.done (by kernel_rfl) ?_ _
              refine NoPanic.normal ?_
              have HEND := Lib.hid hHeld
              clear hHeld
              go_wp2_with fail
              go_roundw
              case rel =>
                obtain ⟨e1, e2⟩ := ids_next (xs := xs) (j := j) (by rw [HST.out]; exact h0) HG.out HT.out
                refine ⟨j + 1, 0 + (1 + 0), c10, some ⟨w9.heap.size, 0, none⟩, ⟨by omega, by simp, HB6.out.below HEND.out HB6.out.lt, below_next8 HW6.out HEND.out⟩, rfl, by rw [e2]; have := HM.out; omega, ?_, .inr ⟨_, rfl, by omega⟩, HC10.out.1⟩
                rw [e1]
                have hm := HM.out
                have hlen : (idsN (ordN xs j)).length = (ordN xs j).length := by simp [idsN]
                have hd : (idsN (ordN xs j)).drop 0 = [] := List.drop_eq_nil_of_le (by omega)
                rw [hd]
                exact HR10.out.more (fun b h => by rw [h]; exact ⟨(below_next8 HW6.out HH9.out).size, HL10.out⟩)
              case measure => simp [intOf]; omega
            · go_wp2_with fail
              go_quiet (fail)
              go_wp2_with fail
              refine wp_region_noPanic ?_
              refine Tillst.region (fun V => Below w6.heap.size w6 V) [] (by kernel_rfl) (below_drewN HI.out _).drew (fun hHeld => ?_)
              generalize (wr.drewN _).drew = vd at *
              have HZ := Lib.hid (below_next8 HW6.out hHeld)
              have HRZ := Lib.hid (HR6.out.below hHeld (fun b h => h.2))
              have HZ2 := Lib.hid hHeld.size
              refine Tillst.take (i := 0) (oi := od0) (v := ?_) rfl (by kernel_rfl) (by kernel_rfl) (by kernel_rfl) (by kernel_rfl) (fun _ _ _ h => h) (by rfl) ?_ hHeld ?_
              rotate_left
              · intro W hSW; (try dsimp only at hSW); unfold od0; go_simp; with_reducible rfl
              simp only [od0, Act.put, List.setIfInBounds_toArray, List.set_cons_zero, List.set_cons_succ]
              refine Tillst.take (i := 1) (oi := od1) (v := ?_) rfl (by kernel_rfl) (by kernel_rfl) (by kernel_rfl) (by kernel_rfl) (fun _ _ _ h => h) (by rfl) ?_ hHeld ?_
              rotate_left
              · intro W hSW; (try dsimp only at hSW); unfold od1; go_simp; with_reducible rfl
              simp only [od1, Act.put, List.setIfInBounds_toArray, List.set_cons_zero, List.set_cons_succ]
              refine Tillst.take (i := 2) (oi := od2) (v := ?_) rfl (by kernel_rfl) (by kernel_rfl) (by kernel_rfl) (by kernel_rfl) (fun _ _ _ h => h) (by rfl) ?_ hHeld ?_
              rotate_left
              · intro W hSW; (try dsimp only at hSW); unfold od2; go_simp; with_reducible rfl
              simp only [od2, Act.put, List.setIfInBounds_toArray, List.set_cons_zero, List.set_cons_succ]
              refine Tillst.take (i := 3) (oi := od3) (v := ?_) rfl (by kernel_rfl) (by kernel_rfl) (by kernel_rfl) (by kernel_rfl) (fun _ _ _ h => h) (by rfl) ?_ hHeld ?_
              rotate_left
              · intro W hSW; (try dsimp only at hSW); unfold od3; go_simp; with_reducible rfl
              simp only [od3, Act.put, List.setIfInBounds_toArray, List.set_cons_zero, List.set_cons_succ]
              refine Tillst.take (i := 4) (oi := od4) (v := ?_) rfl (by kernel_rfl) (by kernel_rfl) (by kernel_rfl) (by kernel_rfl) (fun _ _ _ h => h) (by rfl) ?_ hHeld ?_
              rotate_left
              · intro W hSW; (try dsimp only at hSW); unfold od4; go_simp; with_reducible rfl
              simp only [od4, Act.put, List.setIfInBounds_toArray, List.set_cons_zero, List.set_cons_succ]
              refine Tillst.take (i := 6) (oi := od6) (v := ?_) rfl (by kernel_rfl) (by kernel_rfl) (by kernel_rfl) (by kernel_rfl) (fun _ _ _ h => h) (by rfl) ?_ hHeld ?_
              rotate_left
              · intro W hSW; (try dsimp only at hSW); unfold od6; go_simp; with_reducible rfl
              simp only [od6, Act.put, List.setIfInBounds_toArray, List.set_cons_zero, List.set_cons_succ]
              refine Tillst.take (i := 7) (oi := od7) (v := ?_) rfl (by kernel_rfl) (by kernel_rfl) (by kernel_rfl) (by kernel_rfl) (fun _ _ _ h => h) (by rfl) ?_ hHeld ?_
              rotate_left
              · intro W hSW; (try dsimp only at hSW); unfold od7; go_simp; with_reducible rfl
              simp only [od7, Act.put, List.setIfInBounds_toArray, List.set_cons_zero, List.set_cons_succ]
              refine Tillst.take (i := 8) (oi := od8) (v := ?_) rfl (by kernel_rfl) (by kernel_rfl) (by kernel_rfl) (by kernel_rfl) (fun _ _ _ h => h) (by rfl) ?_ hHeld ?_
              rotate_left
              · intro W hSW; (try dsimp only at hSW); unfold od8; go_simp; with_reducible rfl
              simp only [od8, Act.put, List.setIfInBounds_toArray, List.set_cons_zero, List.set_cons_succ]
              refine Tillst.one (i := 5) (o := od5) (by kernel_rfl) rfl ?_
              intro K hK
              refine step_lit1 (.tmp 42) rfl rfl (j : Nat) rfl ?_
              simp only [od5, Act.put, List.setIfInBounds_toArray, List.set_cons_zero, List.set_cons_succ]
              refine hK.out _ _ (fun _ => hHeld.alloc hHeld.size _) (fun hHeld => ?_)
              replace hHeld := hHeld (by decide)
              clear hK K
              have HL1 := Lib.hid (Arr.owns (mk := Value.int .i64) (w := vd.alloc (.cells #[.int .i64 (j : Nat)] 3)) (g := vd.heap.size) (base := vd.heap.size) (n := 1) (c := 1) (t := 3) (xs := [(j : Int)]) (Blk.new vd _ _) (Nat.le_refl _) rfl rfl (by unfold maxLen; omega))
              have HA1 := Lib.hid ((Below.refl vd.heap.size vd).alloc (Nat.le_refl _) (.cells #[.int .i64 (j : Nat)] 3))
              have HZ1 := Lib.hid (show w6.heap.size ≤ vd.heap.size from HZ2.out)
              obtain ⟨i0, hi0, hz0, hz1, hz2⟩ := info_parts info_int
              refine Tillst.one (i := 9) (o := od9) (by kernel_rfl) rfl ?_
              intro K hK
              refine step_append_rowG (mk := Value.int .i64) (d := 0) rfl (.tmp 43) (.tmp 46) 48 rfl vd.heap.size 3 i0 _ 8 Try.underlying48 hi0 hz0 hz1 hz2 (by simp [Value.cells]) (fun _ => rfl) (.slice (some ⟨vd.heap.size, 0, none⟩) 1 1) 1 _ rfl HL1.out (fun _ => True) _ 0 _ [] rfl (row_none0 _ (fun _ => True) _) (fun e => by split at e <;> cases e) (by unfold maxLen; omega) (by omega) (by simp) ?_
              intro v9 w9 hown9 hgr9 _
              have HO9 := Lib.hid hown9
              have HV9 := Lib.hid (HA1.out.grown hgr9 HA1.out.size (fun k e => own_least HL1.out e))
              have HH9 := Lib.hid (hHeld.grown hgr9 hHeld.size (fun k e => Nat.le_trans HZ1.out (own_least HL1.out e)))
              clear hown9 hgr9
              simp only [od9, Act.put, List.setIfInBounds_toArray, List.set_cons_zero, List.set_cons_succ]
              refine hK.out _ _ (fun _ => HH9.out) (fun hHeld => ?_)
              replace hHeld := hHeld (by decide)
              clear hK K
              refine Tillst.one (i := 10) (o := od10) (by kernel_rfl) rfl ?_
              intro K hK
              refine step_append_new (.tmp 41) (.tmp 47) rfl rfl (A := (some ⟨gb, 0, none⟩)) (k := q) rfl ((row_takeI (q := q) HRZ.out (by omega)).below HV9.out (fun b h => Nat.lt_of_lt_of_le h.2 HZ1.out)) (fun e => by cases e) (v := v9) rfl (n := 1 + 0) (news := [(j : Int)] ++ []) (by rw [List.map_append]; exact HO9.out) (by omega) (by omega) ?_
              intro c10 w10 hc10 hr10 hb10 hl10
              have HC10 := Lib.hid hc10
              have HR10 := Lib.hid hr10
              have HB10 := Lib.hid hb10
              have HL10 := Lib.hid hl10
              have HH10 := Lib.hid (hHeld.trans (hb10.mono hHeld.size))
              clear hc10 hr10 hb10 hl10
              simp only [od10, Act.put, List.setIfInBounds_toArray, List.set_cons_zero, List.set_cons_succ]
              refine hK.out _ _ (fun _ => HH10.out) (fun hHeld => ?_)
              replace hHeld := hHeld (by decide)
              clear hK K
              refine Tillst.take (i := 11) (oi := od11) (v := ?_) rfl (by kernel_rfl) (by kernel_rfl) (by kernel_rfl) (by kernel_rfl) (fun _ _ _ h => h) (by rfl) ?_ hHeld ?_
              rotate_left
              · intro W hSW; (try dsimp only at hSW); unfold od11; go_simp; with_reducible rfl
              simp only [od11, Act.put, List.setIfInBounds_toArray, List.set_cons_zero, List.set_cons_succ]
              refine Tillst.done (by kernel_rfl) ?_ _
              refine NoPanic.normal ?_
              have HEND := Lib.hid hHeld
              clear hHeld
              go_wp2_with fail
              go_roundw
              case rel =>
                obtain ⟨e1, e2⟩ := ids_next (xs := xs) (j := j) (by rw [HST.out]; exact h0) HG.out HT.out
                refine ⟨j + 1, q + (1 + 0), c10, some ⟨w9.heap.size, 0, none⟩, ⟨by omega, by simp, HB6.out.below HEND.out HB6.out.lt, below_next8 HW6.out HEND.out⟩, rfl, by rw [e2]; have := HM.out; omega, ?_, .inr ⟨_, rfl, by omega⟩, HC10.out.1⟩
                rw [e1]
                have hm := HM.out
                have hlen : (idsN (ordN xs j)).length = (ordN xs j).length := by simp [idsN]
                have hd : (idsN (ordN xs j)).drop q = [] := List.drop_eq_nil_of_le (by omega)
                rw [hd]
                exact HR10.out.more (fun b h => by rw [h]; exact ⟨(below_next8 HW6.out HH9.out).size, HL10.out⟩)
              case measure => simp [intOf]; omega
    · obtain rfl : j = n := by omega
      go_wp2
      go_ret
      exact ⟨⟨B, m, c, rfl, HM.out, HR.out, fun e => (by rcases HNIL.out with ⟨_, _, h⟩ | ⟨gb, h, _⟩; exact h; rw [h] at e; cases e), hmc⟩, HW.out⟩
end Go.Proofs.Ytkmbbfdjdmkjpaa
