/- The law's round: the sealed segments stand side by side. -/
import Derived.Test.YtbnioceednkjcaaOrderR
import Derived.Test.YtbnioceednkjcaaOldR
import Derived.Test.YtbnioceednkjcaaGoesW
namespace Go.Proofs.Ytbnioceednkjcaa
open Go.RowKit
set_option linter.unusedVariables false
set_option linter.unusedSimpArgs false

abbrev rn0 : Oper := { dst := some 38, op := Go.Op.fieldAddr 66 (Go.Operand.tmp 1) 1, type := 0, pos := "outright.go:22", after := #[], guard := none }
abbrev rn1 : Oper := { dst := some 39, op := Go.Op.load 64 (Go.Operand.tmp 38), type := 64, pos := "outright.go:22", after := #[{ on := 0, ground := Go.Ground.data }], guard := none }
abbrev rn2 : Oper := { dst := some 40, op := Go.Op.move (Go.Operand.tmp 3), type := 3, pos := "outright.go:22", after := #[], guard := none }
abbrev rn3 : Oper := { dst := some 41, op := Go.Op.move (Go.Operand.tmp 9), type := 3, pos := "outright.go:22", after := #[], guard := none }
abbrev rn4 : Oper := { dst := some 42, op := Go.Op.binOp Go.BinOp.add 3 (Go.Operand.tmp 40) (Go.Operand.tmp 41) 3, type := 3, pos := "outright.go:22", after := #[{ on := 2, ground := Go.Ground.data }, { on := 3, ground := Go.Ground.data }], guard := none }
abbrev rn5 : Oper := { dst := some 43, op := Go.Op.fieldAddr 66 (Go.Operand.tmp 1) 1, type := 0, pos := "outright.go:22", after := #[], guard := none }
abbrev rn6 : Oper := { dst := some 44, op := Go.Op.load 64 (Go.Operand.tmp 43), type := 64, pos := "outright.go:22", after := #[{ on := 5, ground := Go.Ground.data }], guard := none }
abbrev rn7 : Oper := { dst := some 45, op := Go.Op.call { callee := Go.Callee.builtin Go.Builtin.len, args := #[Go.Operand.tmp 44], argTypes := #[64] }, type := 3, pos := "outright.go:22", after := #[{ on := 6, ground := Go.Ground.data }], guard := none }
abbrev rn8 : Oper := { dst := some 46, op := Go.Op.binOp Go.BinOp.rem 3 (Go.Operand.tmp 42) (Go.Operand.tmp 45) 3, type := 3, pos := "outright.go:22", after := #[{ on := 4, ground := Go.Ground.data }, { on := 7, ground := Go.Ground.data }], guard := none }
abbrev rn9 : Oper := { dst := some 47, op := Go.Op.indexAddr 64 (Go.Operand.tmp 39) (Go.Operand.tmp 46), type := 0, pos := "outright.go:22", after := #[{ on := 1, ground := Go.Ground.data }, { on := 8, ground := Go.Ground.data }], guard := none }
abbrev rn10 : Oper := { dst := some 48, op := Go.Op.load 78 (Go.Operand.tmp 47), type := 78, pos := "outright.go:22", after := #[{ on := 9, ground := Go.Ground.data }], guard := none }
abbrev rn11 : Oper := { dst := some 10, op := Go.Op.alloc 78, type := 0, pos := "outright.go:22", after := #[], guard := none }
abbrev rn12 : Oper := { dst := none, op := Go.Op.store 78 (Go.Operand.tmp 10) (Go.Operand.tmp 48), type := 0, pos := "outright.go:22", after := #[{ on := 11, ground := Go.Ground.data }, { on := 10, ground := Go.Ground.data }, { on := 0, ground := Go.Ground.phase }, { on := 1, ground := Go.Ground.phase }, { on := 2, ground := Go.Ground.phase }, { on := 3, ground := Go.Ground.phase }, { on := 4, ground := Go.Ground.phase }, { on := 5, ground := Go.Ground.phase }, { on := 6, ground := Go.Ground.phase }, { on := 7, ground := Go.Ground.phase }, { on := 8, ground := Go.Ground.phase }, { on := 9, ground := Go.Ground.phase }, { on := 10, ground := Go.Ground.phase }, { on := 11, ground := Go.Ground.phase }], guard := none }

section
variable {P : Program} {w : World} {o : Oper} {a : Act} {Q : Exit → Act → World → Prop} {K : Act → World → Prop} {E : Prop} {ops : Array Oper}
theorem step_alloc_z (ty : TypeId) (ho : o.op = .alloc ty) (hgd : Region.wanted o (yielded ops a.tmps) = true) (zs : Array Value) (hz : ∀ w, (zeroValue ty).run P w = .ok (.agg zs) w)
    (h : K (a.put o.dst (.pointer (some ⟨w.heap.size, 0, none⟩))) (w.alloc (.cells zs ty))) : if Region.wanted o (yielded ops a.tmps) = true then Oper.wp P o a w K Q else E := by
  rw [if_pos hgd]
  unfold Oper.wp execOp
  simp only [ho, Instr.alloc, Sem.run_bind, hz, Result.andThen_ok]
  exact h
end
def sealTo (xs : List Seg) : Nat → Nat
  | 0 => 0
  | j + 1 => sealTo xs j + (if stG xs j = 2 then 1 else 0)
theorem seal_le (xs : List Seg) : ∀ j, sealTo xs j ≤ j
  | 0 => Nat.le_refl _
  | j + 1 => by have := seal_le xs j; unfold sealTo; split <;> omega
/-- From segment o on the sealed ones stand side by side, by rising generations; gl: the one ahead. -/
def SideBy (xs : List Seg) (n o c : Nat) (gl : Nat → Int) : Prop :=
  gl 0 = 0 ∧ ∀ k, k < c → stG xs ((o + k) % n) = 2 ∧ gl k < genG xs ((o + k) % n) ∧ gl (k + 1) = genG xs ((o + k) % n)
/-- Between two rounds. -/
def RndI (w : World) (sec : Int) (A : Option Addr) (n cap c : Nat) (gl : Nat → Int) (W : World) (v5 v9 : Value) : Prop :=
  ∃ k : Nat, k ≤ c ∧ v9 = .int .i64 k ∧ v5 = .int .u64 (gl k) ∧ Blk W w.heap.size 66 #[.int .i64 sec, .slice A n cap] ∧ Below w.heap.size w W

set_option maxRecDepth 100000 in
set_option maxHeartbeats 4000000 in
theorem round_any {w : World} {A : Option Addr} {n cap : Nat} {xs : List Seg} (h : RowZ w (· < w.heap.size) A n xs) (sec : Int) (hk : OkR sec xs) (gl : Nat → Int) (hgl : ∀ o : Nat, oldR xs = o → SideBy xs n o (sealTo xs n) gl) :
    Calls Try.prog 64 #[ringV sec A n cap] w fun e w' => e = .returned (.bool true) ∧ Below w.heap.size w w' := by
  have HX := Lib.hid h
  have hn := (ok_n hk h.1).2
  have HB1 := Lib.hid ((Below.refl w.heap.size w).alloc (Nat.le_refl _) (.cells #[.int .i64 sec, .slice A n cap] 66))
  have HC := Lib.hid (oldest_any (cap := cap) (row_now h HB1.out) sec)
  have hor := old_or xs
  clear h
  rcases hor with ⟨e, _⟩ | ⟨o, ho, e, hs, _⟩
  · have e1 : oldE sec xs = 4 := by unfold oldE; rw [if_neg (fun k => k hk), e, if_pos (by omega)]
    have e2 : oldV sec xs = 0 := by unfold oldV; rw [e1]; rfl
    rw [e1, e2] at HC
    clear e1 e2 e hgl hk
    go_enter Try.func64, Try.ntmps64
    go_wp2_with (go_at_call 38; refine HC.out.mono ?_; rintro e w1 ⟨rfl, hb1⟩; have HB2 := Lib.hid (ring_first hb1); clear hb1)
    go_ret
    exact ⟨rfl, HB2.out.1⟩
  have e1 : oldE sec xs = 0 := by unfold oldE; rw [if_neg (fun k => k hk), e, if_neg (by omega)]
  have e2 : oldV sec xs = o := by unfold oldV; rw [e1]; exact e
  rw [e1, e2] at HC
  have hon : o < n := by rw [← HX.out.1]; exact ho
  have HSB := Lib.hid (hgl o e)
  have hsl := seal_le xs n
  have HU := Lib.hid (fun (i : Nat) (hi : i < n) => may_at hk.2.1 (show i < xs.length by rw [HX.out.1]; exact hi))
  clear e1 e2 e hgl ho hs hk
  go_enter Try.func64, Try.ntmps64
  go_wp2_with (go_at_call 38; refine HC.out.mono ?_; rintro e w1 ⟨rfl, hb1⟩; have HB2 := Lib.hid (ring_first hb1); obtain ⟨k0, k1⟩ := ring_cells HB2.out.2; clear hb1)
  go_loopw [6, 23] (fun v i wr => ∃ j : Nat, RI w sec A n cap wr j i ∧ v = .int .i64 (sealTo xs j)) (fun v i _ => n - (intOf i).toNat)
  case atStart => exact ⟨0, ⟨Nat.zero_le _, rfl, HB2.out.2, HB2.out.1⟩, rfl⟩
  case round =>
    obtain ⟨j, ⟨hj, rfl, hb, hbel⟩, rfl⟩ := hrel
    have HB := Lib.hid hb
    have HBEL := Lib.hid hbel
    clear hb hbel
    by_cases hlt : j < n
    · obtain ⟨b, off, rfl, hbb, hcc⟩ := seg_get (HX.out.below HBEL.out (fun b h => h)) hlt
      obtain ⟨c0, c1, c2⟩ := hcc j hlt
      have hfl := seal_le xs j
      have HE := Lib.hid (show sealTo xs (j + 1) = sealTo xs j + (if stG xs j = 2 then 1 else 0) from rfl)
      generalize stG xs j = st at *
      generalize genG xs j = g at *
      generalize usedG xs j = u at *
      generalize sealTo xs j = f at *
      clear hcc
      by_cases h0 : st = 2
      · subst h0
        go_wp2
        go_roundw
        case rel => exact ⟨j + 1, ⟨by omega, by simp, HB.out.alloc _, HBEL.out.alloc HBEL.out.size _⟩, by rw [HE.out]; simp⟩
        case measure => simp [intOf]; omega
      · have d1 : (st == 2) = false := by simpa using h0
        go_wp2
        go_roundw
        case rel => exact ⟨j + 1, ⟨by omega, by simp, HB.out.alloc _, HBEL.out.alloc HBEL.out.size _⟩, by rw [HE.out, if_neg h0]; rfl⟩
        case measure => simp [intOf]; omega
    · obtain rfl : j = n := by omega
      generalize sealTo xs j = c at *
      have HB := Lib.hid HB.out
      go_wp2
      go_loopw [5, 9] (fun v5 v9 wr => RndI w sec A j cap c gl wr v5 v9) (fun _ v9 _ => c - (intOf v9).toNat)
      case atStart => exact ⟨0, Nat.zero_le _, rfl, by rw [HSB.out.1], HB.out, HBEL.out⟩
      case round =>
        obtain ⟨k, hk, rfl, rfl, hb, hbel⟩ := hrel
        have HB := Lib.hid hb
        have HBEL := Lib.hid hbel
        clear hb hbel
        by_cases hkc : k < c
        · obtain ⟨hs2, hlt2, hgl2⟩ := HSB.out.2 k hkc
          have hql : (o + k) % j < j := Nat.mod_lt _ (by omega)
          obtain ⟨q, hq⟩ : ∃ q, (o + k) % j = q := ⟨_, rfl⟩
          rw [hq] at hs2 hlt2 hgl2 hql
          obtain ⟨b, off, rfl, hbb, hcc⟩ := (HX.out.below HBEL.out (fun b h => h)).2 (by omega)
          have HU2 := Lib.hid (HU.out q hql)
          have hr := hcc q hql
          obtain ⟨st, g, u, hx⟩ : ∃ st g u, xs.getD q seg0 = (st, g, u) := ⟨_, _, _, rfl⟩
          obtain rfl : st = 2 := by have := hs2; simp only [stG, hx] at this; exact this
          have hge : genG xs q = g := by simp only [genG, hx]
          rw [hx] at hr
          rw [hge] at hlt2 hgl2
          have HS := Lib.hid (fun (W : World) (hW : Below wr.heap.size wr W) => show W.rangeAt b (off + q * 3) (segC (2, g, u)) from fun i v hv => (Below.cell hW (p := ⟨b, _, none⟩) (Nat.lt_of_lt_of_le hbb HBEL.out.size)).trans (hr i v hv))
          have HQE := Lib.hid (show ((o : Int) + (k : Int)).tmod (j : Int) = ((q : Nat) : Int) by rw [← hq, show (o : Int) + (k : Int) = ((o + k : Nat) : Int) by omega]; exact (Int.ofNat_tmod _ _).symm)
          have HGL := Lib.hid hgl2
          have d3 : decide (g ≤ gl k) = false := decide_eq_false (by omega)
          have HLT := Lib.hid hlt2
          clear hs2 hlt2 hgl2 hcc hr hx hge hq hbb
          generalize gl k = gk at *
          go_wp2_with fail
          refine wp_region_noPanic ?_
          refine Tillst.region (fun W => Below wr.heap.size wr W) [] (by kernel_rfl) (Below.refl _ _).drew (fun hHeld => ?_)
          have HV := Lib.hid (show wr.heap.size ≤ wr.drew.heap.size from hHeld.size)
          generalize wr.drew = vd at *
          refine Tillst.take (i := 0) (oi := rn0) (v := ?_) rfl (by kernel_rfl) (by kernel_rfl) (by kernel_rfl) (by kernel_rfl) (fun _ _ _ h => h) (by rfl) ?_ hHeld ?_
          rotate_left
          · intro W hSW; (try dsimp only at hSW); unfold rn0; go_simp; with_reducible rfl
          simp only [rn0, Act.put, List.setIfInBounds_toArray, List.set_cons_zero, List.set_cons_succ]
          refine Tillst.take (i := 1) (oi := rn1) (v := ?_) rfl (by kernel_rfl) (by kernel_rfl) (by kernel_rfl) (by kernel_rfl) (fun _ _ _ h => h) (by rfl) ?_ hHeld ?_
          rotate_left
          · intro W hSW; obtain ⟨x0, x1⟩ := ring_cells (HB.out.below hSW HB.out.lt); unfold rn1; go_simp; with_reducible rfl
          simp only [rn1, Act.put, List.setIfInBounds_toArray, List.set_cons_zero, List.set_cons_succ]
          refine Tillst.take (i := 2) (oi := rn2) (v := ?_) rfl (by kernel_rfl) (by kernel_rfl) (by kernel_rfl) (by kernel_rfl) (fun _ _ _ h => h) (by rfl) ?_ hHeld ?_
          rotate_left
          · intro W hSW; (try dsimp only at hSW); unfold rn2; go_simp; with_reducible rfl
          simp only [rn2, Act.put, List.setIfInBounds_toArray, List.set_cons_zero, List.set_cons_succ]
          refine Tillst.take (i := 3) (oi := rn3) (v := ?_) rfl (by kernel_rfl) (by kernel_rfl) (by kernel_rfl) (by kernel_rfl) (fun _ _ _ h => h) (by rfl) ?_ hHeld ?_
          rotate_left
          · intro W hSW; (try dsimp only at hSW); unfold rn3; go_simp; with_reducible rfl
          simp only [rn3, Act.put, List.setIfInBounds_toArray, List.set_cons_zero, List.set_cons_succ]
          refine Tillst.take (i := 4) (oi := rn4) (v := .int .i64 ((o + k : Nat) : Int)) rfl (by kernel_rfl) (by kernel_rfl) (by kernel_rfl) (by kernel_rfl) (fun _ _ _ h => h) (by rfl) ?_ hHeld ?_
          · intro W hSW; (try dsimp only at hSW); unfold rn4; go_simp; (first | done | (rw [IntKind.wrap_i64]; omega) | skip)
          simp only [rn4, Act.put, List.setIfInBounds_toArray, List.set_cons_zero, List.set_cons_succ]
          refine Tillst.take (i := 5) (oi := rn5) (v := ?_) rfl (by kernel_rfl) (by kernel_rfl) (by kernel_rfl) (by kernel_rfl) (fun _ _ _ h => h) (by rfl) ?_ hHeld ?_
          rotate_left
          · intro W hSW; (try dsimp only at hSW); unfold rn5; go_simp; with_reducible rfl
          simp only [rn5, Act.put, List.setIfInBounds_toArray, List.set_cons_zero, List.set_cons_succ]
          refine Tillst.take (i := 6) (oi := rn6) (v := ?_) rfl (by kernel_rfl) (by kernel_rfl) (by kernel_rfl) (by kernel_rfl) (fun _ _ _ h => h) (by rfl) ?_ hHeld ?_
          rotate_left
          · intro W hSW; obtain ⟨x0, x1⟩ := ring_cells (HB.out.below hSW HB.out.lt); unfold rn6; go_simp; with_reducible rfl
          simp only [rn6, Act.put, List.setIfInBounds_toArray, List.set_cons_zero, List.set_cons_succ]
          refine Tillst.take (i := 7) (oi := rn7) (v := ?_) rfl (by kernel_rfl) (by kernel_rfl) (by kernel_rfl) (by kernel_rfl) (fun _ _ _ h => h) (by rfl) ?_ hHeld ?_
          rotate_left
          · intro W hSW; (try dsimp only at hSW); unfold rn7; go_simp; with_reducible rfl
          simp only [rn7, Act.put, List.setIfInBounds_toArray, List.set_cons_zero, List.set_cons_succ]
          refine Tillst.take (i := 8) (oi := rn8) (v := .int .i64 ((q : Nat) : Int)) rfl (by kernel_rfl) (by kernel_rfl) (by kernel_rfl) (by kernel_rfl) (fun _ _ _ h => h) (by rfl) ?_ hHeld ?_
          · intro W hSW; (try dsimp only at hSW); unfold rn8; go_simp; (rw [if_neg (by omega), HQE.out])
          simp only [rn8, Act.put, List.setIfInBounds_toArray, List.set_cons_zero, List.set_cons_succ]
          refine Tillst.take (i := 9) (oi := rn9) (v := ?_) rfl (by kernel_rfl) (by kernel_rfl) (by kernel_rfl) (by kernel_rfl) (fun _ _ _ h => h) (by rfl) ?_ hHeld ?_
          rotate_left
          · intro W hSW; (try dsimp only at hSW); unfold rn9; go_simp; with_reducible rfl
          simp only [rn9, Act.put, List.setIfInBounds_toArray, List.set_cons_zero, List.set_cons_succ]
          refine Tillst.take (i := 10) (oi := rn10) (v := ?_) rfl (by kernel_rfl) (by kernel_rfl) (by kernel_rfl) (by kernel_rfl) (fun _ _ _ h => h) (by rfl) ?_ hHeld ?_
          rotate_left
          · intro W hSW; unfold rn10; refine exec_load_row (.tmp 47) 78 ?_ b (off + q * 3) ?_ (segC (2, g, u)) _ Try.underlying78 rfl size_seg (HS.out W hSW) <;> rfl
          simp only [rn10, Act.put, List.setIfInBounds_toArray, List.set_cons_zero, List.set_cons_succ]
          refine Tillst.one (i := 11) (o := rn11) (by kernel_rfl) rfl ?_
          intro K hK
          refine step_alloc_z 78 rfl rfl (segC seg0).toArray zero_seg ?_
          simp only [rn11, Act.put, List.setIfInBounds_toArray, List.set_cons_zero, List.set_cons_succ]
          refine hK.out _ _ (fun _ => hHeld.alloc hHeld.size _) (fun hHeld => ?_)
          replace hHeld := hHeld (by decide)
          clear hK K
          refine Tillst.one (i := 12) (o := rn12) (by kernel_rfl) rfl ?_
          intro K hK
          refine step_store_whole (.tmp 10) (.tmp 48) 78 rfl rfl vd.heap.size (segC (2, g, u)).toArray (segC seg0).toArray 78 rfl rfl (Blk.new vd _ _) Try.sizeOf78 rfl (by intro v hv; simp at hv; rcases hv with rfl | rfl | rfl <;> rfl) ?_
          simp only [rn12, Act.put, List.setIfInBounds_toArray, List.set_cons_zero, List.set_cons_succ]
          refine hK.out _ _ (fun _ => below_setRow hHeld HV.out _) (fun hHeld => ?_)
          replace hHeld := hHeld (by decide)
          clear hK K
          refine Tillst.done (by kernel_rfl) ?_ _
          refine NoPanic.normal ?_
          have hs2 : Blk ((vd.alloc (.cells (segC seg0).toArray 78)).setRow vd.heap.size (segC (2, g, u)).toArray) vd.heap.size 78 (segC (2, g, u)).toArray := setRow_heap _ vd.heap.size _ _ _ _ (Blk.new vd _ _)
          generalize (vd.alloc (.cells (segC seg0).toArray 78)).setRow vd.heap.size (segC (2, g, u)).toArray = W2 at *
          obtain ⟨c0, c1⟩ : W2.cell? ⟨vd.heap.size, 0, none⟩ = some (.int .i64 2) ∧ W2.cell? ⟨vd.heap.size, 1, none⟩ = some (.int .u64 g) := ⟨hs2.cell 0, hs2.cell 1⟩
          have HE2 := Lib.hid hHeld
          clear hHeld hs2
          go_wp2
          go_roundw
          case rel => exact ⟨k + 1, by omega, by simp, by rw [HGL.out], HB.out.below HE2.out HB.out.lt, HBEL.out.trans (HE2.out.mono HBEL.out.size)⟩
          case measure => simp [intOf]; omega
        · obtain rfl : k = c := by omega
          go_wp2
          go_ret
          exact ⟨rfl, HBEL.out⟩
end Go.Proofs.Ytbnioceednkjcaa
