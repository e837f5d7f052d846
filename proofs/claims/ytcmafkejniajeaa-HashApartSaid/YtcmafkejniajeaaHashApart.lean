/- For every list of bytes, every place and every turn of a byte: bytes that are unlike at that one place alone have unlike hashes. No condition. -/
import Derived.Test.YtcmafkejniajeaaRows
import Derived.WalkKit
import Derived.ProofKit
import Derived.OpenShut
import Derived.ShutString
import Derived.ChangeOld
import Derived.Below
import Derived.SizedLaws
import Derived.Test.YtcmafkejniajeaaSame
import Derived.Test.YtcmafkejniajeaaApart
namespace Go.Proofs.Ytcmafkejniajeaa.hashApart
open Go.ChangeShapes Go.WideShapes Go.ChangeAt Go.RowKit
open Go.ChangeMaps (open_string shut_string)
set_option linter.unusedVariables false

theorem own : ownKnob Try.prog.godebug = none := by kernel_rfl
theorem laidOut : laidOutB Try.prog = true := by kernel_rfl
theorem bytes5 : Try.prog.bytesOf 5 = 1 := by kernel_rfl

/-- A slice of integers that came in: nil; or a row of 'cap' cells, the numbers 'zs', each fitting its kind. -/
def IsRow (k : IntKind) (w : World) (a : Option Addr) (len cap : Nat) (zs : List Int) : Prop :=
  (a = none ∧ len = 0 ∧ cap = 0 ∧ zs = []) ∨
  ∃ x : Addr, a = some x ∧ len ≤ cap ∧ cap ≤ maxLen ∧ zs.length = cap ∧ (∀ i, i < zs.length → w.cell? (x.add i) = some (.int k (zs.getD i 0))) ∧ ∀ n ∈ zs, (Lit.int k n).wf = true

theorem info_byte : (Try.prog.info? 5).map (fun i => (i.zero, i.size, i.bytes)) = some (some (.int .u8 0), 1, 1) := by kernel_rfl

theorem walk (a0 : Option Addr) (len0 cap0 : Nat) (z0 : List Int) (a1 : Int) (a2 : Int) (w : World) (w0 : IsRow .u8 w a0 len0 cap0 z0) (b0 : cap0 ≤ 140737488351232) (w1 : (Lit.int .i64 a1).wf = true) (w2 : (Lit.int .u8 a2).wf = true) :
    Calls Try.prog 6 #[.slice a0 len0 cap0, .int .i64 a1, .int .u8 a2] w fun e w' => e = .returned (.bool true) ∧ Below w.heap.size w w' := by
  have hx := row_of w0 (Nat.le_refl _)
  have hb : Bytes (z0.take len0) := Bytes.take (bytes_of (by
    rcases w0 with ⟨_, _, _, rfl⟩ | ⟨_, _, _, _, _, _, hw⟩
    · simp
    · exact hw)) _
  have hn : len0 ≤ 140737488351232 := by
    rcases w0 with ⟨_, h, _, _⟩ | ⟨_, _, hl, hm, _⟩
    · omega
    · omega
  have ht : 0 ≤ a2 ∧ a2 ≤ 255 := by simpa [Lit.wf, IntKind.min, IntKind.max, IntKind.signed, IntKind.bits] using w2
  have hat : -9223372036854775808 ≤ a1 ∧ a1 ≤ 9223372036854775807 := by simpa [Lit.wf, IntKind.min, IntKind.max, IntKind.signed, IntKind.bits] using w1
  have hnil : a0 = none → cap0 = 0 := by
    intro h
    rcases w0 with ⟨_, _, h, _⟩ | ⟨_, h', _⟩
    · exact h
    · rw [h] at h'; cases h'
  clear w0 w1 w2 b0
  generalize z0.take len0 = xs at *
  obtain ⟨i0, hi, hz0, hz1, hz2⟩ := info_parts info_byte
  by_cases h0 : len0 = 0
  · subst h0
    go_enter Try.func6, Try.ntmps6
    go_wp2_with (go_at_call 8; refine (wakes_any w).mono ?_; rintro e w1' ⟨rfl, hb1⟩; have HB1 := Lib.hid hb1; clear hb1)
    go_ret
    exact ⟨rfl, HB1.out⟩
  have hl : ((len0 : Int) == 0) = false := by simp; omega
  by_cases hz : a2 = 0
  · subst hz
    go_enter Try.func6, Try.ntmps6
    go_wp2_with (go_at_call 8; refine (wakes_any w).mono ?_; rintro e w1' ⟨rfl, hb1⟩; have HB1 := Lib.hid hb1; clear hb1)
    go_ret
    exact ⟨rfl, HB1.out⟩
  have hz' : (a2 == 0) = false := by simp; omega
  go_enter Try.func6, Try.ntmps6
  go_wp2_with fail
  refine (wakes_any w).mono ?_
  rintro e w1' ⟨rfl, hb1⟩
  have hx1 := hx.below hb1
  have HB1 := Lib.hid hb1
  clear hb1
  have HX := Lib.hid hx1
  have hxl := hx1.1
  clear hx hx1
  go_wp2_with (at_builtin; refine wpList_append_row rfl _ _ 22 rfl w1'.heap.size 5 i0 (.int .u8 0) 1 Try.underlying22 hi hz0 hz1 hz2 rfl _ _ _ rfl (own_empty w1' 5) .u8 _ a0 len0 cap0 xs rfl ((HX.out.more HB1.out.size).keep ?c0) ?c1 ?c2 ?c3 ?c4 ?_)
  case c0 => exact fun p hp => World.cell?_alloc_lt w1' _ p hp
  case c1 => exact hnil
  case c2 => unfold maxLen; omega
  case c3 => omega
  case c4 => simp
  intro v' w2' hown hgrow hblk

  obtain ⟨g, cap', hv, hg1, hg2⟩ := hown.form (by omega)
  subst hv
  have hb2 : Below w1'.heap.size w1' w2' := ((Below.refl _ _).alloc (Nat.le_refl _) _).grown hgrow (by simp) (fun k hk => by simp [Value.ownBlock] at hk; omega)
  have HB2 := Lib.hid hb2
  have HO := Lib.hid hown
  clear hb2 hown hgrow hblk hnil
  have hcell : ∀ j, j < len0 → w2'.cell? ⟨g, j, none⟩ = some (.int .u8 (xs.getD j 0)) := fun j hj => by
    rw [HO.out.cellAt j (by omega)]
    simp [List.getD, List.getElem?_eq_getElem (show j < xs.length by omega)]
  have hfin : ∀ j, j < len0 → (fnv start xs != fnv start (xs.set j (bits .xor .u8 (xs.getD j 0) a2))) = true := fun j hj => by
    obtain ⟨t1, t2, t3⟩ := turned (xs.getD j 0) a2 (hb j) ht (by omega)
    simpa using set_apart xs j _ hb (by omega) ⟨t1, t2⟩ t3
  have hrow1 : ∀ (j : Nat) (u : Value), Row .u8 (w2'.setCell ⟨g, j, none⟩ u) w.heap.size a0 len0 xs := fun j u =>
    ((HX.out.below (HB2.out.mono HB1.out.size)).keep fun p hp => World.cell?_setCell_other w2' _ p u (fun e => by subst e; have := HB1.out.size; simp at hp; omega))
  have hrow2 : ∀ j, j < len0 → Row .u8 (w2'.setCell ⟨g, j, none⟩ (.int .u8 (bits .xor .u8 (xs.getD j 0) a2))) (w2'.setCell ⟨g, j, none⟩ (.int .u8 (bits .xor .u8 (xs.getD j 0) a2))).heap.size
      (some ⟨g, 0, none⟩) len0 (xs.set j (bits .xor .u8 (xs.getD j 0) a2)) := fun j hj => by
    have h1 := (HO.out.stored j (.int .u8 (bits .xor .u8 (xs.getD j 0) a2))).1
    rw [← List.map_set] at h1
    obtain ⟨A, c, hA, _, _, hr⟩ := row_own h1
    injection hA with hA _ _
    rw [hA]
    exact hr
  have hbytes : ∀ j, j < len0 → Bytes (xs.set j (bits .xor .u8 (xs.getD j 0) a2)) := fun j hj i => by
    obtain ⟨t1, t2, _⟩ := turned (xs.getD j 0) a2 (hb j) ht (by omega)
    by_cases e : i = j
    · subst e
      rw [show (xs.set i (bits .xor .u8 (xs.getD i 0) a2)).getD i 0 = bits .xor .u8 (xs.getD i 0) a2 from by simp [List.getD, show i < xs.length by omega]]
      exact ⟨t1, t2⟩
    · have := hb i
      simpa [List.getD, List.getElem?_set, Ne.symm e] using this
  have hend : ∀ (j : Nat) (u : Value), Below w.heap.size w (w2'.setCell ⟨g, j, none⟩ u) := fun j u =>
    (HB1.out.trans (HB2.out.mono HB1.out.size)).setCell (Nat.le_trans HB1.out.size hg1) u
  have hkey : ∀ j, j < len0 → ∃ x, w2'.cell? ⟨g, j, none⟩ = some (.int .u8 x) ∧ ∃ ys, Bytes ys ∧
      Row .u8 (w2'.setCell ⟨g, j, none⟩ (.int .u8 (bits .xor .u8 x a2))) (w2'.setCell ⟨g, j, none⟩ (.int .u8 (bits .xor .u8 x a2))).heap.size (some ⟨g, 0, none⟩) len0 ys ∧
      (fnv start xs != fnv start ys) = true := fun j hj =>
    ⟨xs.getD j 0, hcell j hj, _, hbytes j hj, hrow2 j hj, hfin j hj⟩
  have R1 := Lib.hid hrow1
  have E := Lib.hid hend
  have K := Lib.hid hkey
  clear hcell hfin hrow1 hrow2 hbytes hend hkey
  by_cases hneg : a1 < 0
  · obtain ⟨x, c0, ys, y1, y2, y3⟩ := K.out 0 (by omega)
    have f0 := HO.out.frozenAt 0
    have Y2 := Lib.hid y2
    clear y2
    generalize hA : fnv start xs = f1 at *
    generalize hB : fnv start ys = f2 at *
    have HA := Lib.hid hA
    have HB := Lib.hid hB
    clear hA hB
    go_wp2_with fail
    refine (hash_any _ _ _ _ _ _ (R1.out _ _) hb (by omega)).mono ?_
    rintro e w3' ⟨rfl, rfl⟩
    rw [HA.out]
    go_wp2_with fail
    refine (hash_any _ _ _ _ _ _ Y2.out y1 (by omega)).mono ?_
    rintro e w3' ⟨rfl, rfl⟩
    rw [HB.out]
    go_wp2
    go_ret
    exact ⟨rfl, E.out _ _⟩
  · obtain ⟨q, rfl⟩ := Int.eq_ofNat_of_zero_le (show 0 ≤ a1 by omega)
    have hq : q % len0 < len0 := Nat.mod_lt _ (by omega)
    obtain ⟨x, c0, ys, y1, y2, y3⟩ := K.out (q % len0) hq
    have f0 := HO.out.frozenAt (q % len0)
    have Y2 := Lib.hid y2
    clear y2
    generalize hA : fnv start xs = f1 at *
    generalize hB : fnv start ys = f2 at *
    have HA := Lib.hid hA
    have HB := Lib.hid hB
    clear hA hB
    go_wp2_with fail
    refine (hash_any _ _ _ _ _ _ (R1.out _ _) hb (by omega)).mono ?_
    rintro e w3' ⟨rfl, rfl⟩
    rw [HA.out]
    go_wp2_with fail
    refine (hash_any _ _ _ _ _ _ Y2.out y1 (by omega)).mono ?_
    rintro e w3' ⟨rfl, rfl⟩
    rw [HB.out]
    go_wp2
    go_ret
    exact ⟨rfl, E.out _ _⟩

set_option maxRecDepth 100000 in
theorem lifted (os : Os) (started : os.Started) (H : Type) (enc : TypeId × Value → H) :
    ReturnsInHanded {} Try.checked os 6 .any (Rows.hashApartSpec.pre6 enc Try.prog Try.f6 Rows.hashApartRow.domain false) (Rows.hashApartSpec.post enc Try.prog Try.f6 false true false false) := by
  refine returnsInHanded_of_change_sized (C := Try.checked) own started (by kernel_rfl) Try.func6
    (ChangeSpec.witness6 (enc := enc) (C := Try.checked) false ⟨#[], #[.slice none 0 0, .int .i64 0, .int .u8 0], []⟩ 8 (by kernel_rfl) (by kernel_rfl) (by kernel_rfl) (by kernel_rfl)) ?_
  intro W base args ds gs before hval0 hW hcnd hsz0 _
  have hval : ∀ (j : Nat) t v, Try.f6.params[j]? = some t → args[j]? = some v → Value.okWide Try.prog W .any base t v := hval0
  have hW' := hW
  have hsz : (DataW.weightsEach Try.prog (Try.f6.params.toList ++ Rows.hashApartSpec.plain.varTypes Try.prog) (ds ++ gs)).all (· ≤ reachBytes) = true := hsz0
  obtain ⟨p, q, hA0, hV, rfl, hfz, hnd⟩ := hW
  have hA : DataW.TrodAll enc Try.prog W 0 (fun _ => true) true Try.f6.params.toList args.toList ds p := hA0
  rw [Try.params6] at hA hval hsz
  obtain ⟨v0, vs0, d0, ds0, p0, q0, hargs, rfl, rfl, h0, r0⟩ := trodAll_cons hA
  obtain ⟨v1, vs1, d1, ds1, p1, q1, rfl, rfl, rfl, h1, r1⟩ := trodAll_cons r0
  obtain ⟨v2, vs2, d2, ds2, p2, q2, rfl, rfl, rfl, h2, r2⟩ := trodAll_cons r1
  obtain ⟨rfl, rfl, rfl⟩ := trodAll_nil r2
  obtain rfl : args = #[v0, v1, v2] := by cases args; simp_all
  obtain ⟨rfl, rfl⟩ := trodVars_none hV
  obtain ⟨a0, len0, cap0, rfl⟩ := okWide_slice Try.underlying22 (hval 0 22 v0 rfl rfl)
  have k0 := h0
  have lt0 : ∀ x ∈ p0, x.block < W.heap.size := by obtain ⟨m, hm⟩ := k0; exact DataW.trod_lt m _ _ _ hm
  obtain ⟨z0, w0, e0⟩ : ∃ zs, IsRow .u8 W a0 len0 cap0 zs ∧ (cap0 = 0 ∨ d0 = .slice (ChangeShapes.lits .u8 (zs.take len0)) (ChangeShapes.lits .u8 (zs.drop len0)) ∧ zs.length = cap0) := by
    obtain ⟨fuel, hf⟩ := h0
    rcases open_ints Try.underlying22 Try.underlying5 (by kernel_rfl) hf with ⟨hcs, _⟩ | ⟨x, l, c, zs, hcs, _, hl, hm, hz, hx, hcell, hwz⟩
    · simp [Value.cells] at hcs
      obtain ⟨rfl, rfl, rfl⟩ := hcs
      exact ⟨[], .inl ⟨rfl, rfl, rfl, rfl⟩, .inl rfl⟩
    · simp [Value.cells] at hcs
      obtain ⟨rfl, rfl, rfl⟩ := hcs
      have hz' : zs.length = cap0 := by simpa using hz
      exact ⟨zs, .inr ⟨_, rfl, hl, hm, hz', hcell, hwz⟩, .inr ⟨(Prod.mk.injEq _ _ _ _ ▸ hx).1, hz'⟩⟩
  obtain ⟨a1, rfl, rfl, rfl, w1⟩ := open_int Try.underlying3 (hval 1 3 v1 rfl rfl) h1
  obtain ⟨a2, rfl, rfl, rfl, w2⟩ := open_int Try.underlying5 (hval 2 5 v2 rfl rfl) h2
  have b0 : cap0 ≤ 140737488351232 := by
    rcases e0 with h | ⟨rfl, hl⟩
    · omega
    · have h := sized_slice hsz (j := 0) (t := 22) (e := 5) rfl rfl Try.underlying22
      rw [bytes5] at h
      simp only [ChangeShapes.lits, List.length_map, List.length_take, List.length_drop, reachBytes] at h
      omega
  clear hA0 hval0
  refine (walk a0 len0 cap0 z0 a1 a2 W w0 b0 w1 w2).mono fun e W' ⟨he, bel⟩ => ?_
  subst he
  exact ⟨_, rfl, _, _, _, [], _, [], hW', trodAll_mk1 (shut_bool Try.underlying4 _), (trodAll_cons_mk (Below.trod laidOut (by kernel_rfl) (of_decide_eq_true (by kernel_rfl)) k0 bel lt0) (trodAll_cons_mk (shut_int Try.underlying3 w1) (trodAll_cons_mk (shut_int Try.underlying5 w2) trodAll_mk0))), rfl, bel.frame _, fun h => by cases h⟩

theorem over : Rows.hashApartRow.holds Try.pinned (OpenSpec.ofChange Rows.hashApartSpec) :=
  OpenClaim.holds_of_wide 6 Try.f6 rfl rfl rfl rfl rfl rfl rfl ⟨rfl, rfl, rfl, rfl, rfl⟩ rfl rfl rfl rfl rfl (by kernel_rfl) Try.func6 (by kernel_rfl)
    (of_decide_eq_true (by kernel_rfl)) (by unfold Func.isWrapper; first | (rw [if_pos (by decide +kernel)]; kernel_rfl) | (rw [if_neg (by decide +kernel)]; exact ⟨rfl, rfl⟩))
    (fun os started H enc _ => lifted os started H enc)

theorem proved : Rows.HashApartSaid := over
end Go.Proofs.Ytcmafkejniajeaa.hashApart
