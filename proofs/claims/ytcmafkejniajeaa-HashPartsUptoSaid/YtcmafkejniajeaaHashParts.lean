/- For every two lists of bytes that are together of bulk at most 1048576: the hash of the one, turned by the other, is that of both, one behind the other; a copy has the same hash; a key's finger is its hash's highest 32 bits. Condition: the bound of the second form. -/
import Derived.Test.YtcmafkejniajeaaRows
import Derived.WalkKit
import Derived.ProofKit
import Derived.OpenShut
import Derived.ShutString
import Derived.ChangeOld
import Derived.Below
import Derived.JoinedCond
import Derived.Test.YtcmafkejniajeaaSame
import Derived.Test.YtcmafkejniajeaaApart
namespace Go.Proofs.Ytcmafkejniajeaa.hashParts
open Go.ChangeShapes Go.WideShapes Go.ChangeAt Go.RowKit
open Go.ChangeMaps (open_string shut_string)
set_option linter.unusedVariables false

theorem own : ownKnob Try.prog.godebug = none := by kernel_rfl
theorem laidOut : laidOutB Try.prog = true := by kernel_rfl
theorem bulk_one {H : Type} (d : DataW H) : 1 ≤ Rows.uptoBulk d := by
  cases d with
  | lit l => cases l <;> simp [Rows.uptoBulk]
  | _ => simp [Rows.uptoBulk]
theorem bulk_all {H : Type} (l : List (DataW H)) : l.length ≤ Rows.uptoBulkAll l := by
  induction l with
  | nil => simp [Rows.uptoBulkAll]
  | cons x r ih => have := bulk_one x; simp only [Rows.uptoBulkAll, List.length_cons]; omega
theorem bulk_slice {H : Type} (elems spare : List (DataW H)) : elems.length + spare.length ≤ Rows.uptoBulk (.slice elems spare) := by
  have h1 := bulk_all elems
  have h2 := bulk_all spare
  simp only [Rows.uptoBulk]
  omega

/-- A slice of integers that came in: nil; or a row of 'cap' cells, the numbers 'zs', each fitting its kind. -/
def IsRow (k : IntKind) (w : World) (a : Option Addr) (len cap : Nat) (zs : List Int) : Prop :=
  (a = none ∧ len = 0 ∧ cap = 0 ∧ zs = []) ∨
  ∃ x : Addr, a = some x ∧ len ≤ cap ∧ cap ≤ maxLen ∧ zs.length = cap ∧ (∀ i, i < zs.length → w.cell? (x.add i) = some (.int k (zs.getD i 0))) ∧ ∀ n ∈ zs, (Lit.int k n).wf = true

theorem info_byte : (Try.prog.info? 5).map (fun i => (i.zero, i.size, i.bytes)) = some (some (.int .u8 0), 1, 1) := by kernel_rfl
theorem facts_of {w : World} {a : Option Addr} {len cap : Nat} {z : List Int} (h : IsRow .u8 w a len cap z) (hb : cap ≤ 1048576) :
    Row .u8 w w.heap.size a len (z.take len) ∧ Bytes (z.take len) ∧ len ≤ 1048576 ∧ (a = none → cap = 0) := by
  refine ⟨row_of h (Nat.le_refl _), Bytes.take (bytes_of ?_) _, ?_, ?_⟩
  · rcases h with ⟨_, _, _, rfl⟩ | ⟨_, _, _, _, _, _, hw⟩
    · simp
    · exact hw
  · rcases h with ⟨_, h, _, _⟩ | ⟨_, _, hl, hm, _⟩
    · omega
    · omega
  · intro e
    rcases h with ⟨_, _, h, _⟩ | ⟨_, h', _⟩
    · exact h
    · rw [e] at h'; cases h'

theorem walk (a0 : Option Addr) (len0 cap0 : Nat) (z0 : List Int) (a1 : Option Addr) (len1 cap1 : Nat) (z1 : List Int) (w : World) (w0 : IsRow .u8 w a0 len0 cap0 z0) (b0 : cap0 ≤ 1048576) (w1 : IsRow .u8 w a1 len1 cap1 z1) (b1 : cap1 ≤ 1048576) :
    Calls Try.prog 5 #[.slice a0 len0 cap0, .slice a1 len1 cap1] w fun e w' => e = .returned (.bool true) ∧ Below w.heap.size w w' := by
  obtain ⟨hx, hbx, hlx, hnx⟩ := facts_of w0 b0
  obtain ⟨hy, hby, hly, hny⟩ := facts_of w1 b1
  clear w0 w1 b0 b1
  generalize z0.take len0 = xs at *
  generalize z1.take len1 = ys at *
  obtain ⟨i0, hi, hz0, hz1, hz2⟩ := info_parts info_byte
  go_enter Try.func5, Try.ntmps5
  go_wp2_with fail
  refine (wakes_any w).mono ?_
  rintro e w1' ⟨rfl, hb1⟩
  have hx1 := hx.below hb1
  have hy1 := hy.below hb1
  have HB1 := Lib.hid hb1
  have HX := Lib.hid hx1
  have HY := Lib.hid hy1
  have hxl := hx.1
  have hyl := hy.1
  clear hb1 hx hx1 hy hy1
  go_wp2_with (at_builtin; refine wpList_append_row rfl _ _ 22 rfl w1'.heap.size 5 i0 (.int .u8 0) 1 Try.underlying22 hi hz0 hz1 hz2 rfl _ _ _ rfl (own_empty w1' 5) .u8 _ a0 len0 cap0 xs rfl ((HX.out.more HB1.out.size).keep ?c0) hnx ?c2 ?c3 ?c4 ?_)
  case c0 => exact fun p hp => World.cell?_alloc_lt w1' _ p hp
  case c2 => unfold maxLen; omega
  case c3 => omega
  case c4 => simp
  intro v1 w2' hown1 hgrow1 _
  have hb2 : Below w1'.heap.size w1' w2' := ((Below.refl _ _).alloc (Nat.le_refl _) _).grown hgrow1 (by simp) (fun k hk => by simp [Value.ownBlock] at hk; omega)
  have hs2 := hb2.size
  have HB2 := Lib.hid hb2
  have HO1 := Lib.hid hown1
  clear hb2 hown1 hgrow1
  go_wp2_with (at_builtin; refine wpList_append_row rfl _ _ 22 rfl w1'.heap.size 5 i0 (.int .u8 0) 1 Try.underlying22 hi hz0 hz1 hz2 rfl _ _ _ rfl HO1.out .u8 _ a1 len1 cap1 ys rfl (HY.out.below (HB2.out.mono HB1.out.size)) hny ?c2 ?c3 ?c4 ?_)
  case c2 => unfold maxLen; omega
  case c3 => omega
  case c4 => exact hs2
  intro v2 w3' hown2 hgrow2 _
  have hb3 : Below w1'.heap.size w2' w3' := (Below.refl _ _).grown hgrow2 hs2 (fun k hk => (HO1.out.lt k hk).1)
  rw [← List.map_append] at hown2
  obtain ⟨A, capA, rfl, hcA, hnA, hrA⟩ := row_own hown2
  have HB3 := Lib.hid ((HB1.out.trans (HB2.out.mono HB1.out.size)).trans (hb3.mono HB1.out.size))
  have HXY := Lib.hid hrA
  have HX3 := Lib.hid ((HX.out.below (HB2.out.mono HB1.out.size)).below (hb3.mono HB1.out.size))
  have HY3 := Lib.hid ((HY.out.below (HB2.out.mono HB1.out.size)).below (hb3.mono HB1.out.size))
  have HBXY : Bytes (xs ++ ys) := by
    intro j
    by_cases hj : j < xs.length
    · simpa [List.getD, List.getElem?_append_left hj] using hbx j
    · simpa [List.getD, List.getElem?_append_right (Nat.le_of_not_lt hj)] using hby (j - xs.length)
  clear hb3 hown2 hgrow2 hrA HB1 HB2 HX HY HO1
  have hfa := fnv_append start xs ys
  generalize hA : fnv start xs = f1 at *
  generalize hB : fnv f1 ys = f2 at *
  have HA := Lib.hid hA
  have HB := Lib.hid hB
  have HAB := Lib.hid hfa
  have HF : Hid (fing xs = f1 / 4294967296 % 4294967296) := Lib.hid (by unfold fing; rw [HA.out])
  clear hA hB hfa
  go_wp2_with fail
  refine (hash_any _ _ _ _ _ _ HX3.out hbx (by omega)).mono ?_
  rintro e w' ⟨rfl, rfl⟩
  rw [HA.out]
  go_wp2_with fail
  refine (more_any _ _ _ _ _ _ _ HY3.out hby (by omega)).mono ?_
  rintro e w' ⟨rfl, rfl⟩
  rw [HB.out]
  go_wp2_with fail
  refine (hash_any _ _ _ _ _ _ HXY.out HBXY (by omega)).mono ?_
  rintro e w' ⟨rfl, rfl⟩
  rw [HAB.out]
  go_wp2_with fail
  refine (hash_any _ _ _ _ _ _ HXY.out HBXY (by omega)).mono ?_
  rintro e w' ⟨rfl, rfl⟩
  rw [HAB.out]
  go_wp2_with (at_builtin; refine wpList_append_row rfl _ _ 22 rfl w3'.heap.size 5 i0 (.int .u8 0) 1 Try.underlying22 hi hz0 hz1 hz2 rfl _ _ _ rfl (own_empty w3' 5) .u8 _ A (len0 + len1) capA (xs ++ ys) rfl (HXY.out.keep ?c1) hnA ?c2 ?c3 ?c4 ?_)
  case c1 => exact fun p hp => World.cell?_alloc_lt w3' _ p hp
  case c2 => unfold maxLen; omega
  case c3 => omega
  case c4 => simp
  intro v4 w4' hown4 hgrow4 _
  have hb4 : Below w3'.heap.size w3' w4' := ((Below.refl _ _).alloc (Nat.le_refl _) _).grown hgrow4 (by simp) (fun k hk => by simp [Value.ownBlock] at hk; omega)
  rw [← List.map_append] at hown4
  obtain ⟨A', capA', rfl, hcA', hnA', hrA'⟩ := row_own hown4
  have HB4 := Lib.hid (HB3.out.trans (hb4.mono HB3.out.size))
  have HXY4 := Lib.hid hrA'
  have HX4 := Lib.hid (HX3.out.below (hb4.mono HB3.out.size))
  clear hb4 hown4 hgrow4 hrA'
  obtain ⟨s, hcs, hns⟩ := conv_string (P := Try.prog) w4' 22 9 5 Try.underlying22 Try.underlying5 Try.underlying9 cap0 HX4.out hbx
  have hss : s.size ≤ 9223372036854775807 := by rw [← nums_length, hns]; omega
  have HN := Lib.hid hns
  clear hns
  go_wp2_with fail
  refine (hash_any _ _ _ _ _ _ HXY4.out HBXY (by omega)).mono ?_
  rintro e w' ⟨rfl, rfl⟩
  rw [HAB.out]
  go_wp2_with fail
  refine (finger_any s _ hss).mono ?_
  rintro e w' ⟨rfl, rfl⟩
  rw [HN.out, HF.out]
  go_wp2_with fail
  refine (hash_any _ _ _ _ _ _ HX4.out hbx (by omega)).mono ?_
  rintro e w' ⟨rfl, rfl⟩
  rw [HA.out]
  go_wp2
  go_ret
  exact ⟨rfl, HB4.out⟩

theorem contract (H : Type) (enc : TypeId × Value → H) (W : World) (base : Nat) (args : Array Value) (ds gs : List (DataW H)) (before : List MemPlace)
    (hval0 : ∀ (j : Nat) t v, Try.f5.params[j]? = some t → args[j]? = some v → Value.okWide Try.prog W .any base t v)
    (hW : DataW.Whole enc Try.prog Try.f5.params.toList Rows.hashPartsSpec.vars false W args.toList ds gs before) (hk : Rows.uptoSmall H (ds ++ gs) = true) :
    Calls Try.prog 5 args W fun e W' => ∃ v, e = .returned v ∧ Rows.hashPartsSpec.post enc Try.prog Try.f5 false true false false W args v W' := by
  have hval : ∀ (j : Nat) t v, Try.f5.params[j]? = some t → args[j]? = some v → Value.okWide Try.prog W .any base t v := hval0
  have hW' := hW
  obtain ⟨p, q, hA0, hV, rfl, hfz, hnd⟩ := hW
  have hA : DataW.TrodAll enc Try.prog W 0 (fun _ => true) true Try.f5.params.toList args.toList ds p := hA0
  rw [Try.params5] at hA hval
  obtain ⟨v0, vs0, d0, ds0, p0, q0, hargs, rfl, rfl, h0, r0⟩ := trodAll_cons hA
  obtain ⟨v1, vs1, d1, ds1, p1, q1, rfl, rfl, rfl, h1, r1⟩ := trodAll_cons r0
  obtain ⟨rfl, rfl, rfl⟩ := trodAll_nil r1
  obtain rfl : args = #[v0, v1] := by cases args; simp_all
  obtain ⟨rfl, rfl⟩ := trodVars_none hV
  obtain ⟨a0, len0, cap0, rfl⟩ := okWide_slice Try.underlying22 (hval 0 22 v0 rfl rfl)
  have k0 := h0
  have lt0 : ∀ x ∈ p0, x.block < W.heap.size := by obtain ⟨m, hm⟩ := k0; exact DataW.trod_lt m _ _ _ hm
  obtain ⟨z0, w0, e0⟩ : ∃ zs, IsRow .u8 W a0 len0 cap0 zs ∧ (cap0 = 0 ∨ d0 = .slice (ChangeShapes.lits .u8 (zs.take len0)) (ChangeShapes.lits .u8 (zs.drop len0)) ∧ zs.length = cap0) := by
    obtain ⟨fuel, hf⟩ := h0
    rcases open_ints Try.underlying22 Try.underlying5 (by kernel_rfl) hf with ⟨hcs, _⟩ | ⟨x, l, c, zs, hcs, _, hl, hm, hz, hx, hcell, hwz⟩
    · simp [Value.cells] at hcs
      obtain ⟨rfl, rfl, rfl⟩ := hcs
      exact ⟨[], .inl ⟨rfl, rfl, rfl, rfl⟩, .inl rfl⟩
    · simp [Value.cells] at hcs
      obtain ⟨rfl, rfl, rfl⟩ := hcs
      have hz' : zs.length = cap0 := by simpa using hz
      exact ⟨zs, .inr ⟨_, rfl, hl, hm, hz', hcell, hwz⟩, .inr ⟨(Prod.mk.injEq _ _ _ _ ▸ hx).1, hz'⟩⟩
  obtain ⟨a1, len1, cap1, rfl⟩ := okWide_slice Try.underlying22 (hval 1 22 v1 rfl rfl)
  have k1 := h1
  have lt1 : ∀ x ∈ p1, x.block < W.heap.size := by obtain ⟨m, hm⟩ := k1; exact DataW.trod_lt m _ _ _ hm
  obtain ⟨z1, w1, e1⟩ : ∃ zs, IsRow .u8 W a1 len1 cap1 zs ∧ (cap1 = 0 ∨ d1 = .slice (ChangeShapes.lits .u8 (zs.take len1)) (ChangeShapes.lits .u8 (zs.drop len1)) ∧ zs.length = cap1) := by
    obtain ⟨fuel, hf⟩ := h1
    rcases open_ints Try.underlying22 Try.underlying5 (by kernel_rfl) hf with ⟨hcs, _⟩ | ⟨x, l, c, zs, hcs, _, hl, hm, hz, hx, hcell, hwz⟩
    · simp [Value.cells] at hcs
      obtain ⟨rfl, rfl, rfl⟩ := hcs
      exact ⟨[], .inl ⟨rfl, rfl, rfl, rfl⟩, .inl rfl⟩
    · simp [Value.cells] at hcs
      obtain ⟨rfl, rfl, rfl⟩ := hcs
      have hz' : zs.length = cap1 := by simpa using hz
      exact ⟨zs, .inr ⟨_, rfl, hl, hm, hz', hcell, hwz⟩, .inr ⟨(Prod.mk.injEq _ _ _ _ ▸ hx).1, hz'⟩⟩
  have hbulk : Rows.uptoBulkAll _ ≤ 1048576 := of_decide_eq_true hk
  simp only [List.append_nil] at hbulk
  have b0 : cap0 ≤ 1048576 := by
    rcases e0 with h | ⟨rfl, hl⟩
    · omega
    · have h := hbulk
      simp only [Rows.uptoBulkAll] at h
      have h1 := bulk_slice (H := H) (ChangeShapes.lits .u8 (z0.take len0)) (ChangeShapes.lits .u8 (z0.drop len0))
      simp only [ChangeShapes.lits, List.length_map, List.length_take, List.length_drop] at h h1
      omega
  have b1 : cap1 ≤ 1048576 := by
    rcases e1 with h | ⟨rfl, hl⟩
    · omega
    · have h := hbulk
      simp only [Rows.uptoBulkAll] at h
      have h1 := bulk_slice (H := H) (ChangeShapes.lits .u8 (z1.take len1)) (ChangeShapes.lits .u8 (z1.drop len1))
      simp only [ChangeShapes.lits, List.length_map, List.length_take, List.length_drop] at h h1
      omega
  clear hA0 hval0
  refine (walk a0 len0 cap0 z0 a1 len1 cap1 z1 W w0 b0 w1 b1).mono fun e W' ⟨he, bel⟩ => ?_
  subst he
  exact ⟨_, rfl, _, _, _, [], _, [], hW', trodAll_mk1 (shut_bool Try.underlying4 _), (trodAll_cons_mk (Below.trod laidOut (by kernel_rfl) (of_decide_eq_true (by kernel_rfl)) k0 bel lt0) (trodAll_cons_mk (Below.trod laidOut (by kernel_rfl) (of_decide_eq_true (by kernel_rfl)) k1 bel lt1) trodAll_mk0)), rfl, bel.frame _, fun h => by cases h⟩

set_option maxRecDepth 100000 in
theorem lifted (os : Os) (started : os.Started) (H : Type) (enc : TypeId × Value → H) (F : Stop.Interp) :
    ReturnsInHanded {} Try.checked os 5 .any ((Rows.OpenSpec.upto Rows.hashPartsSpec).pre6 enc Try.prog Try.f5 Rows.hashPartsUptoRow.domain false) (((Rows.OpenSpec.upto Rows.hashPartsSpec).at F).post enc Try.prog Try.f5 false true false false) := by
  refine returnsInHanded_of_cond (C := Try.checked) (s := Rows.OpenSpec.upto Rows.hashPartsSpec) (k := Rows.uptoSmall) rfl own started (by kernel_rfl) Try.func5
    (OpenSpec.witness (enc := enc) (C := Try.checked) (s := Rows.OpenSpec.upto Rows.hashPartsSpec) (k := Rows.uptoSmall) rfl false ⟨#[], #[.slice none 0 0, .slice none 0 0], []⟩ 8 (by kernel_rfl) (by kernel_rfl) (by kernel_rfl)
      (x := ([.nil, .nil], [], [])) (by kernel_rfl) rfl (by kernel_rfl)) ?_
  intro W base args ds gs before hval hW _ hk _
  exact contract H enc W base args ds gs before hval hW hk

theorem over : Rows.hashPartsUptoRow.holds Try.pinned (Rows.OpenSpec.upto Rows.hashPartsSpec) :=
  OpenClaim.holds_of_cond 5 Try.f5 rfl rfl rfl rfl rfl rfl rfl ⟨rfl, rfl, rfl, rfl, rfl⟩ rfl rfl rfl rfl rfl (by kernel_rfl) Try.func5 (by kernel_rfl)
    (of_decide_eq_true (by kernel_rfl)) (by unfold Func.isWrapper; first | (rw [if_pos (by decide +kernel)]; kernel_rfl) | (rw [if_neg (by decide +kernel)]; exact ⟨rfl, rfl⟩))
    (fun os started H enc _ F => lifted os started H enc F)

theorem proved : Rows.HashPartsUptoSaid := over
end Go.Proofs.Ytcmafkejniajeaa.hashParts
