/- IndexApart. MADE by mkapart.py. -/
import Derived.Test.YtfgmbkflpdobcaaWakes10
import Derived.Test.YtfgmbkflpdobcaaDrop
import Derived.Test.YtfgmbkflpdobcaaComesP
import Derived.Test.YtfgmbkflpdobcaaKind
import Derived.Test.YtfgmbkflpdobcaaSameA
namespace Go.Proofs.Ytfgmbkflpdobcaa
open Go.RowKit
attribute [local go_sem] Oper.semAt_some
set_option linter.unusedVariables false
set_option linter.unusedSimpArgs false
def onF (f : Nat) (es : List Ent) : List Ent := es.filter (fun e => decide (e.1 = (f : Int)))
section
variable {f : Nat} {es : List Ent} {e : Ent} {gen : Int}
theorem mem_onF : e ∈ onF f es ↔ e ∈ es ∧ e.1 = (f : Int) := by simp [onF]
theorem onF_len : (onF f es).length ≤ es.length := List.length_filter_le _ _
theorem add_small (h : es.length ≤ 200) : (addE 1024 es e).1 = if e ∈ es then es else es ++ [e] := by
  unfold addE
  by_cases h1 : e ∈ es
  · rw [if_pos h1, if_pos h1]
  · rw [if_neg h1, if_neg h1, if_neg (by omega)]
theorem add_len (h : es.length ≤ 200) : (addE 1024 es e).1.length ≤ es.length + 1 := by
  rw [add_small h]
  split <;> simp
theorem add_on (h : es.length ≤ 200) (he : e.1 = (f : Int)) : onF f (addE 1024 es e).1 = (addE 1024 (onF f es) e).1 := by
  have h2 : (onF f es).length ≤ 200 := Nat.le_trans onF_len h
  rw [add_small h, add_small h2]
  by_cases h1 : e ∈ es
  · rw [if_pos h1, if_pos (mem_onF.2 ⟨h1, he⟩)]
  · rw [if_neg h1, if_neg (fun h => h1 (mem_onF.1 h).1)]
    simp [onF, he]
theorem add_off (h : es.length ≤ 200) (he : e.1 ≠ (f : Int)) : onF f (addE 1024 es e).1 = onF f es := by
  rw [add_small h]
  split
  · rfl
  · simp [onF, he]
theorem rem_len : (remE es e).1.length ≤ es.length := by
  unfold remE
  split
  · exact List.length_filter_le _ _
  · exact Nat.le_refl _
theorem rem_fst : (remE es e).1 = es.filter (· ≠ e) := by
  unfold remE
  split
  · rfl
  · rename_i h
    refine (List.filter_eq_self.2 fun a ha => ?_).symm
    exact decide_eq_true (fun h2 => h (h2 ▸ ha))
theorem rem_on : onF f (remE es e).1 = (remE (onF f es) e).1 := by
  rw [rem_fst, rem_fst]
  unfold onF
  rw [List.filter_filter, List.filter_filter]
  exact List.filter_congr fun a _ => Bool.and_comm _ _
theorem rem_off (he : e.1 ≠ (f : Int)) : onF f (remE es e).1 = onF f es := by
  rw [rem_fst]
  unfold onF
  rw [List.filter_filter]
  refine List.filter_congr fun a _ => ?_
  by_cases h : a.1 = (f : Int)
  · have : a ≠ e := fun h2 => he (h2 ▸ h)
    simp [h, this]
  · simp [h]
theorem drop_len : (dropE es gen).length ≤ es.length := List.length_filter_le _ _
theorem drop_on : onF f (dropE es gen) = dropE (onF f es) gen := by
  unfold onF dropE
  rw [List.filter_filter, List.filter_filter]
  exact List.filter_congr fun a _ => Bool.and_comm _ _
theorem find_on : findE (onF f es) f = findE es f := by
  unfold findE onF
  rw [List.filter_filter]
  simp
theorem find_on_len : (findE (onF f es) f).length = (onF f es).length := by
  unfold findE onF
  rw [List.filter_filter]
  simp
end
/-- What holds in a round: the op's copy at B, both indexes. -/
structure ApS (w : World) (B x y : Nat) (o : OpE) (es es' : List Ent) (V : World) : Prop where
  op : Blk V B 38 (opC o).toArray
  ix : IxE V x 1024 es
  iy : IxE V y 1024 es'
  below : Below w.heap.size w V
  hx : w.heap.size ≤ x
  hy : w.heap.size ≤ y
  xy : x ≠ y
section
variable {w V V' : World} {B x y : Nat} {o : OpE} {es es' es2 : List Ent}
theorem ApS.cells (h : ApS w B x y o es es' V) : V.cell? ⟨B, 0, none⟩ = some (.int .i64 o.1) ∧ V.cell? ⟨B, 1, none⟩ = some (.int .u32 (o.2.1 : Nat)) ∧ V.cell? ⟨B, 2, none⟩ = some (.int .i64 o.2.2.1) ∧ V.cell? ⟨B, 3, none⟩ = some (.int .u64 o.2.2.2.1) ∧ V.cell? ⟨B, 4, none⟩ = some (.int .i64 o.2.2.2.2) :=
  ⟨h.op.cell 0, h.op.cell 1, h.op.cell 2, h.op.cell 3, h.op.cell 4⟩
theorem IxE.nblk {g : Nat} {t : TypeId} {cs : Array Value} (h : IxE V x 1024 es) (hb : Blk V g t cs) (ht : t ≠ 62) : g ≠ x := by
  obtain ⟨c, L, fr, h1, _⟩ := h
  exact Blk.ne_ hb h1 ht
theorem ApS.next (h : ApS w B x y o es es' V) (hb : Below V.heap.size V V') : ApS w B x y o es es' V' :=
  ⟨h.op.below hb h.op.lt, h.ix.below hb h.ix.lt, h.iy.below hb h.iy.lt, h.below.trans (hb.mono h.below.size), h.hx, h.hy, h.xy⟩
theorem ApS.onX (h : ApS w B x y o es es' V) (hi : IxE V' x 1024 es2) (hk : Kept (fun b => b < V.heap.size ∧ b ≠ x) V V') : ApS w B x y o es2 es' V' :=
  ⟨h.op.kept hk ⟨h.op.lt, h.ix.nblk h.op (by decide)⟩, hi, h.iy.kept hk ⟨h.iy.lt, h.xy.symm⟩, below_ix h.below h.hx h.below.size hk, h.hx, h.hy, h.xy⟩
theorem ApS.onY (h : ApS w B x y o es es' V) (hi : IxE V' y 1024 es2) (hk : Kept (fun b => b < V.heap.size ∧ b ≠ y) V V') : ApS w B x y o es es2 V' :=
  ⟨h.op.kept hk ⟨h.op.lt, h.iy.nblk h.op (by decide)⟩, h.ix.kept hk ⟨h.ix.lt, h.xy⟩, hi, below_ix h.below h.hy h.below.size hk, h.hx, h.hy, h.xy⟩
end
set_option maxRecDepth 100000 in
set_option maxHeartbeats 8000000 in
theorem apart_law {A : Option Addr} {n cap : Nat} {z : List OpE} (f : Nat) {w : World} (ho : IsOps w A n cap z) :
    Calls Try.prog 6 #[.slice A n cap, .int .u32 f] w fun e w' => e = .returned (.bool true) ∧ Below w.heap.size w w' := by
  obtain ⟨m, hm⟩ : ∃ m, m = min n 200 := ⟨_, rfl⟩
  have HO := Lib.hid ho
  have hm200 : m ≤ 200 := by omega
  have hmn : m ≤ n := by omega
  have HFEW := Lib.hid (few_any A n cap m hm ho.nc ho.nA)
  clear ho hm
  go_enter Try.func6, Try.ntmps6
  go_wp2_with fail
  refine (wakes10 _).mono ?_
  rintro e w1 ⟨rfl, hb1⟩
  have HB1 := Lib.hid hb1
  clear hb1
  go_wp2_with fail
  refine (new_ok 1024 (by omega) (by omega) _).mono ?_
  rintro e w2 ⟨x, rfl, hix, hb2, hx⟩
  have HX2 := Lib.hid hix
  have hxw : w.heap.size ≤ x := Nat.le_trans HB1.out.size hx
  have HB2 := Lib.hid (HB1.out.trans (hb2.mono HB1.out.size))
  clear hb2 hix hx
  go_wp2_with fail
  refine (new_ok 1024 (by omega) (by omega) _).mono ?_
  rintro e w3 ⟨y, rfl, hiy, hb3, hy⟩
  have hxl := HX2.out.lt
  have HX3 := Lib.hid (HX2.out.below hb3 hxl)
  have HY3 := Lib.hid hiy
  have hyw : w.heap.size ≤ y := Nat.le_trans HB2.out.size hy
  have hxy : x ≠ y := by omega
  have HB3 := Lib.hid (HB2.out.trans (hb3.mono HB2.out.size))
  clear hb3 hiy hy hxl
  go_wp2_with fail
  refine (HFEW.out _).mono ?_
  rintro e w4 ⟨rfl, rfl⟩
  go_wp2_with fail
  go_loopw [30] (fun i wr => ∃ (j : Nat) (es : List Ent), i = .int .i64 j ∧ j ≤ m ∧ es.length ≤ j ∧ IxE wr x 1024 es ∧ IxE wr y 1024 (onF f es) ∧ Below w.heap.size w wr) (fun i _ => m - (intOf i).toNat)
  case atStart => exact ⟨0, [], rfl, Nat.zero_le _, Nat.le_refl _, HX3.out, HY3.out, HB3.out⟩
  case round =>
    obtain ⟨j, es, rfl, hj, hes, hX, hY, hB⟩ := hrel
    have HX := Lib.hid hX
    have HY := Lib.hid hY
    have HB := Lib.hid hB
    clear hX hY hB
    by_cases hjm : j < m
    · obtain ⟨b, off, rfl, _, hcells⟩ := HO.out.row.2 (by omega)
      obtain ⟨⟨K, fo, s, g, c⟩, hoe⟩ : ∃ o, z.getD j op0 = o := ⟨_, rfl⟩
      have hfo := HO.out.fin j (by omega)
      have hrow := (HO.out.row.below HB.out (fun b h => h))
      obtain ⟨b', off', e', _, hcells'⟩ := hrow.2 (by omega)
      injection e' with e'
      injection e' with eb eo
      subst eb eo
      have hc := hcells' j (by omega)
      rw [hoe] at hc hfo
      have p0 : wr.cell? ⟨b, off + j * 5, none⟩ = some (.int .i64 K) := hc 0 _ rfl
      have p1 : wr.cell? ⟨b, off + j * 5 + 1, none⟩ = some (.int .u32 (fo : Nat)) := hc 1 _ rfl
      have p2 : wr.cell? ⟨b, off + j * 5 + 2, none⟩ = some (.int .i64 s) := hc 2 _ rfl
      have p3 : wr.cell? ⟨b, off + j * 5 + 3, none⟩ = some (.int .u64 g) := hc 3 _ rfl
      have p4 : wr.cell? ⟨b, off + j * 5 + 4, none⟩ = some (.int .i64 c) := hc 4 _ rfl
      have hes2 : es.length ≤ 200 := by omega
      have hfo' : fo < 4294967296 := hfo
      clear hcells hcells' hrow hc hfo hoe
      have ha := (Below.refl wr.heap.size wr).alloc (Nat.le_refl _) (.cells #[.int .i64 K, .int .u32 fo, .int .i64 s, .int .u64 g, .int .i64 c] 38)
      have HS := Lib.hid (show ApS w wr.heap.size x y (K, fo, s, g, c) es (onF f es) (wr.alloc (.cells #[.int .i64 K, .int .u32 fo, .int .i64 s, .int .u64 g, .int .i64 c] 38)) from
        ⟨Blk.new wr _ _, HX.out.below ha HX.out.lt, HY.out.below ha HY.out.lt, HB.out.trans (ha.mono HB.out.size), hxw, hyw, hxy⟩)
      obtain ⟨c0, c1, c2, c3, c4⟩ := HS.out.cells
      clear ha
      have hkl := kindN_lt K
      by_cases hff : fo = f
      · subst hff
        have hne : ((fo : Int) != (fo : Int)) = false := by simp
        obtain hq | hq | hq | hq : kindN K = 0 ∨ kindN K = 1 ∨ kindN K = 2 ∨ kindN K = 3 := by omega
        · have HQ := Lib.hid (show ∀ V, Calls Try.prog 22 #[.agg #[.int .i64 K, .int .u32 fo, .int .i64 s, .int .u64 g, .int .i64 c]] V fun e w' => e = .returned (.int .i64 0) ∧ Below V.heap.size V w' from fun V => by have h := kind_any K fo s g c V; rw [hq] at h; exact h)
          go_wp2_with (first
            | (go_at_call 22; refine (HQ.out _).mono ?_; rintro e v ⟨rfl, hb⟩; have HS := Lib.hid (HS.out.next hb); obtain ⟨c0, c1, c2, c3, c4⟩ := HS.out.cells; clear hb)
            | (go_at_call 18; (with_reducible refine (add_ixU HS.out.ix fo hfo' rfl).mono ?_); rintro e v ⟨rfl, hi, hk⟩; have HS := Lib.hid (HS.out.onX hi hk); obtain ⟨c0, c1, c2, c3, c4⟩ := HS.out.cells; clear hi hk)
            | (go_at_call 18; (with_reducible refine (add_ixU HS.out.iy fo hfo' rfl).mono ?_); rintro e v ⟨rfl, hi, hk⟩; have HS := Lib.hid (HS.out.onY hi hk); obtain ⟨c0, c1, c2, c3, c4⟩ := HS.out.cells; clear hi hk))
          go_roundw
          case rel => exact ⟨j + 1, (addE 1024 es ((fo : Int), s, g, c)).1, by simp, by omega, Nat.le_trans (add_len hes2) (by omega), HS.out.ix, by rw [add_on hes2 rfl]; exact HS.out.iy, HS.out.below⟩
          case measure => show m - (Int.toNat ((j : Int) + 1)) < m - (Int.toNat (j : Int)); omega
        · have HQ := Lib.hid (show ∀ V, Calls Try.prog 22 #[.agg #[.int .i64 K, .int .u32 fo, .int .i64 s, .int .u64 g, .int .i64 c]] V fun e w' => e = .returned (.int .i64 1) ∧ Below V.heap.size V w' from fun V => by have h := kind_any K fo s g c V; rw [hq] at h; exact h)
          go_wp2_with (first
            | (go_at_call 22; refine (HQ.out _).mono ?_; rintro e v ⟨rfl, hb⟩; have HS := Lib.hid (HS.out.next hb); obtain ⟨c0, c1, c2, c3, c4⟩ := HS.out.cells; clear hb)
            | (go_at_call 20; (with_reducible refine (remove_ixU HS.out.ix fo rfl).mono ?_); rintro e v ⟨rfl, hi, hk⟩; have HS := Lib.hid (HS.out.onX hi hk); obtain ⟨c0, c1, c2, c3, c4⟩ := HS.out.cells; clear hi hk)
            | (go_at_call 20; (with_reducible refine (remove_ixU HS.out.iy fo rfl).mono ?_); rintro e v ⟨rfl, hi, hk⟩; have HS := Lib.hid (HS.out.onY hi hk); obtain ⟨c0, c1, c2, c3, c4⟩ := HS.out.cells; clear hi hk))
          go_roundw
          case rel => exact ⟨j + 1, (remE es ((fo : Int), s, g, c)).1, by simp, by omega, Nat.le_trans rem_len (by omega), HS.out.ix, by rw [rem_on]; exact HS.out.iy, HS.out.below⟩
          case measure => show m - (Int.toNat ((j : Int) + 1)) < m - (Int.toNat (j : Int)); omega
        · have HQ := Lib.hid (show ∀ V, Calls Try.prog 22 #[.agg #[.int .i64 K, .int .u32 fo, .int .i64 s, .int .u64 g, .int .i64 c]] V fun e w' => e = .returned (.int .i64 2) ∧ Below V.heap.size V w' from fun V => by have h := kind_any K fo s g c V; rw [hq] at h; exact h)
          go_wp2_with (first
            | (go_at_call 22; refine (HQ.out _).mono ?_; rintro e v ⟨rfl, hb⟩; have HS := Lib.hid (HS.out.next hb); obtain ⟨c0, c1, c2, c3, c4⟩ := HS.out.cells; clear hb)
            | (go_at_call 21; (with_reducible refine (drop_ix HS.out.ix g).mono ?_); rintro e v ⟨rfl, hi, hk⟩; have HS := Lib.hid (HS.out.onX hi hk); obtain ⟨c0, c1, c2, c3, c4⟩ := HS.out.cells; clear hi hk)
            | (go_at_call 21; (with_reducible refine (drop_ix HS.out.iy g).mono ?_); rintro e v ⟨rfl, hi, hk⟩; have HS := Lib.hid (HS.out.onY hi hk); obtain ⟨c0, c1, c2, c3, c4⟩ := HS.out.cells; clear hi hk))
          go_roundw
          case rel => exact ⟨j + 1, dropE es g, by simp, by omega, Nat.le_trans drop_len (by omega), HS.out.ix, by rw [drop_on]; exact HS.out.iy, HS.out.below⟩
          case measure => show m - (Int.toNat ((j : Int) + 1)) < m - (Int.toNat (j : Int)); omega
        · have HQ := Lib.hid (show ∀ V, Calls Try.prog 22 #[.agg #[.int .i64 K, .int .u32 fo, .int .i64 s, .int .u64 g, .int .i64 c]] V fun e w' => e = .returned (.int .i64 3) ∧ Below V.heap.size V w' from fun V => by have h := kind_any K fo s g c V; rw [hq] at h; exact h)
          go_wp2_with (first
            | (go_at_call 22; refine (HQ.out _).mono ?_; rintro e v ⟨rfl, hb⟩; have HS := Lib.hid (HS.out.next hb); obtain ⟨c0, c1, c2, c3, c4⟩ := HS.out.cells; clear hb))
          go_roundw
          case rel => exact ⟨j + 1, es, by simp, by omega, by omega, HS.out.ix, HS.out.iy, HS.out.below⟩
          case measure => show m - (Int.toNat ((j : Int) + 1)) < m - (Int.toNat (j : Int)); omega
      · have hne : ((fo : Int) != (f : Int)) = true := by simp; omega
        obtain hq | hq | hq | hq : kindN K = 0 ∨ kindN K = 1 ∨ kindN K = 2 ∨ kindN K = 3 := by omega
        · have HQ := Lib.hid (show ∀ V, Calls Try.prog 22 #[.agg #[.int .i64 K, .int .u32 fo, .int .i64 s, .int .u64 g, .int .i64 c]] V fun e w' => e = .returned (.int .i64 0) ∧ Below V.heap.size V w' from fun V => by have h := kind_any K fo s g c V; rw [hq] at h; exact h)
          go_wp2_with (first
            | (go_at_call 22; refine (HQ.out _).mono ?_; rintro e v ⟨rfl, hb⟩; have HS := Lib.hid (HS.out.next hb); obtain ⟨c0, c1, c2, c3, c4⟩ := HS.out.cells; clear hb)
            | (go_at_call 18; (with_reducible refine (add_ixU HS.out.ix fo hfo' rfl).mono ?_); rintro e v ⟨rfl, hi, hk⟩; have HS := Lib.hid (HS.out.onX hi hk); obtain ⟨c0, c1, c2, c3, c4⟩ := HS.out.cells; clear hi hk)
            | (go_at_call 18; (with_reducible refine (add_ixU HS.out.iy fo hfo' rfl).mono ?_); rintro e v ⟨rfl, hi, hk⟩; have HS := Lib.hid (HS.out.onY hi hk); obtain ⟨c0, c1, c2, c3, c4⟩ := HS.out.cells; clear hi hk))
          go_roundw
          case rel => exact ⟨j + 1, (addE 1024 es ((fo : Int), s, g, c)).1, by simp, by omega, Nat.le_trans (add_len hes2) (by omega), HS.out.ix, by rw [add_off hes2 (by simp only []; omega)]; exact HS.out.iy, HS.out.below⟩
          case measure => show m - (Int.toNat ((j : Int) + 1)) < m - (Int.toNat (j : Int)); omega
        · have HQ := Lib.hid (show ∀ V, Calls Try.prog 22 #[.agg #[.int .i64 K, .int .u32 fo, .int .i64 s, .int .u64 g, .int .i64 c]] V fun e w' => e = .returned (.int .i64 1) ∧ Below V.heap.size V w' from fun V => by have h := kind_any K fo s g c V; rw [hq] at h; exact h)
          go_wp2_with (first
            | (go_at_call 22; refine (HQ.out _).mono ?_; rintro e v ⟨rfl, hb⟩; have HS := Lib.hid (HS.out.next hb); obtain ⟨c0, c1, c2, c3, c4⟩ := HS.out.cells; clear hb)
            | (go_at_call 20; (with_reducible refine (remove_ixU HS.out.ix fo rfl).mono ?_); rintro e v ⟨rfl, hi, hk⟩; have HS := Lib.hid (HS.out.onX hi hk); obtain ⟨c0, c1, c2, c3, c4⟩ := HS.out.cells; clear hi hk)
            | (go_at_call 20; (with_reducible refine (remove_ixU HS.out.iy fo rfl).mono ?_); rintro e v ⟨rfl, hi, hk⟩; have HS := Lib.hid (HS.out.onY hi hk); obtain ⟨c0, c1, c2, c3, c4⟩ := HS.out.cells; clear hi hk))
          go_roundw
          case rel => exact ⟨j + 1, (remE es ((fo : Int), s, g, c)).1, by simp, by omega, Nat.le_trans rem_len (by omega), HS.out.ix, by rw [rem_off (by simp only []; omega)]; exact HS.out.iy, HS.out.below⟩
          case measure => show m - (Int.toNat ((j : Int) + 1)) < m - (Int.toNat (j : Int)); omega
        · have HQ := Lib.hid (show ∀ V, Calls Try.prog 22 #[.agg #[.int .i64 K, .int .u32 fo, .int .i64 s, .int .u64 g, .int .i64 c]] V fun e w' => e = .returned (.int .i64 2) ∧ Below V.heap.size V w' from fun V => by have h := kind_any K fo s g c V; rw [hq] at h; exact h)
          go_wp2_with (first
            | (go_at_call 22; refine (HQ.out _).mono ?_; rintro e v ⟨rfl, hb⟩; have HS := Lib.hid (HS.out.next hb); obtain ⟨c0, c1, c2, c3, c4⟩ := HS.out.cells; clear hb)
            | (go_at_call 21; (with_reducible refine (drop_ix HS.out.ix g).mono ?_); rintro e v ⟨rfl, hi, hk⟩; have HS := Lib.hid (HS.out.onX hi hk); obtain ⟨c0, c1, c2, c3, c4⟩ := HS.out.cells; clear hi hk)
            | (go_at_call 21; (with_reducible refine (drop_ix HS.out.iy g).mono ?_); rintro e v ⟨rfl, hi, hk⟩; have HS := Lib.hid (HS.out.onY hi hk); obtain ⟨c0, c1, c2, c3, c4⟩ := HS.out.cells; clear hi hk))
          go_roundw
          case rel => exact ⟨j + 1, es, by simp, by omega, by omega, HS.out.ix, HS.out.iy, HS.out.below⟩
          case measure => show m - (Int.toNat ((j : Int) + 1)) < m - (Int.toNat (j : Int)); omega
        · have HQ := Lib.hid (show ∀ V, Calls Try.prog 22 #[.agg #[.int .i64 K, .int .u32 fo, .int .i64 s, .int .u64 g, .int .i64 c]] V fun e w' => e = .returned (.int .i64 3) ∧ Below V.heap.size V w' from fun V => by have h := kind_any K fo s g c V; rw [hq] at h; exact h)
          go_wp2_with (first
            | (go_at_call 22; refine (HQ.out _).mono ?_; rintro e v ⟨rfl, hb⟩; have HS := Lib.hid (HS.out.next hb); obtain ⟨c0, c1, c2, c3, c4⟩ := HS.out.cells; clear hb))
          go_roundw
          case rel => exact ⟨j + 1, es, by simp, by omega, by omega, HS.out.ix, HS.out.iy, HS.out.below⟩
          case measure => show m - (Int.toNat ((j : Int) + 1)) < m - (Int.toNat (j : Int)); omega
    · obtain rfl : j = m := by omega
      have hlx := HX.out.len
      have hly := HY.out.len
      go_wp2_with fail
      refine (find_ix HX.out f).mono ?_
      rintro e v1 ⟨⟨u1, rfl, hu1⟩, hb1⟩
      obtain ⟨A1, cap1, rfl⟩ := ownsRow_slice hu1
      obtain ⟨A1', cap1', e1, _, _, hr1⟩ := Adr.rowZ_own hu1 rfl rfl
      injection e1 with e1 _ e1c
      subst e1 e1c
      have HR1 := Lib.hid hr1
      have HY1 := Lib.hid (HY.out.below hb1 HY.out.lt)
      have HX1 := Lib.hid (HX.out.below hb1 HX.out.lt)
      have HBB1 := Lib.hid (HB.out.trans (hb1.mono HB.out.size))
      clear hu1 hr1 hb1
      go_wp2_with fail
      refine (find_ix HY1.out f).mono ?_
      rintro e v2 ⟨⟨u2, rfl, hu2⟩, hb2⟩
      obtain ⟨A2, cap2, rfl⟩ := ownsRow_slice hu2
      obtain ⟨A2', cap2', e2, _, _, hr2⟩ := Adr.rowZ_own hu2 rfl rfl
      injection e2 with e2 _ e2c
      subst e2 e2c
      have HR2 := Lib.hid hr2
      have HR12 := Lib.hid (HR1.out.below hb2 (fun b h => h.2))
      have HY2 := Lib.hid (HY1.out.below hb2 HY1.out.lt)
      have HX2 := Lib.hid (HX1.out.below hb2 HX1.out.lt)
      have HBB2 := Lib.hid (HBB1.out.trans (hb2.mono HBB1.out.size))
      clear hu2 hr2 hb2
      go_wp2_with fail
      have hfl : (findE es f).length ≤ 1000000 := by
        rw [← find_on, find_on_len]
        omega
      refine (same_yes HR12.out HR2.out find_on.symm hfl).mono ?_
      rintro e v3 ⟨rfl, hk3⟩
      have HY3 := Lib.hid (HY2.out.kept hk3 trivial)
      have HX3 := Lib.hid (HX2.out.kept hk3 trivial)
      have HBB3 := Lib.hid (HBB2.out.trans (hk3.to_below (B := w.heap.size) (fun _ _ => trivial)))
      clear hk3
      go_wp2_with fail
      refine (len_e HY3.out).mono ?_
      rintro e v4 ⟨rfl, rfl⟩
      go_wp2_with fail
      refine (find_ix HY3.out f).mono ?_
      rintro e v5 ⟨⟨u5, rfl, hu5⟩, hb5⟩
      obtain ⟨A5, cap5, rfl⟩ := ownsRow_slice hu5
      have HX5 := Lib.hid (HX3.out.below hb5 HX3.out.lt)
      have HBB5 := Lib.hid (HBB3.out.trans (hb5.mono HBB3.out.size))
      clear hu5 hb5
      rw [find_on_len]
      go_wp2_with fail
      refine (len_e HX5.out).mono ?_
      rintro e v6 ⟨rfl, rfl⟩
      go_wp2_with fail
      refine (left_e HX5.out).mono ?_
      rintro e v7 ⟨rfl, hk7⟩
      have HBB7 := Lib.hid (HBB5.out.trans (hk7.to_below (B := w.heap.size) (fun _ _ => trivial)))
      clear hk7
      have hsum : ((es.length : Nat) : Int) + ((1024 - es.length : Nat) : Int) = 1024 := by omega
      obtain ⟨p, hp⟩ : ∃ p, (1024 - es.length : Nat) = p := ⟨_, rfl⟩
      rw [hp] at hsum ⊢
      have hp2 : p ≤ 1024 := by omega
      clear hp
      go_wp2
      go_ret
      exact ⟨rfl, HBB7.out⟩
end Go.Proofs.Ytfgmbkflpdobcaa
