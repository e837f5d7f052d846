/- IndexFills, given what agree answers. -/
import Derived.Test.YtfgmbkflpdobcaaDoesW
namespace Go.Proofs.Ytfgmbkflpdobcaa
open Go.RowKit
attribute [local go_sem] Oper.semAt_some
set_option linter.unusedVariables false
set_option linter.unusedSimpArgs false
open EntM (RowE entV ent0)
def eF (i : Nat) : Ent := (((i % 11 : Nat) : Int), (((i % 5 : Nat) : Int), (((i % 7 : Nat) : Int) + 1), (i : Int)))
def lF (m : Nat) : List Ent := (List.range m).map eF
theorem lF_len (m : Nat) : (lF m).length = m := by simp [lF]
theorem lF_succ (m : Nat) : lF (m + 1) = lF m ++ [eF m] := by simp [lF, List.range_succ]
theorem fills_add {slots i : Nat} (h : i < slots) : addE slots (lF i) (eF i) = (lF (i + 1), 0) := by
  unfold addE
  rw [if_neg, if_neg (by rw [lF_len]; omega), lF_succ]
  intro hm
  obtain ⟨j, hj, e⟩ := List.mem_map.1 hm
  have h1 := List.mem_range.1 hj
  have h2 : (j : Int) = (i : Int) := congrArg (fun e : Ent => e.2.2.2) e
  omega
theorem fills_full (slots : Nat) : addE slots (lF slots) (((2147483648 : Nat) : Int), (0, 0, 0)) = (lF slots, 6) := by
  unfold addE
  rw [if_neg, if_pos (lF_len ..)]
  intro hm
  obtain ⟨j, hj, e⟩ := List.mem_map.1 hm
  have h2 : ((j % 11 : Nat) : Int) = ((2147483648 : Nat) : Int) := congrArg (fun e : Ent => e.1) e
  omega
/-- A row of the call's own is no block of an index, nor of the document's. -/
theorem ys_own {V : World} {x p slots base n : Nat} {es : List Ent} {v : Value} (hx : IxE V x slots es) (hp : Blk V p 31 #[.int .i64 slots, v]) (ho : V.ownsRow base 49 4 v n (EntM.flatG es)) (hn : es.length = n) : YS x p slots es V := by
  obtain ⟨A, cap, rfl, _, hA, hrow⟩ := EntM.rowZ_own ho rfl hn
  refine ⟨A, n, cap, hp, ⟨hn, fun h0 => ?_⟩, hA⟩
  obtain ⟨b, off, e, hb, hc⟩ := hrow.2 h0
  subst e
  obtain ⟨cur, hh, _⟩ := ownsRow_block ho (g := b) rfl
  have hblk : Blk V b 49 cur := hh
  exact ⟨b, off, rfl, ⟨hblk.lt, hx.ne_blk hblk (by decide), Blk.ne_ hblk hp (by decide)⟩, hc⟩
theorem IxE.past {w w' : World} {x slots base size n : Nat} {es : List Ent} {v : Value} {xs : List Value} {e : TypeId} (h : IxE w x slots es) (ho : w.ownsRow base e size v n xs) (hne : 62 ≠ e) (hg : w.grownBy w' v.ownBlock) : IxE w' x slots es := by
  obtain ⟨c, L, fr, h1, h2, h3⟩ := h
  exact ⟨c, L, fr, blk_past h1 ho hne hg, h2, h3⟩
set_option maxRecDepth 100000 in
set_option maxHeartbeats 8000000 in
theorem fills_law (hag : AgreeC) {A : Option Addr} {n cap : Nat} {z : List OpE} (a0 : Int) {w : World} (ho : IsOps w A n cap z) :
    Calls Try.prog 4 #[.int .i64 a0, .slice A n cap] w fun e w' => e = .returned (.bool true) ∧ Below w.heap.size w w' := by
  obtain ⟨m, hm⟩ : ∃ m, m = min n 200 := ⟨_, rfl⟩
  have HO := Lib.hid ho
  have hm200 : m ≤ 200 := by omega
  have hmn : m ≤ n := by omega
  have HFEW := Lib.hid (few_any A n cap m hm ho.nc ho.nA)
  clear ho hm
  go_enter Try.func4, Try.ntmps4
  go_wp2_with fail
  refine (wakes10 _).mono ?_
  rintro e w1 ⟨rfl, hb1⟩
  have HB1 := Lib.hid hb1
  clear hb1
  by_cases hbad : a0 < 1 ∨ 1024 < a0
  case pos =>
    go_wp2_with fail
    refine (new_bad a0 hbad _).mono ?_
    rintro e w2 ⟨rfl, rfl⟩
    rcases hbad with h | h
    · go_wp2
      go_ret
      exact ⟨rfl, HB1.out⟩
    · have h1 : ¬ a0 < 1 := by omega
      go_wp2
      go_ret
      exact ⟨rfl, HB1.out⟩
  obtain ⟨slots, rfl⟩ : ∃ s : Nat, a0 = s := ⟨a0.toNat, by omega⟩
  have hn1 : 1 ≤ slots := by omega
  have hn2 : slots ≤ 1024 := by omega
  have q1 : ((slots : Int) < 1) = False := by simp; omega
  go_wp2_with fail
  refine (new_ok slots hn1 hn2 _).mono ?_
  rintro e w2 ⟨x, rfl, hix, hb2, hx⟩
  have hxl := hix.lt
  have hxw : w.heap.size ≤ x := Nat.le_trans HB1.out.size hx
  have HX2 := Lib.hid hix
  have HB2 := Lib.hid (HB1.out.trans (hb2.mono HB1.out.size))
  clear hb2 hix hx hbad
  go_wp2_with fail
  refine (len_e HX2.out).mono ?_
  rintro e w3 ⟨rfl, rfl⟩
  go_wp2_with fail
  refine (left_e HX2.out).mono ?_
  rintro e w4 ⟨rfl, hk4⟩
  have HX4 := Lib.hid (HX2.out.kept hk4 trivial)
  have HB4 := Lib.hid (HB2.out.trans (hk4.to_below (B := w.heap.size) (fun _ _ => trivial)))
  have hs4 := hk4.size
  clear hk4
  rw [show (slots - ([] : List Ent).length : Nat) = slots from rfl]
  have ha := (Below.refl w4.heap.size w4).alloc (Nat.le_refl _) (.cells #[.int .i64 slots, .slice none 0 0] 31)
  have HX5 := Lib.hid (HX4.out.below ha HX4.out.lt)
  have HB5 := Lib.hid (HB4.out.alloc HB4.out.size (.cells #[.int .i64 slots, .slice none 0 0] 31))
  have HP5 := Lib.hid (Blk.new w4 31 #[.int .i64 slots, .slice none 0 0])
  have hpw : w.heap.size ≤ w4.heap.size := HB4.out.size
  have hpx : w4.heap.size ≠ x := by omega
  clear ha
  go_wp2_with fail
  go_loopw [51] (fun i wr => ∃ (j : Nat) (v : Value), i = .int .i64 j ∧ j ≤ slots ∧ IxE wr x slots (lF j) ∧ Blk wr w4.heap.size 31 #[.int .i64 slots, v] ∧ wr.ownsRow w.heap.size 49 4 v j (EntM.flatG (lF j)) ∧ Below w.heap.size w wr) (fun i _ => slots - (intOf i).toNat)
  case atStart => exact ⟨0, .slice none 0 0, rfl, Nat.zero_le _, HX5.out, HP5.out, World.ownsRow_nil _ _ _ _, HB5.out⟩
  case round =>
    obtain ⟨j, v, rfl, hj, hX, hP, hown, hB⟩ := hrel
    have HX := Lib.hid hX
    have HP := Lib.hid hP
    have HOW := Lib.hid hown
    have HB := Lib.hid hB
    clear hX hP hown hB
    by_cases hjs : j < slots
    · have ha := (Below.refl wr.heap.size wr).alloc (Nat.le_refl _) (.cells #[.int .i64 ((j : Int) % 5), .int .u64 ((j : Int) % 7 + 1), .int .i64 j] 36)
      have hka := Blk.new wr 36 #[.int .i64 ((j : Int) % 5), .int .u64 ((j : Int) % 7 + 1), .int .i64 j]
      have hsa : (wr.alloc (.cells #[.int .i64 ((j : Int) % 5), .int .u64 ((j : Int) % 7 + 1), .int .i64 j] 36)).heap.size = wr.heap.size + 1 := by simp
      have c0 := hka.cell 0
      have c1 := hka.cell 1
      have c2 := hka.cell 2
      have hxr := HX.out.lt
      have hpr := HP.out.lt
      have hbr := HB.out.size
      have HXa := Lib.hid (HX.out.below ha hxr)
      have HPa := Lib.hid (HP.out.below ha hpr)
      have HOa := Lib.hid (own_alloc HOW.out (.cells #[.int .i64 ((j : Int) % 5), .int .u64 ((j : Int) % 7 + 1), .int .i64 j] 36))
      have HBa := Lib.hid (HB.out.trans (ha.mono hbr))
      have HKa := Lib.hid hka
      clear ha hka
      go_wp2_with fail
      refine (add_ixU HXa.out (j % 11) (by omega) (by omega)).mono ?_
      rintro e w6 ⟨he, hx6, hk6⟩
      have hE : ((((j % 11 : Nat) : Int)), ((j : Int) % 5, (j : Int) % 7 + 1, (j : Int))) = eF j := by unfold eF; simp
      rw [hE, fills_add hjs] at he hx6
      obtain rfl := he
      have HX6 := Lib.hid hx6
      have hk := HKa.out.kept hk6 ⟨by omega, by omega⟩
      have hp := HPa.out.kept hk6 ⟨by omega, hpx⟩
      have d0 := hk.cell 0
      have d1 := hk.cell 1
      have d2 := hk.cell 2
      have e0 := hp.cell 1
      have ef := hp.frozen 1
      have HP6 := Lib.hid hp
      have HB6 := Lib.hid (below_ix HBa.out hxw HBa.out.size hk6)
      have HO6 := Lib.hid (show w6.ownsRow w.heap.size 49 4 v j (EntM.flatG (lF j)) by
        rcases HOa.out.2 with h0 | ⟨g', cap', cur, rfl, hb', hh, rest⟩
        · exact ⟨HOa.out.1, .inl h0⟩
        · have hblk : Blk (wr.alloc (.cells #[.int .i64 ((j : Int) % 5), .int .u64 ((j : Int) % 7 + 1), .int .i64 j] 36)) g' 49 cur := hh
          exact ⟨HOa.out.1, .inr ⟨g', cap', cur, rfl, hb', (hk6.block g' ⟨hblk.lt, HXa.out.ne_blk hblk (by decide)⟩).trans hh, rest⟩⟩)
      have hs6 := HB6.out.size
      have hE2 : [((j : Int) % 11, (j : Int) % 5, (j : Int) % 7 + 1, (j : Int))] = [eF j] := by unfold eF; simp
      have HE2 := Lib.hid hE2
      clear hx6 hk6 hk hp c0 c1 c2 hE hE2
      go_wp2_with (first
        | (refine wpList_litE (.tmp 75) rfl rfl ((j : Int) % 11, (j : Int) % 5, (j : Int) % 7 + 1, (j : Int)) rfl ?_; intro w7 hlit hw7; have HLIT := Lib.hid hlit; have hb67 := (show Below w6.heap.size w6 w7 by rw [hw7]; exact (Below.refl _ _).alloc (Nat.le_refl _) _); have HO7 := Lib.hid (show w7.ownsRow w.heap.size 49 4 v j (EntM.flatG (lF j)) by rw [hw7]; exact own_alloc HO6.out _); have HP7 := Lib.hid (HP6.out.below hb67 HP6.out.lt); have HX7 := Lib.hid (HX6.out.below hb67 HX6.out.lt); have HB7 := Lib.hid (HB6.out.trans (hb67.mono hs6)); have hs7 : w.heap.size ≤ w7.heap.size := HB7.out.size; clear hlit hw7 hb67)
        | (at_builtin; refine EntM.wpList_append_rowZ (.tmp 70) (.tmp 76) rfl rfl w.heap.size v j _ rfl HO7.out _ _ 1 1 [((j : Int) % 11, (j : Int) % 5, (j : Int) % 7 + 1, (j : Int))] rfl HLIT.out (fun h => by cases h) (by omega) hs7 ?_; intro v8 w8 hown hgrow _; rw [HE2.out, ← EntM.flatG_append, ← lF_succ] at hown; obtain ⟨A8, c8, hv8⟩ := ownsRow_slice hown; subst hv8; have hp8 := (blk_past HP7.out HO7.out (by decide) hgrow); have e8 := hp8.cell 1; have ef8 := hp8.frozen 1; have HO8 := Lib.hid hown; have HP8 := Lib.hid hp8; have HX8 := Lib.hid (HX7.out.past HO7.out (by decide) hgrow); have HB8 := Lib.hid (below_append HB7.out HO7.out (Nat.le_refl _) hs7 hgrow); clear hown hgrow hp8))
      go_roundw
      case rel => exact ⟨j + 1, _, by simp, by omega, HX8.out.kept (S := fun b => b ≠ w4.heap.size) ((Kept.refl _ w8).setCell (p := ⟨w4.heap.size, 1, none⟩) (fun h => h rfl) _) hpx.symm, HP8.out.set_ 1 _, own_past HO8.out HP8.out (by decide) 1 _, HB8.out.setCell (p := ⟨w4.heap.size, 1, none⟩) hpw _⟩
      case measure => show slots - (Int.toNat ((j : Int) + 1)) < slots - (Int.toNat (j : Int)); omega
    · obtain rfl : j = slots := by omega
      go_wp2_with fail
      refine (add_ixU HX.out 2147483648 (by omega) rfl).mono ?_
      rintro e w6 ⟨he, hx6, hk6⟩
      rw [fills_full] at he hx6
      obtain rfl := he
      have HX6 := Lib.hid hx6
      have HB6 := Lib.hid (below_ix HB.out hxw HB.out.size hk6)
      have HY6 := Lib.hid ((ys_own HX.out HP.out HOW.out (lF_len _)).keptX hk6 hpx)
      clear hx6 hk6
      go_wp2_with fail
      refine (HFEW.out _).mono ?_
      rintro e w7 ⟨rfl, rfl⟩
      go_wp2_with fail
      go_loopw [87] (fun i wr => ∃ (k : Nat) (es : List Ent), i = .int .i64 k ∧ k ≤ m ∧ IxE wr x j es ∧ YS x w4.heap.size j es wr ∧ Below w.heap.size w wr) (fun i _ => m - (intOf i).toNat)
      case atStart => exact ⟨0, _, rfl, Nat.zero_le _, HX6.out, HY6.out, HB6.out⟩
      case round =>
        obtain ⟨k, es, rfl, hk, hX9, hY9, hB9⟩ := hrel
        have HX9 := Lib.hid hX9
        have HY9 := Lib.hid hY9
        have HB9 := Lib.hid hB9
        clear hX9 hY9 hB9
        by_cases hkm : k < m
        · obtain ⟨b, off, rfl, _, hcells⟩ := HO.out.row.2 (by omega)
          obtain ⟨⟨K, fo, s, g, c⟩, hoe⟩ : ∃ o, z.getD k op0 = o := ⟨_, rfl⟩
          have hfo := HO.out.fin k (by omega)
          have hrow := (HO.out.row.below HB9.out (fun b h => h))
          obtain ⟨b', off', e', _, hcells'⟩ := hrow.2 (by omega)
          injection e' with e'
          injection e' with eb eo
          subst eb eo
          have hc := hcells' k (by omega)
          rw [hoe] at hc hfo
          have p0 : wr.cell? ⟨b, off + k * 5, none⟩ = some (.int .i64 K) := hc 0 _ rfl
          have p1 : wr.cell? ⟨b, off + k * 5 + 1, none⟩ = some (.int .u32 (fo : Nat)) := hc 1 _ rfl
          have p2 : wr.cell? ⟨b, off + k * 5 + 2, none⟩ = some (.int .i64 s) := hc 2 _ rfl
          have p3 : wr.cell? ⟨b, off + k * 5 + 3, none⟩ = some (.int .u64 g) := hc 3 _ rfl
          have p4 : wr.cell? ⟨b, off + k * 5 + 4, none⟩ = some (.int .i64 c) := hc 4 _ rfl
          have hfo' : fo < 4294967296 := hfo
          clear hcells hcells' hrow hc hfo hoe
          have ha := (Below.refl wr.heap.size wr).alloc (Nat.le_refl _) (.cells #[.int .i64 K, .int .u32 fo, .int .i64 s, .int .u64 g, .int .i64 c] 38)
          have HXa := Lib.hid (HX9.out.below ha HX9.out.lt)
          have HYa := Lib.hid (HY9.out.below ha)
          have hsa : (wr.alloc (.cells #[.int .i64 K, .int .u32 fo, .int .i64 s, .int .u64 g, .int .i64 c] 38)).heap.size = wr.heap.size + 1 := by simp
          have HBa := Lib.hid (HB9.out.trans (ha.mono HB9.out.size))
          have hOa := Blk.new wr 38 #[.int .i64 K, .int .u32 fo, .int .i64 s, .int .u64 g, .int .i64 c]
          have c0 := hOa.cell 0
          have c1 := hOa.cell 1
          have c2 := hOa.cell 2
          have c3 := hOa.cell 3
          have c4 := hOa.cell 4
          have hwr := HB9.out.size
          clear ha hOa
          by_cases h40 : k = 40
          · subst h40
            obtain ⟨wv, hwv⟩ : ∃ wv, wv = wr.alloc (.cells #[.int .i64 K, .int .u32 fo, .int .i64 s, .int .u64 g, .int .i64 c] 38) := ⟨_, rfl⟩
            have hya := HYa.out
            obtain ⟨A9, n9, cap9, hp9, hr9, _⟩ := hya
            have d0 := hp9.cell 0
            have d1 := hp9.cell 1
            have HR9 := Lib.hid (hr9.more (T := fun b => b < (wr.alloc (.cells #[.int .i64 K, .int .u32 fo, .int .i64 s, .int .u64 g, .int .i64 c] 38)).heap.size) (fun b h => h.1))
            clear hp9 hr9 hwv
            go_wp2_with fail
            refine (hag _ x j es A9 n9 cap9 HXa.out HR9.out).mono ?_
            rintro e wz ⟨rfl, hbz⟩
            have HBZ := Lib.hid (HBa.out.trans (hbz.mono (by omega)))
            clear hbz
            go_wp2
            go_ret
            exact ⟨rfl, HBZ.out⟩
          · have q40 : ((k : Int) == 40) = false := by simp; omega
            go_wp2_with fail
            refine (does_any HXa.out HYa.out hpx K fo s g c hfo').mono ?_
            rintro e w5 ⟨rfl, hx5, hy5, hk5⟩
            have HX5 := Lib.hid hx5
            have HY5 := Lib.hid hy5
            have HB5 := Lib.hid (HBa.out.trans (hk5.to_below (B := w.heap.size) (fun b hb => ⟨by omega, by omega, by omega⟩)))
            clear hx5 hy5 hk5 c0 c1 c2 c3 c4 p0 p1 p2 p3 p4
            go_wp2
            go_roundw
            case rel => exact ⟨k + 1, _, by simp, by omega, HX5.out, HY5.out, HB5.out⟩
            case measure => show m - (Int.toNat ((k : Int) + 1)) < m - (Int.toNat (k : Int)); omega
        · obtain rfl : k = m := by omega
          obtain ⟨A9, n9, cap9, hp9, hr9, _⟩ := HY9.out
          have d0 := hp9.cell 0
          have d1 := hp9.cell 1
          have HR9 := Lib.hid (hr9.more (T := fun b => b < wr.heap.size) (fun b h => h.1))
          clear hp9 hr9
          go_wp2_with fail
          refine (hag wr x j es A9 n9 cap9 HX9.out HR9.out).mono ?_
          rintro e wz ⟨rfl, hbz⟩
          have HBZ := Lib.hid (HB9.out.trans (hbz.mono HB9.out.size))
          clear hbz
          go_wp2
          go_ret
          exact ⟨rfl, HBZ.out⟩
end Go.Proofs.Ytfgmbkflpdobcaa
