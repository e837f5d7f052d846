/- IndexDoes, given what agree answers. MADE by mkdoesw.py out of XDoesW.head. -/
import Derived.Test.YtfgmbkflpdobcaaDoes
import Derived.Test.YtfgmbkflpdobcaaApartW
import Derived.Test.YtfgmbkflpdobcaaRefB
import Derived.Test.YtfgmbkflpdobcaaSameA
namespace Go.Proofs.Ytfgmbkflpdobcaa
open Go.RowKit
attribute [local go_sem] Oper.semAt_some
set_option linter.unusedVariables false
set_option linter.unusedSimpArgs false
open EntM (RowE entV ent0)
abbrev dw0 : Oper := { dst := some 47, op := Go.Op.move (Go.Operand.tmp 5), type := 25, pos := "law.go:120", after := #[], guard := none }
abbrev dw1 : Oper := { dst := some 48, op := Go.Op.fieldAddr 38 (Go.Operand.tmp 9) 1, type := 0, pos := "law.go:120", after := #[], guard := none }
abbrev dw2 : Oper := { dst := some 49, op := Go.Op.load 33 (Go.Operand.tmp 48), type := 33, pos := "law.go:120", after := #[{ on := 1, ground := Go.Ground.data }], guard := none }
abbrev dw3 : Oper := { dst := some 50, op := Go.Op.call { callee := Go.Callee.value (Go.Operand.func 14), args := #[Go.Operand.tmp 47, Go.Operand.tmp 49], argTypes := #[25, 33] }, type := 43, pos := "law.go:120", after := #[{ on := 0, ground := Go.Ground.data }, { on := 2, ground := Go.Ground.data }], guard := none }
abbrev dw4 : Oper := { dst := some 51, op := Go.Op.load 31 (Go.Operand.tmp 7), type := 31, pos := "law.go:120", after := #[], guard := none }
abbrev dw5 : Oper := { dst := some 52, op := Go.Op.fieldAddr 38 (Go.Operand.tmp 9) 1, type := 0, pos := "law.go:120", after := #[], guard := none }
abbrev dw6 : Oper := { dst := some 53, op := Go.Op.load 33 (Go.Operand.tmp 52), type := 33, pos := "law.go:120", after := #[{ on := 5, ground := Go.Ground.data }], guard := none }
abbrev dw7 : Oper := { dst := some 54, op := Go.Op.call { callee := Go.Callee.value (Go.Operand.func 15), args := #[Go.Operand.tmp 51, Go.Operand.tmp 53], argTypes := #[31, 33] }, type := 43, pos := "law.go:120", after := #[{ on := 4, ground := Go.Ground.data }, { on := 6, ground := Go.Ground.data }, { on := 3, ground := Go.Ground.chain }], guard := none }
abbrev dw8 : Oper := { dst := some 55, op := Go.Op.call { callee := Go.Callee.value (Go.Operand.func 13), args := #[Go.Operand.tmp 50, Go.Operand.tmp 54], argTypes := #[43, 43] }, type := 4, pos := "law.go:120", after := #[{ on := 3, ground := Go.Ground.data }, { on := 7, ground := Go.Ground.data }, { on := 7, ground := Go.Ground.chain }], guard := none }
abbrev dw9 : Oper := { dst := some 56, op := Go.Op.unOp Go.UnOp.not 4 (Go.Operand.tmp 55), type := 4, pos := "law.go:120", after := #[{ on := 8, ground := Go.Ground.data }], guard := none }
/-- What agree answers of two that agree. (Not proved yet.) -/
def AgreeC : Prop := ∀ (w : World) (x slots : Nat) (es : List Ent) (A : Option Addr) (n cap : Nat), IxE w x slots es → RowE w (fun b => b < w.heap.size) A n es →
  Calls Try.prog 12 #[.pointer (some ⟨x, 0, none⟩), refV slots A n cap] w fun e w' => e = .returned (.bool true) ∧ Below w.heap.size w w'
theorem slots12 (a : Int) : ∃ n : Nat, wrap64 (1 + wrap64 ((IntKind.u64.wrap a).tmod 12)) = n ∧ 1 ≤ n ∧ n ≤ 12 := by
  have h0 : 0 ≤ IntKind.u64.wrap a := wrap_u64_nonneg a
  have h1 : (IntKind.u64.wrap a).tmod 12 = (IntKind.u64.wrap a) % 12 := Int.tmod_eq_emod_of_nonneg h0
  rw [h1]
  obtain ⟨r, hr⟩ : ∃ r, IntKind.u64.wrap a % 12 = r := ⟨_, rfl⟩
  have h2 : 0 ≤ r ∧ r < 12 := by omega
  rw [hr, IntWalk.wrap64_in r (by omega), IntWalk.wrap64_in (1 + r) (by omega)]
  exact ⟨(1 + r).toNat, by omega, by omega, by omega⟩
theorem IxE.ne_blk {x slots g : Nat} {es : List Ent} {V : World} {t : TypeId} {cs : Array Value} (h : IxE V x slots es) (hb : Blk V g t cs) (ht : t ≠ 62) : g ≠ x := by
  obtain ⟨c, L, fr, h1, _⟩ := h
  exact Blk.ne_ hb h1 ht
set_option maxRecDepth 100000 in
set_option maxHeartbeats 8000000 in
theorem does_law (hag : AgreeC) {A : Option Addr} {n cap : Nat} {z : List OpE} (a0 : Int) {w : World} (ho : IsOps w A n cap z) :
    Calls Try.prog 3 #[.int .i64 a0, .slice A n cap] w fun e w' => e = .returned (.bool true) ∧ Below w.heap.size w w' := by
  obtain ⟨slots, hn, hn1, hn2⟩ := slots12 a0
  obtain ⟨m, hm⟩ : ∃ m, m = min n 200 := ⟨_, rfl⟩
  have HO := Lib.hid ho
  have hm200 : m ≤ 200 := by omega
  have hmn : m ≤ n := by omega
  have HFEW := Lib.hid (few_any A n cap m hm ho.nc ho.nA)
  clear ho hm
  go_enter Try.func3, Try.ntmps3
  go_wp2_with fail
  refine (wakes10 _).mono ?_
  rintro e w1 ⟨rfl, hb1⟩
  have HB1 := Lib.hid hb1
  clear hb1
  go_wp2_with fail
  rw [hn]
  refine (new_ok slots hn1 (by omega) _).mono ?_
  rintro e w2 ⟨x, rfl, hix, hb2, hx⟩
  have hxl := hix.lt
  have hxw : w.heap.size ≤ x := Nat.le_trans HB1.out.size hx
  have hB2 := HB1.out.trans (hb2.mono HB1.out.size)
  have ha := (Below.refl w2.heap.size w2).alloc (Nat.le_refl _) (.cells #[.int .i64 slots, .slice none 0 0] 31)
  have HX3 := Lib.hid (hix.below ha hxl)
  have HB3 := Lib.hid (hB2.alloc hB2.size (.cells #[.int .i64 slots, .slice none 0 0] 31))
  have HP3 := Lib.hid (Blk.new w2 31 #[.int .i64 slots, .slice none 0 0])
  have hpw : w.heap.size ≤ w2.heap.size := hB2.size
  have hpx : w2.heap.size ≠ x := by omega
  clear hb2 hix hx hB2 ha
  go_wp2_with fail
  refine (HFEW.out _).mono ?_
  rintro e w4 ⟨rfl, rfl⟩
  go_wp2_with fail
  go_loopw [33] (fun i wr => ∃ (j : Nat) (es : List Ent), i = .int .i64 j ∧ j ≤ m ∧ IxE wr x slots es ∧ YS x w2.heap.size slots es wr ∧ Below w.heap.size w wr) (fun i _ => m - (intOf i).toNat)
  case atStart => exact ⟨0, [], rfl, Nat.zero_le _, HX3.out, ⟨none, 0, 0, HP3.out, RowQ.nil _ _ _ _ _ _, fun _ => rfl⟩, HB3.out⟩
  case round =>
    obtain ⟨j, es, rfl, hj, hX, hY, hB⟩ := hrel
    have HX := Lib.hid hX
    have HY := Lib.hid hY
    have HB := Lib.hid hB
    clear hX hY hB
    by_cases hjm : j < m
    · obtain ⟨b, off, rfl, _, hcells⟩ := HO.out.row.2 (by omega)
      obtain ⟨⟨K, fo, s, g, c⟩, hoe⟩ : ∃ o, z.getD j op0 = o := ⟨_, rfl⟩
      have hfo := HO.out.fin j (by omega)
      have hrow := (HO.out.row.below HB.out (fun b h => h))
      obtain ⟨b', off', e', _, hcells'⟩ := hrow.2 (by omega)
      injection e' with e'
      injection e' with eb eo
      subst eb eo
      have hc := hcells' j (by omega)
      rw [hoe] at hc hfo
      have p0 : wr.cell? ⟨b, off + j * 5, none⟩ = some (.int .i64 K) := hc 0 _ rfl
      have p1 : wr.cell? ⟨b, off + j * 5 + 1, none⟩ = some (.int .u32 (fo : Nat)) := hc 1 _ rfl
      have p2 : wr.cell? ⟨b, off + j * 5 + 2, none⟩ = some (.int .i64 s) := hc 2 _ rfl
      have p3 : wr.cell? ⟨b, off + j * 5 + 3, none⟩ = some (.int .u64 g) := hc 3 _ rfl
      have p4 : wr.cell? ⟨b, off + j * 5 + 4, none⟩ = some (.int .i64 c) := hc 4 _ rfl
      have hfo' : fo < 4294967296 := hfo
      clear hcells hcells' hrow hc hfo hoe
      have ha := (Below.refl wr.heap.size wr).alloc (Nat.le_refl _) (.cells #[.int .i64 K, .int .u32 fo, .int .i64 s, .int .u64 g, .int .i64 c] 38)
      have HXa := Lib.hid (HX.out.below ha HX.out.lt)
      have HYa := Lib.hid (HY.out.below ha)
      have hsa : (wr.alloc (.cells #[.int .i64 K, .int .u32 fo, .int .i64 s, .int .u64 g, .int .i64 c] 38)).heap.size = wr.heap.size + 1 := by simp
      have hba := HB.out.trans (ha.mono HB.out.size)
      have HBa := Lib.hid hba
      have hOa := Blk.new wr 38 #[.int .i64 K, .int .u32 fo, .int .i64 s, .int .u64 g, .int .i64 c]
      have c0 := hOa.cell 0
      have c1 := hOa.cell 1
      have c2 := hOa.cell 2
      have c3 := hOa.cell 3
      have c4 := hOa.cell 4
      have HOa := Lib.hid hOa
      have hxr := HX.out.lt
      have hpr := HY.out.lt
      have hwr := HB.out.size
      clear ha hOa hba
      go_wp2_with fail
      refine (does_any HXa.out HYa.out hpx K fo s g c hfo').mono ?_
      rintro e w5 ⟨rfl, hx5, hy5, hk5⟩
      have HX5 := Lib.hid hx5
      have HO5 := Lib.hid (HOa.out.kept hk5 ⟨by omega, by omega, by omega⟩)
      have HB5 := Lib.hid (HBa.out.trans (hk5.to_below (B := w.heap.size) (fun b hb => ⟨by omega, by omega, by omega⟩)))
      have hs5 := hk5.size
      have HYY := Lib.hid hy5
      obtain ⟨A', n', cap', hp5, hr5, hA5⟩ := hy5
      obtain ⟨es', hes'⟩ : ∃ e, doE slots es (kindN K) (fo, s, g, c) = e := ⟨_, rfl⟩
      rw [hes'] at HX5 HYY hr5
      have hlen := HX5.out.len
      have HP5 := Lib.hid hp5
      have HR5 := Lib.hid (hr5.more (T := fun b => b < w5.heap.size) (fun b h => h.1))
      have d0 := hp5.cell 0
      have d1 := hp5.cell 1
      have hn' : n' ≤ 1024 := by rw [← hr5.1]; omega
      clear hx5 hk5 hp5 hr5 c0 c1 c2 c3 c4 p0 p1 p2 p3 p4 hes'
      go_wp2_with fail
      refine (hag w5 x slots es' A' n' cap' HX5.out HR5.out).mono ?_
      rintro e w6 ⟨rfl, hb6⟩
      have HX6 := Lib.hid (HX5.out.below hb6 HX5.out.lt)
      have HY6 := Lib.hid (HYY.out.below hb6)
      have HPV := Lib.hid (HP5.out.below hb6 HP5.out.lt)
      have HOV := Lib.hid (HO5.out.below hb6 HO5.out.lt)
      have HR6 := Lib.hid ((HR5.out.below hb6 (fun b h => h)).more (T := fun b => b < w6.heap.size) (fun b h => Nat.lt_of_lt_of_le h hb6.size))
      have HB6 := Lib.hid (HB5.out.trans (hb6.mono HB5.out.size))
      clear hb6 d0 d1
      go_wp2_with fail
      refine wp_region_noPanic ?_
      refine Tillst.region (fun W => Blk W w2.heap.size 31 #[.int .i64 slots, .slice A' n' cap'] ∧ Blk W wr.heap.size 38 #[.int .i64 K, .int .u32 fo, .int .i64 s, .int .u64 g, .int .i64 c]) [] (by kernel_rfl) ⟨HPV.out, HOV.out⟩ (fun hHeld => ?_)
      have HBV := Lib.hid ((Below.refl w6.heap.size w6).drew)
      have HPV := Lib.hid (HPV.out.below HBV.out HPV.out.lt)
      have HOV := Lib.hid (HOV.out.below HBV.out HOV.out.lt)
      generalize w6.drew = vd at *
      refine Tillst.takeG (i := 0) (oi := dw0) (v := ?_) rfl (by kernel_rfl) (by kernel_rfl) (by kernel_rfl) (by kernel_rfl) (by kernel_rfl) (fun _ _ _ h => h) (by rfl) ?_ hHeld ?_
      rotate_left
      · intro W hSW; obtain ⟨s1, s2⟩ := hSW; have t0 := s1.cell 0; have t1 := s1.cell 1; have s4 := s2.cell 1; unfold dw0; go_simp; with_reducible rfl
      simp only [dw0, Act.put, List.setIfInBounds_toArray, List.set_cons_zero, List.set_cons_succ]
      refine Tillst.takeG (i := 1) (oi := dw1) (v := ?_) rfl (by kernel_rfl) (by kernel_rfl) (by kernel_rfl) (by kernel_rfl) (by kernel_rfl) (fun _ _ _ h => h) (by rfl) ?_ hHeld ?_
      rotate_left
      · intro W hSW; obtain ⟨s1, s2⟩ := hSW; have t0 := s1.cell 0; have t1 := s1.cell 1; have s4 := s2.cell 1; unfold dw1; go_simp; with_reducible rfl
      simp only [dw1, Act.put, List.setIfInBounds_toArray, List.set_cons_zero, List.set_cons_succ]
      refine Tillst.takeG (i := 2) (oi := dw2) (v := ?_) rfl (by kernel_rfl) (by kernel_rfl) (by kernel_rfl) (by kernel_rfl) (by kernel_rfl) (fun _ _ _ h => h) (by rfl) ?_ hHeld ?_
      rotate_left
      · intro W hSW; obtain ⟨s1, s2⟩ := hSW; have t0 := s1.cell 0; have t1 := s1.cell 1; have s4 := s2.cell 1; unfold dw2; go_simp; with_reducible rfl
      simp only [dw2, Act.put, List.setIfInBounds_toArray, List.set_cons_zero, List.set_cons_succ]
      refine Tillst.takeG (i := 4) (oi := dw4) (v := ?_) rfl (by kernel_rfl) (by kernel_rfl) (by kernel_rfl) (by kernel_rfl) (by kernel_rfl) (fun _ _ _ h => h) (by rfl) ?_ hHeld ?_
      rotate_left
      · intro W hSW; obtain ⟨s1, s2⟩ := hSW; have t0 := s1.cell 0; have t1 := s1.cell 1; have s4 := s2.cell 1; unfold dw4; go_simp; with_reducible rfl
      simp only [dw4, Act.put, List.setIfInBounds_toArray, List.set_cons_zero, List.set_cons_succ]
      refine Tillst.takeG (i := 5) (oi := dw5) (v := ?_) rfl (by kernel_rfl) (by kernel_rfl) (by kernel_rfl) (by kernel_rfl) (by kernel_rfl) (fun _ _ _ h => h) (by rfl) ?_ hHeld ?_
      rotate_left
      · intro W hSW; obtain ⟨s1, s2⟩ := hSW; have t0 := s1.cell 0; have t1 := s1.cell 1; have s4 := s2.cell 1; unfold dw5; go_simp; with_reducible rfl
      simp only [dw5, Act.put, List.setIfInBounds_toArray, List.set_cons_zero, List.set_cons_succ]
      refine Tillst.takeG (i := 6) (oi := dw6) (v := ?_) rfl (by kernel_rfl) (by kernel_rfl) (by kernel_rfl) (by kernel_rfl) (by kernel_rfl) (fun _ _ _ h => h) (by rfl) ?_ hHeld ?_
      rotate_left
      · intro W hSW; obtain ⟨s1, s2⟩ := hSW; have t0 := s1.cell 0; have t1 := s1.cell 1; have s4 := s2.cell 1; unfold dw6; go_simp; with_reducible rfl
      simp only [dw6, Act.put, List.setIfInBounds_toArray, List.set_cons_zero, List.set_cons_succ]
      refine Tillst.one (i := 3) (o := dw3) (by kernel_rfl) rfl ?_
      intro KK hK
      refine step_call 14 _ _ rfl rfl Try.func14 (by kernel_rfl) (by kernel_rfl) [.pointer (some ⟨x, 0, none⟩), .int .u32 fo] rfl ?_
      refine (find_ix (HX6.out.below HBV.out HX6.out.lt) fo).mono ?_
      rintro e v1 ⟨⟨u1, rfl, hu1⟩, hb7⟩
      obtain ⟨A1, cap1, rfl⟩ := ownsRow_slice hu1
      obtain ⟨A1', cap1', e1, _, _, hr1⟩ := Adr.rowZ_own hu1 rfl rfl
      injection e1 with e1 _ e1c
      subst e1 e1c
      have HW1 := Lib.hid (hr1.more (T := fun b => b < v1.heap.size) (fun b h => h.2))
      have HPV := Lib.hid (HPV.out.below hb7 HPV.out.lt)
      have HOV := Lib.hid (HOV.out.below hb7 HOV.out.lt)
      have HBV := Lib.hid (HBV.out.trans (hb7.mono HBV.out.size))
      clear hr1 hu1 hb7
      refine ⟨_, rfl, ?_⟩
      simp only [dw3, Act.put, List.setIfInBounds_toArray, List.set_cons_zero, List.set_cons_succ]
      refine hK.out _ _ (fun _ => ⟨HPV.out, HOV.out⟩) (fun hHeld => ?_)
      replace hHeld := hHeld (by decide)
      clear hK KK
      refine Tillst.one (i := 7) (o := dw7) (by kernel_rfl) rfl ?_
      intro KK hK
      refine step_call 15 _ _ rfl rfl Try.func15 (by kernel_rfl) (by kernel_rfl) [refV slots A' n' cap', .int .u32 fo] rfl ?_
      refine (ref_find ((HR6.out.below HBV.out (fun b h => h)).more (T := fun b => b < v1.heap.size) (fun b h => Nat.lt_of_lt_of_le h HBV.out.size)) (slots : Int) fo hn').mono ?_
      rintro e v2 ⟨⟨u2, rfl, hu2⟩, hb8⟩
      obtain ⟨A2, cap2, rfl⟩ := ownsRow_slice hu2
      obtain ⟨A2', cap2', e2, _, _, hr2⟩ := Adr.rowZ_own hu2 rfl rfl
      injection e2 with e2 _ e2c
      subst e2 e2c
      have HW2 := Lib.hid hr2
      have HW1 := Lib.hid (HW1.out.below hb8 (fun b h => h))
      have HPV := Lib.hid (HPV.out.below hb8 HPV.out.lt)
      have HOV := Lib.hid (HOV.out.below hb8 HOV.out.lt)
      have HBV := Lib.hid (HBV.out.trans (hb8.mono HBV.out.size))
      clear hr2 hu2 hb8
      refine ⟨_, rfl, ?_⟩
      simp only [dw7, Act.put, List.setIfInBounds_toArray, List.set_cons_zero, List.set_cons_succ]
      refine hK.out _ _ (fun _ => ⟨HPV.out, HOV.out⟩) (fun hHeld => ?_)
      replace hHeld := hHeld (by decide)
      clear hK KK
      have hfl : (findE es' fo).length ≤ 1000000 := by
        unfold findE
        rw [List.length_map, List.length_reverse]
        have h1 := List.length_filter_le (fun e : Ent => decide (e.1 = (fo : Int))) es'
        omega
      refine Tillst.one (i := 8) (o := dw8) (by kernel_rfl) rfl ?_
      intro KK hK
      refine step_call 13 _ _ rfl rfl Try.func13 (by kernel_rfl) (by kernel_rfl) [.slice A1 (findE es' fo).length cap1, .slice A2 (findE es' fo).length cap2] rfl ?_
      refine (same_yes HW1.out HW2.out rfl hfl).mono ?_
      rintro e v3 ⟨rfl, hk9⟩
      have HPV := Lib.hid (HPV.out.kept hk9 trivial)
      have HOV := Lib.hid (HOV.out.kept hk9 trivial)
      have HBV := Lib.hid (HBV.out.trans (hk9.to_below (B := w6.heap.size) (fun _ _ => trivial)))
      clear hk9
      refine ⟨_, rfl, ?_⟩
      simp only [dw8, Act.put, List.setIfInBounds_toArray, List.set_cons_zero, List.set_cons_succ]
      refine hK.out _ _ (fun _ => ⟨HPV.out, HOV.out⟩) (fun hHeld => ?_)
      replace hHeld := hHeld (by decide)
      clear hK KK
      refine Tillst.one (i := 9) (o := dw9) (by kernel_rfl) rfl ?_
      intro KK hK
      refine step_value ?_ rfl ?_ ?_
      rotate_left
      · unfold dw9; go_simp; with_reducible rfl
      simp only [dw9, Act.put, List.setIfInBounds_toArray, List.set_cons_zero, List.set_cons_succ]
      refine hK.out _ _ (fun _ => hHeld) (fun _ => ?_)
      clear hK KK hHeld
      refine Tillst.done (by kernel_rfl) ?_ _
      refine NoPanic.normal ?_
      go_wp2
      go_roundw
      case rel => exact ⟨j + 1, es', by simp, by omega, HX6.out.below HBV.out HX6.out.lt, HY6.out.below HBV.out, HB6.out.trans (HBV.out.mono HB6.out.size)⟩
      case measure => show m - (Int.toNat ((j : Int) + 1)) < m - (Int.toNat (j : Int)); omega
    · obtain rfl : j = m := by omega
      go_wp2
      go_ret
      exact ⟨rfl, HB.out⟩
end Go.Proofs.Ytfgmbkflpdobcaa
