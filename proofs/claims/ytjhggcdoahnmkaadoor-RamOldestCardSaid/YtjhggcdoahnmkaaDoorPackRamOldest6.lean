/- Texts of RamOldest, packed. -/
import Derived.Test.YtjhggcdoahnmkaaDoorPackRamOldest5
/- RamOldest. -/
namespace Go.Proofs.YtjhggcdoahnmkaaDoor
open Go.RowKit Go.Maps Go.ChangeMaps Go.Shelf PgM
attribute [local go_sem] Oper.semAt_some
set_option linter.unusedVariables false
set_option linter.unusedSimpArgs false
set_option maxRecDepth 100000
abbrev oo0 : Oper := { dst := some 97, op := Go.Op.buildSlice 69 0 #[], type := 69, pos := "outright.go:80", after := #[], guard := none }
abbrev oo1 : Oper := { dst := some 98, op := Go.Op.move (Go.Operand.tmp 8), type := 69, pos := "outright.go:80", after := #[], guard := none }
abbrev oo2 : Oper := { dst := some 99, op := Go.Op.move (Go.Operand.tmp 13), type := 3, pos := "outright.go:80", after := #[], guard := none }
abbrev oo3 : Oper := { dst := some 100, op := Go.Op.slice 69 (Go.Operand.tmp 98) none (some (Go.Operand.tmp 99)) none, type := 69, pos := "outright.go:80", after := #[{ on := 1, ground := Go.Ground.data }, { on := 2, ground := Go.Ground.data }], guard := none }
abbrev oo4 : Oper := { dst := some 101, op := Go.Op.call { callee := Go.Callee.builtin Go.Builtin.append, args := #[Go.Operand.tmp 97, Go.Operand.tmp 100], argTypes := #[69, 69] }, type := 69, pos := "outright.go:80", after := #[{ on := 0, ground := Go.Ground.data }, { on := 3, ground := Go.Ground.data }], guard := none }
abbrev oo5 : Oper := { dst := some 102, op := Go.Op.move (Go.Operand.tmp 8), type := 69, pos := "outright.go:80", after := #[], guard := none }
abbrev oo6 : Oper := { dst := some 103, op := Go.Op.move (Go.Operand.tmp 13), type := 3, pos := "outright.go:80", after := #[], guard := none }
abbrev oo7 : Oper := { dst := some 104, op := Go.Op.binOp Go.BinOp.add 3 (Go.Operand.tmp 103) (Go.Operand.const (Go.Value.int Go.IntKind.i64 1)) 3, type := 3, pos := "outright.go:80", after := #[{ on := 6, ground := Go.Ground.data }], guard := none }
abbrev oo8 : Oper := { dst := some 105, op := Go.Op.slice 69 (Go.Operand.tmp 102) (some (Go.Operand.tmp 104)) none none, type := 69, pos := "outright.go:80", after := #[{ on := 5, ground := Go.Ground.data }, { on := 7, ground := Go.Ground.data }], guard := none }
abbrev oo9 : Oper := { dst := some 106, op := Go.Op.call { callee := Go.Callee.builtin Go.Builtin.append, args := #[Go.Operand.tmp 101, Go.Operand.tmp 105], argTypes := #[69, 69] }, type := 69, pos := "outright.go:80", after := #[{ on := 4, ground := Go.Ground.data }, { on := 8, ground := Go.Ground.data }, { on := 4, ground := Go.Ground.chain }], guard := none }
abbrev oo10 : Oper := { dst := some 107, op := Go.Op.move (Go.Operand.tmp 8), type := 69, pos := "outright.go:80", after := #[], guard := none }
abbrev oo11 : Oper := { dst := some 108, op := Go.Op.move (Go.Operand.tmp 13), type := 3, pos := "outright.go:80", after := #[], guard := none }
abbrev oo12 : Oper := { dst := some 109, op := Go.Op.indexAddr 69 (Go.Operand.tmp 107) (Go.Operand.tmp 108), type := 0, pos := "outright.go:80", after := #[{ on := 10, ground := Go.Ground.data }, { on := 11, ground := Go.Ground.data }], guard := none }
abbrev oo13 : Oper := { dst := some 110, op := Go.Op.load 9 (Go.Operand.tmp 109), type := 9, pos := "outright.go:80", after := #[{ on := 12, ground := Go.Ground.data }], guard := none }
abbrev oo14 : Oper := { dst := some 111, op := Go.Op.buildSlice 69 1 #[(0, Go.Operand.tmp 110)], type := 69, pos := "outright.go:80", after := #[{ on := 13, ground := Go.Ground.data }], guard := none }
abbrev oo15 : Oper := { dst := some 112, op := Go.Op.call { callee := Go.Callee.builtin Go.Builtin.append, args := #[Go.Operand.tmp 106, Go.Operand.tmp 111], argTypes := #[69, 69] }, type := 69, pos := "outright.go:80", after := #[{ on := 9, ground := Go.Ground.data }, { on := 14, ground := Go.Ground.data }, { on := 9, ground := Go.Ground.chain }], guard := none }
abbrev oo16 : Oper := { dst := some 8, op := Go.Op.assign (Go.Operand.tmp 112), type := 69, pos := "outright.go:80", after := #[{ on := 15, ground := Go.Ground.data }, { on := 15, ground := Go.Ground.chain }, { on := 0, ground := Go.Ground.phase }, { on := 1, ground := Go.Ground.phase }, { on := 2, ground := Go.Ground.phase }, { on := 3, ground := Go.Ground.phase }, { on := 4, ground := Go.Ground.phase }, { on := 5, ground := Go.Ground.phase }, { on := 6, ground := Go.Ground.phase }, { on := 7, ground := Go.Ground.phase }, { on := 8, ground := Go.Ground.phase }, { on := 9, ground := Go.Ground.phase }, { on := 10, ground := Go.Ground.phase }, { on := 11, ground := Go.Ground.phase }, { on := 12, ground := Go.Ground.phase }, { on := 13, ground := Go.Ground.phase }, { on := 14, ground := Go.Ground.phase }, { on := 15, ground := Go.Ground.phase }], guard := none }
abbrev pp0 : Oper := { dst := some 60, op := Go.Op.move (Go.Operand.tmp 11), type := 45, pos := "outright.go:72", after := #[], guard := none }
abbrev pp1 : Oper := { dst := some 61, op := Go.Op.indexAddr 45 (Go.Operand.tmp 60) (Go.Operand.const (Go.Value.int Go.IntKind.i64 0)), type := 0, pos := "outright.go:72", after := #[{ on := 0, ground := Go.Ground.data }], guard := none }
abbrev pp2 : Oper := { dst := some 62, op := Go.Op.fieldAddr 40 (Go.Operand.tmp 61) 0, type := 0, pos := "outright.go:72", after := #[{ on := 1, ground := Go.Ground.data }], guard := none }
abbrev pp3 : Oper := { dst := some 63, op := Go.Op.load 36 (Go.Operand.tmp 62), type := 36, pos := "outright.go:72", after := #[{ on := 2, ground := Go.Ground.data }], guard := none }
abbrev pp4 : Oper := { dst := some 64, op := Go.Op.convert 36 9 (Go.Operand.tmp 63), type := 9, pos := "outright.go:72", after := #[{ on := 3, ground := Go.Ground.data }], guard := none }
abbrev pp5 : Oper := { dst := some 65, op := Go.Op.move (Go.Operand.tmp 8), type := 69, pos := "outright.go:72", after := #[], guard := none }
abbrev pp6 : Oper := { dst := some 66, op := Go.Op.indexAddr 69 (Go.Operand.tmp 65) (Go.Operand.const (Go.Value.int Go.IntKind.i64 0)), type := 0, pos := "outright.go:72", after := #[{ on := 5, ground := Go.Ground.data }], guard := none }
abbrev pp7 : Oper := { dst := some 67, op := Go.Op.load 9 (Go.Operand.tmp 66), type := 9, pos := "outright.go:72", after := #[{ on := 6, ground := Go.Ground.data }], guard := none }
abbrev pp8 : Oper := { dst := some 68, op := Go.Op.binOp Go.BinOp.eql 9 (Go.Operand.tmp 64) (Go.Operand.tmp 67) 9, type := 4, pos := "outright.go:72", after := #[{ on := 4, ground := Go.Ground.data }, { on := 7, ground := Go.Ground.data }], guard := none }
abbrev pp9 : Oper := { dst := some 4, op := Go.Op.assign (Go.Operand.tmp 68), type := 4, pos := "outright.go:72", after := #[{ on := 8, ground := Go.Ground.data }, { on := 0, ground := Go.Ground.phase }, { on := 1, ground := Go.Ground.phase }, { on := 2, ground := Go.Ground.phase }, { on := 3, ground := Go.Ground.phase }, { on := 4, ground := Go.Ground.phase }, { on := 5, ground := Go.Ground.phase }, { on := 6, ground := Go.Ground.phase }, { on := 7, ground := Go.Ground.phase }, { on := 8, ground := Go.Ground.phase }], guard := none }
set_option maxHeartbeats 16000000 in
theorem oldest_law (a : Int) (U : Option Addr) (un uc : Nat) (us : List Int) (w : World) (hT : Tab w) (hu : RowI .i64 w (fun b => b < w.heap.size) U un us) (h63 : un ≤ 9223372036854775807) :
    Calls Tryd.prog 6 #[.int .i64 a, .slice U un uc] w fun e w' => e = .returned (.bool true) ∧ Below w.heap.size w w' := by
  have HW := Lib.hid (wakes13 w hT)
  have HN := Lib.hid (fun W (hW : Tab W) => new_m 2 (by omega) (by omega) W hW)
  have HT := Lib.hid hT
  have HU := Lib.hid hu
  clear hT hu
  have hmk := fun u : World => fun (n : Nat) (hn : n < 500) => run_make_row' (P := Tryd.prog) 36 5 (.int .u8 0) 1 Tryd.underlying36 info_u8 rfl .i64 .i64 n (by omega) (by omega) u
  have HMK := Lib.hid hmk
  clear hmk
  go_enter Tryd.func6, Tryd.ntmps6
  go_wp2_with fail
  refine HW.out.mono ?_
  rintro r w1 ⟨rfl, hb⟩
  have HB1 := Lib.hid hb
  have HU := Lib.hid (HU.out.below hb (fun b h => h))
  have HT := Lib.hid (HT.out.below hb HT.out.1)
  clear hb HW
  go_wp2_with fail
  refine (HN.out w1 HT.out).mono ?_
  rintro r w2 ⟨B, rfl, hm, hB, hb⟩
  have HR := Lib.hid hm
  have HBB := Lib.hid (show ∀ b, b ∈ B.list → w.heap.size ≤ b from fun b h => Nat.le_trans HB1.out.size (hB b h))
  have HU := Lib.hid (HU.out.below hb (fun b h => Nat.lt_of_lt_of_le h HB1.out.size))
  have HB2 := Lib.hid (HB1.out.trans (hb.mono HB1.out.size))
  clear hm hB hb HN
  go_upto_region 6 with fail
  go_cut [7] (fun t wx => ∃ z : Nat, z < 500 ∧ t = .slice (some ⟨w2.heap.size, 0, none⟩) z z ∧ wx = w2.alloc (.cells (madeCells #[.int .u8 0] z) 5))
  case first =>
    by_cases ha : a < 0
    · have hk : ∀ u : World, (Instr.makeSlice 36 (.int .i64 0) (.int .i64 0)).run Tryd.prog u = .ok (.slice (some ⟨u.heap.size, 0, none⟩) 0 0) (u.alloc (.cells (madeCells #[.int .u8 0] 0) 5)) := fun u => HMK.out u 0 (by omega)
      go_wp2
      go_meet
      exact ⟨0, by omega, rfl, rfl⟩
    · obtain ⟨n, rfl⟩ : ∃ n : Nat, a = (n : Int) := ⟨a.toNat, by omega⟩
      have hk := fun u => HMK.out u (n % 500) (Nat.mod_lt _ (by omega))
      have hm : (n : Int).tmod 500 = ((n % 500 : Nat) : Int) := by rw [Int.tmod_eq_emod_of_nonneg (by omega)]; omega
      have hl : n % 500 < 500 := Nat.mod_lt _ (by omega)
      generalize n % 500 = z at *
      go_wp2
      go_meet
      exact ⟨z, hl, rfl, rfl⟩
  case rest =>
  obtain ⟨z, hz, rfl, rfl⟩ := hcut
  have HZ := Lib.hid hz
  have HV := Lib.hid (Arr.made (mk := Value.int .u8) w2 0 z 5)
  have hb3 : Below w2.heap.size w2 (w2.alloc (.cells (madeCells #[.int .u8 0] z) 5)) := (Below.refl _ w2).alloc (Nat.le_refl _) _
  have HO := Lib.hid (show OldM w B w2.heap.size z U un us (w2.alloc (.cells (madeCells #[.int .u8 0] z) 5)) 0 (.slice none 0 0) (List.replicate 2 pg0) [] [] from
    ⟨HR.out.below hb3, ⟨InvR.start 2, rfl, rfl, List.Perm.refl _, fun e he => by cases he⟩, World.ownsRow_nil _ _ _ _, HV.out, HU.out.below hb3 (fun b h => Nat.lt_of_lt_of_le h HB2.out.size), HBB.out, (fun e he => by cases he), HB2.out.trans (hb3.mono HB2.out.size)⟩)
  have HMN := Lib.hid h63
  clear hz hb3 HV HR HU HT HMK h63
  generalize w2.alloc _ = w3 at *
  generalize w2.heap.size = gv at *
  go_wp2
  go_loopw [8, 28] (fun v c wr => ∃ (i : Nat) (ps : List Pg) (es : List En) (od : List Nat), c = .int .i64 i ∧ OldM w B gv z U un us wr i v ps es od) (fun v c _ => 200 - (intOf c).toNat)
  case atStart => exact ⟨0, _, [], [], rfl, HO.out⟩
  case round =>
  clear HO HB2 HBB HB1
  obtain ⟨i, ps, es, od, rfl, hm⟩ := hrel
  have hi := hm.s.i64
  obtain ⟨OA, oc, rfl⟩ := ownsRow_slice hm.o
  have HM := Lib.hid hm
  clear hm
  have ho := HM.out.s.olen
  have hi2 : i < 200 := by omega
  have hc1 : (i : Int).tmod 26 = (i : Int) % 26 := Int.tmod_eq_emod_of_nonneg (by omega)
  have hc2 : (i : Int).tdiv 26 = (i : Int) / 26 := Int.tdiv_eq_ediv_of_nonneg (by omega)
  have hc3 : wrap64 (97 + (i : Int) % 26) = 97 + (i : Int) % 26 := IntWalk.wrap64_in _ (by omega)
  have hc4 : wrap64 (97 + (i : Int) / 26) = 97 + (i : Int) / 26 := IntWalk.wrap64_in _ (by omega)
  have hc5 : IntKind.u8.wrap (97 + (i : Int) % 26) = 97 + (i : Int) % 26 := by rw [IntKind.wrap_u8]; omega
  have hc6 : IntKind.u8.wrap (97 + (i : Int) / 26) = 97 + (i : Int) / 26 := by rw [IntKind.wrap_u8]; omega
  have HB9 := Lib.hid (Blk.new wr 5 #[.int .u8 (97 + (i : Int) % 26), .int .u8 (97 + (i : Int) / 26)])
  obtain ⟨wa, hwa⟩ : ∃ wa, wa = wr.alloc (.cells #[.int .u8 (97 + (i : Int) % 26), .int .u8 (97 + (i : Int) / 26)] 5) := ⟨_, rfl⟩
  have hba : Below wr.heap.size wr wa := by rw [hwa]; exact (Below.refl _ wr).alloc (Nat.le_refl _) _
  have hka : (convert 36 9 (.slice (some ⟨wr.heap.size, 0, none⟩) 2 2)).run Tryd.prog wa = .ok (.string (keyS (key2 i))) wa :=
    conv_key 2 wa (S := fun _ => True) (xs := key2 i) (by rw [hwa]; exact Arr.row (mk := Value.int .u8) (xs := key2 i) HB9.out 0 trivial) (key2_bytes hi2)
  have hka2 : (convert 36 9 (.slice (some ⟨wr.heap.size, 0, none⟩) 2 2)).run Tryd.prog (wr.alloc (.cells #[.int .u8 (97 + (i : Int) % 26), .int .u8 (97 + (i : Int) / 26)] 5)) = .ok (.string (keyS (key2 i))) (wr.alloc (.cells #[.int .u8 (97 + (i : Int) % 26), .int .u8 (97 + (i : Int) / 26)] 5)) := by rw [← hwa]; exact hka
  obtain ⟨kc, wb, hkb, hrow, hbb⟩ := conv_bytes (P := Tryd.prog) wa 9 36 5 (keyS (key2 i)) Tryd.underlying9 Tryd.underlying36 Tryd.underlying5
  have hnk : nums (keyS (key2 i)) = key2 i := by
    obtain ⟨s, h1, h2⟩ := conv_string (P := Tryd.prog) wa 36 9 5 Tryd.underlying36 Tryd.underlying5 Tryd.underlying9 (B := wa.heap.size) (A := some ⟨wr.heap.size, 0, none⟩) (n := 2) 2 (by rw [hwa]; exact (Arr.row (mk := Value.int .u8) (xs := key2 i) HB9.out 0 (S := (· < (wr.alloc (.cells #[.int .u8 (97 + (i : Int) % 26), .int .u8 (97 + (i : Int) / 26)] 5)).heap.size)) (by simp))) (key2_bytes hi2)
    rw [hka] at h1
    injection h1 with h1
    injection h1 with h1
    rw [h1]
    exact h2
  rw [hnk, keyS_size] at hrow
  rw [keyS_size, show (key2 i).length = 2 from rfl] at hkb
  have HRB := Lib.hid (HM.out.r.below (hba.trans (hbb.mono hba.size)))
  have HAB := Lib.hid (hba.trans (hbb.mono hba.size))
  have HIT := Lib.hid (show ItM wb (Off B wb) (some ⟨wa.heap.size, 0, none⟩) kc (some ⟨gv, 0, none⟩) z ⟨key2 i, List.replicate z 0, 0, 0, 1, false⟩ from by
    have hz := HZ.out
    have hlb : ∀ b, b ∈ B.list → b < wa.heap.size := fun b hb => Nat.lt_of_lt_of_le (HM.out.r.lts b hb) hba.size
    refine ⟨⟨hrow.1, fun hn => ?_⟩, ?_, (fun h => by cases h), (fun h => by cases h), key2_bytes hi2, fun j => ?_, by simp [key2], by simp; omega⟩
    · obtain ⟨b, off, e, hb, hc⟩ := hrow.2 hn
      refine ⟨b, off, e, ⟨hb, fun hbl => ?_⟩, hc⟩
      injection e with e
      injection e with e _
      have := hlb b hbl
      omega
    · have hv := HM.out.vw
      have h1 : Arr (Value.int .u8) wb gv 5 (List.replicate z 0) := Blk.below (Blk.below hv hba (Arr.lt hv)) hbb (by have := Arr.lt hv; have := hba.size; omega)
      have h2 := h1.row (S := Off B wb) 0 ⟨Arr.lt h1, (HRB.out).notmine h1 (by decide)⟩
      simpa using h2
    · simp [List.getD, List.getElem?_replicate]
      split <;> simp)
  have HPI := Lib.hid (show RightI ⟨key2 i, List.replicate z 0, 0, 0, 1, false⟩ from ⟨by have := HZ.out; simp [key2]; omega, HIT.out.kb, HIT.out.vb⟩)
  have HP := Lib.hid (put_m HRB.out HIT.out HPI.out)
  rw [show itT (some ⟨wa.heap.size, 0, none⟩) kc (some ⟨gv, 0, none⟩) z ⟨key2 i, List.replicate z 0, 0, 0, 1, false⟩ = .agg #[.slice (some ⟨wa.heap.size, 0, none⟩) 2 kc, .slice (some ⟨gv, 0, none⟩) z z, .int .u32 0, .int .u32 0, .int .u64 1, .bool false] from by simp [key2]] at HP
  have HOB := Lib.hid (own_below HM.out.o HAB.out)
  have HVB := Lib.hid (Blk.below HM.out.vw HAB.out (Arr.lt HM.out.vw))
  have HUB := Lib.hid (HM.out.ur.below HAB.out (fun b h => Nat.lt_of_lt_of_le h HM.out.bel.size))
  have HBB := Lib.hid (HM.out.bel.trans (HAB.out.mono HM.out.bel.size))
  have HWA := Lib.hid hwa
  have HKB := Lib.hid (show (convert 9 36 (.string (keyS (key2 i)))).run Tryd.prog (wr.alloc (.cells #[.int .u8 (97 + (i : Int) % 26), .int .u8 (97 + (i : Int) / 26)] 5)) = .ok (.slice (some ⟨wa.heap.size, 0, none⟩) 2 kc) wb by rw [← hwa]; exact hkb)
  have hkb3 := HKB.out
  clear hkb hka hrow hnk hbb hba hwa HB9
  generalize hKS : keyS (key2 i) = ks at hka2 hkb3
  have HKS := Lib.hid hKS
  clear hKS
  go_wp2_with fail
  refine HP.out.mono ?_
  rintro r w5 ⟨v, os, e, rfl, hout, hm5, het, hch, hnew, hk5⟩
  have hpre : preS ps es (key2 i) = (ps, es) := preS_no HM.out.s.noKey
  rw [hpre] at hout hm5 hch
  dsimp only at hout hm5 hch
  have hcg : ((chg ⟨key2 i, List.replicate z 0, 0, 0, 1, false⟩ : Nat) : Int) = ((26 + z : Nat) : Int) := by unfold chg; simp [key2]
  rw [hcg] at hout hm5 hch
  have hce : clsE ((26 + z : Nat) : Int) = 0 := by rw [← hcg]; exact clsE_chg _ HPI.out
  have HUW := Lib.hid (HUB.out.keep (w' := w5) (fun p hp => hk5.cell ⟨by have := HBB.out.size; omega, fun hbl => by have := HM.out.bB _ hbl; omega⟩))
  have HVW := Lib.hid ((hk5.block gv ⟨Arr.lt HVB.out, HRB.out.notmine HVB.out (by decide)⟩).trans HVB.out)
  have HOW := Lib.hid (own_keptR HOB.out HRB.out hk5 (by decide))
  have HBW := Lib.hid (RamM.keptR_below HM.out.bB HBB.out hk5)
  have HEQ := Lib.hid het
  have HSEP := Lib.hid (show ∀ x, x ∈ es → EnM w5 (fun b => (Value.slice OA i oc).ownBlock ≠ some b) x from fun x hx =>
    ((((HM.out.r.en x hx).and_ (HM.out.sep x hx)).keep (w' := wb) (T := fun b => Off B wb b ∧ (Value.slice OA i oc).ownBlock ≠ some b) (fun p hp => HAB.out.cell hp.1.1) (fun b hb => ⟨hb.1.mono HAB.out.size, hb.2⟩)).keep (w' := w5) (fun p hp => hk5.cell hp.1) (fun b hb => hb.2)))
  have HNEW := Lib.hid (show EnM w5 (fun b => (Value.slice OA i oc).ownBlock ≠ some b) e from hnew.keep (fun p hp => rfl) (fun b hb hu => by have := (HOB.out.lt b hu).2; omega))
  clear hpre hch hk5 het HP HUB HVB HOB hka2 hkb3 hc1 hc2 hc3 hc4 hc5 hc6 HKB HWA hnew
  rcases giveE_two (ps := ps) hce with hg | hg
  · rw [evict_stop (by rw [hg]; omega)] at hout hm5
    dsimp only at hout hm5
    obtain ⟨rfl, A9, c9, rfl⟩ := hout.none
    have hs5 := HM.out.s.put hm5.inv (by rw [giveX_len, HM.out.s.len]) (by rw [HEQ.out]) (by rw [HEQ.out]; simp)
    have HS5 := Lib.hid hs5
    have HR5 := Lib.hid hm5
    have hi65 := hs5.i64
    clear hout hm5 hs5 hg
    have HKS2 := Lib.hid (show (od ++ [i]).map mkS = od.map mkS ++ [ks].map Value.string by rw [List.map_append, ← HKS.out]; rfl)
    obtain ⟨i0, hi0, hz0, hz1, hz2⟩ := info_parts info_str
    obtain ⟨w6, hw6⟩ : ∃ w6, w6 = w5.alloc (.cells #[.string ks] 9) := ⟨_, rfl⟩
    have hb6 : Below w5.heap.size w5 w6 := by rw [hw6]; exact (Below.refl _ _).alloc (Nat.le_refl _) _
    have HO6 := Lib.hid (own_below HOW.out hb6)
    have HR6 := Lib.hid (HR5.out.below hb6)
    have HSP6 := Lib.hid (show ∀ x, x ∈ e :: es → EnM w6 (fun b => Off B w6 b ∧ (Value.slice OA i oc).ownBlock ≠ some b) x from fun x hx => (HR6.out.en x hx).and_ (by
      have h5 : EnM w5 (fun b => (Value.slice OA i oc).ownBlock ≠ some b) x := by
        rcases List.mem_cons.1 hx with rfl | hx
        · exact HNEW.out
        · exact HSEP.out x hx
      exact ((HR5.out.en x hx).and_ h5).keep (w' := w6) (fun p hp => hb6.cell hp.1.1) (fun b hb => hb.2)))
    have HB6 := Lib.hid (HBW.out.trans (hb6.mono HBW.out.size))
    have HU6 := Lib.hid (HUW.out.below hb6 (fun b h => Nat.lt_of_lt_of_le h HBW.out.size))
    have HV6 := Lib.hid (show Arr (Value.int .u8) w6 gv 5 (List.replicate z 0) from Blk.below HVW.out hb6 (Blk.lt HVW.out))
    have HL6 := Lib.hid (show RowG Value.string ⟨#[]⟩ w6 (· = w5.heap.size) (some ⟨w5.heap.size, 0, none⟩) 1 [ks] by rw [hw6]; exact row_new1 Value.string ⟨#[]⟩ w5 _ ks)
    have HW6 := Lib.hid hw6.symm
    have HI65 := Lib.hid hi65
    have HSZ6 := Lib.hid (show w.heap.size ≤ w6.heap.size from HB6.out.size)
    clear hw6 hb6 hi65
    go_upto_region 17 with fail
    go_wp2_with (first
      | (at_builtin; refine wpList_append_rowG (mk := Value.string) (d := (⟨#[]⟩ : ByteArray)) rfl (.tmp 69) (.tmp 71) 69 rfl w.heap.size 9 i0 (.string ⟨#[]⟩) 16 Tryd.underlying69 hi0 hz0 hz1 hz2 rfl (fun _ => rfl) _ i _ rfl (HW6.out ▸ HO6.out) (· = w5.heap.size) (some ⟨w5.heap.size, 0, none⟩) 1 1 [ks] rfl (HW6.out ▸ HL6.out) (fun h => by cases h) (by unfold maxLen; omega) (by omega) (by rw [HW6.out]; exact HSZ6.out) ?_))
    intro v7 w7 hown hgrow hv7
    rw [HW6.out] at hgrow
    have hs6 : w5.heap.size + 1 = w6.heap.size := by rw [← HW6.out]; simp
    have hblk : ∀ b, (Value.slice OA i oc).ownBlock = some b → ∃ cur, w6.heap[b]? = some (.cells cur 9 (0, 0)) ∧ w.heap.size ≤ b := fun b hb => ownsRow_block HO6.out hb
    have hkg := kept_grown13 hgrow
    have HM7 := Lib.hid (show OldM w B gv z U un us w7 (i + 1) v7 (giveX ps ((26 + z : Nat) : Int)) (e :: es) (od ++ [i]) from
      ⟨HR6.out.keepE hkg (fun b hb => ⟨HR6.out.lts b hb, fun hu => by obtain ⟨cur, h1, _⟩ := hblk b hu; exact HR6.out.notmine h1 (by decide) hb⟩)
          ⟨HR6.out.pos0, fun hu => by obtain ⟨cur, h1, h2⟩ := hblk 0 hu; have := HT.out.1; omega⟩ (fun x hx => (HSP6.out x hx).keep (fun p hp => rfl) (fun b hb => ⟨hb.1, hb.1.1, hb.2⟩)),
        HS5.out, by rw [HKS2.out]; exact hown,
        Blk.kept HV6.out hkg ⟨Blk.lt HV6.out, fun hu => by obtain ⟨cur, h1, _⟩ := hblk gv hu; rw [show w6.heap[gv]? = _ from HV6.out] at h1; injection h1 with h1; injection h1 with _ h1 _; exact absurd h1 (by decide)⟩,
        HU6.out.keep (fun p hp => hkg.cell ⟨Nat.lt_of_lt_of_le hp HSZ6.out, fun hu => by obtain ⟨cur, _, h2⟩ := hblk _ hu; omega⟩),
        HM.out.bB, fun x hx => (HSP6.out x hx).keep (fun p hp => hkg.cell ⟨hp.1.1, hp.2⟩) (fun b hb => by
          rcases hv7 with h | h
          · rw [h]; exact hb.2
          · rw [h, hs6]; intro h2; injection h2 with h2; have := hb.1.1; omega),
        below_append HB6.out HO6.out (Nat.le_refl _) HSZ6.out hgrow⟩)
    clear hown hgrow hv7 hs6 hblk hkg HSP6 HO6 HR6 HV6 HU6 HB6 HL6 HW6 HR5 HS5 HSEP HNEW HOW HVW HUW HBW HRB HAB HIT HPI HBB HKS2
    obtain ⟨g7, c7, rfl, hc7, hr7⟩ := HM7.out.own7 (by omega)
    have hun : ∀ h : (i : Int) < (un : Nat), True := fun _ => trivial
    by_cases hiu : (i : Int) < (un : Nat)
    case neg =>
      go_wp2
      go_roundw
      case rel => exact ⟨i + 1, _, e :: es, od ++ [i], by simp, HM7.out⟩
      case measure => show 200 - (Int.toNat ((i : Int) + 1)) < 200 - (Int.toNat (i : Int)); omega
    · obtain ⟨ub, uo, rfl, hub, huc⟩ := HM7.out.ur.2 (by omega)
      have hcu := huc i (by omega)
      generalize us.getD i 0 = uv at hcu
      clear huc hub
      go_upto_region 19 with fail
      go_cut [13] from 77 to 84 (fun t wx => ∃ k : Nat, k < i + 1 ∧ t = .int .i64 k ∧ wx = w7)
      case first =>
        by_cases huv : uv < 0
        · have hm : (0 : Int).tmod ((i + 1 : Nat) : Int) = 0 := by simp
          go_wp2
          go_meet
          exact ⟨0, by omega, rfl, rfl⟩
        · obtain ⟨n, rfl⟩ : ∃ n : Nat, uv = (n : Int) := ⟨uv.toNat, by omega⟩
          have hm : (n : Int).tmod ((i + 1 : Nat) : Int) = ((n % (i + 1) : Nat) : Int) := by rw [Int.tmod_eq_emod_of_nonneg (by omega)]; simp
          have hm2 : (n : Int) % ((i : Int) + 1) = ((n % (i + 1) : Nat) : Int) := by simp
          have hl : n % (i + 1) < i + 1 := Nat.mod_lt _ (by omega)
          generalize n % (i + 1) = k at *
          go_wp2
          go_meet
          exact ⟨k, hl, rfl, rfl⟩
      case rest =>
      obtain ⟨k, hk, rfl, rfl⟩ := hcut
      obtain ⟨jj, hjj⟩ : ∃ jj, (od ++ [i]).getD k 0 = jj := ⟨_, rfl⟩
      have hol := HM7.out.s.olen.1
      have hjm : jj ∈ od ++ [i] := by
        rw [← hjj]
        simp only [List.getD, List.getElem?_eq_getElem (show k < (od ++ [i]).length by omega), Option.getD_some]
        exact List.getElem_mem _
      have hj2 : jj < 200 := by have := HM7.out.s.mem hjm; omega
      obtain ⟨e2, he2, hke2⟩ := HM7.out.s.has hjm
      have hcell : wc.cell? ⟨g7, k, none⟩ = some (.string (keyS (key2 jj))) := by
        obtain ⟨b, off, e9, _, hc⟩ := hr7.2 (by omega)
        injection e9 with e9
        injection e9 with e8 e9 _
        subst e8
        subst e9
        have := hc k hk
        rw [hjj] at this
        simpa using this
      obtain ⟨kc8, w8, hk8, hrow8, hb8⟩ := conv_bytes (P := Tryd.prog) wc 9 36 5 (keyS (key2 jj)) Tryd.underlying9 Tryd.underlying36 Tryd.underlying5
      rw [nums_key2 wc hj2, keyS_size, show (key2 jj).length = 2 from rfl] at hrow8
      rw [keyS_size, show (key2 jj).length = 2 from rfl] at hk8
      have HR8 := Lib.hid (HM7.out.r.below hb8)
      have HB8 := Lib.hid hb8
      have HG8 := Lib.hid (get_yes (c := kc8) HR8.out (show RowI .u8 w8 (fun b => b < w8.heap.size) (some ⟨wc.heap.size, 0, none⟩) 2 (key2 jj) from hrow8) (key2_bytes hj2) he2 hke2)
      have HJ := Lib.hid (And.intro hjj (And.intro hj2 (And.intro he2 hke2)))
      have HC7 := Lib.hid hc7
      generalize hSK : keyS (key2 jj) = sk at hcell hk8
      have HSK := Lib.hid hSK
      clear hSK hjj hjm hj2 he2 hke2 hb8 hrow8 hr7 hc7 hcu
      go_wp2_with fail
      refine HG8.out.mono ?_
      rintro r w9 ⟨v9, rfl, ht9, hm9, hk9⟩
      obtain ⟨A1, c1, A2, c2, rfl, hit, hl1, hl2⟩ := ht9
      have HBN := Lib.hid (Blk.new w9 40 #[.slice none 0 0, .slice none 0 0, .int .u32 0, .int .u32 0, .int .u64 0, .bool false])
      obtain ⟨vd, hvd⟩ : ∃ w7, w7 = (w9.alloc (.cells #[.slice none 0 0, .slice none 0 0, .int .u32 0, .int .u32 0, .int .u64 0, .bool false] 40)).setRow w9.heap.size (itTC A1 c1 A2 c2 e2.it).toArray := ⟨_, rfl⟩
      have hb10 : Below w9.heap.size w9 vd := by rw [hvd]; exact Kept.to_below (((Kept.refl (fun b => b < w9.heap.size) w9).alloc (fun b h => h) _).setRow (fun h => by omega) _) (fun b h => h)
      have HRV := Lib.hid (hm9.below hb10)
      have hv8 : Arr (Value.int .u8) w8 gv 5 (List.replicate z 0) := Blk.below HM7.out.vw HB8.out (Blk.lt HM7.out.vw)
      have hv9 : Arr (Value.int .u8) w9 gv 5 (List.replicate z 0) := (hk9.block gv ⟨Blk.lt hv8, HR8.out.notmine hv8 (by decide)⟩).trans hv8
      have HVV := Lib.hid (show Arr (Value.int .u8) vd gv 5 (List.replicate z 0) from Blk.below hv9 hb10 (Blk.lt hv9))
      have hbe8 := HM7.out.bel.trans (HB8.out.mono HM7.out.bel.size)
      have hbe9 := RamM.keptR_below HM7.out.bB hbe8 hk9
      have HUV := Lib.hid (((HM7.out.ur.below HB8.out (fun b h => Nat.lt_of_lt_of_le h HM7.out.bel.size)).keep (w' := w9) (fun p hp => hk9.cell ⟨Nat.lt_of_lt_of_le hp hbe8.size, fun hbl => by have := HM7.out.bB _ hbl; omega⟩)).below hb10 (fun b h => Nat.lt_of_lt_of_le h hbe9.size))
      have HBV := Lib.hid (hbe9.trans (hb10.mono hbe9.size))
      have HOV := Lib.hid (own_below (own_keptR (own_below HM7.out.o HB8.out) HR8.out hk9 (by decide)) hb10)
      have HVD := Lib.hid hvd.symm
      clear hv8 hv9 hbe8 hbe9 hit hl1 hl2 hm9 hk9 hb10 hvd hcell hk8 HG8 HR8 HB8
      go_upto_region 23 with (refine wpList_store_rowB (.tmp 14) (.tmp 93) 40 rfl rfl w9.heap.size (itTC A1 c1 A2 c2 e2.it).toArray rfl rfl 40 _ HBN.out size_item rfl (one_item _ _ _ _ _ _ _ _ _ _) ?_; rw [HVD.out])
      have hol := HM7.out.s.olen.1
      obtain ⟨A9, c9, e9, hc9, _, hrv0⟩ := rowG_own (mk := mkS) 0 HOV.out
      injection e9 with e8 _ e9
      subst e8
      subst e9
      have hrv : RowG mkS 0 vd (fun b => b < vd.heap.size) (some ⟨g7, 0, none⟩) (i + 1) (od ++ [i]) := hrv0.more fun b hb => hb.2.1
      obtain ⟨A2, hs2, hA2, hA3⟩ := slice_str_l g7 (i + 1) c7 (k + 1) (by omega)
      have HR1 := Lib.hid (show ∀ W, Below vd.heap.size vd W → RowG mkS 0 W (fun b => b < vd.heap.size) (some ⟨g7, 0, none⟩) k ((od ++ [i]).take k) from fun W hW => (hrv.take k (by omega)).below hW (fun b h => h))
      have HR2 := Lib.hid (show ∀ W, Below vd.heap.size vd W → RowG mkS 0 W (fun b => b < vd.heap.size) A2 (i + 1 - (k + 1)) ((od ++ [i]).drop (k + 1)) from fun W hW => (hrv.drop0 (by omega) A2 (fun h => hA3 (by omega))).below hW (fun b h => h))
      have HCK := Lib.hid (show ∀ W, Below vd.heap.size vd W → W.cell? ⟨g7, k, none⟩ = some (.string sk) from fun W hW => by
        obtain ⟨b, off, e9, hb9, hc⟩ := hrv.2 (by omega)
        injection e9 with e9
        injection e9 with e8 e9 _
        subst e8
        subst e9
        have := hc k hk
        rw [HJ.out.1, Nat.zero_add] at this
        rw [hW.cell (p := ⟨g7, k, none⟩) hb9, this, ← HSK.out])
      have HS1 := Lib.hid (fun W => slice_str_h W g7 (i + 1) c7 k (by omega))
      have HS2 := Lib.hid hs2
      have HN2 := Lib.hid hA2
      have HX := Lib.hid (StO.start vd jj)
      obtain ⟨i0, hi0, hz0, hz1, hz2⟩ := info_parts info_str
      have hw2 : IntKind.i64.wrap ((k : Int) + 1) = (k : Int) + 1 := by rw [IntKind.wrap_i64]; omega
      clear hrv hrv0 hs2 hA2 hA3 hc9
      refine Tillst.region (fun W => Below vd.heap.size vd W) [] (by kernel_rfl) (Below.refl _ _).drew (fun hHeld => ?_)
      have HX := Lib.hid (show StO vd.heap.size vd jj none (.slice none 0 0) 0 [] vd.drew from HX.out.drew)
      generalize vd.drew = ve at *
      refine Tillst.take (i := 1) (oi := oo1) (v := ?_) rfl (by kernel_rfl) (by kernel_rfl) (by kernel_rfl) (by kernel_rfl) (fun _ _ _ h => h) (by rfl) ?_ hHeld ?_
      rotate_left
      · intro W hSW; (try dsimp only at hSW); unfold oo1; go_simp; with_reducible rfl
      simp only [oo1, Act.put, List.setIfInBounds_toArray, List.set_cons_zero, List.set_cons_succ]
      refine Tillst.take (i := 2) (oi := oo2) (v := ?_) rfl (by kernel_rfl) (by kernel_rfl) (by kernel_rfl) (by kernel_rfl) (fun _ _ _ h => h) (by rfl) ?_ hHeld ?_
      rotate_left
      · intro W hSW; (try dsimp only at hSW); unfold oo2; go_simp; with_reducible rfl
      simp only [oo2, Act.put, List.setIfInBounds_toArray, List.set_cons_zero, List.set_cons_succ]
      refine Tillst.take (i := 3) (oi := oo3) (v := .slice (some ⟨g7, 0, none⟩) k c7) rfl (by kernel_rfl) (by kernel_rfl) (by kernel_rfl) (by kernel_rfl) (fun _ _ _ h => h) (by rfl) ?_ hHeld ?_
      · intro W hSW; exact exec_slice_h 69 (.tmp 98) (.tmp 99) rfl _ _ _ rfl rfl (HS1.out W) elem_strs
      simp only [oo3, Act.put, List.setIfInBounds_toArray, List.set_cons_zero, List.set_cons_succ]
      refine Tillst.take (i := 5) (oi := oo5) (v := ?_) rfl (by kernel_rfl) (by kernel_rfl) (by kernel_rfl) (by kernel_rfl) (fun _ _ _ h => h) (by rfl) ?_ hHeld ?_
      rotate_left
      · intro W hSW; (try dsimp only at hSW); unfold oo5; go_simp; with_reducible rfl
      simp only [oo5, Act.put, List.setIfInBounds_toArray, List.set_cons_zero, List.set_cons_succ]
      refine Tillst.take (i := 6) (oi := oo6) (v := ?_) rfl (by kernel_rfl) (by kernel_rfl) (by kernel_rfl) (by kernel_rfl) (fun _ _ _ h => h) (by rfl) ?_ hHeld ?_
      rotate_left
      · intro W hSW; (try dsimp only at hSW); unfold oo6; go_simp; with_reducible rfl
      simp only [oo6, Act.put, List.setIfInBounds_toArray, List.set_cons_zero, List.set_cons_succ]
      refine Tillst.take (i := 7) (oi := oo7) (v := .int .i64 ((k + 1 : Nat) : Int)) rfl (by kernel_rfl) (by kernel_rfl) (by kernel_rfl) (by kernel_rfl) (fun _ _ _ h => h) (by rfl) ?_ hHeld ?_
      · intro W hSW; clear hSW; unfold oo7; go_simp; (try exact hw2)
      simp only [oo7, Act.put, List.setIfInBounds_toArray, List.set_cons_zero, List.set_cons_succ]
      refine Tillst.take (i := 8) (oi := oo8) (v := .slice A2 (i + 1 - (k + 1)) (c7 - (k + 1))) rfl (by kernel_rfl) (by kernel_rfl) (by kernel_rfl) (by kernel_rfl) (fun _ _ _ h => h) (by rfl) ?_ hHeld ?_
      · intro W hSW; exact exec_slice_l 69 (.tmp 102) (.tmp 104) rfl _ _ _ rfl rfl (HS2.out W) elem_strs
      simp only [oo8, Act.put, List.setIfInBounds_toArray, List.set_cons_zero, List.set_cons_succ]
      refine Tillst.take (i := 10) (oi := oo10) (v := ?_) rfl (by kernel_rfl) (by kernel_rfl) (by kernel_rfl) (by kernel_rfl) (fun _ _ _ h => h) (by rfl) ?_ hHeld ?_
      rotate_left
      · intro W hSW; (try dsimp only at hSW); unfold oo10; go_simp; with_reducible rfl
      simp only [oo10, Act.put, List.setIfInBounds_toArray, List.set_cons_zero, List.set_cons_succ]
      refine Tillst.take (i := 11) (oi := oo11) (v := ?_) rfl (by kernel_rfl) (by kernel_rfl) (by kernel_rfl) (by kernel_rfl) (fun _ _ _ h => h) (by rfl) ?_ hHeld ?_
      rotate_left
      · intro W hSW; (try dsimp only at hSW); unfold oo11; go_simp; with_reducible rfl
      simp only [oo11, Act.put, List.setIfInBounds_toArray, List.set_cons_zero, List.set_cons_succ]
      refine Tillst.take (i := 12) (oi := oo12) (v := .pointer (some ⟨g7, k, none⟩)) rfl (by kernel_rfl) (by kernel_rfl) (by kernel_rfl) (by kernel_rfl) (fun _ _ _ h => h) (by rfl) ?_ hHeld ?_
      · intro W hSW; clear hSW; unfold oo12; go_simp; intro h; exfalso; omega
      simp only [oo12, Act.put, List.setIfInBounds_toArray, List.set_cons_zero, List.set_cons_succ]
      refine Tillst.take (i := 13) (oi := oo13) (v := .string sk) rfl (by kernel_rfl) (by kernel_rfl) (by kernel_rfl) (by kernel_rfl) (fun _ _ _ h => h) (by rfl) ?_ hHeld ?_
      · intro W hSW; have hck := HCK.out W hSW; clear hSW; unfold oo13; go_simp; (try with_reducible rfl)
      simp only [oo13, Act.put, List.setIfInBounds_toArray, List.set_cons_zero, List.set_cons_succ]
      clear hi2 hw2
      have hs7 := HM7.out.s.touch (k := k) (by omega) HJ.out.2.2.1 (by rw [HJ.out.1]; exact HJ.out.2.2.2)
      rw [HJ.out.1] at hs7
      have HS7 := Lib.hid hs7
      clear hs7
      refine Tillst.two (i := 0) (j := 14) (o := oo0) (o' := oo14) (by kernel_rfl) rfl rfl ?_ ?_
      · intro K hK
        refine step_empty13 rfl rfl ?_
        have HX := Lib.hid HX.out.empty_
        simp only [oo0, Act.put, List.setIfInBounds_toArray, List.set_cons_zero, List.set_cons_succ]
        refine hK.out _ _ (fun _ => HX.out.bel) (fun hHeld2 => ?_)
        clear hHeld2 hK K
        refine Tillst.two (i := 4) (j := 14) (o := oo4) (o' := oo14) (by kernel_rfl) rfl rfl ?_ ?_
        · intro K hK
          refine step_append_rowG (mk := mkS) (d := 0) rfl (.tmp 97) (.tmp 100) 69 rfl vd.heap.size 9 i0 (.string ⟨#[]⟩) 16 Tryd.underlying69 hi0 hz0 hz1 hz2 rfl (fun _ => rfl) _ _ _ rfl HX.out.own _ _ _ _ _ rfl (HR1.out _ HX.out.bel) (fun h => by cases h) (by unfold maxLen; omega) (by omega) HX.out.size ?_
          intro v4 w4 h1 h2 h3
          have HX := Lib.hid (HX.out.app h1 h2 h3)
          clear h1 h2 h3
          simp only [oo4, Act.put, List.setIfInBounds_toArray, List.set_cons_zero, List.set_cons_succ]
          refine hK.out _ _ (fun _ => HX.out.bel) (fun hHeld2 => ?_)
          clear hHeld2 hK K
          refine Tillst.two (i := 9) (j := 14) (o := oo9) (o' := oo14) (by kernel_rfl) rfl rfl ?_ ?_
          · intro K hK
            refine step_append_rowG (mk := mkS) (d := 0) rfl (.tmp 101) (.tmp 105) 69 rfl vd.heap.size 9 i0 (.string ⟨#[]⟩) 16 Tryd.underlying69 hi0 hz0 hz1 hz2 rfl (fun _ => rfl) _ _ _ rfl HX.out.own _ _ _ _ _ rfl (HR2.out _ HX.out.bel) (fun h => absurd h HN2.out) (by unfold maxLen; omega) (by omega) HX.out.size ?_
            intro v9 w9 h1 h2 h3
            have HX := Lib.hid (HX.out.app h1 h2 h3)
            clear h1 h2 h3
            simp only [oo9, Act.put, List.setIfInBounds_toArray, List.set_cons_zero, List.set_cons_succ]
            refine hK.out _ _ (fun _ => HX.out.bel) (fun hHeld2 => ?_)
            clear hHeld2 hK K
            refine Tillst.one (i := 14) (o := oo14) (by kernel_rfl) rfl ?_
            intro K hK
            refine step_lit13 (.tmp 110) rfl rfl sk rfl ?_
            have hx := HX.out.laid
            rw [HSK.out] at hx
            have HX := Lib.hid hx
            clear hx
            simp only [oo14, Act.put, List.setIfInBounds_toArray, List.set_cons_zero, List.set_cons_succ]
            refine hK.out _ _ (fun _ => HX.out.bel) (fun hHeld2 => ?_)
            clear hHeld2 hK K
            refine Tillst.one (i := 15) (o := oo15) (by kernel_rfl) rfl ?_
            intro K hK
            refine step_append_rowG (mk := mkS) (d := 0) rfl (.tmp 106) (.tmp 111) 69 rfl vd.heap.size 9 i0 (.string ⟨#[]⟩) 16 Tryd.underlying69 hi0 hz0 hz1 hz2 rfl (fun _ => rfl) _ _ _ rfl HX.out.own _ _ _ _ _ rfl HX.out.litRow (fun h => by cases h) (by unfold maxLen; omega) (by omega) HX.out.size ?_
            intro vf wf h1 h2 h3
            have hx := HX.out.app h1 h2 h3
            rw [List.nil_append, show 0 + k + (i + 1 - (k + 1)) + 1 = i + 1 by omega] at hx
            have HX := Lib.hid hx
            clear h1 h2 h3 hx
            simp only [oo15, Act.put, List.setIfInBounds_toArray, List.set_cons_zero, List.set_cons_succ]
            refine hK.out _ _ (fun _ => HX.out.bel) (fun hHeld2 => ?_)
            clear hK K
            have hHeld := hHeld2 (by decide)
            clear hHeld2
            refine Tillst.take (i := 16) (oi := oo16) (v := ?_) rfl (by kernel_rfl) (by kernel_rfl) (by kernel_rfl) (by kernel_rfl) (fun _ _ _ h => h) (by rfl) ?_ hHeld ?_
            rotate_left
            · intro W hSW; (try dsimp only at hSW); unfold oo16; go_simp; with_reducible rfl
            simp only [oo16, Act.put, List.setIfInBounds_toArray, List.set_cons_zero, List.set_cons_succ]
            refine Tillst.done (by kernel_rfl) ?_ _
            go_wp2
            go_roundw
            case rel => exact ⟨i + 1, _, _, _, by simp, HM7.out.next_ HRV.out HS7.out HVV.out HUV.out HBV.out HX.out⟩
            case measure => show 200 - (Int.toNat ((i : Int) + 1)) < 200 - (Int.toNat (i : Int)); omega
          · intro K hK
            refine step_lit13 (.tmp 110) rfl rfl sk rfl ?_
            have hx := HX.out.laid
            rw [HSK.out] at hx
            have HX := Lib.hid hx
            clear hx
            simp only [oo14, Act.put, List.setIfInBounds_toArray, List.set_cons_zero, List.set_cons_succ]
            refine hK.out _ _ (fun _ => HX.out.bel) (fun hHeld2 => ?_)
            clear hHeld2 hK K
            refine Tillst.one (i := 9) (o := oo9) (by kernel_rfl) rfl ?_
            intro K hK
            refine step_append_rowG (mk := mkS) (d := 0) rfl (.tmp 101) (.tmp 105) 69 rfl vd.heap.size 9 i0 (.string ⟨#[]⟩) 16 Tryd.underlying69 hi0 hz0 hz1 hz2 rfl (fun _ => rfl) _ _ _ rfl HX.out.own _ _ _ _ _ rfl (HR2.out _ HX.out.bel) (fun h => absurd h HN2.out) (by unfold maxLen; omega) (by omega) HX.out.size ?_
            intro v9 w9 h1 h2 h3
            have HX := Lib.hid (HX.out.app h1 h2 h3)
            clear h1 h2 h3
            simp only [oo9, Act.put, List.setIfInBounds_toArray, List.set_cons_zero, List.set_cons_succ]
            refine hK.out _ _ (fun _ => HX.out.bel) (fun hHeld2 => ?_)
            clear hHeld2 hK K
            refine Tillst.one (i := 15) (o := oo15) (by kernel_rfl) rfl ?_
            intro K hK
            refine step_append_rowG (mk := mkS) (d := 0) rfl (.tmp 106) (.tmp 111) 69 rfl vd.heap.size 9 i0 (.string ⟨#[]⟩) 16 Tryd.underlying69 hi0 hz0 hz1 hz2 rfl (fun _ => rfl) _ _ _ rfl HX.out.own _ _ _ _ _ rfl HX.out.litRow (fun h => by cases h) (by unfold maxLen; omega) (by omega) HX.out.size ?_
            intro vf wf h1 h2 h3
            have hx := HX.out.app h1 h2 h3
            rw [List.nil_append, show 0 + k + (i + 1 - (k + 1)) + 1 = i + 1 by omega] at hx
            have HX := Lib.hid hx
            clear h1 h2 h3 hx
            simp only [oo15, Act.put, List.setIfInBounds_toArray, List.set_cons_zero, List.set_cons_succ]
            refine hK.out _ _ (fun _ => HX.out.bel) (fun hHeld2 => ?_)
            clear hK K
            have hHeld := hHeld2 (by decide)
            clear hHeld2
            refine Tillst.take (i := 16) (oi := oo16) (v := ?_) rfl (by kernel_rfl) (by kernel_rfl) (by kernel_rfl) (by kernel_rfl) (fun _ _ _ h => h) (by rfl) ?_ hHeld ?_
            rotate_left
            · intro W hSW; (try dsimp only at hSW); unfold oo16; go_simp; with_reducible rfl
            simp only [oo16, Act.put, List.setIfInBounds_toArray, List.set_cons_zero, List.set_cons_succ]
            refine Tillst.done (by kernel_rfl) ?_ _
            go_wp2
            go_roundw
            case rel => exact ⟨i + 1, _, _, _, by simp, HM7.out.next_ HRV.out HS7.out HVV.out HUV.out HBV.out HX.out⟩
            case measure => show 200 - (Int.toNat ((i : Int) + 1)) < 200 - (Int.toNat (i : Int)); omega
        · intro K hK
          refine step_lit13 (.tmp 110) rfl rfl sk rfl ?_
          have hx := HX.out.laid
          rw [HSK.out] at hx
          have HX := Lib.hid hx
          clear hx
          simp only [oo14, Act.put, List.setIfInBounds_toArray, List.set_cons_zero, List.set_cons_succ]
          refine hK.out _ _ (fun _ => HX.out.bel) (fun hHeld2 => ?_)
          clear hHeld2 hK K
          refine Tillst.one (i := 4) (o := oo4) (by kernel_rfl) rfl ?_
          intro K hK
          refine step_append_rowG (mk := mkS) (d := 0) rfl (.tmp 97) (.tmp 100) 69 rfl vd.heap.size 9 i0 (.string ⟨#[]⟩) 16 Tryd.underlying69 hi0 hz0 hz1 hz2 rfl (fun _ => rfl) _ _ _ rfl HX.out.own _ _ _ _ _ rfl (HR1.out _ HX.out.bel) (fun h => by cases h) (by unfold maxLen; omega) (by omega) HX.out.size ?_
          intro v4 w4 h1 h2 h3
          have HX := Lib.hid (HX.out.app h1 h2 h3)
          clear h1 h2 h3
          simp only [oo4, Act.put, List.setIfInBounds_toArray, List.set_cons_zero, List.set_cons_succ]
          refine hK.out _ _ (fun _ => HX.out.bel) (fun hHeld2 => ?_)
          clear hHeld2 hK K
          refine Tillst.one (i := 9) (o := oo9) (by kernel_rfl) rfl ?_
          intro K hK
          refine step_append_rowG (mk := mkS) (d := 0) rfl (.tmp 101) (.tmp 105) 69 rfl vd.heap.size 9 i0 (.string ⟨#[]⟩) 16 Tryd.underlying69 hi0 hz0 hz1 hz2 rfl (fun _ => rfl) _ _ _ rfl HX.out.own _ _ _ _ _ rfl (HR2.out _ HX.out.bel) (fun h => absurd h HN2.out) (by unfold maxLen; omega) (by omega) HX.out.size ?_
          intro v9 w9 h1 h2 h3
          have HX := Lib.hid (HX.out.app h1 h2 h3)
          clear h1 h2 h3
          simp only [oo9, Act.put, List.setIfInBounds_toArray, List.set_cons_zero, List.set_cons_succ]
          refine hK.out _ _ (fun _ => HX.out.bel) (fun hHeld2 => ?_)
          clear hHeld2 hK K
          refine Tillst.one (i := 15) (o := oo15) (by kernel_rfl) rfl ?_
          intro K hK
          refine step_append_rowG (mk := mkS) (d := 0) rfl (.tmp 106) (.tmp 111) 69 rfl vd.heap.size 9 i0 (.string ⟨#[]⟩) 16 Tryd.underlying69 hi0 hz0 hz1 hz2 rfl (fun _ => rfl) _ _ _ rfl HX.out.own _ _ _ _ _ rfl HX.out.litRow (fun h => by cases h) (by unfold maxLen; omega) (by omega) HX.out.size ?_
          intro vf wf h1 h2 h3
          have hx := HX.out.app h1 h2 h3
          rw [List.nil_append, show 0 + k + (i + 1 - (k + 1)) + 1 = i + 1 by omega] at hx
          have HX := Lib.hid hx
          clear h1 h2 h3 hx
          simp only [oo15, Act.put, List.setIfInBounds_toArray, List.set_cons_zero, List.set_cons_succ]
          refine hK.out _ _ (fun _ => HX.out.bel) (fun hHeld2 => ?_)
          clear hK K
          have hHeld := hHeld2 (by decide)
          clear hHeld2
          refine Tillst.take (i := 16) (oi := oo16) (v := ?_) rfl (by kernel_rfl) (by kernel_rfl) (by kernel_rfl) (by kernel_rfl) (fun _ _ _ h => h) (by rfl) ?_ hHeld ?_
          rotate_left
          · intro W hSW; (try dsimp only at hSW); unfold oo16; go_simp; with_reducible rfl
          simp only [oo16, Act.put, List.setIfInBounds_toArray, List.set_cons_zero, List.set_cons_succ]
          refine Tillst.done (by kernel_rfl) ?_ _
          go_wp2
          go_roundw
          case rel => exact ⟨i + 1, _, _, _, by simp, HM7.out.next_ HRV.out HS7.out HVV.out HUV.out HBV.out HX.out⟩
          case measure => show 200 - (Int.toNat ((i : Int) + 1)) < 200 - (Int.toNat (i : Int)); omega
      · intro K hK
        refine step_lit13 (.tmp 110) rfl rfl sk rfl ?_
        have hx := HX.out.laid
        rw [HSK.out] at hx
        have HX := Lib.hid hx
        clear hx
        simp only [oo14, Act.put, List.setIfInBounds_toArray, List.set_cons_zero, List.set_cons_succ]
        refine hK.out _ _ (fun _ => HX.out.bel) (fun hHeld2 => ?_)
        clear hHeld2 hK K
        refine Tillst.one (i := 0) (o := oo0) (by kernel_rfl) rfl ?_
        intro K hK
        refine step_empty13 rfl rfl ?_
        have HX := Lib.hid HX.out.empty_
        simp only [oo0, Act.put, List.setIfInBounds_toArray, List.set_cons_zero, List.set_cons_succ]
        refine hK.out _ _ (fun _ => HX.out.bel) (fun hHeld2 => ?_)
        clear hHeld2 hK K
        refine Tillst.one (i := 4) (o := oo4) (by kernel_rfl) rfl ?_
        intro K hK
        refine step_append_rowG (mk := mkS) (d := 0) rfl (.tmp 97) (.tmp 100) 69 rfl vd.heap.size 9 i0 (.string ⟨#[]⟩) 16 Tryd.underlying69 hi0 hz0 hz1 hz2 rfl (fun _ => rfl) _ _ _ rfl HX.out.own _ _ _ _ _ rfl (HR1.out _ HX.out.bel) (fun h => by cases h) (by unfold maxLen; omega) (by omega) HX.out.size ?_
        intro v4 w4 h1 h2 h3
        have HX := Lib.hid (HX.out.app h1 h2 h3)
        clear h1 h2 h3
        simp only [oo4, Act.put, List.setIfInBounds_toArray, List.set_cons_zero, List.set_cons_succ]
        refine hK.out _ _ (fun _ => HX.out.bel) (fun hHeld2 => ?_)
        clear hHeld2 hK K
        refine Tillst.one (i := 9) (o := oo9) (by kernel_rfl) rfl ?_
        intro K hK
        refine step_append_rowG (mk := mkS) (d := 0) rfl (.tmp 101) (.tmp 105) 69 rfl vd.heap.size 9 i0 (.string ⟨#[]⟩) 16 Tryd.underlying69 hi0 hz0 hz1 hz2 rfl (fun _ => rfl) _ _ _ rfl HX.out.own _ _ _ _ _ rfl (HR2.out _ HX.out.bel) (fun h => absurd h HN2.out) (by unfold maxLen; omega) (by omega) HX.out.size ?_
        intro v9 w9 h1 h2 h3
        have HX := Lib.hid (HX.out.app h1 h2 h3)
        clear h1 h2 h3
        simp only [oo9, Act.put, List.setIfInBounds_toArray, List.set_cons_zero, List.set_cons_succ]
        refine hK.out _ _ (fun _ => HX.out.bel) (fun hHeld2 => ?_)
        clear hHeld2 hK K
        refine Tillst.one (i := 15) (o := oo15) (by kernel_rfl) rfl ?_
        intro K hK
        refine step_append_rowG (mk := mkS) (d := 0) rfl (.tmp 106) (.tmp 111) 69 rfl vd.heap.size 9 i0 (.string ⟨#[]⟩) 16 Tryd.underlying69 hi0 hz0 hz1 hz2 rfl (fun _ => rfl) _ _ _ rfl HX.out.own _ _ _ _ _ rfl HX.out.litRow (fun h => by cases h) (by unfold maxLen; omega) (by omega) HX.out.size ?_
        intro vf wf h1 h2 h3
        have hx := HX.out.app h1 h2 h3
        rw [List.nil_append, show 0 + k + (i + 1 - (k + 1)) + 1 = i + 1 by omega] at hx
        have HX := Lib.hid hx
        clear h1 h2 h3 hx
        simp only [oo15, Act.put, List.setIfInBounds_toArray, List.set_cons_zero, List.set_cons_succ]
        refine hK.out _ _ (fun _ => HX.out.bel) (fun hHeld2 => ?_)
        clear hK K
        have hHeld := hHeld2 (by decide)
        clear hHeld2
        refine Tillst.take (i := 16) (oi := oo16) (v := ?_) rfl (by kernel_rfl) (by kernel_rfl) (by kernel_rfl) (by kernel_rfl) (fun _ _ _ h => h) (by rfl) ?_ hHeld ?_
        rotate_left
        · intro W hSW; (try dsimp only at hSW); unfold oo16; go_simp; with_reducible rfl
        simp only [oo16, Act.put, List.setIfInBounds_toArray, List.set_cons_zero, List.set_cons_succ]
        refine Tillst.done (by kernel_rfl) ?_ _
        go_wp2
        go_roundw
        case rel => exact ⟨i + 1, _, _, _, by simp, HM7.out.next_ HRV.out HS7.out HVV.out HUV.out HBV.out HX.out⟩
        case measure => show 200 - (Int.toNat ((i : Int) + 1)) < 200 - (Int.toNat (i : Int)); omega
  · have hI := HM.out.s.inv
    have hne : es ≠ [] := hI.some (by rw [HM.out.s.len]; omega) hg
    obtain ⟨es0, e0, hes⟩ : ∃ es0 e0, es = es0 ++ [e0] := ⟨_, _, (List.dropLast_concat_getLast hne).symm⟩
    have he0 : e0 ∈ es := by rw [hes]; simp
    have hev := evict_one hI hg (fun x hx => HM.out.s.cls hx) hes
    rw [hev] at hout
    obtain ⟨g9, c9, ka, kc9, rfl, hg9, hcell9, hrow9⟩ := outM_one hout
    obtain ⟨j, od1, hod⟩ : ∃ j od1, od = j :: od1 := by
      cases hod : od with
      | nil => rw [hod] at ho; rw [hes] at ho; simp at ho; omega
      | cons j od1 => exact ⟨_, _, rfl⟩
    have hk0 : e0.it.key = key2 j := by
      have h1 := HM.out.s.keys
      rw [hes, hod] at h1
      simp only [List.map_append, List.map_cons, List.map_nil, List.reverse_cons] at h1
      have h2 := (List.append_inj_right' h1 rfl)
      simpa using h2
    have hbytes := (hI.right e0 he0).2.1
    rw [hk0] at hcell9 hrow9 hbytes
    have hi1 : 0 < i := by rw [← ho.1, hod]; simp
    obtain ⟨g7, c7, e7⟩ : ∃ g c, Value.slice OA i oc = .slice (some ⟨g, 0, none⟩) i c := by
      rcases HOW.out.2 with ⟨_, h0⟩ | ⟨g, cap, cur, e, _⟩
      · omega
      · exact ⟨g, cap, e⟩
    injection e7 with e7 _ e8
    subst e7
    subst e8
    have hc7 := HOW.out.cellAt 0 (by omega)
    have hl7 := (HOW.out.lt g7 rfl).2
    rw [hod] at hc7
    have HC := Lib.hid (show ∀ W, Below w5.heap.size w5 W → W.cell? ⟨g9, 0, none⟩ = some (.slice ka 2 kc9) ∧ (convert 36 9 (.slice ka 2 kc9)).run Tryd.prog W = .ok (.string (keyS (key2 j))) W ∧ W.cell? ⟨g7, 0, none⟩ = some (.string (keyS (key2 j))) from fun W hW =>
      ⟨(hW.cell (p := ⟨g9, 0, none⟩) hg9).trans hcell9, conv_key kc9 W (hrow9.below hW (fun b h => h)) hbytes, (hW.cell (p := ⟨g7, 0, none⟩) hl7).trans hc7⟩)
    have HI1 := Lib.hid hi1
    clear hI hne hes he0 hev hout hcell9 hrow9 hod hk0 hbytes hc7 hl7 hm5 hg9 hg hce hcg
    have hi2 : 0 < (i : Int) := by omega
    go_upto_region 16 with fail
    refine Tillst.region (fun W => Below w5.heap.size w5 W) [] (by kernel_rfl) (Below.refl _ _).drew (fun hHeld => ?_)
    generalize w5.drew = ve at *
    refine Tillst.take (i := 0) (oi := pp0) (v := ?_) rfl (by kernel_rfl) (by kernel_rfl) (by kernel_rfl) (by kernel_rfl) (fun _ _ _ h => h) (by rfl) ?_ hHeld ?_
    rotate_left
    · intro W hSW; (try dsimp only at hSW); unfold pp0; go_simp; with_reducible rfl
    simp only [pp0, Act.put, List.setIfInBounds_toArray, List.set_cons_zero, List.set_cons_succ]
    refine Tillst.take (i := 1) (oi := pp1) (v := ?_) rfl (by kernel_rfl) (by kernel_rfl) (by kernel_rfl) (by kernel_rfl) (fun _ _ _ h => h) (by rfl) ?_ hHeld ?_
    rotate_left
    · intro W hSW; (try dsimp only at hSW); unfold pp1; go_simp; with_reducible rfl
    simp only [pp1, Act.put, List.setIfInBounds_toArray, List.set_cons_zero, List.set_cons_succ]
    refine Tillst.take (i := 2) (oi := pp2) (v := ?_) rfl (by kernel_rfl) (by kernel_rfl) (by kernel_rfl) (by kernel_rfl) (fun _ _ _ h => h) (by rfl) ?_ hHeld ?_
    rotate_left
    · intro W hSW; (try dsimp only at hSW); unfold pp2; go_simp; with_reducible rfl
    simp only [pp2, Act.put, List.setIfInBounds_toArray, List.set_cons_zero, List.set_cons_succ]
    refine Tillst.take (i := 3) (oi := pp3) (v := ?_) rfl (by kernel_rfl) (by kernel_rfl) (by kernel_rfl) (by kernel_rfl) (fun _ _ _ h => h) (by rfl) ?_ hHeld ?_
    rotate_left
    · intro W hSW; obtain ⟨h1, -, -⟩ := HC.out W hSW; clear hSW; unfold pp3; go_simp; with_reducible rfl
    simp only [pp3, Act.put, List.setIfInBounds_toArray, List.set_cons_zero, List.set_cons_succ]
    refine Tillst.take (i := 4) (oi := pp4) (v := .string (keyS (key2 j))) rfl (by kernel_rfl) (by kernel_rfl) (by kernel_rfl) (by kernel_rfl) (fun _ _ _ h => h) (by rfl) ?_ hHeld ?_
    · intro W hSW; refine exec_convert 36 9 (.tmp 63) rfl (.slice ka 2 kc9) (.string (keyS (key2 j))) rfl (HC.out W hSW).2.1
    simp only [pp4, Act.put, List.setIfInBounds_toArray, List.set_cons_zero, List.set_cons_succ]
    refine Tillst.take (i := 5) (oi := pp5) (v := ?_) rfl (by kernel_rfl) (by kernel_rfl) (by kernel_rfl) (by kernel_rfl) (fun _ _ _ h => h) (by rfl) ?_ hHeld ?_
    rotate_left
    · intro W hSW; (try dsimp only at hSW); unfold pp5; go_simp; with_reducible rfl
    simp only [pp5, Act.put, List.setIfInBounds_toArray, List.set_cons_zero, List.set_cons_succ]
    refine Tillst.take (i := 6) (oi := pp6) (v := .pointer (some ⟨g7, 0, none⟩)) rfl (by kernel_rfl) (by kernel_rfl) (by kernel_rfl) (by kernel_rfl) (fun _ _ _ h => h) (by rfl) ?_ hHeld ?_
    · intro W hSW; clear hSW; unfold pp6; go_simp; (try (intro h; exfalso; omega))
    simp only [pp6, Act.put, List.setIfInBounds_toArray, List.set_cons_zero, List.set_cons_succ]
    refine Tillst.take (i := 7) (oi := pp7) (v := ?_) rfl (by kernel_rfl) (by kernel_rfl) (by kernel_rfl) (by kernel_rfl) (fun _ _ _ h => h) (by rfl) ?_ hHeld ?_
    rotate_left
    · intro W hSW; obtain ⟨-, -, h1⟩ := HC.out W hSW; clear hSW; unfold pp7; go_simp; with_reducible rfl
    simp only [pp7, Act.put, List.setIfInBounds_toArray, List.set_cons_zero, List.set_cons_succ]
    refine Tillst.take (i := 8) (oi := pp8) (v := .bool true) rfl (by kernel_rfl) (by kernel_rfl) (by kernel_rfl) (by kernel_rfl) (fun _ _ _ h => h) (by rfl) ?_ hHeld ?_
    · intro W hSW; clear hSW; unfold pp8; go_simp
    simp only [pp8, Act.put, List.setIfInBounds_toArray, List.set_cons_zero, List.set_cons_succ]
    refine Tillst.take (i := 9) (oi := pp9) (v := ?_) rfl (by kernel_rfl) (by kernel_rfl) (by kernel_rfl) (by kernel_rfl) (fun _ _ _ h => h) (by rfl) ?_ hHeld ?_
    rotate_left
    · intro W hSW; (try dsimp only at hSW); unfold pp9; go_simp; with_reducible rfl
    simp only [pp9, Act.put, List.setIfInBounds_toArray, List.set_cons_zero, List.set_cons_succ]
    refine Tillst.done (by kernel_rfl) ?_ _
    go_wp2
    (first | go_ret | go_ret2)
    exact ⟨rfl, HBW.out.trans (hHeld.mono HBW.out.size)⟩
end Go.Proofs.YtjhggcdoahnmkaaDoor
