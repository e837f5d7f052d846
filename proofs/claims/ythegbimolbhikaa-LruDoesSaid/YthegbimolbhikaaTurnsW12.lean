/- LruTurns. -/
import Derived.Test.YthegbimolbhikaaTurnsP
import Derived.Test.YthegbimolbhikaaTold12
import Derived.Test.YthegbimolbhikaaWakes12
import Derived.Test.YthegbimolbhikaaArgs
import Derived.Deep.DeepCutAuto
namespace Go.Proofs.Ythegbimolbhikaa
open Go.RowKit
attribute [local go_sem] Oper.semAt_some
set_option linter.unusedVariables false
set_option linter.unusedSimpArgs false
set_option maxRecDepth 100000
theorem told_lr {w : World} {x p n : Nat} {xs : List (List Nat)} (h : LrV w x p n xs) (i : Int) : Calls Try.prog 26 #[.pointer (some ⟨x, 0, none⟩), .int .i64 i] w fun e w' => ToldT (ofX xs i) w e w' :=
  told_of _ i _ (h.ofLen i) w fun W hW => all_lr (h.below hW h.lt.1 h.lt.2) i
theorem info_bool12 : (Try.prog.info? 4).map (fun i => (i.zero, i.size, i.bytes)) = some (some (.bool false), 1, 1) := by kernel_rfl
theorem uwrap (a : Int) (m : Int) (hm : 1 ≤ m ∧ m ≤ 100) : ∃ n : Nat, wrap64 (1 + wrap64 ((IntKind.u64.wrap a).tmod m)) = n ∧ 1 ≤ n ∧ (n : Int) ≤ m := by
  have h0 : 0 ≤ IntKind.u64.wrap a := by rw [IntKind.wrap_u64]; omega
  have h1 : (IntKind.u64.wrap a).tmod m = (IntKind.u64.wrap a) % m := Int.tmod_eq_emod_of_nonneg h0
  rw [h1]
  obtain ⟨r, hr⟩ : ∃ r, IntKind.u64.wrap a % m = r := ⟨_, rfl⟩
  have h2 : 0 ≤ r ∧ r < m := by
    rw [← hr]
    exact ⟨Int.emod_nonneg _ (by omega), Int.emod_lt_of_pos _ (by omega)⟩
  rw [hr, IntWalk.wrap64_in r (by omega), IntWalk.wrap64_in (1 + r) (by omega)]
  exact ⟨(1 + r).toNat, by omega, by omega, by omega⟩
set_option maxHeartbeats 8000000 in
theorem turns_law12 {A : Option Addr} {m c : Nat} {z : List Int} (a0 : Int) {w : World} (hz : RowI .u8 w (· < w.heap.size) A m z) (hby : Bytes z) (hmc : m ≤ c) (h63 : m ≤ 9223372036854775807) (hnil : A = none → c = 0) :
    Calls Try.prog 7 #[.int .i64 a0, .slice A m c] w fun e w' => e = .returned (.bool true) ∧ Below w.heap.size w w' := by
  obtain ⟨n, hn, hn1, hn2⟩ := uwrap a0 40 (by omega)
  have HW := Lib.hid (wakes12 w)
  have HN := Lib.hid (fun (W : World) => new_ok n 1 hn1 (by omega) (by omega) (by omega) W)
  have HZ := Lib.hid hz
  have HBY := Lib.hid hby
  clear hz hby
  go_enter Try.func7, Try.ntmps7
  go_wp2_with fail
  refine HW.out.mono ?_
  rintro e w1 ⟨rfl, hb⟩
  have HB1 := Lib.hid hb
  clear hb HW
  go_wp2_with fail
  rw [hn]
  refine (HN.out w1).mono ?_
  rintro e w2 ⟨x, p, rfl, hl, hb, hx, hp⟩
  have hxw : w.heap.size ≤ x := Nat.le_trans HB1.out.size hx
  have hpw : w.heap.size ≤ p := Nat.le_trans HB1.out.size hp
  have HB2 := Lib.hid (HB1.out.trans (hb.mono HB1.out.size))
  have HL2 := Lib.hid hl
  clear hb hl hx hp HN HB1 hn
  go_wp2_with fail
  go_loopw [33] (fun i wr => ∃ (j : Nat) (l : List Nat), i = .int .i64 j ∧ j ≤ n ∧ LrV wr x p n [l] ∧ l.length = j ∧ (∀ a ∈ l, a < j) ∧ Below w.heap.size w wr) (fun i _ => n - (intOf i).toNat)
  case atStart => exact ⟨0, [], rfl, Nat.zero_le _, HL2.out, rfl, by simp, HB2.out⟩
  case round =>
    obtain ⟨j, l, rfl, hj, hL, hlen, hlt, hB⟩ := hrel
    have HL := Lib.hid hL
    have HB := Lib.hid hB
    have HLEN := Lib.hid hlen
    have HLT := Lib.hid hlt
    clear hL hB hlen hlt
    by_cases hjn : j < n
    · have hno : j ∉ l := fun hm => by have := HLT.out j hm; omega
      obtain ⟨e1, e2⟩ := push_one hjn hno
      have HP := Lib.hid (push_lr HL.out 0 (j : Int))
      rw [e1, e2] at HP
      clear e1 e2 hno
      go_wp2_with fail
      refine HP.out.mono ?_
      rintro e w3 ⟨rfl, hl3, hk3⟩
      have HL3 := Lib.hid hl3
      have HB3 := Lib.hid (HB.out.trans (hk3.to_below fun b hb => ⟨by omega, by omega⟩))
      clear hl3 hk3
      go_wp2_with fail
      go_roundw
      case rel => exact ⟨j + 1, j :: l, by simp, by omega, HL3.out, by simp [HLEN.out], fun a ha => by rcases List.mem_cons.1 ha with rfl | ha; omega; have := HLT.out a ha; omega, HB3.out⟩
      case measure => show n - (Int.toNat ((j : Int) + 1)) < n - (Int.toNat (j : Int)); omega
    · obtain rfl : n = j := by omega
      obtain ⟨M, hM⟩ : ∃ M, M = min m 200 := ⟨_, rfl⟩
      have hM2 : M ≤ 200 := by omega
      have hMm : M ≤ m := by omega
      go_upto_region 13 with fail
      go_cut [44, 45, 46, 47] (fun s44 s45 s46 s47 wx => s45 = .slice A M c ∧ s46 = .int .i64 M ∧ s47 = .int .i64 0 ∧ wx = wr)
      case first =>
        go_wp2_with fail
        all_goals go_meet
        all_goals (first | (have e : M = m := by omega) | (have e : M = 200 := by omega))
        all_goals (subst e; exact ⟨rfl, rfl, rfl, rfl⟩)
      case rest =>
        obtain ⟨rfl, rfl, rfl, rfl⟩ := hcut
        clear hM
        have HB0 := Lib.hid HB.out
        have HL0 := Lib.hid HL.out
        clear HB HL HL2
        go_wp2_with fail
        generalize wc = wa at *
        have hA : Below w.heap.size w wa := HB0.out
        go_loopw [47] (fun i wr => ∃ (k : Nat) (l : List Nat), i = .int .i64 k ∧ k ≤ M ∧ LrV wr x p n [l] ∧ l.length = n ∧ Below w.heap.size w wr) (fun i _ => M - (intOf i).toNat)
        case atStart => exact ⟨0, l, rfl, Nat.zero_le _, HL0.out, HLEN.out, HB0.out⟩
        case round =>
          obtain ⟨k, l, rfl, hk, hL, hlen, hB⟩ := hrel
          have HL := Lib.hid hL
          have HB := Lib.hid hB
          have HLEN := Lib.hid hlen
          have HND : l.Nodup := by have := hL.nd 0; simpa using this
          have HSM : ∀ a ∈ l, a < n := fun a ha => hL.small (i := 0) (by simpa using ha)
          clear hL hB hlen
          by_cases hkM : k < M
          · obtain ⟨b0, o0, rfl, hb0, hc0⟩ := HZ.out.2 (by omega)
            have z0 := (HB.out.cell (p := ⟨b0, o0 + k, none⟩) hb0).trans (hc0 k (by omega))
            obtain ⟨v, hv⟩ : ∃ v : Nat, z.getD k 0 = v := ⟨(z.getD k 0).toNat, by have := HBY.out k; omega⟩
            have hv2 : v < 256 := by have := HBY.out k; omega
            rw [hv] at z0
            have q1 : ((v : Int)).tmod (n : Int) = ((v % n : Nat) : Int) := by rw [Int.tmod_eq_emod_of_nonneg (by omega)]; omega
            obtain ⟨kk, hkk⟩ : ∃ kk, v % n = kk := ⟨_, rfl⟩
            rw [hkk] at q1
            have hkn : kk < n := by rw [← hkk]; exact Nat.mod_lt _ (by omega)
            obtain ⟨e1, l', e2, e3⟩ := touch_one hkn (pig HND HSM HLEN.out hkn) HND
            have HT := Lib.hid (touch_lr HL.out (kk : Int))
            rw [e1, e2] at HT
            have HLEN2 := Lib.hid (e3.trans HLEN.out)
            have hn40 : n ≤ 40 := by omega
            have q0 : ((n : Int) = 0) = False := by simp; omega
            clear e1 e2 e3 hv hkk HND HSM hc0 hb0
            go_wp2_with fail
            refine HT.out.mono ?_
            rintro e w3 ⟨rfl, hl3, hk3⟩
            have HL3 := Lib.hid hl3
            have HB3 := Lib.hid (HB.out.trans (hk3.to_below fun b hb => ⟨by omega, by omega⟩))
            have HLN := Lib.hid (len_any hl3 0)
            have HNW := Lib.hid (newest_lr hl3 0)
            rw [of_one, HLEN2.out] at HLN
            rw [(new_one kk l').1, (new_one kk l').2] at HNW
            clear hl3 hk3 HT z0
            go_wp2_with (first | (go_at_call 21; refine HLN.out.mono ?_; rintro e w4 ⟨rfl, rfl⟩) | (go_at_call 24; refine HNW.out.mono ?_; rintro e w4 ⟨rfl, rfl⟩))
            go_roundw
            case rel => exact ⟨k + 1, _, by simp, by omega, HL3.out, HLEN2.out, HB3.out⟩
            case measure => show M - (Int.toNat ((k : Int) + 1)) < M - (Int.toNat (k : Int)); omega
          · obtain rfl : k = M := by omega
            have HTD := Lib.hid (told_lr HL.out 0)
            rw [of_one] at HTD
            have HNDH := Lib.hid HND
            have HSMH := Lib.hid HSM
            have hn40 : n ≤ 40 := by omega
            have hmk := fun u : World => run_make_row' (P := Try.prog) 59 4 (.bool false) 1 Try.underlying59 info_bool12 rfl .i64 .i64 n (by omega) (by omega) u
            clear HND HSM hk hkM
            go_wp2_with fail
            refine HTD.out.mono ?_
            rintro e w5 ⟨v, rfl, hv, hb5⟩
            obtain ⟨A5, c5, e5, _, _, hr5⟩ := rowG_own (mk := mkN) 0 hv
            subst e5
            rw [HLEN.out] at hr5 ⊢
            have HR5 := Lib.hid (hr5.more (T := fun b => b < w5.heap.size) (fun b hb => hb.2.1))
            have HB5 := Lib.hid (HB.out.trans (hb5.mono HB.out.size))
            clear hv hb5 hr5 HTD
            go_wp2_with fail
            have HM0 := Lib.hid (Arr.made (mk := Value.bool) w5 false n 4)
            have HBM := Lib.hid ((Below.refl w5.heap.size w5).alloc (Nat.le_refl _) (.cells (madeCells #[.bool false] n) 4))
            generalize w5.alloc (.cells (madeCells #[.bool false] n) 4) = w6 at *
            clear hmk
            go_loopw [87] (fun i wr => ∃ (j : Nat), i = .int .i64 j ∧ j ≤ n ∧ Arr Value.bool wr w5.heap.size 4 (MetB n (l.take j)) ∧ Below w5.heap.size w5 wr) (fun i _ => n - (intOf i).toNat)
            case atStart => exact ⟨0, rfl, Nat.zero_le _, by rw [List.take_zero, met_nil]; exact HM0.out, HBM.out⟩
            case round =>
              obtain ⟨j, rfl, hj, hA6, hB6⟩ := hrel
              have HA6 := Lib.hid hA6
              have HB6 := Lib.hid hB6
              clear hA6 hB6
              by_cases hjn : j < n
              · obtain ⟨b5, o5, rfl, hb5, hc5⟩ := HR5.out.2 (by omega)
                have z1 := (HB6.out.cell (p := ⟨b5, o5 + j, none⟩) hb5).trans (hc5 j hjn)
                obtain ⟨kk, hkk⟩ : ∃ kk, l.getD j 0 = kk := ⟨_, rfl⟩
                have hjl : j < l.length := by rw [HLEN.out]; exact hjn
                have hge : l[j] = kk := by rw [← hkk]; simp [List.getD, List.getElem?_eq_getElem hjl]
                have htk : l.take (j + 1) = l.take j ++ [kk] := by rw [List.take_add_one, List.getElem?_eq_getElem hjl, hge]; rfl
                have hkn : kk < n := HSMH.out kk (by rw [← hge]; exact List.getElem_mem hjl)
                have hfr : (l.take j).contains kk = false := by
                  have hnd := HNDH.out
                  rw [← List.take_append_drop (j + 1) l, htk, List.append_assoc] at hnd
                  have := (List.nodup_append.1 hnd).2.2
                  cases hc : (l.take j).contains kk with
                  | false => rfl
                  | true => exact absurd rfl (this kk (by simpa using hc) kk (by simp))
                simp only [hkk, mkN] at z1
                have m1 := HA6.out.cell (i := kk) (by rw [met_len]; exact hkn) false
                rw [met_get _ hkn, hfr] at m1
                have f1 := HA6.out.frozen kk
                have HA7 := Lib.hid (HA6.out.set kk true)
                rw [met_set _ hkn, ← htk] at HA7
                have HB7 := Lib.hid (HB6.out.setCell (p := ⟨w5.heap.size, kk, none⟩) (Nat.le_refl _) (.bool true))
                have q7 : decide ((n : Int) ≤ kk) = false := by simp; omega
                clear hge htk hfr hkk hjl hc5 hb5
                go_wp2_with fail
                go_roundw
                case rel => exact ⟨j + 1, by simp, by omega, HA7.out, HB7.out⟩
                case measure => show n - (Int.toNat ((j : Int) + 1)) < n - (Int.toNat (j : Int)); omega
              · obtain rfl : n = j := by omega
                have q8 : (decide True : Bool) = true := rfl
                go_wp2_with fail
                go_ret
                exact ⟨rfl, HB5.out.trans (HB6.out.mono HB5.out.size)⟩
end Go.Proofs.Ythegbimolbhikaa
