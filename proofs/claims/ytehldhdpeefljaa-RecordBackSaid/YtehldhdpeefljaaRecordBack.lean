/- For every record (of its lists the first 600 bytes) and whatever stands behind (the first 100 bytes of it): what was encoded is decoded as the same record and so many bytes as Size says, and it has 1 to 17 sectors; a record that may not be is not encoded. No condition. -/
import Derived.Test.YtehldhdpeefljaaRows
import Derived.WalkKit
import Derived.ProofKit
import Derived.OpenShut
import Derived.ShutString
import Derived.ChangeOld
import Derived.Below
import Derived.SizedLaws
import Derived.Test.YtehldhdpeefljaaWakes
import Derived.Test.YtehldhdpeefljaaShort
import Derived.Test.YtehldhdpeefljaaSteps
import Derived.Test.YtehldhdpeefljaaArgsRec
import Derived.Deep.DeepCutAuto
namespace Go.Proofs.Ytehldhdpeefljaa.recordBack
open Go.ChangeShapes Go.WideShapes Go.ChangeAt Go.RowKit
open Go.ChangeMaps (open_string shut_string)
set_option linter.unusedVariables false

theorem own : ownKnob Try.prog.godebug = none := by kernel_rfl
theorem laidOut : laidOutB Try.prog = true := by kernel_rfl
theorem bytes5 : Try.prog.bytesOf 5 = 1 := by kernel_rfl

/-- A slice of integers that came in: nil; or a row of 'cap' cells, the numbers 'zs', each fitting its kind. -/
def IsRow (k : IntKind) (w : World) (a : Option Addr) (len cap : Nat) (zs : List Int) : Prop :=
  (a = none ∧ len = 0 ∧ cap = 0 ∧ zs = []) ∨
  ∃ x : Addr, a = some x ∧ len ≤ cap ∧ cap ≤ maxLen ∧ zs.length = cap ∧ (∀ i, i < zs.length → w.cell? (x.add i) = some (.int k (zs.getD i 0))) ∧ ∀ n ∈ zs, (Lit.int k n).wf = true

set_option maxRecDepth 100000 in
set_option maxHeartbeats 4000000 in
theorem walk_any (k f x s : Int) (A B : Option Addr) (n c m d p q : Nat) (xs ys : List Int) (D : Option Addr) (len l e0 : Nat) (zs : List Int) (w : World) (hr : IsRec w k f x s A n c B m d xs ys)
    (hz : RowI .u8 w (· < w.heap.size) D l zs) (hzb : Bytes zs) (hle : l ≤ e0) (hD : D = none → e0 = 0) (hlen : len ≤ e0) (hl : (len ≤ 100 ∧ l = len) ∨ (100 < len ∧ l = 100))
    (hp : (n ≤ 600 ∧ p = n) ∨ (600 < n ∧ p = 600)) (hq : (m ≤ 600 ∧ q = m) ∨ (600 < m ∧ q = 600)) :
    Calls Try.prog 7 #[.agg #[.int .i64 k, .int .u32 f, .int .u32 x, .int .u64 s, .slice A n c, .slice B m d], .slice D len e0] w fun e w' => e = .returned (.bool true) ∧ Below w.heap.size w w' := by
  obtain ⟨i0, hi, hz0, hz1, hz2⟩ := info_parts info_u8
  have HR := Lib.hid hr
  have HP := Lib.hid hp
  have HQ := Lib.hid hq
  have HZ := Lib.hid hz
  have HZB := Lib.hid hzb
  have HLX := Lib.hid (show (xs.take p).length = p by simp [hr.key.1]; omega)
  have HLY := Lib.hid (show (ys.take q).length = q by simp [hr.value.1]; omega)
  have HBX := Lib.hid (hr.bkey.take p)
  have HBY := Lib.hid (hr.bvalue.take q)
  have HIF := Lib.hid (show (if (100 : Int) < (len : Int) then (100 : Int) else (len : Int)) = (l : Int) by split <;> omega)
  have hl100 : l ≤ 100 := by omega
  have hlc : (l : Int) ≤ e0 := by omega
  clear hr hp hq hl hz hzb
  go_enter Try.func7, Try.ntmps7
  go_wp2_with fail
  refine (wakes_any _).mono ?_
  rintro e w1 ⟨rfl, hb⟩
  have hb0 : Below w.heap.size w w1 := ((Below.refl _ _).alloc (Nat.le_refl _) (.cells (recC k f x s A n c B m d) 26)).trans (hb.mono (by simp))
  have HB1 := Lib.hid hb0
  have HG1 := Lib.hid (show Blk w1 w.heap.size 26 (recC k f x s A n c B m d) from (Blk.new w _ _).below hb (by simp))
  have HX1 := Lib.hid ((HR.out.key.below hb0 (fun b h => h)).more (T := fun b => b < w1.heap.size) (fun b h => Nat.lt_of_lt_of_le h hb0.size))
  have HY1 := Lib.hid ((HR.out.value.below hb0 (fun b h => h)).more (T := fun b => b < w1.heap.size) (fun b h => Nat.lt_of_lt_of_le h hb0.size))
  clear hb hb0
  go_upto_region 3 with fail
  go_cut [1, 2] (fun u t wx => u = .slice D l e0 ∧ t = .pointer (some ⟨w.heap.size, 0, none⟩) ∧ ∃ g1 cap1 g2 cap2, Blk wx w.heap.size 26 (recC k f x s (some ⟨g1, 0, none⟩) p cap1 (some ⟨g2, 0, none⟩) q cap2) ∧ Room wx w1.heap.size g1 p cap1 (xs.take p) ∧ Room wx w1.heap.size g2 q cap2 (ys.take q) ∧ Below w.heap.size w wx)
  case first =>
    refine wp_region_noPanic ?_
    refine wp_region_held_drew (S := fun _ => True) (by kernel_rfl) trivial (fun _ => ?_)
    refine wpAnyH_take (i := 2) (oi := { dst := some 14, op := Op.move (Operand.tmp 1), type := 24, pos := "outright.go:15", after := #[], guard := none }) (v := ?_) rfl (by kernel_rfl) (by kernel_rfl) (by kernel_rfl) (fun _ _ _ h => h) (Or.inl ⟨by rfl, ?_⟩) trivial ?_
    rotate_left
    · intro W hSW; go_simp; with_reducible rfl
    simp only [Act.put, List.setIfInBounds_toArray, List.set_cons_zero, List.set_cons_succ]
    refine wpAnyH_take (i := 3) (oi := { dst := some 15, op := Op.move (Operand.tmp 1), type := 24, pos := "outright.go:15", after := #[], guard := none }) (v := ?_) rfl (by kernel_rfl) (by kernel_rfl) (by kernel_rfl) (fun _ _ _ h => h) (Or.inl ⟨by rfl, ?_⟩) trivial ?_
    rotate_left
    · intro W hSW; go_simp; with_reducible rfl
    simp only [Act.put, List.setIfInBounds_toArray, List.set_cons_zero, List.set_cons_succ]
    refine wpAnyH_take (i := 4) (oi := { dst := some 16, op := Op.call { callee := Callee.builtin Builtin.len, args := #[Operand.tmp 15], argTypes := #[24] }, type := 3, pos := "outright.go:15", after := #[{ on := 3, ground := Ground.data }], guard := none }) (v := ?_) rfl (by kernel_rfl) (by kernel_rfl) (by kernel_rfl) (fun _ _ _ h => h) (Or.inl ⟨by rfl, ?_⟩) trivial ?_
    rotate_left
    · intro W hSW; go_simp; with_reducible rfl
    simp only [Act.put, List.setIfInBounds_toArray, List.set_cons_zero, List.set_cons_succ]
    refine wpAnyH_take (i := 5) (oi := { dst := some 17, op := Op.call { callee := Callee.builtin Builtin.min, args := #[Operand.tmp 16, Operand.const (Value.int IntKind.i64 100)], argTypes := #[3, 3] }, type := 3, pos := "outright.go:15", after := #[{ on := 4, ground := Ground.data }], guard := none }) (v := .int .i64 (l : Int)) rfl (by kernel_rfl) (by kernel_rfl) (by kernel_rfl) (fun _ _ _ h => h) (Or.inl ⟨by rfl, ?_⟩) trivial ?_
    · intro W hSW; (go_simp; (first | done | (rw [HIF.out]) | (simp only [HIF.out])))
    simp only [Act.put, List.setIfInBounds_toArray, List.set_cons_zero, List.set_cons_succ]
    refine wpAnyH_take (i := 6) (oi := { dst := some 18, op := Op.slice 24 (Operand.tmp 14) none (some (Operand.tmp 17)) none, type := 24, pos := "outright.go:15", after := #[{ on := 2, ground := Ground.data }, { on := 5, ground := Ground.data }], guard := none }) (v := ?_) rfl (by kernel_rfl) (by kernel_rfl) (by kernel_rfl) (fun _ _ _ h => h) (Or.inl ⟨by rfl, ?_⟩) trivial ?_
    rotate_left
    · intro W hSW; go_simp; with_reducible rfl
    simp only [Act.put, List.setIfInBounds_toArray, List.set_cons_zero, List.set_cons_succ]
    refine wpAnyH_ready (rs := [0]) (by kernel_rfl) (by simp) ?_
    refine AllReadyH.cons (i := 0) (rs := []) (o := { dst := some 12, op := Op.load 26 (Operand.tmp 2), type := 26, pos := "outright.go:15", after := #[], guard := none }) rfl ?_ AllReadyH.nil
    intro K hK
    refine step_load_row (.tmp 2) 26 rfl rfl w.heap.size rfl 26 [.int .i64 k, .int .u32 f, .int .u32 x, .int .u64 s, .slice A n c, .slice B m d] _ Try.underlying26 rfl size_rec (Blk.drew HG1.out) ?_
    simp only [Act.put, List.setIfInBounds_toArray, List.set_cons_zero, List.set_cons_succ]
    refine hK.out _ _ trivial (fun _ => ?_)
    clear hK K
    refine wpAnyH_ready (rs := [1]) (by kernel_rfl) (by simp) ?_
    refine AllReadyH.cons (i := 1) (rs := []) (o := { dst := some 13, op := Op.call { callee := Callee.value (Operand.func 11), args := #[Operand.tmp 12], argTypes := #[26] }, type := 26, pos := "outright.go:15", after := #[{ on := 0, ground := Ground.data }], guard := none }) rfl ?_ AllReadyH.nil
    intro K hK
    refine step_call 11 #[.tmp 12] #[26] rfl rfl Try.func11 rfl rfl [.agg #[.int .i64 k, .int .u32 f, .int .u32 x, .int .u64 s, .slice A n c, .slice B m d]] rfl ?_
    refine (short_any k f x s A B n c m d p q xs ys w1.drew HX1.out HY1.out HR.out.nc HR.out.md HR.out.nA HR.out.nB HR.out.n63 HR.out.m63 HP.out HQ.out).mono ?_
    rintro e w2 ⟨g1, cap1, g2, cap2, rfl, hr1, hr2, hne, hb⟩
    have HB2 := Lib.hid (HB1.out.drew.trans (hb.mono HB1.out.size))
    have HG2 := Lib.hid ((Blk.drew HG1.out).below hb HG1.out.lt)
    have hlt : w.heap.size < w1.heap.size := HG1.out.lt
    have HK3 := Lib.hid (room_setRow hr1 (q := w.heap.size) (by have h := hr1.lt.1; have : w1.drew.heap.size = w1.heap.size := rfl; omega) (recC k f x s (some ⟨g1, 0, none⟩) p cap1 (some ⟨g2, 0, none⟩) q cap2))
    have HV3 := Lib.hid (room_setRow hr2 (q := w.heap.size) (by have h := hr2.lt.1; have : w1.drew.heap.size = w1.heap.size := rfl; omega) (recC k f x s (some ⟨g1, 0, none⟩) p cap1 (some ⟨g2, 0, none⟩) q cap2))
    clear hr1 hr2 hne hb hlt
    refine ⟨_, rfl, ?_⟩
    simp only [Act.put, List.setIfInBounds_toArray, List.set_cons_zero, List.set_cons_succ]
    refine hK.out _ _ trivial (fun _ => ?_)
    clear hK K
    refine wpAnyH_ready (rs := [7]) (by kernel_rfl) (by simp) ?_
    refine AllReadyH.cons (i := 7) (rs := []) (o := { dst := none, op := Op.store 26 (Operand.tmp 2) (Operand.tmp 13), type := 0, pos := "outright.go:15", after := #[{ on := 1, ground := Ground.data }, { on := 1, ground := Ground.chain }, { on := 0, ground := Ground.phase }, { on := 1, ground := Ground.phase }, { on := 2, ground := Ground.textOnly Departure.lateStores }, { on := 3, ground := Ground.textOnly Departure.lateStores }, { on := 4, ground := Ground.textOnly Departure.lateStoresUnsure }, { on := 5, ground := Ground.textOnly Departure.lateStoresUnsure }, { on := 6, ground := Ground.textOnly Departure.lateStoresUnsure }], guard := none }) rfl ?_ AllReadyH.nil
    intro K hK
    refine step_store_row (.tmp 2) (.tmp 13) 26 rfl rfl w.heap.size (recC k f x s (some ⟨g1, 0, none⟩) p cap1 (some ⟨g2, 0, none⟩) q cap2) rfl rfl 26 _ HG2.out size_rec rfl (one_rec _ _ _ _ _ _ _ _ _ _) ?_
    simp only [Act.put, List.setIfInBounds_toArray, List.set_cons_zero, List.set_cons_succ]
    refine hK.out _ _ trivial (fun _ => ?_)
    clear hK K
    refine wpAnyH_take (i := 8) (oi := { dst := some 1, op := Op.assign (Operand.tmp 18), type := 24, pos := "outright.go:15", after := #[{ on := 6, ground := Ground.data }, { on := 7, ground := Ground.chain }, { on := 0, ground := Ground.phase }, { on := 1, ground := Ground.phase }, { on := 2, ground := Ground.phase }, { on := 3, ground := Ground.phase }, { on := 4, ground := Ground.phase }, { on := 5, ground := Ground.phase }, { on := 6, ground := Ground.phase }, { on := 7, ground := Ground.phase }], guard := none }) (v := ?_) rfl (by kernel_rfl) (by kernel_rfl) (by kernel_rfl) (fun _ _ _ h => h) (Or.inl ⟨by rfl, ?_⟩) trivial ?_
    rotate_left
    · intro W hSW; go_simp; with_reducible rfl
    simp only [Act.put, List.setIfInBounds_toArray, List.set_cons_zero, List.set_cons_succ]
    refine wpAnyH_done (by kernel_rfl) ?_ _
    refine NoPanic.normal ?_
    go_wp2_with fail
    go_meet
    exact ⟨rfl, rfl, g1, cap1, g2, cap2, setRow_heap _ _ _ _ _ _ HG2.out, HK3.out, HV3.out, below_setRow HB2.out (Nat.le_refl _) _⟩
  case rest =>
    obtain ⟨rfl, rfl, g1, cap1, g2, cap2, hg3, hk3, hv3, hb3⟩ := hcut
    have HG3 := Lib.hid hg3
    have HK3 := Lib.hid hk3
    have HV3 := Lib.hid hv3
    have HB3 := Lib.hid hb3
    clear hg3 hk3 hv3 hb3
    go_wp2_with (refine wpList_load_rowB (.tmp 2) 26 rfl rfl w.heap.size rfl 26 [.int .i64 k, .int .u32 f, .int .u32 x, .int .u64 s, .slice (some ⟨g1, 0, none⟩) p cap1, .slice (some ⟨g2, 0, none⟩) q cap2] _ Try.underlying26 rfl size_rec HG3.out ?_)
    by_cases hmay : May k f x s p q
    case neg =>
      have HM := Lib.hid hmay
      refine (encode_no k f x s _ _ p cap1 q cap2 wc hmay).mono ?_
      rintro e w4 ⟨rfl, hb⟩
      have HB4 := Lib.hid (HB3.out.trans (hb.mono HB3.out.size))
      have HG4 := Lib.hid (HG3.out.below hb HG3.out.lt)
      clear hb hmay
      go_wp2_with (refine wpList_load_rowB (.tmp 2) 26 rfl rfl w.heap.size rfl 26 [.int .i64 k, .int .u32 f, .int .u32 x, .int .u64 s, .slice (some ⟨g1, 0, none⟩) p cap1, .slice (some ⟨g2, 0, none⟩) q cap2] _ Try.underlying26 rfl size_rec HG4.out ?_)
      refine (size_no k f x s _ _ p cap1 q cap2 w4 HM.out).mono ?_
      rintro e w5 ⟨rfl, hb⟩
      have HB5 := Lib.hid (HB4.out.trans (hb.mono HB4.out.size))
      clear hb
      go_wp2_with fail
      go_ret
      exact ⟨rfl, HB5.out⟩
    case pos =>
      have HM := Lib.hid hmay
      have hpq : p ≤ 250 ∧ q ≤ 512 := ⟨hmay.2.2.1, hmay.2.2.2.1⟩
      have hmay' : May k f x s (xs.take p).length (ys.take q).length := by rw [HLX.out, HLY.out]; exact hmay
      have hsaid := rec_may (xs := xs.take p) (ys := ys.take q) zs hmay' HR.out.rng
      have hll := recB_length k f x s (xs.take p) (ys.take q)
      have hlb := bytes_append (recB_bytes (k := k) (f := f) (x := x) (s := s) (by have := hmay.2.2.2.2; omega) HBX.out HBY.out) HZB.out
      rw [HLX.out, HLY.out] at hll hsaid
      refine (encode_yes k f x s _ _ p cap1 q cap2 (xs.take p) (ys.take q) (fun b => b < wc.heap.size) wc hmay HR.out.rng (HK3.out.row HK3.out.lt.2) (HV3.out.row HV3.out.lt.2) (fun b h => h) (fun h => by cases h) (fun h => by cases h)).mono ?_
      rintro e w4 ⟨v, rfl, hown, hb⟩
      generalize hL : recB k f x s (xs.take p) (ys.take q) = L at *
      clear hL hmay'
      obtain ⟨hmb, e1, e2, e3, e4, e5, e6, e7, e8⟩ := hsaid
      have hnd : needOf (L ++ zs) = L.length := by unfold needOf; rw [e5, e6, hll]
      rw [hll] at hown hnd
      obtain ⟨A4, c4, rfl, hcc, hnn, hrow⟩ := rowG_own 0 hown
      have HB4 := Lib.hid (HB3.out.trans (hb.mono HB3.out.size))
      have HG4 := Lib.hid (HG3.out.below hb HG3.out.lt)
      have HK4 := Lib.hid (HK3.out.below hb)
      have HV4 := Lib.hid (HV3.out.below hb)
      have HROW := Lib.hid (hrow.more (T := fun b => b < w4.heap.size) (fun b h => h.2.1))
      have HNN := Lib.hid hnn
      have HLL := Lib.hid hll
      have HLB := Lib.hid hlb
      have HMB := Lib.hid hmb
      have E1 := Lib.hid e1
      have E2 := Lib.hid e2
      have E3 := Lib.hid e3
      have E4 := Lib.hid e4
      have E5 := Lib.hid e5
      have E6 := Lib.hid e6
      have E7 := Lib.hid e7
      have E8 := Lib.hid e8
      have HND := Lib.hid hnd
      have HZ4 := Lib.hid (HZ.out.below HB4.out (fun b h => h))
      clear hown hcc hnn hrow hb hll hlb hmb e1 e2 e3 e4 e5 e6 e7 e8 hnd hmay
      have HE4 := Lib.hid (own_empty w4 5)
      go_wp2_with (first
        | (at_builtin; refine wpList_append_rowG (mk := Value.int .u8) (d := 0) rfl (.tmp 39) (.tmp 40) 24 rfl w4.heap.size 5 i0 (.int .u8 0) 1 Try.underlying24 hi hz0 hz1 hz2 rfl (fun _ => rfl) (.slice (some ⟨w4.heap.size, 0, none⟩) 0 0) 0 [] rfl HE4.out (fun b => b < w4.heap.size) A4 (21 + p + q) c4 L rfl (HROW.out.keep (fun p hp => World.cell?_alloc_lt _ _ p hp)) HNN.out (by unfold maxLen; omega) (by omega) (by simp) ?_; intro v5 w5 hown hgrow _; rw [List.nil_append, Nat.zero_add] at hown; have HO5 := Lib.hid hown; have HB5 := Lib.hid (((Below.refl w4.heap.size w4).alloc (Nat.le_refl _) (.cells #[] 5)).grown hgrow (by simp) (fun k hk => by simp [Value.ownBlock] at hk; omega)); clear hown hgrow; have HZ5 := Lib.hid (HZ4.out.below HB5.out (fun b h => Nat.lt_of_lt_of_le h HB4.out.size)))
        | (at_builtin; refine wpList_append_rowG (mk := Value.int .u8) (d := 0) rfl (.tmp 41) (.tmp 42) 24 rfl w4.heap.size 5 i0 (.int .u8 0) 1 Try.underlying24 hi hz0 hz1 hz2 rfl (fun _ => rfl) v5 (21 + p + q) _ rfl HO5.out (· < w.heap.size) D l e0 zs rfl HZ5.out hD (by unfold maxLen; omega) (by omega) HB5.out.size ?_; intro v6 w6 hown hgrow _; rw [← List.map_append] at hown; have HO6 := Lib.hid hown; have HB6 := Lib.hid (HB5.out.grown hgrow HB5.out.size (fun g hg => (HO5.out.lt g hg).1)); clear hown hgrow; obtain ⟨A6, c6, rfl, hc6, hn6, hr6⟩ := rowG_own 0 HO6.out; have HC6 := Lib.hid hc6; have HR6 := Lib.hid (hr6.more (T := fun b => b < w6.heap.size) (fun b h => h.2.1)); clear hc6 hn6 hr6))
      refine (dec_ok A6 (21 + p + q + l) c6 (L ++ zs) (fun b => b < w6.heap.size) w6 HR6.out (fun b h => h) HLB.out (by omega) HC6.out HMB.out (by rw [HND.out]; omega)).mono ?_
      rintro e w7 ⟨b1, b2, rfl, hb1, hb2, hne, ha1, ha2, hb⟩
      rw [E1.out, E2.out, E3.out, E4.out, E5.out, E6.out, HND.out]
      rw [E7.out] at ha1
      rw [E8.out] at ha2
      have HB7 := Lib.hid (HB6.out.trans (hb.mono HB6.out.size))
      obtain ⟨w8, hw8⟩ : ∃ w8, w8 = w7.alloc (.cells (recC k f x s (some ⟨b1, 0, none⟩) p p (some ⟨b2, 0, none⟩) q q) 26) := ⟨_, rfl⟩
      have HB8 := Lib.hid (show Below w4.heap.size w4 w8 by rw [hw8]; exact HB7.out.alloc HB7.out.size _)
      have HX8 := Lib.hid (show ArrU w8 b1 (xs.take p) by rw [hw8]; exact Blk.alloc ha1 _)
      have HY8 := Lib.hid (show ArrU w8 b2 (ys.take q) by rw [hw8]; exact Blk.alloc ha2 _)
      have HS8 := Lib.hid (show Blk w8 w7.heap.size 26 (recC k f x s (some ⟨b1, 0, none⟩) p p (some ⟨b2, 0, none⟩) q q) by rw [hw8]; exact Blk.new w7 _ _)
      have HG8 := Lib.hid (HG4.out.below HB8.out HG4.out.lt)
      have HK8 := Lib.hid (HK4.out.below HB8.out)
      have HV8 := Lib.hid (HV4.out.below HB8.out)
      have HW8 := Lib.hid hw8
      clear hb1 hb2 hne ha1 ha2 hb hw8
      have hnn8 : ((21 + p + q : Nat) : Int) = 21 + (p : Int) + q := by omega
      go_wp2_with (rw [← HW8.out]; refine wpList_load_rowB (.tmp 2) 26 rfl rfl w.heap.size rfl 26 [.int .i64 k, .int .u32 f, .int .u32 x, .int .u64 s, .slice (some ⟨g1, 0, none⟩) p cap1, .slice (some ⟨g2, 0, none⟩) q cap2] _ Try.underlying26 rfl size_rec HG8.out ?_)
      refine (size_yes k f x s _ _ p cap1 q cap2 w8 HM.out).mono ?_
      rintro e w9 ⟨rfl, hb⟩
      rw [hnn8]
      clear hnn8
      have HB9 := Lib.hid (HB8.out.trans (hb.mono HB8.out.size))
      have HX9 := Lib.hid (show ArrU w9 b1 (xs.take p) from Blk.below HX8.out hb HX8.out.lt)
      have HY9 := Lib.hid (show ArrU w9 b2 (ys.take q) from Blk.below HY8.out hb HY8.out.lt)
      have HS9 := Lib.hid (HS8.out.below hb HS8.out.lt)
      have HG9 := Lib.hid (HG8.out.below hb HG8.out.lt)
      have HK9 := Lib.hid (HK8.out.below hb)
      have HV9 := Lib.hid (HV8.out.below hb)
      clear hb
      go_wp2_with (first
        | (refine wpList_load_rowB (.tmp 2) 26 rfl rfl w.heap.size rfl 26 [.int .i64 k, .int .u32 f, .int .u32 x, .int .u64 s, .slice (some ⟨g1, 0, none⟩) p cap1, .slice (some ⟨g2, 0, none⟩) q cap2] _ Try.underlying26 rfl size_rec HG9.out ?_)
        | (refine wpList_load_rowB (.tmp 7) 26 rfl rfl w7.heap.size rfl 26 [.int .i64 k, .int .u32 f, .int .u32 x, .int .u64 s, .slice (some ⟨b1, 0, none⟩) p p, .slice (some ⟨b2, 0, none⟩) q q] _ Try.underlying26 rfl size_rec HS9.out ?_))
      refine (same_any k f x s k f x s _ _ _ _ p cap1 q cap2 p p q q (xs.take p) (xs.take p) (ys.take q) (ys.take q) (fun b => b < w9.heap.size) w9 (HK9.out.row HK9.out.lt.2) (HX9.out.rowN 0 HLX.out HX9.out.lt) (HV9.out.row HV9.out.lt.2) (HY9.out.rowN 0 HLY.out HY9.out.lt) (fun b h => h) HBX.out HBX.out HBY.out HBY.out).mono ?_
      rintro e w10 ⟨rfl, hb⟩
      rw [recSame_self]
      have HB10 := Lib.hid (HB9.out.trans (hb.mono HB9.out.size))
      have HG10 := Lib.hid (HG9.out.below hb HG9.out.lt)
      clear hb
      go_wp2_with (refine wpList_load_rowB (.tmp 2) 26 rfl rfl w.heap.size rfl 26 [.int .i64 k, .int .u32 f, .int .u32 x, .int .u64 s, .slice (some ⟨g1, 0, none⟩) p cap1, .slice (some ⟨g2, 0, none⟩) q cap2] _ Try.underlying26 rfl size_rec HG10.out ?_)
      refine (sectors_yes k f x s _ _ p cap1 q cap2 w10 HM.out).mono ?_
      rintro e w11 ⟨rfl, hb⟩
      have hsc : 1 ≤ (21 + p + q + 47) / 48 ∧ (21 + p + q + 47) / 48 ≤ 17 := by omega
      have HSC := fun W => sectors_yes k f x s (some ⟨g1, 0, none⟩) (some ⟨g2, 0, none⟩) p cap1 q cap2 W HM.out
      generalize (21 + p + q + 47) / 48 = sc at *
      have HSCC := Lib.hid HSC
      have HB11 := Lib.hid (HB10.out.trans (hb.mono HB10.out.size))
      have HG11 := Lib.hid (HG10.out.below hb HG10.out.lt)
      have hs1 : decide ((1 : Int) ≤ (sc : Int)) = true := by simp; omega
      have hs17 : decide ((sc : Int) ≤ 17) = true := by simp; omega
      clear hb HSC
      go_wp2_with (refine wpList_load_rowB (.tmp 2) 26 rfl rfl w.heap.size rfl 26 [.int .i64 k, .int .u32 f, .int .u32 x, .int .u64 s, .slice (some ⟨g1, 0, none⟩) p cap1, .slice (some ⟨g2, 0, none⟩) q cap2] _ Try.underlying26 rfl size_rec HG11.out ?_)
      refine (HSCC.out w11).mono ?_
      rintro e w12 ⟨rfl, hb⟩
      have HB12 := Lib.hid (HB4.out.trans ((HB11.out.trans (hb.mono HB11.out.size)).mono HB4.out.size))
      clear hb
      go_wp2_with fail
      go_ret
      exact ⟨rfl, HB12.out⟩

set_option maxHeartbeats 4000000 in
set_option maxRecDepth 100000 in
theorem walk (k0 f0 x0 s0 : Int) (A0 : Option Addr) (n0 c0 : Nat) (B0 : Option Addr) (m0 d0 : Nat) (z0 y0 : List Int) (a1 : Option Addr) (len1 cap1 : Nat) (z1 : List Int) (w : World) (w0 : IsRec w k0 f0 x0 s0 A0 n0 c0 B0 m0 d0 z0 y0) (w1 : IsRow .u8 w a1 len1 cap1 z1) (b1 : cap1 ≤ 140737488351232) :
    Calls Try.prog 7 #[.agg #[.int .i64 k0, .int .u32 f0, .int .u32 x0, .int .u64 s0, .slice A0 n0 c0, .slice B0 m0 d0], .slice a1 len1 cap1] w fun e w' => e = .returned (.bool true) ∧ Below w.heap.size w w' := by
  -- HEARTS
  have r1 := row8_of w1
  obtain ⟨hx, hby, hnc, hl, hnil⟩ := r1
  obtain ⟨p, hp⟩ : ∃ p, p = min n0 600 := ⟨_, rfl⟩
  obtain ⟨q, hq⟩ : ∃ q, q = min m0 600 := ⟨_, rfl⟩
  obtain ⟨l, hll⟩ : ∃ l, l = min len1 100 := ⟨_, rfl⟩
  exact walk_any k0 f0 x0 s0 A0 B0 n0 c0 m0 d0 p q z0 y0 a1 len1 l cap1 _ w w0 (hx.take l (by omega)) (hby.take l) (by omega) hnil hnc (by omega) (by omega) (by omega)

set_option maxRecDepth 100000 in
theorem lifted (os : Os) (started : os.Started) (H : Type) (enc : TypeId × Value → H) :
    ReturnsInHanded {} Try.checked os 7 .any (Rows.recordBackSpec.pre6 enc Try.prog Try.f7 Rows.recordBackRow.domain false) (Rows.recordBackSpec.post enc Try.prog Try.f7 false true false false) := by
  refine returnsInHanded_of_change_sized (C := Try.checked) own started (by kernel_rfl) Try.func7
    (ChangeSpec.witness6 (enc := enc) (C := Try.checked) false ⟨#[], #[.agg #[.int .i64 0, .int .u32 0, .int .u32 0, .int .u64 0, .slice none 0 0, .slice none 0 0], .slice none 0 0], []⟩ 8 (by kernel_rfl) (by kernel_rfl) (by kernel_rfl) (by kernel_rfl)) ?_
  intro W base args ds gs before hval0 hW hcnd hsz0 _
  have hval : ∀ (j : Nat) t v, Try.f7.params[j]? = some t → args[j]? = some v → Value.okWide Try.prog W .any base t v := hval0
  have hW' := hW
  have hsz : (DataW.weightsEach Try.prog (Try.f7.params.toList ++ Rows.recordBackSpec.plain.varTypes Try.prog) (ds ++ gs)).all (· ≤ reachBytes) = true := hsz0
  obtain ⟨p, q, hA0, hV, rfl, hfz, hnd⟩ := hW
  have hA : DataW.TrodAll enc Try.prog W 0 (fun _ => true) true Try.f7.params.toList args.toList ds p := hA0
  rw [Try.params7] at hA hval hsz
  obtain ⟨v0, vs0, d0, ds0, p0, q0, hargs, rfl, rfl, h0, r0⟩ := trodAll_cons hA
  obtain ⟨v1, vs1, d1, ds1, p1, q1, rfl, rfl, rfl, h1, r1⟩ := trodAll_cons r0
  obtain ⟨rfl, rfl, rfl⟩ := trodAll_nil r1
  obtain rfl : args = #[v0, v1] := by cases args; simp_all
  obtain ⟨rfl, rfl⟩ := trodVars_none hV
  have kk0 := h0
  have lt0 : ∀ x ∈ p0, x.block < W.heap.size := by obtain ⟨m, hm⟩ := kk0; exact DataW.trod_lt m _ _ _ hm
  obtain ⟨k0, f0, x0, s0, A0, n0, c0, B0, m0, dd0, z0, y0, rfl, w0⟩ := open_rec (hval 0 26 v0 rfl rfl) h0
  obtain ⟨a1, len1, cap1, rfl⟩ := okWide_slice Try.underlying24 (hval 1 24 v1 rfl rfl)
  have k1 := h1
  have lt1 : ∀ x ∈ p1, x.block < W.heap.size := by obtain ⟨m, hm⟩ := k1; exact DataW.trod_lt m _ _ _ hm
  obtain ⟨z1, w1, e1⟩ : ∃ zs, IsRow .u8 W a1 len1 cap1 zs ∧ (cap1 = 0 ∨ d1 = .slice (ChangeShapes.lits .u8 (zs.take len1)) (ChangeShapes.lits .u8 (zs.drop len1)) ∧ zs.length = cap1) := by
    obtain ⟨fuel, hf⟩ := h1
    rcases open_ints Try.underlying24 Try.underlying5 (by kernel_rfl) hf with ⟨hcs, _⟩ | ⟨x, l, c, zs, hcs, _, hl, hm, hz, hx, hcell, hwz⟩
    · simp [Value.cells] at hcs
      obtain ⟨rfl, rfl, rfl⟩ := hcs
      exact ⟨[], .inl ⟨rfl, rfl, rfl, rfl⟩, .inl rfl⟩
    · simp [Value.cells] at hcs
      obtain ⟨rfl, rfl, rfl⟩ := hcs
      have hz' : zs.length = cap1 := by simpa using hz
      exact ⟨zs, .inr ⟨_, rfl, hl, hm, hz', hcell, hwz⟩, .inr ⟨(Prod.mk.injEq _ _ _ _ ▸ hx).1, hz'⟩⟩
  have b1 : cap1 ≤ 140737488351232 := by
    rcases e1 with h | ⟨rfl, hl⟩
    · omega
    · have h := sized_slice hsz (j := 1) (t := 24) (e := 5) rfl rfl Try.underlying24
      rw [bytes5] at h
      simp only [ChangeShapes.lits, List.length_map, List.length_take, List.length_drop, reachBytes] at h
      omega
  clear hA0 hval0
  refine (walk k0 f0 x0 s0 A0 n0 c0 B0 m0 dd0 z0 y0 a1 len1 cap1 z1 W w0 w1 b1).mono fun e W' ⟨he, bel⟩ => ?_
  subst he
  exact ⟨_, rfl, _, _, _, [], _, [], hW', trodAll_mk1 (shut_bool Try.underlying4 _), (trodAll_cons_mk (Below.trod laidOut (by kernel_rfl) (of_decide_eq_true (by kernel_rfl)) kk0 bel lt0) (trodAll_cons_mk (Below.trod laidOut (by kernel_rfl) (of_decide_eq_true (by kernel_rfl)) k1 bel lt1) trodAll_mk0)), rfl, bel.frame _, fun h => by cases h⟩

theorem over : Rows.recordBackRow.holds Try.pinned (OpenSpec.ofChange Rows.recordBackSpec) :=
  OpenClaim.holds_of_wide 7 Try.f7 rfl rfl rfl rfl rfl rfl rfl ⟨rfl, rfl, rfl, rfl, rfl⟩ rfl rfl rfl rfl rfl (by kernel_rfl) Try.func7 (by kernel_rfl)
    (of_decide_eq_true (by kernel_rfl)) (by unfold Func.isWrapper; first | (rw [if_pos (by decide +kernel)]; kernel_rfl) | (rw [if_neg (by decide +kernel)]; exact ⟨rfl, rfl⟩))
    (fun os started H enc _ => lifted os started H enc)

theorem proved : Rows.RecordBackSaid := over
end Go.Proofs.Ytehldhdpeefljaa.recordBack
