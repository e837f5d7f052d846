/- What the document's Number and Text answer of whatever arguments. -/
import Derived.Test.YtighdflbmpkehaaSml17
import Derived.Test.YtighdflbmpkehaaNum17
import Derived.Laws.Concat
namespace Go.Proofs.Ytighdflbmpkehaa
open Go.RowKit

/-- A text of bytes. -/
def txtS (xs : List Int) : ByteArray := ⟨(xs.map fun x => UInt8.ofNat x.toNat).toArray⟩
theorem txtS_size (xs : List Int) : (txtS xs).size = xs.length := by simp [txtS, ByteArray.size]

theorem txtS_append (xs ys : List Int) : txtS xs ++ txtS ys = txtS (xs ++ ys) := by
  apply ByteArray.ext
  simp [txtS]

theorem dig_text : ∀ n : Nat, n < 10 → (⟨#[48, 49, 50, 51, 52, 53, 54, 55, 56, 57]⟩ : ByteArray).extract n (n + 1) = txtS [48 + (n : Int)] := by decide +kernel

set_option maxHeartbeats 1000000 in
set_option maxRecDepth 1000000 in
theorem ref_text : ∀ (n : Nat) (w : World), n ≤ 18446744073709551615 →
    Calls Try.prog 17 #[.int .u64 n] w fun e w' => e = .returned (.string (txtS (txt n))) ∧ w = w' := by
  intro n
  induction n using Nat.strongRecOn with
  | ind n ih =>
    intro w hn
    by_cases h : n < 10
    · have h' : (n : Int) < 10 := by omega
      clear ih
      go_enter Try.func17, Try.ntmps17
      go_wp2
      go_ret
      refine ⟨?_, rfl⟩
      rw [txt_small h, ← dig_text n h]
      rfl
    · have h' : (10 : Int) ≤ n := by omega
      have i1 := fun u => ih (n / 10) (by omega) u (by omega)
      have i2 := fun u => ih (n % 10) (by omega) u (by omega)
      have e1 : ((n / 10 : Nat) : Int) = (n : Int) / 10 := by omega
      have e2 : ((n % 10 : Nat) : Int) = (n : Int) % 10 := by omega
      simp only [e1] at i1
      simp only [e2] at i2
      have hl := txtS_size (txt (n / 10))
      have hl2 := txtS_size (txt (n % 10))
      have h3 := txt_20 (n := n / 10) (by omega)
      have h4 := txt_20 (n := n % 10) (by omega)
      have hsum : ¬ (txtS (txt (n / 10))).size + (txtS (txt (n % 10))).size > 9223372036854775807 := by omega
      clear ih e1 e2 hl hl2 h3 h4
      go_enter Try.func17, Try.ntmps17
      go_wp2_with fail
      refine (i1 w).mono ?_
      rintro e w1 ⟨rfl, rfl⟩
      go_wp2_with fail
      refine (i2 w).mono ?_
      rintro e w1 ⟨rfl, rfl⟩
      go_wp2
      go_ret
      refine ⟨?_, rfl⟩
      rw [txt_big h, ← txtS_append, txt_small (show n % 10 < 10 by omega)]
      rfl

theorem txtS_inj {xs ys : List Int} (hx : Bytes xs) (hy : Bytes ys) (h : txtS xs = txtS ys) : xs = ys := by
  have h1 := congrArg (fun s : ByteArray => s.data.toList) h
  simp only [txtS] at h1
  have hm : ∀ zs : List Int, Bytes zs → (zs.map fun x => UInt8.ofNat x.toNat).map (fun b => (b.toNat : Int)) = zs := by
    intro zs hz
    rw [List.map_map]
    conv => rhs; rw [← List.map_id zs]
    refine List.map_congr_left fun x hx => ?_
    obtain ⟨j, hj, rfl⟩ := List.getElem_of_mem hx
    have h := hz j
    have e : zs.getD j 0 = zs[j] := by simp [List.getD, hj]
    rw [e] at h
    simp
    omega
  rw [← hm xs hx, ← hm ys hy, h1]

theorem txtS_get (xs : List Int) (j : Nat) (h : j < (txtS xs).size) (h0 : 0 ≤ xs.getD j 0) (h1 : xs.getD j 0 ≤ 255) : (((txtS xs)[j]'h).toNat : Int) = xs.getD j 0 := by
  have hl : j < xs.length := by rw [txtS_size] at h; exact h
  have e : xs.getD j 0 = xs[j] := by simp [List.getD, hl]
  rw [e] at h0 h1
  have e2 : (txtS xs)[j]'h = UInt8.ofNat (xs[j].toNat) := by
    simp [txtS, ByteArray.getElem_eq_getElem_data]
  rw [e2, e]
  simp
  omega
theorem txtS_nums (s : ByteArray) : txtS (nums s) = s := by
  apply ByteArray.ext
  show ((nums s).map fun x => UInt8.ofNat x.toNat).toArray = s.data
  apply Array.toList_inj.1
  show (nums s).map (fun x => UInt8.ofNat x.toNat) = s.data.toList
  unfold nums
  rw [List.map_map]
  conv => rhs; rw [← List.map_id s.data.toList]
  refine List.map_congr_left fun x _ => ?_
  simp
theorem conv_txt {S : Nat → Prop} {A : Option Addr} {n : Nat} (c : Nat) {xs : List Int} (w : World) (hr : RowI .u8 w S A n xs) (hS : ∀ b, S b → b < w.heap.size) (hb : Bytes xs) :
    (convert 27 9 (.slice A n c)).run Try.prog w = .ok (.string (txtS xs)) w := by
  obtain ⟨s, h1, h2⟩ := conv_string (P := Try.prog) w 27 9 5 Try.underlying27 Try.underlying5 Try.underlying9 (B := w.heap.size) c (hr.more (T := (· < w.heap.size)) hS).toRow hb
  rw [h1, ← h2, txtS_nums]

theorem less_tri : ∀ (xs ys : List Int), xs.length = ys.length → lessL xs ys = true ∨ xs = ys ∨ lessL ys xs = true
  | [], [], _ => .inr (.inl rfl)
  | [], _ :: _, h => by simp at h
  | _ :: _, [], h => by simp at h
  | a :: x, b :: y, h => by
    have ih := less_tri x y (by simpa using h)
    rcases Int.lt_trichotomy a b with h1 | rfl | h1
    · exact .inl (by simp [lessL, h1])
    · rcases ih with h2 | rfl | h2
      · exact .inl (by simp [lessL, h2])
      · exact .inr (.inl rfl)
      · exact .inr (.inr (by simp [lessL, h2]))
    · exact .inr (.inr (by simp [lessL, h1]))
theorem less_bytes : ∀ (xs ys : List Int), (∀ x ∈ xs, Dig x) → (∀ x ∈ ys, Dig x) → Op.bytesLess (xs.map fun x => UInt8.ofNat x.toNat) (ys.map fun x => UInt8.ofNat x.toNat) = lessL xs ys
  | _, [], _, _ => by simp [Op.bytesLess, lessL]
  | [], _ :: _, _, _ => by simp [Op.bytesLess, lessL]
  | a :: x, b :: y, hx, hy => by
    have ih := less_bytes x y (fun z hz => hx z (by simp [hz])) (fun z hz => hy z (by simp [hz]))
    have ha := hx a (by simp)
    have hb := hy b (by simp)
    unfold Dig at ha hb
    have e1 : (UInt8.ofNat a.toNat < UInt8.ofNat b.toNat) ↔ a < b := by
      rw [UInt8.lt_iff_toNat_lt]
      simp
      omega
    have e2 : (UInt8.ofNat a.toNat == UInt8.ofNat b.toNat) = (a == b) := by
      rw [Bool.eq_iff_iff]
      simp only [beq_iff_eq, ← UInt8.toNat_inj, UInt8.toNat_ofNat']
      omega
    simp only [List.map_cons, Op.bytesLess, lessL, ih, e2]
    congr 1
    simp [e1]

/-- Whether a text of twenty digits says more than 2^64 - 1, as the document asks it. -/
theorem most_text : txtS mostL = ⟨#[49, 56, 52, 52, 54, 55, 52, 52, 48, 55, 51, 55, 48, 57, 53, 53, 49, 54, 49, 53]⟩ := by decide +kernel
theorem most_dig : ∀ x ∈ mostL, Dig x := by
  intro x hx
  simp [mostL] at hx
  unfold Dig
  omega
theorem more_most {xs : List Int} (hl : xs.length = 20) (hd : ∀ x ∈ xs, Dig x) :
    (!(Op.bytesLess (txtS xs).toList (txtS mostL).toList || (txtS xs).toList == (txtS mostL).toList)) = decide (18446744073709551615 < valF 0 xs) := by
  have hb : ∀ ys : List Int, (∀ x ∈ ys, Dig x) → Bytes ys := by
    intro ys h j
    by_cases hj : j < ys.length
    · have h := h _ (List.getElem_mem hj)
      have e : ys.getD j 0 = ys[j] := by simp [List.getD, hj]
      rw [e]
      unfold Dig at h
      omega
    · simp [List.getD, List.getElem?_eq_none (show ys.length ≤ j by omega)]
  have e1 : ∀ ys : List Int, (txtS ys).toList = ys.map fun x => UInt8.ofNat x.toNat := fun ys => ByteArray.toList_mk _
  have e2 : ((txtS xs).toList == (txtS mostL).toList) = decide (xs = mostL) := by
    rw [Bool.eq_iff_iff]
    simp only [beq_iff_eq, decide_eq_true_eq]
    constructor
    · intro h
      refine txtS_inj (hb xs hd) (hb mostL most_dig) ?_
      rw [e1, e1] at h
      unfold txtS
      rw [h]
    · rintro rfl; rfl
  have h1 := less_val xs mostL 0 hl hd most_dig
  have h2 := less_val mostL xs 0 hl.symm most_dig hd
  rw [most_val] at h1 h2
  rw [e2, e1, e1, less_bytes _ _ hd most_dig]
  rw [Bool.eq_iff_iff]
  simp only [Bool.not_eq_true', Bool.or_eq_false_iff, decide_eq_true_eq, decide_eq_false_iff_not]
  rcases less_tri xs mostL hl with h | h | h
  · have := h1.1 h
    simp [h]
    omega
  · subst h
    simp [most_val]
  · have h3 := h2.1 h
    constructor
    · intro _; exact h3
    · intro _
      refine ⟨?_, ?_⟩
      · cases h4 : lessL xs mostL
        · rfl
        · have := h1.1 h4; omega
      · rintro rfl
        rw [most_val] at h3
        omega

theorem more_yes {xs : List Int} (hl : xs.length = 20) (hd : ∀ x ∈ xs, Dig x) (h : 18446744073709551615 < valF 0 xs) :
    Op.bytesLess (txtS xs).toList [49, 56, 52, 52, 54, 55, 52, 52, 48, 55, 51, 55, 48, 57, 53, 53, 49, 54, 49, 53] = false ∧ ((txtS xs).toList == [49, 56, 52, 52, 54, 55, 52, 52, 48, 55, 51, 55, 48, 57, 53, 53, 49, 54, 49, 53]) = false := by
  have e := more_most hl hd
  rw [most_text, decide_eq_true h] at e
  simpa using e
theorem more_no {xs : List Int} (hl : xs.length = 20) (hd : ∀ x ∈ xs, Dig x) (h : ¬ 18446744073709551615 < valF 0 xs) :
    Op.bytesLess (txtS xs).toList [49, 56, 52, 52, 54, 55, 52, 52, 48, 55, 51, 55, 48, 57, 53, 53, 49, 54, 49, 53] = true ∨ ((txtS xs).toList == [49, 56, 52, 52, 54, 55, 52, 52, 48, 55, 51, 55, 48, 57, 53, 53, 49, 54, 49, 53]) = true := by
  have e := more_most hl hd
  rw [most_text, decide_eq_false h] at e
  rw [show (ByteArray.mk #[49, 56, 52, 52, 54, 55, 52, 52, 48, 55, 51, 55, 48, 57, 53, 53, 49, 54, 49, 53]).toList = [49, 56, 52, 52, 54, 55, 52, 52, 48, 55, 51, 55, 48, 57, 53, 53, 49, 54, 49, 53] from ByteArray.toList_mk [49, 56, 52, 52, 54, 55, 52, 52, 48, 55, 51, 55, 48, 57, 53, 53, 49, 54, 49, 53]] at e
  have e3 : ∀ a b : Bool, (!(a || b)) = false → a = true ∨ b = true := by decide
  rcases e3 _ _ e with h | h
  · exact .inl h
  · exact .inr h
theorem valF_append : ∀ (xs ys : List Int) (n : Nat), valF n (xs ++ ys) = valF (valF n xs) ys
  | [], _, _ => rfl
  | _ :: r, ys, n => valF_append r ys _
theorem valF_take (xs : List Int) (k : Nat) : valF 0 (xs.take k) ≤ valF 0 xs := by
  conv => rhs; rw [← List.take_append_drop k xs, valF_append]
  exact valF_ge _ _
theorem valF_step (xs : List Int) (k : Nat) (h : k < xs.length) : valF 0 (xs.take (k + 1)) = 10 * valF 0 (xs.take k) + (xs.getD k 0 - 48).toNat := by
  rw [take_snoc xs k h, valF_snoc]

set_option maxHeartbeats 1000000 in
set_option maxRecDepth 1000000 in
theorem ref_number (A : Option Addr) (n c : Nat) (xs : List Int) (S : Nat → Prop) (w : World) (hx : RowI .u8 w S A n xs) (hS : ∀ b, S b → b < w.heap.size) (hb : Bytes xs) :
    Calls Try.prog 15 #[.slice A n c] w fun e w' => e = .returned (.tuple #[.int .u64 (numV xs), .bool (numT xs).isSome]) ∧ Below w.heap.size w w' := by
  have hlen := hx.1
  by_cases h1 : (n : Int) < 1
  · have hN := numT_short (xs := xs) (by omega)
    go_enter Try.func15, Try.ntmps15
    go_wp2
    go_ret2
    exact ⟨by first | rfl | (rw [(numV_none hN).1]; first | rfl | (rw [hN]; rfl)), Below.refl _ _⟩
  by_cases h2 : (n : Int) > 20
  · have hN := numT_short (xs := xs) (by omega)
    go_enter Try.func15, Try.ntmps15
    go_wp2
    go_ret2
    exact ⟨by first | rfl | (rw [(numV_none hN).1]; first | rfl | (rw [hN]; rfl)), Below.refl _ _⟩
  have HT := Lib.hid (numT_fit (xs := xs) (by omega))
  go_enter Try.func15, Try.ntmps15
  go_wp2
  go_loopw [5, 6] (fun v i wr => ∃ k : Nat, k ≤ n ∧ i = .int .i64 k ∧ v = .string (txtS (xs.take k)) ∧ Hid (∀ x ∈ xs.take k, Dig x) ∧ Below w.heap.size w wr) (fun _ i _ => n - (intOf i).toNat)
  case atStart => exact ⟨0, by omega, rfl, rfl, by show ∀ x ∈ _, _; simp, Below.refl _ _⟩
  case round =>
    obtain ⟨k, hk, rfl, rfl, HD, hbw⟩ := hrel
    have hx2 := hx.below hbw hS
    by_cases hlt : k < n
    · have hlt' : (k : Int) < n := by omega
      obtain ⟨b, off, rfl, _, hc⟩ := hx2.2 (by omega)
      have hcell := hc k hlt
      have hr : 0 ≤ xs.getD k 0 ∧ xs.getD k 0 ≤ 255 := hb k
      have HB1 := Lib.hid hbw
      have HX := Lib.hid (take_snoc xs k (by omega))
      have HM := Lib.hid (show k < xs.length ∧ xs.getD k 0 ∈ xs from ⟨by omega, by
        have e : xs.getD k 0 = xs[k]'(by omega) := by simp [List.getD, show k < xs.length by omega]
        rw [e]; exact List.getElem_mem _⟩)
      have hrow := row_new1 (Value.int .u8) 0 wr 5 (xs.getD k 0)
      have hcv := conv_txt 1 (wr.alloc (.cells #[.int .u8 (xs.getD k 0)] 5)) (hrow.more (T := (· < wr.heap.size + 1)) fun b hb => by subst hb; omega) (fun b hb => by simpa using hb) (xs := [xs.getD k 0]) (by
        intro j
        match j with
        | 0 => exact hr
        | j + 1 => simp)
      have HB2 := Lib.hid (hbw.alloc hbw.size (.cells #[.int .u8 (xs.getD k 0)] 5))
      have hs1 := txtS_size (xs.take k)
      have hs2 := txtS_size [xs.getD k 0]
      rw [List.length_take] at hs1
      have hsum : ¬ (txtS (xs.take k)).size + (txtS [xs.getD k 0]).size > 9223372036854775807 := by
        rw [hs1, hs2, List.length_singleton]; omega
      generalize hX : xs.getD k 0 = x at hcell hr HX HM hcv HB2 hsum
      clear hc hx hx2 hb hlen hbw hrow hs1 hs2
      go_wp2
      all_goals first
        | (go_ret2
           have hN : numT xs = none := by
             rw [HT.out]
             refine numF_bad xs 0 fun h => ?_
             have h := h x HM.out.2
             unfold Dig at h
             omega
           exact ⟨by rw [(numV_none hN).1, hN]; rfl, HB1.out⟩)
        | (refine ⟨⟨k + 1, by omega, by congr 1, by rw [HX.out, txtS_append], ?_, HB2.out⟩, by simp [intOf]; omega⟩
           show ∀ y ∈ _, _
           rw [HX.out]
           intro y hy
           rcases List.mem_append.1 hy with hy | hy
           · exact HD.out y hy
           · simp at hy
             subst hy
             unfold Dig
             omega)
    · obtain rfl : k = n := by omega
      have hlt' : ¬ (k : Int) < k := by omega
      have htk : xs.take k = xs := List.take_of_length_le (by omega)
      rw [htk] at HD
      simp only [htk]
      have hsz := txtS_size xs
      rw [hlen] at hsz
      have hN1 : valF 0 xs ≤ 18446744073709551615 → numT xs = some (valF 0 xs) := fun h => by rw [HT.out]; exact numF_some xs 0 HD.out h
      have hN2 : 18446744073709551615 < valF 0 xs → numT xs = none := fun h => by rw [HT.out]; exact numF_big xs 0 h (by omega)
      have HN1 := Lib.hid hN1
      have HN2 := Lib.hid hN2
      have hbig : ¬ (k : Int) = 20 → valF 0 xs ≤ 18446744073709551615 := by
        intro h
        have h1 := valF_lt xs 0 HD.out
        have h3 : (0 + 1) * 10 ^ xs.length ≤ (0 + 1) * 10 ^ 19 := Nat.mul_le_mul_left _ (Nat.pow_le_pow_right (by omega) (by omega))
        omega
      have HBIG := Lib.hid hbig
      have HYES := Lib.hid (fun h : xs.length = 20 => more_yes h HD.out)
      have HNO := Lib.hid (fun h : xs.length = 20 => more_no h HD.out)
      have HEND : ∀ (h : valF 0 xs ≤ 18446744073709551615), numV xs = valF 0 xs ∧ (numT xs).isSome = true := fun h => by
        rw [(numV_some (HN1.out h)).1, HN1.out h]; exact ⟨rfl, rfl⟩
      have HEND2 := Lib.hid HEND
      have HLEN := Lib.hid hlen
      have hgd := fun j : Nat => hb j
      have HGD := Lib.hid hgd
      clear hN1 hN2 hbig hx hx2 hb htk HEND hgd
      have HCH := Lib.hid (show (∃ h : (k : Int) = 20, 18446744073709551615 < valF 0 xs) ∨ (valF 0 xs ≤ 18446744073709551615 ∧ ((k : Int) = 20 ∧ Op.bytesLess (txtS xs).toList [49, 56, 52, 52, 54, 55, 52, 52, 48, 55, 51, 55, 48, 57, 53, 53, 49, 54, 49, 53] = true ∨ (k : Int) = 20 ∧ ((txtS xs).toList == [49, 56, 52, 52, 54, 55, 52, 52, 48, 55, 51, 55, 48, 57, 53, 53, 49, 54, 49, 53]) = true ∨ ¬ (k : Int) = 20)) from by
        by_cases h20 : (k : Int) = 20
        · by_cases hmo : 18446744073709551615 < valF 0 xs
          · exact .inl ⟨h20, hmo⟩
          · rcases HNO.out (by omega) hmo with h | h
            · exact .inr ⟨by omega, .inl ⟨h20, h⟩⟩
            · exact .inr ⟨by omega, .inr (.inl ⟨h20, h⟩)⟩
        · exact .inr ⟨HBIG.out h20, .inr (.inr h20)⟩)
      rcases HCH.out with ⟨h20, hmo⟩ | ⟨hmo, hway⟩
      · obtain ⟨hy1, hy2⟩ := HYES.out (by omega) hmo
        have HN := Lib.hid (HN2.out hmo)
        clear HCH HYES HNO HN1 HN2 HBIG HEND2 hmo hlen
        go_wp2
        go_ret2
        exact ⟨by rw [(numV_none HN.out).1, HN.out]; rfl, hbw⟩
      · have HMO := Lib.hid hmo
        clear HCH HYES HNO HN1 HN2 HBIG hmo hlen
        rcases hway with ⟨h20, hy⟩ | ⟨h20, hy⟩ | h20
        all_goals (
          go_wp2
          go_loop [7, 8] (fun v i => ∃ j : Nat, j ≤ k ∧ i = .int .i64 j ∧ v = .int .u64 (valF 0 (xs.take j))) (fun _ i => k - (intOf i).toNat)
          case atStart => exact ⟨0, by omega, rfl, rfl⟩
          case round =>
            obtain ⟨j, hj, rfl, rfl⟩ := hrel
            by_cases hjk : j < k
            · have hjk' : (j : Int) < k := by omega
              have hd : 48 ≤ xs.getD j 0 ∧ xs.getD j 0 ≤ 57 := by
                have hl := HLEN.out
                have e : xs.getD j 0 = xs[j]'(by omega) := by simp [List.getD, show j < xs.length by omega]
                have h := HD.out _ (List.getElem_mem (show j < xs.length by omega))
                rw [← e] at h
                exact h
              have hst := Lib.hid (valF_step xs j (by have := HLEN.out; omega))
              have hle : 10 * valF 0 (xs.take j) + (xs.getD j 0 - 48).toNat ≤ 18446744073709551615 := by
                rw [← hst.out]
                exact Nat.le_trans (valF_take xs (j + 1)) HMO.out
              have hgx := txtS_get xs j (by rw [hsz]; exact hjk) (by omega) (by omega)
              generalize xs.getD j 0 = x at hd hst hle hgx
              generalize valF 0 (xs.take j) = v at hst hle
              have hd1 := hd.1
              have hd2 := hd.2
              clear hd
              go_wp2
              refine ⟨⟨j + 1, by omega, by congr 1, ?_⟩, by simp [intOf]; omega⟩
              rw [hst.out]
              congr 1
              omega
            · obtain rfl : j = k := by omega
              have htk : xs.take j = xs := List.take_of_length_le (by have := HLEN.out; omega)
              rw [htk]
              go_wp2
              go_ret2
              have h := HEND2.out HMO.out
              exact ⟨by rw [h.1, h.2]; rfl, hbw⟩)
end Go.Proofs.Ytighdflbmpkehaa
