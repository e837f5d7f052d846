/- The document's Push, Touch, Remove. MADE by mkref12.py. -/
import Derived.Test.YthegbimolbhikaaStW12
namespace Go.Proofs.Ythegbimolbhikaa
open Go.RowKit
attribute [local go_sem] Oper.semAt_some
set_option linter.unusedVariables false
set_option linter.unusedSimpArgs false
set_option maxRecDepth 100000
abbrev to0 : Oper := { dst := some 18, op := Go.Op.load 31 (Go.Operand.tmp 2), type := 31, pos := "ref.go:78", after := #[], guard := none }
abbrev to1 : Oper := { dst := some 19, op := Go.Op.load 31 (Go.Operand.tmp 2), type := 31, pos := "ref.go:78", after := #[], guard := none }
abbrev to2 : Oper := { dst := some 20, op := Go.Op.move (Go.Operand.tmp 1), type := 3, pos := "ref.go:78", after := #[], guard := none }
abbrev to3 : Oper := { dst := some 21, op := Go.Op.call { callee := Go.Callee.value (Go.Operand.func 35), args := #[Go.Operand.tmp 19, Go.Operand.tmp 20], argTypes := #[31, 3] }, type := 3, pos := "ref.go:78", after := #[{ on := 1, ground := Go.Ground.data }, { on := 2, ground := Go.Ground.data }], guard := none }
abbrev to4 : Oper := { dst := some 22, op := Go.Op.move (Go.Operand.tmp 1), type := 3, pos := "ref.go:78", after := #[], guard := none }
abbrev to5 : Oper := { dst := some 23, op := Go.Op.call { callee := Go.Callee.value (Go.Operand.func 36), args := #[Go.Operand.tmp 18, Go.Operand.tmp 21, Go.Operand.tmp 22], argTypes := #[31, 3, 3] }, type := 31, pos := "ref.go:78", after := #[{ on := 0, ground := Go.Ground.data }, { on := 3, ground := Go.Ground.data }, { on := 4, ground := Go.Ground.data }, { on := 3, ground := Go.Ground.chain }], guard := none }
abbrev to6 : Oper := { dst := none, op := Go.Op.store 31 (Go.Operand.tmp 4) (Go.Operand.tmp 23), type := 0, pos := "ref.go:78", after := #[{ on := 5, ground := Go.Ground.data }, { on := 5, ground := Go.Ground.chain }, { on := 0, ground := Go.Ground.phase }, { on := 1, ground := Go.Ground.phase }, { on := 2, ground := Go.Ground.phase }, { on := 3, ground := Go.Ground.phase }, { on := 4, ground := Go.Ground.phase }, { on := 5, ground := Go.Ground.phase }], guard := none }
abbrev to7 : Oper := { dst := some 5, op := Go.Op.assign (Go.Operand.const (Go.Value.int Go.IntKind.i64 0)), type := 26, pos := "ref.go:78", after := #[{ on := 6, ground := Go.Ground.chain }, { on := 0, ground := Go.Ground.phase }, { on := 1, ground := Go.Ground.phase }, { on := 2, ground := Go.Ground.phase }, { on := 3, ground := Go.Ground.phase }, { on := 4, ground := Go.Ground.phase }, { on := 5, ground := Go.Ground.phase }, { on := 6, ground := Go.Ground.phase }], guard := none }
theorem WoT.toD2 {numbers : Nat} {xs : List (List Nat)} {w : World} {e : Ending} {w' : World} (h : WoT numbers xs w e w') : ∃ A c ds, e = .returned (refV numbers A xs.length c) ∧ RefX w' (fun b => w.heap.size ≤ b ∧ b < w'.heap.size) A xs.length ds xs ∧ Below w.heap.size w w' := by
  obtain ⟨v, ds, rfl, hr, hb⟩ := h
  have hl := hr.len
  obtain ⟨A, c, e1, hx⟩ := hr.toX
  subst e1
  rw [← hl] at hx ⊢
  exact ⟨A, c, ds, rfl, hx, hb⟩
theorem TwoL.size2 {w W : World} {numbers n c : Nat} {A : Option Addr} {ds : List RowD} {xs : List (List Nat)} (h : TwoL w numbers A n c ds xs W) : w.heap.size + 1 < W.heap.size := h.b.lt
set_option maxHeartbeats 4000000 in
theorem push_ref {A : Option Addr} {n c : Nat} {ds : List RowD} {xs : List (List Nat)} (numbers : Nat) (i k : Int) {w : World} {T : Nat → Prop} (h : RefX w T A n ds xs) (hT : ∀ b, T b → b < w.heap.size) (hn : n ≤ 64) (hm : ∀ i, (xs.getD i []).length ≤ 100000) :
    Calls Try.prog 14 #[refV numbers A n c, .int .i64 i, .int .i64 k] w fun e w' => DoY T numbers (pushX numbers xs i k) (pushE numbers xs i k) w e w' := by
  obtain ⟨w2, hw2⟩ : ∃ w2, w2 = (w.alloc (.cells #[.int .i64 (numbers : Nat), .slice A n c] 31)).alloc (.cells #[.int .i64 0, .slice none 0 0] 31) := ⟨_, rfl⟩
  have HS := Lib.hid (show TwoL w numbers A n c ds xs w2 by rw [hw2]; exact TwoL.new (h.more hT))
  have H0 := Lib.hid h
  have HT0 := Lib.hid hT
  clear hT
  have HLEN := Lib.hid h.len
  have HNU := Lib.hid (rnumber_any numbers n c A k)
  have HLI := Lib.hid (rlist_any numbers n c A i)
  rw [hasL_dec h.len i] at HLI
  clear h
  by_cases hi : hasL xs i
  · rw [decide_eq_true hi] at HLI
    by_cases hk : hasN numbers k
    · rw [show decide (0 ≤ k ∧ k < (numbers : Nat)) = true from decide_eq_true hk] at HNU
      obtain ⟨i, rfl⟩ : ∃ m : Nat, i = (m : Int) := ⟨i.toNat, by have := hi.1; omega⟩
      obtain ⟨k, rfl⟩ : ∃ m : Nat, k = (m : Int) := ⟨k.toNat, by have := hk.1; omega⟩
      have hin : i < n := by have := hi.2; have := HLEN.out; omega
      have e0 : pushE numbers xs (i : Int) (k : Int) = if whX xs k = 0 then 0 else 5 := by unfold pushE; rw [if_neg (by simp [hi, hk])]; by_cases h0 : whX xs k = 0 <;> simp [h0]
      have HWH := Lib.hid (fun (V : World) (hV : RefX V (· < V.heap.size) A n ds xs) => rwhere_any (c := c) numbers k hV (fun b h => h) hn hm)
      have HMK := Lib.hid (fun (V : World) (hV : RefX V (· < V.heap.size) A n ds xs) => ahead_ref (c := c) numbers i k hV hn hm hin)
      by_cases h0 : whX xs k = 0
      · have e1 : pushX numbers xs (i : Int) (k : Int) = putX (outX xs k) i k := by unfold pushX; rw [e0, if_pos h0, if_pos rfl]; simp
        rw [e0, e1, if_pos h0]
        rw [h0] at HWH
        have OBS := HS.out.cells
        obtain ⟨k0, k1, k2, k3, g2, g3⟩ := OBS
        clear e0 e1 h0 hi hk hm
        go_enter Try.func14, Try.ntmps14
        go_wp2_with fail
        rw [← hw2]
        clear hw2
        go_wp2_with (first | (go_at_call 33; refine (HLI.out _).mono ?_; rintro e v ⟨rfl, hb⟩; have HS := Lib.hid (HS.out.next hb); obtain ⟨k0, k1, k2, k3, g2, g3⟩ := HS.out.cells; clear hb) | (go_at_call 34; refine (HNU.out _).mono ?_; rintro e v ⟨rfl, hb⟩; have HS := Lib.hid (HS.out.next hb); obtain ⟨k0, k1, k2, k3, g2, g3⟩ := HS.out.cells; clear hb) | (go_at_call 35; refine (HWH.out _ HS.out.x).mono ?_; rintro e v ⟨rfl, hb⟩; have HS := Lib.hid (HS.out.next hb); obtain ⟨k0, k1, k2, k3, g2, g3⟩ := HS.out.cells; clear hb) | (go_at_call 36; refine (HMK.out _ HS.out.x).mono ?_; rintro e v hwo; obtain ⟨A', c', ds', rfl, hx', hb⟩ := hwo.toD2; have hsz2 := HS.out.size2; have HX' := Lib.hid (hx'.more (T := fun b => w.heap.size ≤ b ∧ b < v.heap.size ∧ b ≠ w.heap.size + 1) (fun b hb => ⟨by omega, hb.2, by omega⟩)); have HS := Lib.hid (HS.out.next hb); obtain ⟨k0, k1, k2, k3, g2, g3⟩ := HS.out.cells; clear hb; clear hx' hwo))
        have HL := Lib.hid (HS.out.lay1Y (A' := A') (c' := c') HX'.out (fun b h => h.2.2))
        refine bodyPost_ret (results_row2 rfl _ _ (w.heap.size + 1) 31 #[.int .i64 (numbers : Nat), .slice A' _ c'] _ rfl HL.out.1 Try.underlying31 rfl size_ref12) rfl ?_
        exact ⟨A', c', ds', rfl, HL.out.2.1.more (fun b h => .inr ⟨h.1, by rw [HL.out.2.2.2]; exact h.2.1⟩), HL.out.2.2.1⟩
      · have e1 : pushX numbers xs (i : Int) (k : Int) = xs := by unfold pushX; rw [e0, if_neg h0, if_neg (by decide)]
        rw [e0, e1, if_neg h0]
        have OBS := HS.out.cells
        obtain ⟨k0, k1, k2, k3, g2, g3⟩ := OBS
        obtain ⟨wv, hwv⟩ : ∃ v, whX xs k = v := ⟨_, rfl⟩
        rw [hwv] at HWH h0
        have hge : decide ((0 : Int) ≤ (wv : Int) - 1) = true := by simp; omega
        have hw65 : (wv : Int) - 1 < 9223372036854775807 ∧ -1 ≤ (wv : Int) - 1 := by
          have h1 := (whX_some (xs := xs) (x := k) (by omega)).1
          have h2 := HLEN.out
          omega
        clear e0 e1 hi hk hm hwv
        go_enter Try.func14, Try.ntmps14
        go_wp2_with fail
        rw [← hw2]
        clear hw2
        go_wp2_with (first | (go_at_call 33; refine (HLI.out _).mono ?_; rintro e v ⟨rfl, hb⟩; have HS := Lib.hid (HS.out.next hb); obtain ⟨k0, k1, k2, k3, g2, g3⟩ := HS.out.cells; clear hb) | (go_at_call 34; refine (HNU.out _).mono ?_; rintro e v ⟨rfl, hb⟩; have HS := Lib.hid (HS.out.next hb); obtain ⟨k0, k1, k2, k3, g2, g3⟩ := HS.out.cells; clear hb) | (go_at_call 35; refine (HWH.out _ HS.out.x).mono ?_; rintro e v ⟨rfl, hb⟩; have HS := Lib.hid (HS.out.next hb); obtain ⟨k0, k1, k2, k3, g2, g3⟩ := HS.out.cells; clear hb))
        have HL := Lib.hid (HS.out.lay1Y (A' := A) (c' := c) (TwoL.oldY H0.out HT0.out HS.out) (fun b h => by have := HT0.out b h; omega))
        refine bodyPost_ret (results_row2 rfl _ _ (w.heap.size + 1) 31 #[.int .i64 (numbers : Nat), .slice A n c] _ rfl HL.out.1 Try.underlying31 rfl size_ref12) rfl ?_
        have hln := HLEN.out
        subst hln
        exact ⟨A, c, ds, rfl, HL.out.2.1.more (fun b h => .inl h), HL.out.2.2.1⟩
    · rw [show decide (0 ≤ k ∧ k < (numbers : Nat)) = false from decide_eq_false hk] at HNU
      have e0 : pushE numbers xs i k = 2 := by unfold pushE; rw [if_pos (.inr hk)]
      have e1 : pushX numbers xs i k = xs := by unfold pushX; rw [e0, if_neg (by decide)]
      rw [e0, e1]
      have OBS := HS.out.cells
      obtain ⟨k0, k1, k2, k3, g2, g3⟩ := OBS
      clear e0 e1 hi hk hm
      go_enter Try.func14, Try.ntmps14
      go_wp2_with fail
      rw [← hw2]
      clear hw2
      go_wp2_with (first | (go_at_call 33; refine (HLI.out _).mono ?_; rintro e v ⟨rfl, hb⟩; have HS := Lib.hid (HS.out.next hb); obtain ⟨k0, k1, k2, k3, g2, g3⟩ := HS.out.cells; clear hb) | (go_at_call 34; refine (HNU.out _).mono ?_; rintro e v ⟨rfl, hb⟩; have HS := Lib.hid (HS.out.next hb); obtain ⟨k0, k1, k2, k3, g2, g3⟩ := HS.out.cells; clear hb))
      have HL := Lib.hid (HS.out.lay1Y (A' := A) (c' := c) (TwoL.oldY H0.out HT0.out HS.out) (fun b h => by have := HT0.out b h; omega))
      refine bodyPost_ret (results_row2 rfl _ _ (w.heap.size + 1) 31 #[.int .i64 (numbers : Nat), .slice A n c] _ rfl HL.out.1 Try.underlying31 rfl size_ref12) rfl ?_
      have hln := HLEN.out
      subst hln
      exact ⟨A, c, ds, rfl, HL.out.2.1.more (fun b h => .inl h), HL.out.2.2.1⟩
  · rw [decide_eq_false hi] at HLI
    have e0 : pushE numbers xs i k = 2 := by unfold pushE; rw [if_pos (.inl hi)]
    have e1 : pushX numbers xs i k = xs := by unfold pushX; rw [e0, if_neg (by decide)]
    rw [e0, e1]
    have OBS := HS.out.cells
    obtain ⟨k0, k1, k2, k3, g2, g3⟩ := OBS
    clear e0 e1 hi hm
    go_enter Try.func14, Try.ntmps14
    go_wp2_with fail
    rw [← hw2]
    clear hw2
    go_wp2_with (first | (go_at_call 33; refine (HLI.out _).mono ?_; rintro e v ⟨rfl, hb⟩; have HS := Lib.hid (HS.out.next hb); obtain ⟨k0, k1, k2, k3, g2, g3⟩ := HS.out.cells; clear hb))
    have HL := Lib.hid (HS.out.lay1Y (A' := A) (c' := c) (TwoL.oldY H0.out HT0.out HS.out) (fun b h => by have := HT0.out b h; omega))
    refine bodyPost_ret (results_row2 rfl _ _ (w.heap.size + 1) 31 #[.int .i64 (numbers : Nat), .slice A n c] _ rfl HL.out.1 Try.underlying31 rfl size_ref12) rfl ?_
    have hln := HLEN.out
    subst hln
    exact ⟨A, c, ds, rfl, HL.out.2.1.more (fun b h => .inl h), HL.out.2.2.1⟩
set_option maxHeartbeats 4000000 in
theorem touch_ref {A : Option Addr} {n c : Nat} {ds : List RowD} {xs : List (List Nat)} (numbers : Nat) (k : Int) {w : World} {T : Nat → Prop} (h : RefX w T A n ds xs) (hT : ∀ b, T b → b < w.heap.size) (hn : n ≤ 64) (hm : ∀ i, (xs.getD i []).length ≤ 100000) :
    Calls Try.prog 16 #[refV numbers A n c, .int .i64 k] w fun e w' => DoY T numbers (touchX numbers xs k) (outE numbers xs k) w e w' := by
  obtain ⟨w2, hw2⟩ : ∃ w2, w2 = (w.alloc (.cells #[.int .i64 (numbers : Nat), .slice A n c] 31)).alloc (.cells #[.int .i64 0, .slice none 0 0] 31) := ⟨_, rfl⟩
  have HS := Lib.hid (show TwoL w numbers A n c ds xs w2 by rw [hw2]; exact TwoL.new (h.more hT))
  have H0 := Lib.hid h
  have HT0 := Lib.hid hT
  clear hT
  have HLEN := Lib.hid h.len
  have HNU := Lib.hid (rnumber_any numbers n c A k)
  clear h
  by_cases hk : hasN numbers k
  · rw [show decide (0 ≤ k ∧ k < (numbers : Nat)) = true from decide_eq_true hk] at HNU
    obtain ⟨k, rfl⟩ : ∃ m : Nat, k = (m : Int) := ⟨k.toNat, by have := hk.1; omega⟩
    have e0 : outE numbers xs (k : Int) = if whX xs k = 0 then 4 else 0 := by unfold outE; rw [if_neg (by simp [hk]), Int.toNat_natCast]
    have HWH := Lib.hid (fun (V : World) (hV : RefX V (· < V.heap.size) A n ds xs) => rwhere_any (c := c) numbers k hV (fun b h => h) hn hm)
    by_cases h0 : whX xs k = 0
    · have e1 : touchX numbers xs (k : Int) = xs := by unfold touchX; rw [e0, if_pos h0, if_neg (by decide)]
      rw [e0, e1, if_pos h0]
      rw [h0] at HWH
      have OBS := HS.out.cells
      obtain ⟨k0, k1, k2, k3, g2, g3⟩ := OBS
      clear e0 e1 h0 hk hm
      go_enter Try.func16, Try.ntmps16
      go_wp2_with fail
      rw [← hw2]
      clear hw2
      go_wp2_with (first | (go_at_call 34; refine (HNU.out _).mono ?_; rintro e v ⟨rfl, hb⟩; have HS := Lib.hid (HS.out.next hb); obtain ⟨k0, k1, k2, k3, g2, g3⟩ := HS.out.cells; clear hb) | (go_at_call 35; refine (HWH.out _ HS.out.x).mono ?_; rintro e v ⟨rfl, hb⟩; have HS := Lib.hid (HS.out.next hb); obtain ⟨k0, k1, k2, k3, g2, g3⟩ := HS.out.cells; clear hb))
      have HL := Lib.hid (HS.out.lay1Y (A' := A) (c' := c) (TwoL.oldY H0.out HT0.out HS.out) (fun b h => by have := HT0.out b h; omega))
      refine bodyPost_ret (results_row2 rfl _ _ (w.heap.size + 1) 31 #[.int .i64 (numbers : Nat), .slice A n c] _ rfl HL.out.1 Try.underlying31 rfl size_ref12) rfl ?_
      have hln := HLEN.out
      subst hln
      exact ⟨A, c, ds, rfl, HL.out.2.1.more (fun b h => .inl h), HL.out.2.2.1⟩
    · obtain ⟨wi, hwi⟩ : ∃ v, whX xs k = v + 1 := ⟨whX xs k - 1, by omega⟩
      have hin : wi < n := by have h1 := (whX_some (xs := xs) (x := k) (by omega)).1; have h2 := HLEN.out; omega
      have e1 : touchX numbers xs (k : Int) = putX (outX xs k) wi k := by unfold touchX; rw [e0, if_neg h0, if_pos rfl]; simp [hwi]
      rw [e0, e1, if_neg h0]
      rw [hwi] at HWH
      rw [show ((wi + 1 : Nat) : Int) - 1 = (wi : Int) by omega] at HWH
      have HMK := Lib.hid (fun (V : World) (hV : RefX V (· < V.heap.size) A n ds xs) => ahead_ref (c := c) numbers wi k hV hn hm hin)
      have OBS := HS.out.cells
      obtain ⟨k0, k1, k2, k3, g2, g3⟩ := OBS
      have hlt0 : decide ((wi : Int) < 0) = false := by simp
      clear e0 e1 h0 hk hm hwi
      go_enter Try.func16, Try.ntmps16
      go_wp2_with fail
      rw [← hw2]
      clear hw2
      go_upto_region 5 with (first | (go_at_call 34; refine (HNU.out _).mono ?_; rintro e v ⟨rfl, hb⟩; have HS := Lib.hid (HS.out.next hb); obtain ⟨k0, k1, k2, k3, g2, g3⟩ := HS.out.cells; clear hb) | (go_at_call 35; refine (HWH.out _ HS.out.x).mono ?_; rintro e v ⟨rfl, hb⟩; have HS := Lib.hid (HS.out.next hb); obtain ⟨k0, k1, k2, k3, g2, g3⟩ := HS.out.cells; clear hb))
      rename World => wp
      refine Tillst.region (fun W => Below wp.heap.size wp W) [6, 7] (by kernel_rfl) (Below.refl _ _).drew (fun hHeld => ?_)
      generalize wp.drew = vd at *
      refine Tillst.take (i := 0) (oi := to0) (v := ?_) rfl (by kernel_rfl) (by kernel_rfl) (by kernel_rfl) (by kernel_rfl) (fun _ _ _ h => h) (by rfl) ?_ hHeld ?_
      rotate_left
      · intro W hSW; obtain ⟨y0, y1, -⟩ := (HS.out.next hSW).cells; unfold to0; go_simp; with_reducible rfl
      simp only [to0, Act.put, List.setIfInBounds_toArray, List.set_cons_zero, List.set_cons_succ]
      refine Tillst.take (i := 1) (oi := to1) (v := ?_) rfl (by kernel_rfl) (by kernel_rfl) (by kernel_rfl) (by kernel_rfl) (fun _ _ _ h => h) (by rfl) ?_ hHeld ?_
      rotate_left
      · intro W hSW; obtain ⟨y0, y1, -⟩ := (HS.out.next hSW).cells; unfold to1; go_simp; with_reducible rfl
      simp only [to1, Act.put, List.setIfInBounds_toArray, List.set_cons_zero, List.set_cons_succ]
      refine Tillst.take (i := 2) (oi := to2) (v := ?_) rfl (by kernel_rfl) (by kernel_rfl) (by kernel_rfl) (by kernel_rfl) (fun _ _ _ h => h) (by rfl) ?_ hHeld ?_
      rotate_left
      · intro W hSW; obtain ⟨y0, y1, -⟩ := (HS.out.next hSW).cells; unfold to2; go_simp; with_reducible rfl
      simp only [to2, Act.put, List.setIfInBounds_toArray, List.set_cons_zero, List.set_cons_succ]
      refine Tillst.take (i := 4) (oi := to4) (v := ?_) rfl (by kernel_rfl) (by kernel_rfl) (by kernel_rfl) (by kernel_rfl) (fun _ _ _ h => h) (by rfl) ?_ hHeld ?_
      rotate_left
      · intro W hSW; obtain ⟨y0, y1, -⟩ := (HS.out.next hSW).cells; unfold to4; go_simp; with_reducible rfl
      simp only [to4, Act.put, List.setIfInBounds_toArray, List.set_cons_zero, List.set_cons_succ]
      refine Tillst.one (i := 3) (o := to3) (by kernel_rfl) rfl ?_
      intro K hK
      refine step_call 35 #[.tmp 19, .tmp 20] #[31, 3] rfl rfl Try.func35 rfl rfl [refV numbers A n c, .int .i64 (k : Nat)] rfl ?_
      refine (HWH.out _ (HS.out.next hHeld).x).mono ?_
      rintro e v3 ⟨rfl, hb⟩
      have hHeld3 := hHeld.trans (hb.mono hHeld.size)
      refine ⟨_, rfl, ?_⟩
      simp only [to3, Act.put, List.setIfInBounds_toArray, List.set_cons_zero, List.set_cons_succ]
      refine hK.out _ _ (fun _ => hHeld3) (fun _ => ?_)
      clear hK K hb
      refine Tillst.one (i := 5) (o := to5) (by kernel_rfl) rfl ?_
      intro K hK
      refine step_call 36 #[.tmp 18, .tmp 21, .tmp 22] #[31, 3, 3] rfl rfl Try.func36 rfl rfl [refV numbers A n c, .int .i64 (wi : Nat), .int .i64 (k : Nat)] rfl ?_
      refine (HMK.out _ (HS.out.next hHeld3).x).mono ?_
      rintro e v5 hwo
      obtain ⟨A', c', ds', rfl, hx', hb⟩ := hwo.toD2
      have hHeld5 := hHeld3.trans (hb.mono hHeld3.size)
      have hsz2 := (HS.out.next hHeld3).size2
      have HX' := Lib.hid (hx'.more (T := fun b => w.heap.size ≤ b ∧ b < v5.heap.size ∧ b ≠ w.heap.size + 1) (fun b hb => ⟨by omega, hb.2, by omega⟩))
      refine ⟨_, rfl, ?_⟩
      simp only [to5, Act.put, List.setIfInBounds_toArray, List.set_cons_zero, List.set_cons_succ]
      refine hK.out _ _ (fun _ => hHeld5) (fun _ => ?_)
      clear hK K hb hx' hwo
      have HS5 := Lib.hid (HS.out.next hHeld5)
      refine Tillst.one (i := 6) (o := to6) (by kernel_rfl) rfl ?_
      intro K hK
      refine step_store_whole12 (.tmp 4) (.tmp 23) 31 (by with_reducible rfl) (by rfl) (w.heap.size + 1) #[.int .i64 (numbers : Nat), .slice A' (putX (outX xs k) wi k).length c'] #[.int .i64 0, .slice none 0 0] 31 (by rfl) (by rfl) HS5.out.b size_refS12 rfl (by intro v hv; simp at hv; rcases hv with rfl | rfl <;> rfl) ?_
      simp only [to6, Act.put]
      refine hK.out _ _ (fun h => absurd h (by decide)) (fun _ => ?_)
      clear hK K
      refine Tillst.one (i := 7) (o := to7) (by kernel_rfl) rfl ?_
      intro K hK
      refine step_value (.int .i64 0) rfl ?_ ?_
      · unfold to7; go_simp
      simp only [to7, Act.put, List.setIfInBounds_toArray, List.set_cons_zero, List.set_cons_succ]
      refine hK.out _ _ (fun h => absurd h (by decide)) (fun _ => ?_)
      clear hK K
      refine Tillst.done (by kernel_rfl) ?_ _
      have HL := Lib.hid (HS5.out.lay2Y (A' := A') (c' := c') HX'.out (fun b h => h.2.2))
      go_wp2
      refine bodyPost_ret (results_row2 rfl _ _ (w.heap.size + 1) 31 #[.int .i64 (numbers : Nat), .slice A' _ c'] _ rfl HL.out.1 Try.underlying31 rfl size_ref12) rfl ?_
      exact ⟨A', c', ds', rfl, HL.out.2.1.more (fun b h => .inr ⟨h.1, by rw [HL.out.2.2.2]; exact h.2.1⟩), HL.out.2.2.1⟩
  · rw [show decide (0 ≤ k ∧ k < (numbers : Nat)) = false from decide_eq_false hk] at HNU
    have e0 : outE numbers xs k = 2 := by unfold outE; rw [if_pos hk]
    have e1 : touchX numbers xs k = xs := by unfold touchX; rw [e0, if_neg (by decide)]
    rw [e0, e1]
    have OBS := HS.out.cells
    obtain ⟨k0, k1, k2, k3, g2, g3⟩ := OBS
    clear e0 e1 hk hm
    go_enter Try.func16, Try.ntmps16
    go_wp2_with fail
    rw [← hw2]
    clear hw2
    go_wp2_with (first | (go_at_call 34; refine (HNU.out _).mono ?_; rintro e v ⟨rfl, hb⟩; have HS := Lib.hid (HS.out.next hb); obtain ⟨k0, k1, k2, k3, g2, g3⟩ := HS.out.cells; clear hb))
    have HL := Lib.hid (HS.out.lay1Y (A' := A) (c' := c) (TwoL.oldY H0.out HT0.out HS.out) (fun b h => by have := HT0.out b h; omega))
    refine bodyPost_ret (results_row2 rfl _ _ (w.heap.size + 1) 31 #[.int .i64 (numbers : Nat), .slice A n c] _ rfl HL.out.1 Try.underlying31 rfl size_ref12) rfl ?_
    have hln := HLEN.out
    subst hln
    exact ⟨A, c, ds, rfl, HL.out.2.1.more (fun b h => .inl h), HL.out.2.2.1⟩
set_option maxHeartbeats 4000000 in
theorem remove_ref {A : Option Addr} {n c : Nat} {ds : List RowD} {xs : List (List Nat)} (numbers : Nat) (k : Int) {w : World} {T : Nat → Prop} (h : RefX w T A n ds xs) (hT : ∀ b, T b → b < w.heap.size) (hn : n ≤ 64) (hm : ∀ i, (xs.getD i []).length ≤ 100000) :
    Calls Try.prog 18 #[refV numbers A n c, .int .i64 k] w fun e w' => DoY T numbers (remX numbers xs k) (outE numbers xs k) w e w' := by
  obtain ⟨w2, hw2⟩ : ∃ w2, w2 = (w.alloc (.cells #[.int .i64 (numbers : Nat), .slice A n c] 31)).alloc (.cells #[.int .i64 0, .slice none 0 0] 31) := ⟨_, rfl⟩
  have HS := Lib.hid (show TwoL w numbers A n c ds xs w2 by rw [hw2]; exact TwoL.new (h.more hT))
  have H0 := Lib.hid h
  have HT0 := Lib.hid hT
  clear hT
  have HLEN := Lib.hid h.len
  have HNU := Lib.hid (rnumber_any numbers n c A k)
  clear h
  by_cases hk : hasN numbers k
  · rw [show decide (0 ≤ k ∧ k < (numbers : Nat)) = true from decide_eq_true hk] at HNU
    obtain ⟨k, rfl⟩ : ∃ m : Nat, k = (m : Int) := ⟨k.toNat, by have := hk.1; omega⟩
    have e0 : outE numbers xs (k : Int) = if whX xs k = 0 then 4 else 0 := by unfold outE; rw [if_neg (by simp [hk]), Int.toNat_natCast]
    have HWH := Lib.hid (fun (V : World) (hV : RefX V (· < V.heap.size) A n ds xs) => rwhere_any (c := c) numbers k hV (fun b h => h) hn hm)
    by_cases h0 : whX xs k = 0
    · have e1 : remX numbers xs (k : Int) = xs := by unfold remX; rw [e0, if_pos h0, if_neg (by decide)]
      rw [e0, e1, if_pos h0]
      rw [h0] at HWH
      have OBS := HS.out.cells
      obtain ⟨k0, k1, k2, k3, g2, g3⟩ := OBS
      clear e0 e1 h0 hk hm
      go_enter Try.func18, Try.ntmps18
      go_wp2_with fail
      rw [← hw2]
      clear hw2
      go_wp2_with (first | (go_at_call 34; refine (HNU.out _).mono ?_; rintro e v ⟨rfl, hb⟩; have HS := Lib.hid (HS.out.next hb); obtain ⟨k0, k1, k2, k3, g2, g3⟩ := HS.out.cells; clear hb) | (go_at_call 35; refine (HWH.out _ HS.out.x).mono ?_; rintro e v ⟨rfl, hb⟩; have HS := Lib.hid (HS.out.next hb); obtain ⟨k0, k1, k2, k3, g2, g3⟩ := HS.out.cells; clear hb))
      have HL := Lib.hid (HS.out.lay1Y (A' := A) (c' := c) (TwoL.oldY H0.out HT0.out HS.out) (fun b h => by have := HT0.out b h; omega))
      refine bodyPost_ret (results_row2 rfl _ _ (w.heap.size + 1) 31 #[.int .i64 (numbers : Nat), .slice A n c] _ rfl HL.out.1 Try.underlying31 rfl size_ref12) rfl ?_
      have hln := HLEN.out
      subst hln
      exact ⟨A, c, ds, rfl, HL.out.2.1.more (fun b h => .inl h), HL.out.2.2.1⟩
    · obtain ⟨wi, hwi⟩ : ∃ v, whX xs k = v + 1 := ⟨whX xs k - 1, by omega⟩
      have hin : wi < n := by have h1 := (whX_some (xs := xs) (x := k) (by omega)).1; have h2 := HLEN.out; omega
      have e1 : remX numbers xs (k : Int) = outX xs k := by unfold remX; rw [e0, if_neg h0, if_pos rfl]; simp
      rw [e0, e1, if_neg h0]
      rw [hwi] at HWH
      rw [show ((wi + 1 : Nat) : Int) - 1 = (wi : Int) by omega] at HWH
      have HMK := Lib.hid (fun (V : World) (hV : RefX V (· < V.heap.size) A n ds xs) => without_any (c := c) numbers k hV hn hm)
      have OBS := HS.out.cells
      obtain ⟨k0, k1, k2, k3, g2, g3⟩ := OBS
      have hlt0 : decide ((wi : Int) < 0) = false := by simp
      clear e0 e1 h0 hk hm hwi
      go_enter Try.func18, Try.ntmps18
      go_wp2_with fail
      rw [← hw2]
      clear hw2
      go_wp2_with (first | (go_at_call 34; refine (HNU.out _).mono ?_; rintro e v ⟨rfl, hb⟩; have HS := Lib.hid (HS.out.next hb); obtain ⟨k0, k1, k2, k3, g2, g3⟩ := HS.out.cells; clear hb) | (go_at_call 35; refine (HWH.out _ HS.out.x).mono ?_; rintro e v ⟨rfl, hb⟩; have HS := Lib.hid (HS.out.next hb); obtain ⟨k0, k1, k2, k3, g2, g3⟩ := HS.out.cells; clear hb) | (go_at_call 38; refine (HMK.out _ HS.out.x).mono ?_; rintro e v hwo; obtain ⟨A', c', ds', rfl, hx', hb⟩ := hwo.toD2; have hsz2 := HS.out.size2; have HX' := Lib.hid (hx'.more (T := fun b => w.heap.size ≤ b ∧ b < v.heap.size ∧ b ≠ w.heap.size + 1) (fun b hb => ⟨by omega, hb.2, by omega⟩)); have HS := Lib.hid (HS.out.next hb); obtain ⟨k0, k1, k2, k3, g2, g3⟩ := HS.out.cells; clear hb; clear hx' hwo))
      have HL := Lib.hid (HS.out.lay1Y (A' := A') (c' := c') HX'.out (fun b h => h.2.2))
      refine bodyPost_ret (results_row2 rfl _ _ (w.heap.size + 1) 31 #[.int .i64 (numbers : Nat), .slice A' _ c'] _ rfl HL.out.1 Try.underlying31 rfl size_ref12) rfl ?_
      exact ⟨A', c', ds', rfl, HL.out.2.1.more (fun b h => .inr ⟨h.1, by rw [HL.out.2.2.2]; exact h.2.1⟩), HL.out.2.2.1⟩
  · rw [show decide (0 ≤ k ∧ k < (numbers : Nat)) = false from decide_eq_false hk] at HNU
    have e0 : outE numbers xs k = 2 := by unfold outE; rw [if_pos hk]
    have e1 : remX numbers xs k = xs := by unfold remX; rw [e0, if_neg (by decide)]
    rw [e0, e1]
    have OBS := HS.out.cells
    obtain ⟨k0, k1, k2, k3, g2, g3⟩ := OBS
    clear e0 e1 hk hm
    go_enter Try.func18, Try.ntmps18
    go_wp2_with fail
    rw [← hw2]
    clear hw2
    go_wp2_with (first | (go_at_call 34; refine (HNU.out _).mono ?_; rintro e v ⟨rfl, hb⟩; have HS := Lib.hid (HS.out.next hb); obtain ⟨k0, k1, k2, k3, g2, g3⟩ := HS.out.cells; clear hb))
    have HL := Lib.hid (HS.out.lay1Y (A' := A) (c' := c) (TwoL.oldY H0.out HT0.out HS.out) (fun b h => by have := HT0.out b h; omega))
    refine bodyPost_ret (results_row2 rfl _ _ (w.heap.size + 1) 31 #[.int .i64 (numbers : Nat), .slice A n c] _ rfl HL.out.1 Try.underlying31 rfl size_ref12) rfl ?_
    have hln := HLEN.out
    subst hln
    exact ⟨A, c, ds, rfl, HL.out.2.1.more (fun b h => .inl h), HL.out.2.2.1⟩
end Go.Proofs.Ythegbimolbhikaa
