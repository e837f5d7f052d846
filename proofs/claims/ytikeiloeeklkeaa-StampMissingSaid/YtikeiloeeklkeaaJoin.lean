/- Package stamp: Join. -/
import Derived.Test.YtikeiloeeklkeaaBks
import Derived.Test.YtikeiloeeklkeaaFollows
namespace Go.Proofs.Ytikeiloeeklkeaa
open Go.RowKit
set_option linter.unusedVariables false

/-- Sector i is stamped, and may stand behind the one ahead. -/
def linkB (xs ys : List Int) : Bool := folB (genOf xs) (posOf xs) (fillOf xs) (genOf ys) (posOf ys)
def ChainAt (xss : List (List Int)) (i : Nat) : Prop := stamped (xss.getD i []) = true ∧ (0 < i → linkB (xss.getD (i - 1) []) (xss.getD i []) = true)
def Chain (xss : List (List Int)) : Prop := ∀ i, i < xss.length → ChainAt xss i
def meants (xss : List (List Int)) : List Int := (xss.map meantOf).flatten
theorem meants_snoc (xss : List (List Int)) (k : Nat) (h : k < xss.length) : meants (xss.take (k + 1)) = meants (xss.take k) ++ meantOf (xss.getD k []) := by
  unfold meants
  rw [List.take_succ_eq_append_getElem h, List.map_append, List.flatten_append]
  simp [List.getD, List.getElem?_eq_getElem h]
theorem meants_length (xss : List (List Int)) (k : Nat) (h : k ≤ xss.length) : (meants (xss.take k)).length ≤ 48 * k := by
  induction k with
  | zero => simp [meants]
  | succ k ih =>
    rw [meants_snoc xss k (by omega), List.length_append]
    have := ih (by omega)
    have := meant_le (xss.getD k [])
    omega

def JoinTold (xss : List (List Int)) (w : World) (e : Ending) (w' : World) : Prop :=
  ∃ A c, e = .returned (.tuple #[.slice A (meants xss).length c, .int .i64 0]) ∧ RowI .u8 w' (fun b => w.heap.size ≤ b ∧ b < w'.heap.size) A (meants xss).length (meants xss) ∧ Below w.heap.size w w'
def JoinBad (w : World) (e : Ending) (w' : World) : Prop := e = .returned (.tuple #[.slice none 0 0, .int .i64 150]) ∧ Below w.heap.size w w'
def JoinAny (xss : List (List Int)) (w : World) (e : Ending) (w' : World) : Prop := (1 ≤ xss.length ∧ Chain xss → JoinTold xss w e w') ∧ (¬ (1 ≤ xss.length ∧ Chain xss) → JoinBad w e w')
theorem join_no {xss : List (List Int)} {w : World} {e : Ending} {w' : World} (h : ¬ (1 ≤ xss.length ∧ Chain xss)) (hb : JoinBad w e w') : JoinAny xss w e w' := ⟨fun k => absurd k h, fun _ => hb⟩

/-- The stamp that the loop has ahead. -/
def aheadOf (xss : List (List Int)) (k : Nat) : Array Value := if k = 0 then #[.int .u64 0, .int .u32 0, .int .i64 0] else #[.int .u64 (genOf (xss.getD (k - 1) [])), .int .u32 (posOf (xss.getD (k - 1) [])), .int .i64 (fillOf (xss.getD (k - 1) []))]

structure Joining (xss : List (List Int)) (w wr : World) (o : Value) (k : Nat) : Prop where
  own : wr.ownsRow (w.heap.size + 1) 5 1 o (meants (xss.take k)).length ((meants (xss.take k)).map (Value.int .u8))
  st : Blk wr w.heap.size 34 (aheadOf xss k)
  bel : Below w.heap.size w wr
  chain : ∀ i, i < k → ChainAt xss i

theorem not_chain {xss : List (List Int)} {k : Nat} (hk : k < xss.length) (h : ¬ ChainAt xss k) : ¬ (1 ≤ xss.length ∧ Chain xss) := fun hc => h (hc.2 k hk)

/-- One round more. -/
theorem Joining.next {xss : List (List Int)} {w wr w4 w5 : World} {o v' : Value} {k : Nat} {xs : List Int} (h : Joining xss w wr o k) (hk : k < xss.length) (hxs : xs = xss.getD k []) (hc : ChainAt xss k)
    (hb4 : Below wr.heap.size wr w4) (hown : w5.ownsRow (w.heap.size + 1) 5 1 v' ((meants (xss.take k)).length + (meantOf xs).length) ((meants (xss.take k)).map (Value.int .u8) ++ (meantOf xs).map (Value.int .u8))) (hg : w4.grownBy w5 o.ownBlock) :
    Joining xss w (((w5.setCell ⟨w.heap.size, 0, none⟩ (.int .u64 (genOf xs))).setCell ⟨w.heap.size, 1, none⟩ (.int .u32 (posOf xs))).setCell ⟨w.heap.size, 2, none⟩ (.int .i64 (fillOf xs))) v' (k + 1) := by
  have hst : Blk w5 w.heap.size 34 (aheadOf xss k) := (h.st.below hb4 h.st.lt).grown hg (fun e => by have := h.own.lt _ e.symm; omega)
  have hst' : ∃ a0 a1 a2 : Value, aheadOf xss k = #[a0, a1, a2] := by unfold aheadOf; split <;> exact ⟨_, _, _, rfl⟩
  obtain ⟨a0, a1, a2, ha⟩ := hst'
  rw [ha] at hst
  refine ⟨?_, ?_, ?_, ?_⟩
  · have e := meants_snoc xss k hk
    rw [← hxs] at e
    rw [e, List.length_append, List.map_append]
    exact own_set3 hown (fun e => by have := hown.lt _ e; omega) _ _ _
  · have e : aheadOf xss (k + 1) = #[.int .u64 (genOf xs), .int .u32 (posOf xs), .int .i64 (fillOf xs)] := by
      unfold aheadOf
      rw [if_neg (by omega), show k + 1 - 1 = k by omega, ← hxs]
    rw [e]
    exact hst.set3 _ _ _
  · refine below_set3 (((h.bel.trans (hb4.mono h.bel.size))).grown hg (Nat.le_trans h.bel.size hb4.size) (fun g hg => by have := h.own.lt g hg; omega)) (Nat.le_refl _) _ _ _
  · intro i hi
    by_cases e : i = k
    · subst e; exact hc
    · exact h.chain i (by omega)

set_option maxHeartbeats 4000000 in
theorem join_any (A : Option Addr) (n c : Nat) (xss : List (List Int)) (S : Nat → Prop) (w : World) (hx : RowK w S A n xss) (hS : ∀ b, S b → b < w.heap.size) (hs : Secs xss) (hby : ∀ i, Bytes (xss.getD i [])) (hn : n ≤ 1000000) :
    Calls Try.prog 20 #[.slice A n c] w (JoinAny xss w) := by
  obtain ⟨i0, hi, hz0, hz1, hz2⟩ := info_parts info_u8
  have HX := Lib.hid hx
  have HL := Lib.hid hx.1
  have HS := Lib.hid hs
  have HBY := Lib.hid hby
  clear hx hs hby
  by_cases h0 : n = 0
  · subst h0
    have hno := Lib.hid (show ¬ (1 ≤ xss.length ∧ Chain xss) from fun h => by have := HL.out; omega)
    go_enter Try.func20, Try.ntmps20
    go_wp2
    go_ret2
    exact join_no hno.out ⟨rfl, Below.refl _ _⟩
  have e0 : ((n : Int) == 0) = false := by simp; omega
  have hn1 : 1 ≤ n := by omega
  clear h0
  go_enter Try.func20, Try.ntmps20
  go_wp2_with fail
  have HJ0 := Lib.hid (show Joining xss w (w.alloc (.cells #[.int .u64 0, .int .u32 0, .int .i64 0] 34)) (.slice none 0 0) 0 from
    ⟨World.ownsRow_nil _ _ _ _, Blk.new w _ _, (Below.refl _ _).alloc (Nat.le_refl _) _, fun i h => by omega⟩)
  go_loopw [4, 16] (fun o i wr => ∃ k : Nat, k ≤ n ∧ i = .int .i64 k ∧ Joining xss w wr o k) (fun _ i _ => n - (intOf i).toNat)
  case atStart => exact ⟨0, by omega, rfl, HJ0.out⟩
  case round =>
    obtain ⟨k, hk, rfl, hj⟩ := hrel
    by_cases hlt : k < n
    · obtain ⟨b, off, rfl, hb, hc⟩ := (HX.out.below hj.bel hS).2 (by omega)
      have hr := hc k hlt
      have hxl := HS.out.get k (by have := HL.out; omega)
      have hxb := HBY.out k
      have hbw := hS b hb
      have HJ := Lib.hid hj
      have HXK := Lib.hid (show xss.getD k [] = xss.getD k [] from rfl)
      obtain ⟨xs, hxs⟩ : ∃ xs, xs = xss.getD k [] := ⟨_, rfl⟩
      rw [← hxs] at hr hxl hxb
      have HXS := Lib.hid hxs
      have HR := Lib.hid hr
      have HXL := Lib.hid hxl
      have HXB := Lib.hid hxb
      obtain ⟨w1, hw1⟩ : ∃ w1, w1 = wr.alloc (.cells (cells8 xs) 27) := ⟨_, rfl⟩
      have HW1 := Lib.hid hw1
      have HX1 := Lib.hid (show ArrB w1 wr.heap.size xs by rw [hw1]; exact Blk.new wr _ _)
      have HB1 := Lib.hid (show Below wr.heap.size wr w1 by rw [hw1]; exact (Below.refl _ _).alloc (Nat.le_refl _) _)
      clear hc hj hxs hr hxl hxb hw1
      go_wp2_with (first
        | (refine wpList_load_blk (.tmp 19) rfl rfl b (off + k * 64) rfl xs HXL.out HR.out ?_)
        | (refine wpList_alloc_blk rfl rfl ?_)
        | (refine wpList_store_new (.tmp 7) (.tmp 20) rfl rfl wr xs rfl rfl (noughts 64) rfl (noughts_length 64) HXL.out ?_; rw [← HW1.out])
        | (refine wpList_load_blk (.tmp 7) rfl rfl wr.heap.size 0 rfl xs HXL.out HX1.out.range ?_))
      by_cases hst : stamped xs = true
      case neg =>
        have hst : stamped xs = false := by simpa using hst
        have hno := Lib.hid (not_chain (k := k) (xss := xss) (by have := HL.out; omega) (fun h => by have h := h.1; rw [← HXS.out, hst] at h; cases h))
        refine (read_bad xs w1 HXL.out HXB.out hst).mono ?_
        rintro e w2 ⟨rfl, hb2⟩
        have HB2 := Lib.hid ((HJ.out.bel.trans (HB1.out.mono HJ.out.bel.size)).trans (hb2.mono (Nat.le_trans HJ.out.bel.size HB1.out.size)))
        clear hst hb2
        go_wp2_with fail
        go_ret2
        exact join_no hno.out ⟨rfl, HB2.out.alloc HB2.out.size _⟩
      refine (read_ok xs w1 HXL.out HXB.out hst).mono ?_
      rintro e w2 ⟨A2, c2, rfl, hr2, hb2, hn2⟩
      have HN2 := Lib.hid hn2
      clear hn2
      have HST := Lib.hid hst
      have HR2 := Lib.hid hr2
      have HB2 := Lib.hid (HB1.out.trans (hb2.mono HB1.out.size))
      obtain ⟨w3, hw3⟩ : ∃ w3, w3 = w2.alloc (.cells #[.int .u64 (genOf xs), .int .u32 (posOf xs), .int .i64 (fillOf xs)] 34) := ⟨_, rfl⟩
      have hb3 : Below w2.heap.size w2 w3 := by rw [hw3]; exact (Below.refl _ _).alloc (Nat.le_refl _) _
      have HS3 := Lib.hid (show Blk w3 w2.heap.size 34 #[.int .u64 (genOf xs), .int .u32 (posOf xs), .int .i64 (fillOf xs)] by rw [hw3]; exact Blk.new w2 _ _)
      have HR3 := Lib.hid (HR2.out.below hb3 (fun b h => h.2))
      have HB3 := Lib.hid (HB2.out.trans (hb3.mono HB2.out.size))
      have HW3 := Lib.hid hw3
      clear hst hr2 hb2 hw3 hb3
      by_cases hk0 : k = 0
      · subst hk0
        have HCH := Lib.hid (show ChainAt xss 0 from ⟨by rw [← HXS.out]; exact HST.out, fun h => by omega⟩)
        have ho4 := own_below HJ.out.own HB3.out
        have HO4 := Lib.hid ho4
        have hlo := meants_length xss 0 (by have := HL.out; omega)
        have hml := meant_le xs
        have HLT := Lib.hid HJ.out.own.lt
        have hsz4 : w.heap.size + 1 ≤ w3.heap.size := by have := HJ.out.st.lt; have := HB3.out.size; omega
        clear ho4
        go_wp2_with (first
          | rw [← HW3.out]
          | (at_builtin; refine wpList_append_rowG rfl (.tmp 39) (.tmp 40) 24 rfl (w.heap.size + 1) 5 i0 (.int .u8 0) 1 Try.underlying24 hi hz0 hz1 hz2 rfl (fun _ => rfl) u4 _ _ rfl HO4.out _ A2 (meantOf xs).length c2 (meantOf xs) rfl HR3.out HN2.out (by unfold maxLen; omega) (by omega) hsz4 ?_; intro v' w5 hown' hgrow' _; have HO5 := Lib.hid hown'; have HG5 := Lib.hid hgrow'; clear hown' hgrow';
              have hs5 : Blk w5 w2.heap.size 34 #[.int .u64 (genOf xs), .int .u32 (posOf xs), .int .i64 (fillOf xs)] := HS3.out.grown HG5.out (fun e => by have := HLT.out _ e.symm; have := HB2.out.size; omega);
              have ha5 : Blk w5 w.heap.size 34 (aheadOf xss 0) := (HJ.out.st.below HB3.out HJ.out.st.lt).grown HG5.out (fun e => by have := HLT.out _ e.symm; omega);
              obtain ⟨a0, a1, a2, ha⟩ : ∃ a0 a1 a2 : Value, aheadOf xss 0 = #[a0, a1, a2] := by { unfold aheadOf; split <;> exact ⟨_, _, _, rfl⟩ };
              rw [ha] at ha5; clear ha;
              have p0 := hs5.cell 0; have p1 := hs5.cell 1; have p2 := hs5.cell 2; have q0 := ha5.cell 0; have q1 := ha5.cell 1; have q2 := ha5.cell 2; have y0 := ha5.frozen 0; have y1 := ha5.frozen 1; have y2 := ha5.frozen 2;
              simp only [List.getElem?_toArray, List.getElem?_cons_zero, List.getElem?_cons_succ] at p0 p1 p2 q0 q1 q2;
              clear hs5 ha5))
        go_roundw
        case rel => exact ⟨0 + 1, by omega, by go_num, HJ.out.next (by have := HL.out; omega) HXS.out HCH.out HB3.out HO5.out HG5.out⟩
        case measure => (simp [intOf] <;> omega)
      · have HA3 := Lib.hid (show Blk w3 w.heap.size 34 #[.int .u64 (genOf (xss.getD (k - 1) [])), .int .u32 (posOf (xss.getD (k - 1) [])), .int .i64 (fillOf (xss.getD (k - 1) []))] by
          have := HJ.out.st.below HB3.out HJ.out.st.lt
          unfold aheadOf at this
          rw [if_neg hk0] at this
          exact this)
        have hk1 : (0 : Int) < k := by omega
        have hpb := pos_bounds HXB.out HXL.out
        have hpl := HS.out.get (k - 1) (by have := HL.out; omega)
        have hpf := fill_lt (HBY.out (k - 1))
        obtain ⟨ps, hps⟩ : ∃ ps, ps = xss.getD (k - 1) [] := ⟨_, rfl⟩
        rw [← hps] at HA3 hpl hpf
        have HPS := Lib.hid hps
        have HK0 := Lib.hid hk0
        have hfol := fun W => follows_any (genOf ps) (posOf ps) (fillOf ps) (genOf xs) (posOf xs) (fillOf xs) W hpb.1 hpb.2 (by omega) (by omega)
        obtain ⟨lb, hlb⟩ : ∃ lb, linkB ps xs = lb := ⟨_, rfl⟩
        have hlb' : folB (genOf ps) (posOf ps) (fillOf ps) (genOf xs) (posOf xs) = lb := hlb
        rw [hlb'] at hfol
        have HFOL := Lib.hid hfol
        have HLB := Lib.hid hlb
        have g0 := HS3.out.cell 0
        have g1 := HS3.out.cell 1
        have g2 := HS3.out.cell 2
        have f0 := HA3.out.cell 0
        have f1 := HA3.out.cell 1
        have f2 := HA3.out.cell 2
        simp only [List.getElem?_toArray, List.getElem?_cons_zero, List.getElem?_cons_succ] at g0 g1 g2 f0 f1 f2
        clear hfol hlb hlb' hps hk0 hpl hpb
        cases lb with
        | false =>
          have hno := Lib.hid (not_chain (k := k) (xss := xss) (by have := HL.out; omega) (fun h => by have h := h.2 (by omega); rw [← HXS.out, ← HPS.out, HLB.out] at h; cases h))
          go_wp2_with (first
            | rw [← HW3.out]
            | (go_at_call 30; refine (HFOL.out _).mono ?_; rintro e w4 ⟨rfl, hb4⟩; have HB4 := Lib.hid hb4; clear hb4))
          go_ret2
          exact join_no hno.out ⟨rfl, (HJ.out.bel.trans (HB3.out.mono HJ.out.bel.size)).trans (HB4.out.mono (Nat.le_trans HJ.out.bel.size HB3.out.size))⟩
        | true =>
          have HCH := Lib.hid (show ChainAt xss k from ⟨by rw [← HXS.out]; exact HST.out, fun _ => by rw [← HXS.out, ← HPS.out]; exact HLB.out⟩)
          go_wp2_with (rw [← HW3.out])
          refine (HFOL.out _).mono ?_
          rintro e w4 ⟨rfl, hb4⟩
          have HB34 := Lib.hid (HB3.out.trans (hb4.mono HB3.out.size))
          have HR4 := Lib.hid (HR3.out.below hb4 (fun b h => by have := h.2; have := HS3.out.lt; omega))
          have HS4 := Lib.hid (HS3.out.below hb4 HS3.out.lt)
          clear hb4 g0 g1 g2 f0 f1 f2
          have ho4 := own_below HJ.out.own HB34.out
          have HO4 := Lib.hid ho4
          have hlo := meants_length xss k (by have := HL.out; omega)
          have hml := meant_le xs
          have HLT := Lib.hid HJ.out.own.lt
          have hsz4 : w.heap.size + 1 ≤ w4.heap.size := by have := HJ.out.st.lt; have := HB34.out.size; omega
          clear ho4
          go_wp2_with (first
            | (at_builtin; refine wpList_append_rowG rfl (.tmp 39) (.tmp 40) 24 rfl (w.heap.size + 1) 5 i0 (.int .u8 0) 1 Try.underlying24 hi hz0 hz1 hz2 rfl (fun _ => rfl) u4 _ _ rfl HO4.out _ A2 (meantOf xs).length c2 (meantOf xs) rfl HR4.out HN2.out (by unfold maxLen; omega) (by omega) hsz4 ?_; intro v' w5 hown' hgrow' _; have HO5 := Lib.hid hown'; have HG5 := Lib.hid hgrow'; clear hown' hgrow';
                have hs5 : Blk w5 w2.heap.size 34 #[.int .u64 (genOf xs), .int .u32 (posOf xs), .int .i64 (fillOf xs)] := HS4.out.grown HG5.out (fun e => by have := HLT.out _ e.symm; have := HB2.out.size; omega);
                have ha5 : Blk w5 w.heap.size 34 (aheadOf xss k) := (HJ.out.st.below HB34.out HJ.out.st.lt).grown HG5.out (fun e => by have := HLT.out _ e.symm; omega);
                obtain ⟨a0, a1, a2, ha⟩ : ∃ a0 a1 a2 : Value, aheadOf xss k = #[a0, a1, a2] := by { unfold aheadOf; split <;> exact ⟨_, _, _, rfl⟩ };
                rw [ha] at ha5; clear ha;
                have p0 := hs5.cell 0; have p1 := hs5.cell 1; have p2 := hs5.cell 2; have q0 := ha5.cell 0; have q1 := ha5.cell 1; have q2 := ha5.cell 2; have y0 := ha5.frozen 0; have y1 := ha5.frozen 1; have y2 := ha5.frozen 2;
                simp only [List.getElem?_toArray, List.getElem?_cons_zero, List.getElem?_cons_succ] at p0 p1 p2 q0 q1 q2;
                clear hs5 ha5))
          go_roundw
          case rel => exact ⟨k + 1, by omega, by go_num, HJ.out.next (by have := HL.out; omega) HXS.out HCH.out HB34.out HO5.out HG5.out⟩
          case measure => (simp [intOf] <;> omega)
    · obtain rfl : k = n := by omega
      have hch : Chain xss := fun i hi => hj.chain i (by have := HL.out; omega)
      have hmt : meants (xss.take k) = meants xss := by rw [List.take_of_length_le (by have := HL.out; omega)]
      have ho := hj.own
      rw [hmt] at ho
      obtain ⟨A2, c2, rfl, hc1, hc2, hr2⟩ := rowG_own 0 ho
      have HR2 := Lib.hid hr2
      have HCH := Lib.hid hch
      have HBEL := Lib.hid hj.bel
      clear hch hmt ho hj hr2 hc1 hc2
      go_wp2
      go_ret2
      exact ⟨fun _ => ⟨_, _, rfl, HR2.out.more (fun b h => ⟨by omega, h.2.1⟩), HBEL.out⟩, fun h => absurd ⟨by have := HL.out; omega, HCH.out⟩ h⟩

end Go.Proofs.Ytikeiloeeklkeaa
